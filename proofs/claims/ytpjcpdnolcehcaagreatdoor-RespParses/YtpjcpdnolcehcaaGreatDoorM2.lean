/- What this text holds: the reader in memory; bytes of a kind; what a reader takes. -/
import Derived.Test.YtpjcpdnolcehcaaGreatDoorP1
import Derived.Test.YtpjcpdnolcehcaaGreatDoorShelf
import Derived.Defers
import Derived.Recover
import Derived.Laws.Rows
namespace Go.Proofs.YtpjcpdnolcehcaaGreatDoor
open Go.RowKit
set_option linter.unusedVariables false
set_option linter.unusedSimpArgs false

/-- A reader lies in a block. -/
def RAt (w : World) (b : Nat) (s : Bs) (o : Nat) : Prop := w.heap[b]? = some (.cells #[.string (str s), .int .i64 o] 73 (0, 0))
theorem RAt.c0 {w : World} {b : Nat} {s : Bs} {o : Nat} (h : RAt w b s o) : w.cell? ⟨b, 0, none⟩ = some (.string (str s)) := by simp [World.cell?, show w.heap[b]? = _ from h]
theorem RAt.c1 {w : World} {b : Nat} {s : Bs} {o : Nat} (h : RAt w b s o) : w.cell? ⟨b, 1, none⟩ = some (.int .i64 o) := by simp [World.cell?, show w.heap[b]? = _ from h]
theorem RAt.fz {w : World} {b : Nat} {s : Bs} {o : Nat} (h : RAt w b s o) (j : Nat) : w.frozen? ⟨b, j, none⟩ = false := by simp [World.frozen?, show w.heap[b]? = _ from h]
theorem RAt.lt {w : World} {b : Nat} {s : Bs} {o : Nat} (h : RAt w b s o) : b < w.heap.size := lt_of_some h
theorem RAt.later {w w' : World} {b : Nat} {s : Bs} {o : Nat} (h : RAt w b s o) (hb : Below w.heap.size w w') : RAt w' b s o := (hb.block b (lt_of_some h)).trans h
theorem RAt.set {w : World} {b : Nat} {s : Bs} {o : Nat} (h : RAt w b s o) (t : Bs) : RAt (w.setCell ⟨b, 0, none⟩ (.string (str t))) b t o := by
  unfold RAt; rw [heap_setCell_same _ _ _ _ _ _ h]; rfl
theorem RAt.set1 {w : World} {b : Nat} {s : Bs} {o : Nat} (h : RAt w b s o) (t : Nat) : RAt (w.setCell ⟨b, 1, none⟩ (.int .i64 t)) b s t := by
  unfold RAt; rw [heap_setCell_same _ _ _ _ _ _ h]; rfl
theorem Kept.trans1 {b : Nat} {u v w : World} (h : Kept [b] u v) (k : Kept [b] v w) : Kept [b] u w := h.trans k (fun _ _ h => h)
theorem Kept.set1 (w : World) (b k : Nat) (v : Value) : Kept [b] w (w.setCell ⟨b, k, none⟩ v) := Kept.setCell [b] w _ v (by simp)
/-- What a reader gives up by. -/
def faultC : List PanicEntry := [{ v := .iface 67 (.agg #[]), recovered := false }]

theorem needP_some {x s r : Bs} (h : needP x s = some r) : x.isPrefixOf s = true ∧ r = s.drop x.length ∧ r.length + x.length = s.length := by
  unfold needP at h
  split at h
  · rename_i hp
    have e : r = s.drop x.length := by simpa using h.symm
    refine ⟨hp, e, ?_⟩
    have := (List.isPrefixOf_iff_prefix.1 hp).length_le
    rw [e, List.length_drop]
    omega
  · cases h
theorem needP_none {x s : Bs} (h : needP x s = none) : x.isPrefixOf s = false := by
  unfold needP at h
  split at h
  · cases h
  · rename_i hp
    exact Bool.eq_false_iff.2 hp
theorem while_at (p : UInt8 → Bool) : ∀ (l : Bs) (k : Nat), k ≤ l.length → (∀ j c, j < k → l[j]? = some c → p c = true) → (∀ c, l[k]? = some c → p c = false) → l.takeWhile p = l.take k ∧ l.dropWhile p = l.drop k
  | [], k, hk, h1, h2 => by simp
  | a :: l, 0, hk, h1, h2 => by
    have := h2 a rfl
    simp [this]
  | a :: l, k + 1, hk, h1, h2 => by
    have h0 := h1 0 a (by omega) rfl
    have ih := while_at p l k (by simp at hk; omega) (fun j c hj hc => h1 (j + 1) c (by omega) (by simpa using hc)) (fun c hc => h2 c (by simpa using hc))
    simp [h0, ih.1, ih.2]

set_option maxRecDepth 100000 in
theorem must_yes (w : World) : Calls Tryz.prog 43 #[.bool true] w fun e w' => e = .returned (.tuple #[]) ∧ w' = w := by
  go_enter Tryz.func43, Tryz.ntmps43
  go_wp2_with fail
  go_end0
  exact ⟨rfl, rfl⟩
set_option maxRecDepth 100000 in
theorem must_no (w : World) : Calls Tryz.prog 43 #[.bool false] w fun e w' => e = .panicked faultC ∧ w' = w := by
  go_enter Tryz.func43, Tryz.ntmps43
  go_wp2_with fail
  exact ⟨rfl, rfl, rfl⟩
set_option maxRecDepth 100000 in
theorem plain_any (c : UInt8) (w : World) : Calls Tryz.prog 50 #[.int .u8 c.toNat] w fun e w' => e = .returned (.bool (plB c)) ∧ w' = w := by
  have key : ∀ b : Bool, (b = true ↔ 32 ≤ c.toNat ∧ c.toNat ≤ 126) → plB c = b := by
    intro b hb
    rw [Bool.eq_iff_iff, hb]
    simp [plB]
  go_enter Tryz.func50, Tryz.ntmps50
  go_wp2_with fail
  all_goals
    go_ret
    refine ⟨?_, rfl⟩
    refine congrArg (fun b => Ending.returned (Value.bool b)) (key _ ?_).symm
    simp
    omega
set_option maxRecDepth 100000 in
theorem digit_any (c : UInt8) (w : World) : Calls Tryz.prog 87 #[.int .u8 c.toNat] w fun e w' => e = .returned (.bool (dgB c)) ∧ w' = w := by
  have key : ∀ b : Bool, (b = true ↔ 48 ≤ c.toNat ∧ c.toNat ≤ 57) → dgB c = b := by
    intro b hb
    rw [Bool.eq_iff_iff, hb]
    simp [dgB]
  go_enter Tryz.func87, Tryz.ntmps87
  go_wp2_with fail
  all_goals
    go_ret
    refine ⟨?_, rfl⟩
    refine congrArg (fun b => Ending.returned (Value.bool b)) (key _ ?_).symm
    simp
    omega
theorem u8n (c : UInt8) (n : Nat) (hn : n < 256) : (c == UInt8.ofNat n) = decide ((c.toNat : Int) = n) := by
  rw [Bool.eq_iff_iff, beq_iff_eq, decide_eq_true_eq]
  constructor
  · rintro rfl; rw [UInt8.toNat_ofNat']; omega
  · intro h; apply UInt8.toNat_inj.1; rw [UInt8.toNat_ofNat']; omega
def escB (c : UInt8) : Bool := c == 34 || c == 92
set_option maxRecDepth 100000 in
theorem escaped_any (c : UInt8) (w : World) : Calls Tryz.prog 109 #[.int .u8 c.toNat] w fun e w' => e = .returned (.bool (escB c)) ∧ w' = w := by
  have HB : Hid (escB c = (decide ((c.toNat : Int) = 34) || decide ((c.toNat : Int) = 92))) := by
    have e1 := u8n c 34 (by omega)
    have e2 := u8n c 92 (by omega)
    simp only [escB, Hid]
    exact congr (congrArg _ e1) e2
  have e34 : ((⟨#[34]⟩ : ByteArray)[0]).toNat = 34 := rfl
  have e92 : ((⟨#[92]⟩ : ByteArray)[0]).toNat = 92 := rfl
  go_enter Tryz.func109, Tryz.ntmps109
  go_wp2_with fail
  all_goals
    go_ret
    refine ⟨congrArg (fun b => Ending.returned (Value.bool b)) ?_, rfl⟩
    rw [HB.out, Bool.eq_iff_iff]
    simp_all
set_option maxRecDepth 100000 in
set_option maxHeartbeats 1000000 in
theorem takes_yes {w : World} {b : Nat} {s r : Bs} {o : Nat} (h : RAt w b s o) (x : Bs) (hq : needP x s = some r) :
    Calls Tryz.prog 96 #[.pointer (some ⟨b, 0, none⟩), .string (str x)] w fun e w' => e = .returned (.bool true) ∧ RAt w' b r o ∧ Kept [b] w w' := by
  obtain ⟨hp, hr, _⟩ := needP_some hq
  have C := Tryz.strings_CutPrefix (str s) (str x) w
  have e1 : Go.Lib.hasPrefix (str s).data.toList (str x).data.toList = true := hp
  have e2 : (⟨(Go.Lib.trimPrefix (str s).data.toList (str x).data.toList).toArray⟩ : ByteArray) = str r := by
    unfold Go.Lib.trimPrefix
    rw [if_pos e1, hr]
    rfl
  rw [e1, e2] at C
  have c0 := h.c0
  have f0 := h.fz 0
  have H := hid h
  clear h hr e1 e2 hp hq
  go_enter Tryz.func96, Tryz.ntmps96
  go_wp2_with fail
  refine C.mono ?_
  rintro e w1 ⟨rfl, rfl⟩
  clear C
  go_wp2_with fail
  go_ret
  exact ⟨rfl, H.out.set _, Kept.set1 _ _ _ _⟩
set_option maxRecDepth 100000 in
set_option maxHeartbeats 1000000 in
theorem takes_no {w : World} {b : Nat} {s : Bs} {o : Nat} (h : RAt w b s o) (x : Bs) (hq : needP x s = none) :
    Calls Tryz.prog 96 #[.pointer (some ⟨b, 0, none⟩), .string (str x)] w fun e w' => e = .returned (.bool false) ∧ RAt w' b s o ∧ Kept [b] w w' := by
  have C := Tryz.strings_CutPrefix (str s) (str x) w
  have e1 : Go.Lib.hasPrefix (str s).data.toList (str x).data.toList = false := needP_none hq
  have e2 : (⟨(Go.Lib.trimPrefix (str s).data.toList (str x).data.toList).toArray⟩ : ByteArray) = str s := by
    unfold Go.Lib.trimPrefix
    rw [if_neg (by rw [e1]; simp)]
  rw [e1, e2] at C
  have c0 := h.c0
  have f0 := h.fz 0
  have H := hid h
  clear h e1 e2 hq
  go_enter Tryz.func96, Tryz.ntmps96
  go_wp2_with fail
  refine C.mono ?_
  rintro e w1 ⟨rfl, rfl⟩
  clear C
  go_wp2_with fail
  go_ret
  exact ⟨rfl, H.out.set _, Kept.set1 _ _ _ _⟩
set_option maxRecDepth 100000 in
set_option maxHeartbeats 1000000 in
theorem need_yes {w : World} {b : Nat} {s r : Bs} {o : Nat} (h : RAt w b s o) (x : Bs) (hq : needP x s = some r) :
    Calls Tryz.prog 79 #[.pointer (some ⟨b, 0, none⟩), .string (str x)] w fun e w' => e = .returned (.tuple #[]) ∧ RAt w' b r o ∧ Kept [b] w w' := by
  have C := takes_yes h x hq
  clear h hq
  go_enter Tryz.func79, Tryz.ntmps79
  go_wp2_with fail
  refine C.mono ?_
  rintro e w1 ⟨rfl, h1, hk⟩
  have H1 := hid h1
  have HK := hid hk
  clear h1 hk C
  go_wp2_with fail
  refine (must_yes _).mono ?_
  rintro e w2 ⟨rfl, rfl⟩
  go_wp2_with fail
  go_end0
  exact ⟨rfl, H1.out, HK.out⟩
set_option maxRecDepth 100000 in
set_option maxHeartbeats 1000000 in
theorem need_no {w : World} {b : Nat} {s : Bs} {o : Nat} (h : RAt w b s o) (x : Bs) (hq : needP x s = none) :
    Calls Tryz.prog 79 #[.pointer (some ⟨b, 0, none⟩), .string (str x)] w fun e w' => e = .panicked faultC ∧ Kept [b] w w' := by
  have C := takes_no h x hq
  clear h hq
  go_enter Tryz.func79, Tryz.ntmps79
  go_wp2_with fail
  refine C.mono ?_
  rintro e w1 ⟨rfl, h1, hk⟩
  have HK := hid hk
  clear h1 hk C
  go_wp2_with fail
  refine (must_no _).mono ?_
  rintro e w2 ⟨rfl, rfl⟩
  exact ⟨rfl, rfl, HK.out⟩
set_option maxRecDepth 100000 in
set_option maxHeartbeats 1000000 in
theorem bytes_yes {w : World} {b : Nat} {s : Bs} {o : Nat} (h : RAt w b s o) (hl : s.length ≤ 1000000000) (n : Nat) (hn : n ≤ s.length) :
    Calls Tryz.prog 95 #[.pointer (some ⟨b, 0, none⟩), .int .i64 n] w fun e w' => e = .returned (.string (str (s.take n))) ∧ RAt w' b (s.drop n) o ∧ Kept [b] w w' := by
  have hsz := str_size s
  have HD : Hid ((str s).extract n s.length = str (s.drop n)) := by rw [Hid, ← str_size]; exact drop_str s n
  have HT : Hid ((str s).extract 0 n = str (s.take n)) := take_str s n
  have c0 := h.c0
  have f0 := h.fz 0
  have H := hid h
  have hn' : (n : Int) ≤ s.length := by omega
  clear h
  go_enter Tryz.func95, Tryz.ntmps95
  go_wp2_with fail
  refine (must_yes _).mono ?_
  rintro e w2 ⟨rfl, rfl⟩
  go_wp2_with fail
  go_ret
  rw [HD.out, HT.out]
  exact ⟨rfl, H.out.set _, Kept.set1 _ _ _ _⟩
set_option maxRecDepth 100000 in
set_option maxHeartbeats 1000000 in
theorem bytes_no {w : World} {b : Nat} {s : Bs} {o : Nat} (h : RAt w b s o) (hl : s.length ≤ 1000000000) (n : Int) (hn : (s.length : Int) < n) :
    Calls Tryz.prog 95 #[.pointer (some ⟨b, 0, none⟩), .int .i64 n] w fun e w' => e = .panicked faultC ∧ Kept [b] w w' := by
  have hsz := str_size s
  have c0 := h.c0
  have hn' : ¬ n ≤ (s.length : Int) := by omega
  clear h
  go_enter Tryz.func95, Tryz.ntmps95
  go_wp2_with fail
  refine (must_no _).mono ?_
  rintro e w2 ⟨rfl, rfl⟩
  exact ⟨rfl, rfl, Kept.refl _ _⟩
end Go.Proofs.YtpjcpdnolcehcaaGreatDoor
