/- What this text holds: the program's reader in memory, and its small functions. · What this text holds: the program's reader: has, takes, need, blanks, gap, end. · What this text holds: the program's reader: takes, need, blanks, gap, end. · What this text holds: the program's reader: blanks, gap, end, number, upTo. · What this text holds: the program's reader: number, upTo, minutes. -/
import Derived.Test.YtaniljfjmbifnaaGreatDoorZB
import Derived.Defers
import Derived.Recover
import Derived.Laws.Rows
import Derived.Lib.Strings
import Derived.Lib.AppendStr
import Derived.Deep.QuietTactic
import Derived.BigQuiet
namespace Go.Proofs.YtaniljfjmbifnaaGreatDoor.D
open Go.RowKit
set_option linter.unusedVariables false
set_option linter.unusedSimpArgs false

def str (l : List UInt8) : ByteArray := ⟨l.toArray⟩
theorem str_data (l : List UInt8) : (str l).data.toList = l := rfl
theorem str_size (l : List UInt8) : (str l).size = l.length := by simp [str, ByteArray.size]
theorem str_of (s : ByteArray) : str s.data.toList = s := by cases s; simp [str]
theorem drop_str (l : Bs) (n : Nat) : (str l).extract n (str l).size = str (l.drop n) := by
  rw [Go.Lib.extract_eq, Go.Lib.size_eq, List.take_of_length_le (by simp)]
  rfl
theorem take_str (l : Bs) (n : Nat) : (str l).extract 0 n = str (l.take n) := by
  rw [Go.Lib.extract_eq]
  rfl
theorem mid_str (l : Bs) (m n : Nat) : (str l).extract m n = str ((l.drop m).take (n - m)) := by
  rw [Go.Lib.extract_eq]
  rfl
theorem app_str (l m : Bs) : str l ++ str m = str (l ++ m) := by
  apply ByteArray.ext
  simp [str]
theorem str_inj {l m : Bs} (h : str l = str m) : l = m := by
  have := congrArg (fun s => s.data.toList) h
  exact this
theorem lt_of_some {w : World} {b : Nat} {o : Obj} (h : w.heap[b]? = some o) : b < w.heap.size := (Array.getElem?_eq_some_iff.1 h).1

/-- The cells of a date, of a reader. -/
def dtL (t : Dt) : List Value := [.int .i64 t.y, .int .i64 t.mo, .int .i64 t.d, .int .i64 t.h, .int .i64 t.mi, .int .i64 t.s, .int .i64 t.z]
def rdL (s : Rd) : List Value := .string (str s.l) :: dtL s.t
/-- The reader lies in a block. -/
structure RAt (w : World) (b : Nat) (s : Rd) : Prop where
  at_ : w.heap[b]? = some (.cells (rdL s).toArray 174 (0, 0))
theorem RAt.lt {w : World} {b : Nat} {s : Rd} (h : RAt w b s) : b < w.heap.size := lt_of_some h.at_
theorem RAt.c0 {w : World} {b : Nat} {s : Rd} (h : RAt w b s) : w.cell? ⟨b, 0, none⟩ = some (.string (str s.l)) := by simp [World.cell?, h.at_, rdL]
theorem RAt.cs {w : World} {b : Nat} {s : Rd} (h : RAt w b s) : w.cell? ⟨b, 1, none⟩ = some (.int .i64 s.t.y) ∧ w.cell? ⟨b, 2, none⟩ = some (.int .i64 s.t.mo) ∧ w.cell? ⟨b, 3, none⟩ = some (.int .i64 s.t.d) ∧ w.cell? ⟨b, 4, none⟩ = some (.int .i64 s.t.h) ∧ w.cell? ⟨b, 5, none⟩ = some (.int .i64 s.t.mi) ∧ w.cell? ⟨b, 6, none⟩ = some (.int .i64 s.t.s) ∧ w.cell? ⟨b, 7, none⟩ = some (.int .i64 s.t.z) := by
  simp [World.cell?, h.at_, rdL, dtL]
theorem RAt.fz {w : World} {b : Nat} {s : Rd} (h : RAt w b s) (k : Nat) : w.frozen? ⟨b, k, none⟩ = false := by simp [World.frozen?, h.at_]
theorem RAt.drew {w : World} {b : Nat} {s : Rd} (h : RAt w b s) : RAt w.drew b s := ⟨h.at_⟩
theorem RAt.drewN {w : World} {b : Nat} {s : Rd} (h : RAt w b s) (n : Nat) : RAt (w.drewN n) b s := ⟨h.at_⟩
theorem Kept.drewN (S : List Nat) (w : World) (n : Nat) : Kept S w (w.drewN n) := ⟨rfl, rfl, rfl, Nat.le_refl _, fun _ _ _ => rfl⟩
theorem RAt.set {w : World} {b : Nat} {s : Rd} (h : RAt w b s) (k : Nat) (v : Value) (s' : Rd) (hs : rdL s' = (rdL s).set k v) : RAt (w.setCell ⟨b, k, none⟩ v) b s' := by
  refine ⟨?_⟩
  rw [heap_setCell_same _ _ _ _ _ _ h.at_, hs]
  simp
theorem RAt.setL {w : World} {b : Nat} {s : Rd} (h : RAt w b s) (l : Bs) : RAt (w.setCell ⟨b, 0, none⟩ (.string (str l))) b ⟨l, s.t⟩ := h.set 0 _ _ rfl

/-- What a reader stops by. -/
def faultC : List PanicEntry := [{ v := .iface 169 (.agg #[.int .i64 11]), recovered := false }]
theorem Kept.trans1 {b : Nat} {u v w : World} (h : Kept [b] u v) (k : Kept [b] v w) : Kept [b] u w := h.trans k (fun _ _ h => h)

set_option maxRecDepth 100000 in
theorem stop_any (w : World) : Calls Tryz.prog 163 #[] w fun e w' => e = .panicked faultC ∧ w' = w := by
  go_enter Tryz.func163, Tryz.ntmps163
  go_wp2_with fail
  exact ⟨rfl, rfl, rfl⟩
theorem lowB_up {c : UInt8} (h1 : 65 ≤ c.toNat) (h2 : c.toNat ≤ 90) : ((lowB c).toNat : Int) = c.toNat - 65 + 97 := by
  have : (65 ≤ c ∧ c ≤ 90) := ⟨UInt8.le_iff_toNat_le.2 h1, UInt8.le_iff_toNat_le.2 h2⟩
  unfold lowB
  rw [if_pos this, UInt8.toNat_add]
  simp
  omega
theorem lowB_no {c : UInt8} (h : c.toNat < 65 ∨ 90 < c.toNat) : lowB c = c := by
  have : ¬ (65 ≤ c ∧ c ≤ 90) := by rw [UInt8.le_iff_toNat_le, UInt8.le_iff_toNat_le]; simp; omega
  unfold lowB
  rw [if_neg this]
set_option maxRecDepth 100000 in
theorem small_any (c : UInt8) (w : World) : Calls Tryz.prog 235 #[.int .u8 c.toNat] w fun e w' => e = .returned (.int .u8 (lowB c).toNat) ∧ w' = w := by
  by_cases h1 : 65 ≤ c.toNat
  · by_cases h2 : c.toNat ≤ 90
    · have HL := hid (lowB_up h1 h2)
      have h1' : (65 : Int) ≤ c.toNat := by omega
      have h2' : (c.toNat : Int) ≤ 90 := by omega
      go_enter Tryz.func235, Tryz.ntmps235
      go_wp2_with fail
      go_ret
      rw [HL.out]
      exact ⟨rfl, rfl⟩
    · rw [lowB_no (by omega)]
      have h1' : (65 : Int) ≤ c.toNat := by omega
      have h2' : ¬ (c.toNat : Int) ≤ 90 := by omega
      go_enter Tryz.func235, Tryz.ntmps235
      go_wp2_with fail
      go_ret
      exact ⟨rfl, rfl⟩
  · rw [lowB_no (by omega)]
    have h1' : ¬ (65 : Int) ≤ c.toNat := by omega
    go_enter Tryz.func235, Tryz.ntmps235
    go_wp2_with fail
    go_ret
    exact ⟨rfl, rfl⟩
set_option maxRecDepth 100000 in
theorem digit_any (c : UInt8) (w : World) : Calls Tryz.prog 205 #[.int .u8 c.toNat] w fun e w' => e = .returned (.bool (digB c)) ∧ w' = w := by
  have key : ∀ b : Bool, (b = true ↔ 48 ≤ c.toNat ∧ c.toNat ≤ 57) → digB c = b := by
    intro b hb
    rw [Bool.eq_iff_iff, hb]
    simp [digB, UInt8.le_iff_toNat_le]
  go_enter Tryz.func205, Tryz.ntmps205
  go_wp2_with fail
  all_goals
    go_ret
    refine ⟨?_, rfl⟩
    refine congrArg (fun b => Ending.returned (Value.bool b)) (key _ ?_).symm
    simp
    omega
theorem u8_eq (c : UInt8) (k : Nat) (hk : k < 256) : c = UInt8.ofNat k ↔ c.toNat = k := by
  rw [← UInt8.toNat_inj, UInt8.toNat_ofNat']
  omega
set_option maxRecDepth 100000 in
theorem blank_any (c : UInt8) (w : World) : Calls Tryz.prog 202 #[.int .u8 c.toNat] w fun e w' => e = .returned (.bool (blankB c)) ∧ w' = w := by
  have key : ∀ b : Bool, (b = true ↔ c.toNat = 32 ∨ c.toNat = 9 ∨ c.toNat = 13 ∨ c.toNat = 10) → blankB c = b := by
    intro b hb
    rw [Bool.eq_iff_iff, hb]
    simp [blankB, or_assoc]
    rw [← u8_eq c 32 (by omega), ← u8_eq c 9 (by omega), ← u8_eq c 13 (by omega), ← u8_eq c 10 (by omega)]
    rfl
  go_enter Tryz.func202, Tryz.ntmps202
  go_wp2_with fail
  all_goals
    go_ret
    refine ⟨?_, rfl⟩
    refine congrArg (fun b => Ending.returned (Value.bool b)) (key _ ?_).symm
    simp
    try omega
end Go.Proofs.YtaniljfjmbifnaaGreatDoor.D
namespace Go.Proofs.YtaniljfjmbifnaaGreatDoor.D
open Go.RowKit
set_option linter.unusedVariables false
set_option linter.unusedSimpArgs false

theorem has_short {l b : Bs} (h : l.length < b.length) : hasP l b = false := by
  unfold hasP low
  rw [beq_eq_false_iff_ne]
  intro e
  have := congrArg List.length e
  simp at this
  omega
theorem low_take (l : Bs) (n : Nat) : low (l.take n) = (low l).take n := by simp [low, List.map_take]
theorem has_iff {l b : Bs} (h : b.length ≤ l.length) : hasP l b = true ↔ ∀ k, (hk : k < b.length) → lowB l[k] = lowB b[k] := by
  unfold hasP
  rw [beq_iff_eq]
  constructor
  · intro e k hk
    have := congrArg (fun x => x[k]?) e
    simp [low, List.getElem?_take, hk, show k < l.length by omega] at this
    exact this
  · intro e
    apply List.ext_getElem
    · simp [low]; omega
    · intro k h1 h2
      simp [low] at h1 h2 ⊢
      exact e k h2
theorem has_no {l b : Bs} (k : Nat) (hk : k < b.length) (h : b.length ≤ l.length) (hn : lowB l[k] ≠ lowB b[k]) : hasP l b = false := by
  rw [← Bool.not_eq_true, has_iff h]
  intro e
  exact hn (e k hk)
theorem low_eq (c d : UInt8) : (((lowB c).toNat : Int) != (lowB d).toNat) = decide (lowB c ≠ lowB d) := by
  rw [Bool.eq_iff_iff]
  simp [← UInt8.toNat_inj]
  omega

theorem more_drew {w v : World} (h : ∃ n, v = w.drewN n) (m : Nat) : ∃ n, v.drewN m = w.drewN n := by obtain ⟨n, rfl⟩ := h; exact ⟨n + m, by rw [World.drewN_drewN]⟩

set_option maxRecDepth 100000 in
set_option maxHeartbeats 1000000 in
theorem has_any {w : World} {b : Nat} {s : Rd} (h : RAt w b s) (x : Bs) (h1 : s.l.length ≤ 1000000) (h2 : x.length ≤ 1000000) :
    Calls Tryz.prog 223 #[.pointer (some ⟨b, 0, none⟩), .string (str x)] w fun e w' => e = .returned (.bool (hasP s.l x)) ∧ ∃ n, w' = w.drewN n := by
  obtain ⟨l, t⟩ := s
  have hsl := str_size l
  have hsx := str_size x
  have c0 := h.c0
  have H := hid h
  simp only at h1 c0
  clear h
  by_cases hlt : l.length < x.length
  · have hlt' : (l.length : Int) < x.length := by omega
    rw [has_short hlt]
    go_enter Tryz.func223, Tryz.ntmps223
    go_wp2_with fail
    go_ret
    exact ⟨rfl, 0, rfl⟩
  · have hlt' : ¬ (l.length : Int) < x.length := by omega
    go_enter Tryz.func223, Tryz.ntmps223
    go_wp2_with fail
    go_loopw [16] (fun i wr => ∃ k : Nat, k ≤ x.length ∧ i = .int .i64 k ∧ (∃ n, wr = w.drewN n) ∧ ∀ j, (hj : j < k) → (hx : j < x.length) → (hl : j < l.length) → lowB l[j] = lowB x[j]) (fun i _ => x.length - (intOf i).toNat)
    case atStart => exact ⟨0, by omega, rfl, ⟨0, rfl⟩, fun j hj => by omega⟩
    case round =>
      obtain ⟨k, hk, rfl, hw, ha⟩ := hrel
      have HA := hid ha
      have HW := hid hw
      have c0' : wr.cell? ⟨b, 0, none⟩ = some (.string (str l)) := by obtain ⟨n, rfl⟩ := hw; exact c0
      clear ha hw
      by_cases hkx : k < x.length
      · have hkx' : (k : Int) < x.length := by omega
        have hkl' : (k : Int) < l.length := by omega
        have hks : k < (str x).size := by omega
        have hkl : k < (str l).size := by omega
        have g1 : ((str l)[k]'hkl) = l[k]'(by omega) := rfl
        have g2 : ((str x)[k]'hks) = x[k] := rfl
        have HQ := hid (low_eq (l[k]'(by omega)) (x[k]))
        by_cases he : lowB (l[k]'(by omega)) = lowB (x[k])
        · have hq : (((lowB (l[k]'(by omega))).toNat : Int) != (lowB (x[k])).toNat) = false := by rw [HQ.out]; simp [he]
          have HE := hid he
          clear he
          go_wp2_with fail
          go_quiet ((go_at_call 235; exact Calls.quiet_of_same (small_any _ _)))
          go_wp2_with fail
          go_roundw
          case rel => exact ⟨k + 1, by omega, by go_num, more_drew HW.out nq, fun j hj hx hl => by
            by_cases hjk : j < k
            · exact HA.out j hjk hx hl
            · obtain rfl : j = k := by omega
              exact HE.out⟩
          case measure => simp [intOf]; omega
        · have hq : (((lowB (l[k]'(by omega))).toNat : Int) != (lowB (x[k])).toNat) = true := by rw [HQ.out]; simp [he]
          have HE := hid (has_no (l := l) k hkx (by omega) he)
          clear he
          go_wp2_with fail
          go_quiet ((go_at_call 235; exact Calls.quiet_of_same (small_any _ _)))
          go_wp2_with fail
          go_ret
          rw [HE.out]
          exact ⟨rfl, more_drew HW.out nq⟩
      · have hkx' : ¬ (k : Int) < x.length := by omega
        obtain rfl : k = x.length := by omega
        have HY : Hid (hasP l x = true) := (has_iff (by omega)).2 (fun j hj => HA.out j hj hj (by omega))
        go_wp2_with fail
        go_ret
        rw [HY.out]
        exact ⟨rfl, HW.out⟩
end Go.Proofs.YtaniljfjmbifnaaGreatDoor.D
namespace Go.Proofs.YtaniljfjmbifnaaGreatDoor.D
open Go.RowKit
set_option linter.unusedVariables false
set_option linter.unusedSimpArgs false

theorem has_len {l b : Bs} (h : hasP l b = true) : b.length ≤ l.length := by
  rcases Nat.lt_or_ge l.length b.length with h' | h'
  · rw [has_short h'] at h; cases h
  · exact h'
theorem RAt.more {w v : World} {b : Nat} {s : Rd} (h : RAt w b s) (hv : ∃ n, v = w.drewN n) : RAt v b s := by obtain ⟨n, rfl⟩ := hv; exact h.drewN n
theorem Kept.more {w v : World} {S : List Nat} (hv : ∃ n, v = w.drewN n) : Kept S w v := by obtain ⟨n, rfl⟩ := hv; exact Kept.drewN S w n

set_option maxRecDepth 100000 in
set_option maxHeartbeats 1000000 in
theorem takes_yes {w : World} {b : Nat} {l : Bs} {t : Dt} (h : RAt w b ⟨l, t⟩) (x : Bs) (h1 : l.length ≤ 1000000) (hq : hasP l x = true) :
    Calls Tryz.prog 206 #[.pointer (some ⟨b, 0, none⟩), .string (str x)] w fun e w' => e = .returned (.bool true) ∧ RAt w' b ⟨l.drop x.length, t⟩ ∧ Kept [b] w w' := by
  have hsl := str_size l
  have hsx := str_size x
  have hle := has_len hq
  have hle' : (x.length : Int) ≤ l.length := by omega
  have HD : Hid (∀ m, (str l).extract m l.length = str (l.drop m)) := fun m => by rw [← str_size]; exact drop_str l m
  have H := hid h
  go_enter Tryz.func206, Tryz.ntmps206
  go_wp2_with fail
  refine (has_any H.out x h1 (by simp at *; omega)).mono ?_
  simp only [hq]
  rintro e w1 ⟨rfl, hw⟩
  have H1 := hid (H.out.more hw)
  have HK := hid (Kept.more (S := [b]) hw)
  have c0 := H1.out.c0
  have f0 := H1.out.fz 0
  clear hw h
  go_wp2_with fail
  go_ret
  rw [HD.out]
  exact ⟨rfl, H1.out.setL _, HK.out.trans1 (Kept.setCell _ _ _ _ (by simp))⟩

set_option maxRecDepth 100000 in
set_option maxHeartbeats 1000000 in
theorem takes_no {w : World} {b : Nat} {l : Bs} {t : Dt} (h : RAt w b ⟨l, t⟩) (x : Bs) (h1 : l.length ≤ 1000000) (h2 : x.length ≤ 1000000) (hq : hasP l x = false) :
    Calls Tryz.prog 206 #[.pointer (some ⟨b, 0, none⟩), .string (str x)] w fun e w' => e = .returned (.bool false) ∧ RAt w' b ⟨l, t⟩ ∧ Kept [b] w w' := by
  have H := hid h
  go_enter Tryz.func206, Tryz.ntmps206
  go_wp2_with fail
  refine (has_any H.out x h1 h2).mono ?_
  simp only [hq]
  rintro e w1 ⟨rfl, hw⟩
  have H1 := hid (H.out.more hw)
  have HK := hid (Kept.more (S := [b]) hw)
  clear hw h
  go_wp2_with fail
  go_ret
  exact ⟨rfl, H1.out, HK.out⟩

set_option maxRecDepth 100000 in
set_option maxHeartbeats 1000000 in
theorem need_yes {w : World} {b : Nat} {l : Bs} {t : Dt} (h : RAt w b ⟨l, t⟩) (x : Bs) (h1 : l.length ≤ 1000000) (hq : hasP l x = true) :
    Calls Tryz.prog 204 #[.pointer (some ⟨b, 0, none⟩), .string (str x)] w fun e w' => e = .returned (.tuple #[]) ∧ RAt w' b ⟨l.drop x.length, t⟩ ∧ Kept [b] w w' := by
  have H := hid h
  clear h
  go_enter Tryz.func204, Tryz.ntmps204
  go_wp2_with fail
  refine (takes_yes H.out x h1 hq).mono ?_
  rintro e w1 ⟨rfl, h1, hk⟩
  have H1 := hid h1
  have HK := hid hk
  clear h1 hk
  go_wp2_with fail
  go_end0
  exact ⟨rfl, H1.out, HK.out⟩

set_option maxRecDepth 100000 in
set_option maxHeartbeats 1000000 in
theorem need_no {w : World} {b : Nat} {l : Bs} {t : Dt} (h : RAt w b ⟨l, t⟩) (x : Bs) (h1 : l.length ≤ 1000000) (h2 : x.length ≤ 1000000) (hq : hasP l x = false) :
    Calls Tryz.prog 204 #[.pointer (some ⟨b, 0, none⟩), .string (str x)] w fun e w' => e = .panicked faultC ∧ Kept [b] w w' := by
  have H := hid h
  clear h
  go_enter Tryz.func204, Tryz.ntmps204
  go_wp2_with fail
  refine (takes_no H.out x h1 h2 hq).mono ?_
  rintro e w1 ⟨rfl, h1, hk⟩
  have HK := hid hk
  clear h1 hk
  go_wp2_with fail
  refine (stop_any _).mono ?_
  rintro e w2 ⟨rfl, rfl⟩
  exact ⟨rfl, rfl, HK.out⟩
end Go.Proofs.YtaniljfjmbifnaaGreatDoor.D
namespace Go.Proofs.YtaniljfjmbifnaaGreatDoor.D
open Go.RowKit
set_option linter.unusedVariables false
set_option linter.unusedSimpArgs false

theorem dw_drop (l : Bs) (k : Nat) (hk : k ≤ l.length) (ha : ∀ j, j < k → (h : j < l.length) → blankB l[j] = true) (hn : ∀ h : k < l.length, blankB l[k] = false) : l.dropWhile blankB = l.drop k := by
  induction k generalizing l with
  | zero =>
    cases l with
    | nil => rfl
    | cons c r => simp [List.dropWhile, show blankB c = false from hn (by simp)]
  | succ k ih =>
    cases l with
    | nil => simp at hk
    | cons c r =>
      have h0 : blankB c = true := ha 0 (by omega) (by simp)
      simp only [List.dropWhile, h0, List.drop_succ_cons]
      exact ih r (by simpa using hk) (fun j hj h => ha (j + 1) (by omega) (by simpa using h)) (fun h => hn (by simpa using h))
def headB (l : Bs) : Bool := match l with
  | c :: _ => blankB c
  | [] => false
theorem gap_head (l : Bs) : gapP l = if headB l then some (l.dropWhile blankB) else none := by
  cases l with
  | nil => rfl
  | cons c r =>
    unfold gapP headB
    simp only
    split <;> rename_i h <;> simp [List.dropWhile, h]

set_option maxRecDepth 100000 in
set_option maxHeartbeats 1000000 in
theorem blanks_any {w : World} {b : Nat} {l : Bs} {t : Dt} (h : RAt w b ⟨l, t⟩) (h1 : l.length ≤ 1000000) :
    Calls Tryz.prog 164 #[.pointer (some ⟨b, 0, none⟩)] w fun e w' => e = .returned (.bool (headB l)) ∧ RAt w' b ⟨l.dropWhile blankB, t⟩ ∧ Kept [b] w w' := by
  have hsl := str_size l
  have HD : Hid (∀ m, (str l).extract m l.length = str (l.drop m)) := fun m => by rw [← str_size]; exact drop_str l m
  have H := hid h
  have c0 := h.c0
  have f0 := h.fz 0
  simp only at c0
  clear h
  go_enter Tryz.func164, Tryz.ntmps164
  go_wp2_with fail
  go_loop [3] (fun i => ∃ k : Nat, k ≤ l.length ∧ i = .int .i64 k ∧ ∀ j, j < k → (h : j < l.length) → blankB l[j] = true) (fun i => l.length - (intOf i).toNat)
  case atStart => exact ⟨0, by omega, rfl, fun j hj => by omega⟩
  case round =>
    obtain ⟨k, hk, rfl, ha⟩ := hrel
    have HA := hid ha
    clear ha
    by_cases hkl : k < l.length
    · have hkl' : (k : Int) < l.length := by omega
      have hks : k < (str l).size := by omega
      have g1 : ((str l)[k]'hks) = l[k] := rfl
      rcases Bool.eq_false_or_eq_true (blankB l[k]) with hb | hb
      · have HB := hid hb
        go_wp2_with (go_at_call 202; refine (blank_any _ _).mono ?_; rintro e w' ⟨rfl, rfl⟩)
        go_round
        case rel => exact ⟨k + 1, by omega, by go_num, fun j hj h => by
          by_cases hjk : j < k
          · exact HA.out j hjk h
          · obtain rfl : j = k := by omega
            exact HB.out⟩
        case measure => simp [intOf]; omega
      · have HB := hid hb
        have hle' : (k : Int) ≤ l.length := by omega
        have HP : Hid (headB l = decide (0 < k)) := by
          unfold Hid
          cases l with
          | nil => simp at hkl
          | cons c r =>
            by_cases h0 : k = 0
            · subst h0; exact hb
            · have := HA.out 0 (by omega) (by simp)
              simp at this
              simp [headB, this]
              omega
        go_wp2_with (go_at_call 202; refine (blank_any _ _).mono ?_; rintro e w' ⟨rfl, rfl⟩)
        go_ret
        rw [HD.out, HP.out, dw_drop l k hk HA.out (fun _ => HB.out)]
        exact ⟨rfl, H.out.setL _, Kept.setCell _ _ _ _ (by simp)⟩
    · obtain rfl : k = l.length := by omega
      have HP : Hid (headB l = decide (0 < l.length)) := by
        unfold Hid
        cases l with
        | nil => rfl
        | cons c r =>
          have := HA.out 0 (by simp) (by simp)
          simp at this
          simp [headB, this]
      go_wp2_with fail
      go_ret
      rw [HP.out, dw_drop l _ hk HA.out (fun h => by omega), List.drop_length]
      exact ⟨rfl, H.out.setL [], Kept.setCell _ _ _ _ (by simp)⟩

set_option maxRecDepth 100000 in
set_option maxHeartbeats 1000000 in
theorem gap_yes {w : World} {b : Nat} {l l' : Bs} {t : Dt} (h : RAt w b ⟨l, t⟩) (h1 : l.length ≤ 1000000) (hq : gapP l = some l') :
    Calls Tryz.prog 167 #[.pointer (some ⟨b, 0, none⟩)] w fun e w' => e = .returned (.tuple #[]) ∧ RAt w' b ⟨l', t⟩ ∧ Kept [b] w w' := by
  have H := hid h
  rw [gap_head] at hq
  rcases Bool.eq_false_or_eq_true (headB l) with hb | hb
  · rw [hb, if_pos rfl] at hq
    cases hq
    clear h
    go_enter Tryz.func167, Tryz.ntmps167
    go_wp2_with fail
    refine (blanks_any H.out h1).mono ?_
    rintro e w1 ⟨rfl, h1, hk⟩
    have H1 := hid h1
    have HK := hid hk
    clear h1 hk
    go_wp2_with fail
    go_end0
    exact ⟨rfl, H1.out, HK.out⟩
  · rw [hb] at hq; simp at hq
set_option maxRecDepth 100000 in
set_option maxHeartbeats 1000000 in
theorem gap_no {w : World} {b : Nat} {l : Bs} {t : Dt} (h : RAt w b ⟨l, t⟩) (h1 : l.length ≤ 1000000) (hq : gapP l = none) :
    Calls Tryz.prog 167 #[.pointer (some ⟨b, 0, none⟩)] w fun e w' => e = .panicked faultC ∧ Kept [b] w w' := by
  have H := hid h
  rw [gap_head] at hq
  rcases Bool.eq_false_or_eq_true (headB l) with hb | hb
  · rw [hb, if_pos rfl] at hq
    cases hq
  · clear h
    go_enter Tryz.func167, Tryz.ntmps167
    go_wp2_with fail
    refine (blanks_any H.out h1).mono ?_
    rintro e w1 ⟨rfl, h1, hk⟩
    have HK := hid hk
    clear h1 hk
    go_wp2_with fail
    refine (stop_any _).mono ?_
    rintro e w2 ⟨rfl, rfl⟩
    exact ⟨rfl, rfl, HK.out⟩

theorem toList_str (l : Bs) : (str l).toList = l := by rw [Go.Lib.toList_data, str_data]
set_option maxRecDepth 100000 in
set_option maxHeartbeats 1000000 in
theorem end_yes {w : World} {b : Nat} {t : Dt} (h : RAt w b ⟨[], t⟩) : Calls Tryz.prog 161 #[.pointer (some ⟨b, 0, none⟩)] w fun e w' => e = .returned (.tuple #[]) ∧ w' = w := by
  have c0 := h.c0
  have hq : ((str []).toList == []) = true := by rw [toList_str]; rfl
  simp only at c0
  clear h
  go_enter Tryz.func161, Tryz.ntmps161
  go_wp2_with fail
  go_end0
  exact ⟨rfl, rfl⟩
set_option maxRecDepth 100000 in
set_option maxHeartbeats 1000000 in
theorem end_no {w : World} {b : Nat} {l : Bs} {t : Dt} (h : RAt w b ⟨l, t⟩) (hl : l ≠ []) : Calls Tryz.prog 161 #[.pointer (some ⟨b, 0, none⟩)] w fun e w' => e = .panicked faultC ∧ w' = w := by
  have c0 := h.c0
  have hq : ((str l).toList == []) = false := by rw [toList_str]; simpa using hl
  simp only at c0
  clear h
  go_enter Tryz.func161, Tryz.ntmps161
  go_wp2_with fail
  refine (stop_any _).mono ?_
  rintro e w2 ⟨rfl, rfl⟩
  exact ⟨rfl, rfl, rfl⟩
end Go.Proofs.YtaniljfjmbifnaaGreatDoor.D
namespace Go.Proofs.YtaniljfjmbifnaaGreatDoor.D
open Go.RowKit
set_option linter.unusedVariables false
set_option linter.unusedSimpArgs false

theorem tw_take (l : Bs) (k : Nat) (hk : k ≤ l.length) (ha : ∀ j, j < k → (h : j < l.length) → digB l[j] = true) (hn : ∀ h : k < l.length, digB l[k] = false) : l.takeWhile digB = l.take k := by
  induction k generalizing l with
  | zero =>
    cases l with
    | nil => rfl
    | cons c r => simp [List.takeWhile, show digB c = false from hn (by simp)]
  | succ k ih =>
    cases l with
    | nil => simp at hk
    | cons c r =>
      have h0 : digB c = true := ha 0 (by omega) (by simp)
      simp only [List.takeWhile, h0, List.take_succ_cons]
      rw [ih r (by simpa using hk) (fun j hj h => ha (j + 1) (by omega) (by simpa using h)) (fun h => hn (by simpa using h))]
theorem num_stop (l : Bs) (most k : Nat) (hm : k ≤ most) (hk : k ≤ l.length) (ha : ∀ j, j < k → (h : j < l.length) → digB l[j] = true) (hn : k = most ∨ ∀ h : k < l.length, digB l[k] = false) : numL most l = l.take k := by
  unfold numL
  rw [tw_take (l.take most) k (by simp; omega) (fun j hj h => by simp at h ⊢; exact ha j hj (by omega)) (fun h => by
    simp at h
    rcases hn with rfl | hn
    · omega
    · simp; exact hn (by omega))]
  rw [List.take_take, Nat.min_eq_left hm]
theorem val_step (l : Bs) (k : Nat) (hk : k < l.length) : val (l.take (k + 1)) = 10 * val (l.take k) + ((l[k].toNat : Int) - 48) := by
  unfold val
  rw [List.take_succ_eq_append_getElem hk, List.foldl_append]
  rfl
theorem dig_range {c : UInt8} (h : digB c = true) : 48 ≤ c.toNat ∧ c.toNat ≤ 57 := by
  simp [digB, UInt8.le_iff_toNat_le] at h
  exact h
theorem val_small (l : Bs) (k : Nat) (hk : k ≤ l.length) (ha : ∀ j, j < k → (h : j < l.length) → digB l[j] = true) : 0 ≤ val (l.take k) ∧ val (l.take k) < 10 ^ k := by
  induction k with
  | zero => simp [val]
  | succ k ih =>
    have h1 := ih (by omega) (fun j hj h => ha j (by omega) h)
    have h2 := dig_range (ha k (by omega) (by omega))
    rw [val_step l k (by omega), Int.pow_succ]
    omega

/-- A number and what is left behind it, or a stop. -/
def NumOut (o : Option (Int × Bs)) (b : Nat) (t : Dt) (w : World) (e : Ending) (w' : World) : Prop :=
  match o with
  | some (n, l') => e = .returned (.int .i64 n) ∧ RAt w' b ⟨l', t⟩ ∧ Kept [b] w w'
  | none => e = .panicked faultC ∧ Kept [b] w w'

set_option maxRecDepth 100000 in
set_option maxHeartbeats 2000000 in
/-- number, as far as its loop goes. -/
theorem number_any {w : World} {b : Nat} {l : Bs} {t : Dt} (h : RAt w b ⟨l, t⟩) (h1 : l.length ≤ 1000000) (least most : Nat) (hm : most ≤ 4) (hle : least ≤ 4) :
    Calls Tryz.prog 166 #[.pointer (some ⟨b, 0, none⟩), .int .i64 least, .int .i64 most] w fun e w' => NumOut (numP least most l) b t w e w' := by
  have hsl := str_size l
  have HD : Hid (∀ m, (str l).extract m l.length = str (l.drop m)) := fun m => by rw [← str_size]; exact drop_str l m
  have H := hid h
  have c0 := h.c0
  have f0 := h.fz 0
  simp only at c0
  clear h
  have fin : ∀ k : Nat, k ≤ l.length → numL most l = l.take k → numP least most l = if k < least then none else some (val (l.take k), l.drop k) := by
    intro k hk e
    have : (l.take k).length = k := by simp; omega
    unfold numP
    rw [e, this]
  have FIN := hid fin
  clear fin
  go_enter Tryz.func166, Tryz.ntmps166
  go_wp2_with fail
  go_loop [7, 8] (fun v i => ∃ k : Nat, k ≤ most ∧ k ≤ l.length ∧ i = .int .i64 k ∧ v = .int .i64 (val (l.take k)) ∧ ∀ j, j < k → (h : j < l.length) → digB l[j] = true) (fun _ i => most - (intOf i).toNat)
  case atStart => exact ⟨0, by omega, by omega, rfl, rfl, fun j hj => by omega⟩
  case round =>
    obtain ⟨k, hkm, hkl, rfl, rfl, ha⟩ := hrel
    have HA := hid ha
    have hv := val_small l k hkl ha
    have hv2 : val (l.take k) < 10000 := by
      have : (10 : Int) ^ k ≤ 10 ^ 4 := by exact_mod_cast Nat.pow_le_pow_right (n := 10) (by omega) (show k ≤ 4 by omega)
      have e : (10 : Int) ^ 4 = 10000 := by decide
      omega
    have hv1 := hv.1
    clear ha hv
    have hkl' : (k : Int) ≤ l.length := by omega
    have finish : ∀ (W : World), True → True := fun _ h => h
    by_cases hgo : k < most ∧ k < l.length
    · obtain ⟨g1, g2⟩ := hgo
      have g1' : (k : Int) < most := by omega
      have g2' : (k : Int) < l.length := by omega
      have hks : k < (str l).size := by omega
      have gg : ((str l)[k]'hks) = l[k] := rfl
      rcases Bool.eq_false_or_eq_true (digB l[k]) with hb | hb
      · have hr := dig_range hb
        have HB := hid hb
        have HV := hid (val_step l k g2)
        have r1 : (48 : Int) ≤ l[k].toNat := by omega
        have r2 : (l[k].toNat : Int) ≤ 57 := by omega
        go_wp2_with (go_at_call 205; refine (digit_any _ _).mono ?_; rintro e w' ⟨rfl, rfl⟩)
        go_round
        case rel => exact ⟨k + 1, by omega, by omega, by go_num, by rw [HV.out]; congr 1, fun j hj h => by
          by_cases hjk : j < k
          · exact HA.out j hjk h
          · obtain rfl : j = k := by omega
            exact HB.out⟩
        case measure => simp [intOf]; omega
      · have HF := hid (FIN.out k hkl (num_stop l most k hkm hkl HA.out (.inr (fun _ => hb))))
        by_cases hc : k < least
        · have hc' : (k : Int) < least := by omega
          go_wp2_with (first | (go_at_call 205; refine (digit_any _ _).mono ?_; rintro e w' ⟨rfl, rfl⟩))
          refine (stop_any _).mono ?_
          rintro e w2 ⟨rfl, rfl⟩
          refine ⟨rfl, ?_⟩
          change NumOut _ _ _ _ _ _
          rw [HF.out, if_pos hc]
          exact ⟨rfl, Kept.refl _ _⟩
        · have hc' : ¬ (k : Int) < least := by omega
          go_wp2_with (first | (go_at_call 205; refine (digit_any _ _).mono ?_; rintro e w' ⟨rfl, rfl⟩))
          go_ret
          rw [HD.out, HF.out, if_neg hc]
          exact ⟨rfl, H.out.setL _, Kept.setCell _ _ _ _ (by simp)⟩
    · have HF := hid (FIN.out k hkl (num_stop l most k hkm hkl HA.out (by
        by_cases hm : k < most
        · exact .inr (fun h => by omega)
        · exact .inl (by omega))))
      have HX : Hid (∀ m, m = l.length → (str l).extract m l.length = str (l.drop m)) := fun m _ => HD.out m
      by_cases hm : k < most
      · obtain rfl : k = l.length := by omega
        have g1' : ((l.length : Nat) : Int) < most := by omega
        have HE : Hid (ByteArray.empty = str (l.drop l.length)) := by unfold Hid; rw [List.drop_length]; rfl
        by_cases hc : l.length < least
        · have hc' : (l.length : Int) < least := by omega
          go_wp2_with fail
          refine (stop_any _).mono ?_
          rintro e w2 ⟨rfl, rfl⟩
          refine ⟨rfl, ?_⟩
          change NumOut _ _ _ _ _ _
          rw [HF.out, if_pos hc]
          exact ⟨rfl, Kept.refl _ _⟩
        · have hc' : ¬ (l.length : Int) < least := by omega
          go_wp2_with fail
          go_ret
          rw [HE.out, HF.out, if_neg hc, List.take_length]
          exact ⟨rfl, H.out.setL _, Kept.setCell _ _ _ _ (by simp)⟩
      · have g1' : ¬ (k : Int) < most := by omega
        by_cases hc : k < least
        · have hc' : (k : Int) < least := by omega
          go_wp2_with fail
          refine (stop_any _).mono ?_
          rintro e w2 ⟨rfl, rfl⟩
          refine ⟨rfl, ?_⟩
          change NumOut _ _ _ _ _ _
          rw [HF.out, if_pos hc]
          exact ⟨rfl, Kept.refl _ _⟩
        · have hc' : ¬ (k : Int) < least := by omega
          go_wp2_with fail
          go_ret
          rw [HD.out, HF.out, if_neg hc]
          exact ⟨rfl, H.out.setL _, Kept.setCell _ _ _ _ (by simp)⟩
end Go.Proofs.YtaniljfjmbifnaaGreatDoor.D
