/- What this text holds: the program's reader in memory, and its small functions. -/
import Derived.Test.YtnjdgbbdjkhpoaaDoorC3
import Derived.Defers
import Derived.Recover
import Derived.Laws.Rows
import Derived.Lib.Strings
import Derived.Lib.AppendStr
import Derived.Deep.QuietTactic
import Derived.BigQuiet
namespace Go.Proofs.YtnjdgbbdjkhpoaaDoor
open Go.RowKit
set_option linter.unusedVariables false
set_option linter.unusedSimpArgs false

def str (l : List UInt8) : ByteArray := ⟨l.toArray⟩
theorem str_data (l : List UInt8) : (str l).data.toList = l := rfl
theorem str_size (l : List UInt8) : (str l).size = l.length := by simp [str, ByteArray.size]
theorem str_of (s : ByteArray) : str s.data.toList = s := by cases s; simp [str]
theorem drop_str (l : Bs) (n : Nat) : (str l).extract n (str l).size = str (l.drop n) := by
  rw [Go.Lib.extract_eq, Go.Lib.size_eq, List.take_of_length_le (by simp)]
  rfl
theorem take_str (l : Bs) (n : Nat) : (str l).extract 0 n = str (l.take n) := by
  rw [Go.Lib.extract_eq]
  rfl
theorem mid_str (l : Bs) (m n : Nat) : (str l).extract m n = str ((l.drop m).take (n - m)) := by
  rw [Go.Lib.extract_eq]
  rfl
theorem app_str (l m : Bs) : str l ++ str m = str (l ++ m) := by
  apply ByteArray.ext
  simp [str]
theorem str_inj {l m : Bs} (h : str l = str m) : l = m := by
  have := congrArg (fun s => s.data.toList) h
  exact this
theorem lt_of_some {w : World} {b : Nat} {o : Obj} (h : w.heap[b]? = some o) : b < w.heap.size := (Array.getElem?_eq_some_iff.1 h).1

/-- The cells of a date, of a reader. -/
def dtL (t : Dt) : List Value := [.int .i64 t.y, .int .i64 t.mo, .int .i64 t.d, .int .i64 t.h, .int .i64 t.mi, .int .i64 t.s, .int .i64 t.z]
def rdL (s : Rd) : List Value := .string (str s.l) :: dtL s.t
/-- The reader lies in a block. -/
structure RAt (w : World) (b : Nat) (s : Rd) : Prop where
  at_ : w.heap[b]? = some (.cells (rdL s).toArray 77 (0, 0))
theorem RAt.lt {w : World} {b : Nat} {s : Rd} (h : RAt w b s) : b < w.heap.size := lt_of_some h.at_
theorem RAt.c0 {w : World} {b : Nat} {s : Rd} (h : RAt w b s) : w.cell? ⟨b, 0, none⟩ = some (.string (str s.l)) := by simp [World.cell?, h.at_, rdL]
theorem RAt.cs {w : World} {b : Nat} {s : Rd} (h : RAt w b s) : w.cell? ⟨b, 1, none⟩ = some (.int .i64 s.t.y) ∧ w.cell? ⟨b, 2, none⟩ = some (.int .i64 s.t.mo) ∧ w.cell? ⟨b, 3, none⟩ = some (.int .i64 s.t.d) ∧ w.cell? ⟨b, 4, none⟩ = some (.int .i64 s.t.h) ∧ w.cell? ⟨b, 5, none⟩ = some (.int .i64 s.t.mi) ∧ w.cell? ⟨b, 6, none⟩ = some (.int .i64 s.t.s) ∧ w.cell? ⟨b, 7, none⟩ = some (.int .i64 s.t.z) := by
  simp [World.cell?, h.at_, rdL, dtL]
theorem RAt.fz {w : World} {b : Nat} {s : Rd} (h : RAt w b s) (k : Nat) : w.frozen? ⟨b, k, none⟩ = false := by simp [World.frozen?, h.at_]
theorem RAt.drew {w : World} {b : Nat} {s : Rd} (h : RAt w b s) : RAt w.drew b s := ⟨h.at_⟩
theorem RAt.drewN {w : World} {b : Nat} {s : Rd} (h : RAt w b s) (n : Nat) : RAt (w.drewN n) b s := ⟨h.at_⟩
theorem Kept.drewN (S : List Nat) (w : World) (n : Nat) : Kept S w (w.drewN n) := ⟨rfl, rfl, rfl, Nat.le_refl _, fun _ _ _ => rfl⟩
theorem RAt.set {w : World} {b : Nat} {s : Rd} (h : RAt w b s) (k : Nat) (v : Value) (s' : Rd) (hs : rdL s' = (rdL s).set k v) : RAt (w.setCell ⟨b, k, none⟩ v) b s' := by
  refine ⟨?_⟩
  rw [heap_setCell_same _ _ _ _ _ _ h.at_, hs]
  simp
theorem RAt.setL {w : World} {b : Nat} {s : Rd} (h : RAt w b s) (l : Bs) : RAt (w.setCell ⟨b, 0, none⟩ (.string (str l))) b ⟨l, s.t⟩ := h.set 0 _ _ rfl

/-- What a reader stops by. -/
def faultC : List PanicEntry := [{ v := .iface 72 (.agg #[.int .i64 11]), recovered := false }]
theorem Kept.trans1 {b : Nat} {u v w : World} (h : Kept [b] u v) (k : Kept [b] v w) : Kept [b] u w := h.trans k (fun _ _ h => h)

set_option maxRecDepth 100000 in
theorem stop_any (w : World) : Calls Tryd.prog 60 #[] w fun e w' => e = .panicked faultC ∧ w' = w := by
  go_enter Tryd.func60, Tryd.ntmps60
  go_wp2_with fail
  exact ⟨rfl, rfl, rfl⟩
theorem lowB_up {c : UInt8} (h1 : 65 ≤ c.toNat) (h2 : c.toNat ≤ 90) : ((lowB c).toNat : Int) = c.toNat - 65 + 97 := by
  have : (65 ≤ c ∧ c ≤ 90) := ⟨UInt8.le_iff_toNat_le.2 h1, UInt8.le_iff_toNat_le.2 h2⟩
  unfold lowB
  rw [if_pos this, UInt8.toNat_add]
  simp
  omega
theorem lowB_no {c : UInt8} (h : c.toNat < 65 ∨ 90 < c.toNat) : lowB c = c := by
  have : ¬ (65 ≤ c ∧ c ≤ 90) := by rw [UInt8.le_iff_toNat_le, UInt8.le_iff_toNat_le]; simp; omega
  unfold lowB
  rw [if_neg this]
set_option maxRecDepth 100000 in
theorem small_any (c : UInt8) (w : World) : Calls Tryd.prog 93 #[.int .u8 c.toNat] w fun e w' => e = .returned (.int .u8 (lowB c).toNat) ∧ w' = w := by
  by_cases h1 : 65 ≤ c.toNat
  · by_cases h2 : c.toNat ≤ 90
    · have HL := hid (lowB_up h1 h2)
      have h1' : (65 : Int) ≤ c.toNat := by omega
      have h2' : (c.toNat : Int) ≤ 90 := by omega
      go_enter Tryd.func93, Tryd.ntmps93
      go_wp2_with fail
      go_ret
      rw [HL.out]
      exact ⟨rfl, rfl⟩
    · rw [lowB_no (by omega)]
      have h1' : (65 : Int) ≤ c.toNat := by omega
      have h2' : ¬ (c.toNat : Int) ≤ 90 := by omega
      go_enter Tryd.func93, Tryd.ntmps93
      go_wp2_with fail
      go_ret
      exact ⟨rfl, rfl⟩
  · rw [lowB_no (by omega)]
    have h1' : ¬ (65 : Int) ≤ c.toNat := by omega
    go_enter Tryd.func93, Tryd.ntmps93
    go_wp2_with fail
    go_ret
    exact ⟨rfl, rfl⟩
set_option maxRecDepth 100000 in
theorem digit_any (c : UInt8) (w : World) : Calls Tryd.prog 84 #[.int .u8 c.toNat] w fun e w' => e = .returned (.bool (digB c)) ∧ w' = w := by
  have key : ∀ b : Bool, (b = true ↔ 48 ≤ c.toNat ∧ c.toNat ≤ 57) → digB c = b := by
    intro b hb
    rw [Bool.eq_iff_iff, hb]
    simp [digB, UInt8.le_iff_toNat_le]
  go_enter Tryd.func84, Tryd.ntmps84
  go_wp2_with fail
  all_goals
    go_ret
    refine ⟨?_, rfl⟩
    refine congrArg (fun b => Ending.returned (Value.bool b)) (key _ ?_).symm
    simp
    omega
theorem u8_eq (c : UInt8) (k : Nat) (hk : k < 256) : c = UInt8.ofNat k ↔ c.toNat = k := by
  rw [← UInt8.toNat_inj, UInt8.toNat_ofNat']
  omega
set_option maxRecDepth 100000 in
theorem blank_any (c : UInt8) (w : World) : Calls Tryd.prog 73 #[.int .u8 c.toNat] w fun e w' => e = .returned (.bool (blankB c)) ∧ w' = w := by
  have key : ∀ b : Bool, (b = true ↔ c.toNat = 32 ∨ c.toNat = 9 ∨ c.toNat = 13 ∨ c.toNat = 10) → blankB c = b := by
    intro b hb
    rw [Bool.eq_iff_iff, hb]
    simp [blankB, or_assoc]
    rw [← u8_eq c 32 (by omega), ← u8_eq c 9 (by omega), ← u8_eq c 13 (by omega), ← u8_eq c 10 (by omega)]
    rfl
  go_enter Tryd.func73, Tryd.ntmps73
  go_wp2_with fail
  all_goals
    go_ret
    refine ⟨?_, rfl⟩
    refine congrArg (fun b => Ending.returned (Value.bool b)) (key _ ?_).symm
    simp
    try omega
end Go.Proofs.YtnjdgbbdjkhpoaaDoor
