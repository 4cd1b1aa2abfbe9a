/- What this text holds: which values are bare; From; tags. -/
import Derived.Test.YtpjcpdnolcehcaaGreatDoorM22
namespace Go.Proofs.YtpjcpdnolcehcaaGreatDoor
open Go.RowKit
set_option linter.unusedVariables false
set_option linter.unusedSimpArgs false

def bareQ (k : Int) (x : Bs) (n : Int) (nk nf : Nat) : Bool :=
  (k == 5 || k == 2 || k == 3 || x == []) && (k == 1 || n == 0) && (k == 5 || k == 4 || (nk : Int) == 0) && (k == 5 || (nf : Int) == 0)
theorem bareB_is (v : Vl) : bareB v = bareQ v.k v.x v.n v.kids.length v.frm.length := by
  unfold bareB bareQ
  have h : ∀ {α : Type} (l : List α), l.isEmpty = (((l.length : Nat) : Int) == 0) := fun l => by
    cases l with
    | nil => rfl
    | cons a l => simp; omega
  rw [h, h]
set_option maxRecDepth 100000 in
set_option maxHeartbeats 8000000 in
theorem bare_any (k : Int) (x : Bs) (n : Int) (ra : Option Addr) (nk rc : Nat) (rd : Option Addr) (nf rf : Nat) (w : World) :
    Calls Tryz.prog 70 #[.agg #[.int .i64 k, .string (str x), .int .i64 n, .slice ra nk rc, .slice rd nf rf]] w fun e w' => e = .returned (.bool (bareQ k x n nk nf)) ∧ Below w.heap.size w w' := by
  have HA : Hid (Below w.heap.size w (w.alloc (.cells #[.int .i64 k, .string (str x), .int .i64 n, .slice ra nk rc, .slice rd nf rf] 43))) := (Below.refl _ _).alloc (Nat.le_refl _) _
  have hv5 : V5 (w.alloc (.cells #[.int .i64 k, .string (str x), .int .i64 n, .slice ra nk rc, .slice rd nf rf] 43)) w.heap.size ⟨k, x, n, (ra, nk, rc), (rd, nf, rf)⟩ := V5.new w ⟨k, x, n, (ra, nk, rc), (rd, nf, rf)⟩
  obtain ⟨x0, x1, x2, x3, x4⟩ := hv5.cs
  simp only [Sl.v] at x3 x4
  have hf0 := fun A => fld43k A 0 (by omega)
  have hf1 := fld43
  have hf2 := fun A => fld43k A 1 (by omega)
  have hf3 := fun A => fld43k A 2 (by omega)
  have hf4 := fun A => fld43k A 3 (by omega)
  have HX : Hid (((str x).toList = ([] : Bs)) ↔ x = []) := by rw [Hid, toL]
  clear hv5
  by_cases h5 : k = 5
  · subst h5
    have HQ : Hid (bareQ 5 x n nk nf = (n == 0)) := by simp [Hid, bareQ]
    generalize bareQ 5 x n nk nf = q at *
    go_enter Tryz.func70, Tryz.ntmps70
    go_wp2_with fail
    all_goals
      go_ret
      refine ⟨congrArg (fun b => Ending.returned (Value.bool b)) ?_, (Below.refl _ _).alloc (Nat.le_refl _) _⟩
      rw [HQ.out]
      have hx := HX.out
      simp_all
  by_cases h4 : k = 4
  · subst h4
    have HQ : Hid (bareQ 4 x n nk nf = ((x == []) && (n == 0) && ((nf : Int) == 0))) := by simp [Hid, bareQ]
    generalize bareQ 4 x n nk nf = q at *
    clear h5
    go_enter Tryz.func70, Tryz.ntmps70
    go_wp2_with fail
    all_goals
      go_ret
      refine ⟨congrArg (fun b => Ending.returned (Value.bool b)) ?_, (Below.refl _ _).alloc (Nat.le_refl _) _⟩
      rw [HQ.out]
      have hx := HX.out
      simp_all
  by_cases h3 : k = 3
  · subst h3
    have HQ : Hid (bareQ 3 x n nk nf = ((n == 0) && ((nk : Int) == 0) && ((nf : Int) == 0))) := by simp [Hid, bareQ]
    generalize bareQ 3 x n nk nf = q at *
    clear h5
    clear h4
    go_enter Tryz.func70, Tryz.ntmps70
    go_wp2_with fail
    all_goals
      go_ret
      refine ⟨congrArg (fun b => Ending.returned (Value.bool b)) ?_, (Below.refl _ _).alloc (Nat.le_refl _) _⟩
      rw [HQ.out]
      have hx := HX.out
      simp_all
  by_cases h2 : k = 2
  · subst h2
    have HQ : Hid (bareQ 2 x n nk nf = ((n == 0) && ((nk : Int) == 0) && ((nf : Int) == 0))) := by simp [Hid, bareQ]
    generalize bareQ 2 x n nk nf = q at *
    clear h5
    clear h4
    clear h3
    go_enter Tryz.func70, Tryz.ntmps70
    go_wp2_with fail
    all_goals
      go_ret
      refine ⟨congrArg (fun b => Ending.returned (Value.bool b)) ?_, (Below.refl _ _).alloc (Nat.le_refl _) _⟩
      rw [HQ.out]
      have hx := HX.out
      simp_all
  by_cases h1 : k = 1
  · subst h1
    have HQ : Hid (bareQ 1 x n nk nf = ((x == []) && ((nk : Int) == 0) && ((nf : Int) == 0))) := by simp [Hid, bareQ]
    generalize bareQ 1 x n nk nf = q at *
    clear h5
    clear h4
    clear h3
    clear h2
    go_enter Tryz.func70, Tryz.ntmps70
    go_wp2_with fail
    all_goals
      go_ret
      refine ⟨congrArg (fun b => Ending.returned (Value.bool b)) ?_, (Below.refl _ _).alloc (Nat.le_refl _) _⟩
      rw [HQ.out]
      have hx := HX.out
      simp_all
  · have HQ : Hid (bareQ k x n nk nf = ((x == []) && (n == 0) && ((nk : Int) == 0) && ((nf : Int) == 0))) := by
      unfold Hid bareQ
      rw [beq_eq_false_iff_ne.2 h5, beq_eq_false_iff_ne.2 h4, beq_eq_false_iff_ne.2 h3, beq_eq_false_iff_ne.2 h2, beq_eq_false_iff_ne.2 h1]
      simp
    have g5 : (k == 5) = false := beq_eq_false_iff_ne.2 h5
    have g4 : (k == 4) = false := beq_eq_false_iff_ne.2 h4
    have g3 : (k == 3) = false := beq_eq_false_iff_ne.2 h3
    have g2 : (k == 2) = false := beq_eq_false_iff_ne.2 h2
    have g1 : (k == 1) = false := beq_eq_false_iff_ne.2 h1
    generalize bareQ k x n nk nf = q at *
    clear h5 h4 h3 h2 h1
    go_enter Tryz.func70, Tryz.ntmps70
    go_wp2_with fail
    all_goals
      go_ret
      refine ⟨congrArg (fun b => Ending.returned (Value.bool b)) ?_, (Below.refl _ _).alloc (Nat.le_refl _) _⟩
      rw [HQ.out]
      have hx := HX.out
      simp_all
end Go.Proofs.YtpjcpdnolcehcaaGreatDoor
