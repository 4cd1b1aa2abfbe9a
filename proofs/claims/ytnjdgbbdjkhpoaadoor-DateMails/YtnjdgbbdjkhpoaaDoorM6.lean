/- What this text holds: the document's Mail. -/
import Derived.Test.YtnjdgbbdjkhpoaaDoorM5
namespace Go.Proofs.YtnjdgbbdjkhpoaaDoor
open Go.RowKit
set_option linter.unusedVariables false
set_option linter.unusedSimpArgs false

def zokR (k : Bs) : Bool := (zoneT k).isSome || low k == [103, 109, 116] || low k == [117, 116]
def mailD (k0 k1 k2 k3 k4 : Bs) : Dt := ⟨numR k2, monthR k1, numR k0, (clkR k3).1, (clkR k3).2.1, (clkR k3).2.2, (zoneT k4).getD 0⟩
/-- What the document reads of five pieces. -/
def mailT (K : List Bs) : Option Dt := match K with
  | [k0, k1, k2, k3, k4] => if k0.length ≤ 2 ∧ k2.length = 4 ∧ zokR k4 = true ∧ RightP (mailD k0 k1 k2 k3 k4) then some (mailD k0 k1 k2 k3 k4) else none
  | _ => none
def kOf (L : List Bs) : List Bs := match L with
  | [] => []
  | x :: xs => if wdR x then xs else x :: xs
theorem mailT_no {K : List Bs} (h : K.length ≠ 5) : mailT K = none := by
  unfold mailT
  split
  · simp at h
  · rfl
theorem five {K : List Bs} (h : K.length = 5) : ∃ k0 k1 k2 k3 k4, K = [k0, k1, k2, k3, k4] := by
  match K, h with
  | [a, b, c, d, e], _ => exact ⟨a, b, c, d, e, rfl⟩
set_option maxRecDepth 100000 in
theorem results27_run {w : World} {A : Nat} {t : Dt} {v : Value} (tmps : Array Value) (h2 : tmps[2]? = some (.pointer (some ⟨A, 0, none⟩))) (h3 : tmps[3]? = some v)
    (hA : w.heap[A]? = some (.cells (dtL t).toArray 29 (0, 0))) : (results Tryd.f27 tmps).run Tryd.prog w = .ok (.tuple #[dtV t, v]) w := by
  obtain ⟨a0, a1, a2, a3, a4, a5, a6⟩ := cA_load hA
  simp [results, Tryd.results27, go_sem, h2, h3, a0, a1, a2, a3, a4, a5, a6, dtV, dtL]

set_option maxRecDepth 100000 in
set_option maxHeartbeats 4000000 in
theorem rmail_none (s : Bs) (hs : s.length ≤ 100000) (hn5 : (kOf (spl s).1).length ≠ 5) (w : World) : Calls Tryd.prog 27 #[.string (str s)] w fun e w' => e = .returned (readV (mailT (kOf (spl s).1))) ∧ Below w.heap.size w w' := by
  have HV := hid (mailT_no hn5)
  have HA := hid (boxed0 Dt.zero w)
  have HB : Hid (Below w.heap.size w (w.alloc (.cells (dtL Dt.zero).toArray 29))) := (Below.refl _ _).alloc (Nat.le_refl _) _
  obtain ⟨f1, f2, f3⟩ := spl_facts s
  have C := hid (rsplit_any s (w.alloc (.cells (dtL Dt.zero).toArray 29)) hs)
  generalize (spl s).1 = L at *
  go_enter Tryd.func27, Tryd.ntmps27
  go_wp2_with fail
  refine C.out.mono ?_
  rintro e w1 ⟨⟨v, rfl, ho⟩, hb⟩
  have hA1 := (hb.block w.heap.size (by simp)).trans HA.out
  have HA1 := hid hA1
  have HB1 := hid (HB.out.trans (hb.mono HB.out.size))
  have HO := hid ho
  have hsl := ho.sl
  cases L with
  | nil =>
    obtain ⟨sa, sc', rfl⟩ := ho.slice
    obtain ⟨a0, a1, a2, a3, a4, a5, a6⟩ := cA_load hA1
    have fA : ∀ k, w1.frozen? ⟨w.heap.size, k, none⟩ = false := fun k => by simp [World.frozen?, hA1]
    clear hb ho hsl hn5 f1 f2 f3 C hA1
    go_wp2_with fail
    obtain ⟨x1, x2, x3⟩ := putD_is w1 w.heap.size Dt.zero Dt.zero HA1.out
    refine bodyPost_ret (w := putD w1 w.heap.size Dt.zero) (results27_run (t := Dt.zero) _ rfl rfl x1) rfl ?_
    rw [HV.out]
    exact ⟨rfl, below_kept HB1.out x3 (by simp) HB1.out.size⟩
  | cons x xs =>
    obtain ⟨g, n, c, rfl, hn⟩ := ho.some (by simp)
    obtain ⟨_, c', hv, hcap, hsl⟩ := hsl
    cases hv
    have q0 : w1.cell? ⟨g, 0, none⟩ = some (.string (str x)) := by
      rcases hsl with h | ⟨g', o', h, hs'⟩
      · cases h
      · cases h; exact hs' 0 x rfl
    have hglt : g < w1.heap.size := World.block_lt_of_cell? w1 ⟨g, 0, none⟩ q0
    have hxl := f3 x (by simp)
    have hnn : (x :: xs).length = xs.length + 1 := rfl
    rw [hnn] at hcap f2 HO ⊢
    clear hb ho hsl f1 f3 C hA1 hnn
    by_cases hw : wdR x = true
    · have h5 : xs.length ≠ 5 := by intro e; exact hn5 (by simp [kOf, hw, e])
      have CW := hid (rweek_any x (by omega) w1)
      rw [hw] at CW
      have e0 : (0 : Int) < ((xs.length + 1 : Nat) : Int) := by omega
      have e1 : (1 : Int) ≤ ((xs.length + 1 : Nat) : Int) := by omega
      have e2 : ((xs.length + 1 : Nat) : Int) ≤ c := by omega
      have e5 : ((xs.length : Int) == 5) = false := by rw [beq_eq_false_iff_ne]; omega
      have f5 : ((xs.length : Int) != 5) = true := by simp [bne, e5]
      clear h5 hn5 hw
      go_wp2_with fail
      refine CW.out.mono ?_
      rintro e w2 ⟨rfl, hb⟩
      have hA2 := (hb.block w.heap.size (lt_of_some HA1.out)).trans HA1.out
      have HA2 := hid hA2
      have HB2 := hid (HB1.out.trans (hb.mono HB1.out.size))
      obtain ⟨a0, a1, a2, a3, a4, a5, a6⟩ := cA_load hA2
      have fA : ∀ k, w2.frozen? ⟨w.heap.size, k, none⟩ = false := fun k => by simp [World.frozen?, hA2]
      clear hb hA2 CW q0
      go_wp2_with fail
      all_goals
        obtain ⟨x1, x2, x3⟩ := putD_is w2 w.heap.size Dt.zero Dt.zero HA2.out
        refine bodyPost_ret (w := putD w2 w.heap.size Dt.zero) (results27_run (t := Dt.zero) _ rfl rfl x1) rfl ?_
        rw [HV.out]
        exact ⟨rfl, below_kept HB2.out x3 (by simp) HB2.out.size⟩
    · have h5 : xs.length + 1 ≠ 5 := by intro e; exact hn5 (by simp [kOf, hw, e])
      have CW := hid (rweek_any x (by omega) w1)
      rw [Bool.not_eq_true] at hw
      rw [hw] at CW
      have e0 : (0 : Int) < ((xs.length + 1 : Nat) : Int) := by omega
      have e5 : (((xs.length + 1 : Nat) : Int) == 5) = false := by rw [beq_eq_false_iff_ne]; omega
      have f5 : (((xs.length + 1 : Nat) : Int) != 5) = true := by simp only [bne, e5]; rfl
      generalize xs.length + 1 = n at *
      clear h5 hn5 hw
      go_wp2_with fail
      refine CW.out.mono ?_
      rintro e w2 ⟨rfl, hb⟩
      have hA2 := (hb.block w.heap.size (lt_of_some HA1.out)).trans HA1.out
      have HA2 := hid hA2
      have HB2 := hid (HB1.out.trans (hb.mono HB1.out.size))
      obtain ⟨a0, a1, a2, a3, a4, a5, a6⟩ := cA_load hA2
      have fA : ∀ k, w2.frozen? ⟨w.heap.size, k, none⟩ = false := fun k => by simp [World.frozen?, hA2]
      clear hb hA2 CW q0
      go_wp2_with fail
      obtain ⟨x1, x2, x3⟩ := putD_is w2 w.heap.size Dt.zero Dt.zero HA2.out
      refine bodyPost_ret (w := putD w2 w.heap.size Dt.zero) (results27_run (t := Dt.zero) _ rfl rfl x1) rfl ?_
      rw [HV.out]
      exact ⟨rfl, below_kept HB2.out x3 (by simp) HB2.out.size⟩
end Go.Proofs.YtnjdgbbdjkhpoaaDoor
