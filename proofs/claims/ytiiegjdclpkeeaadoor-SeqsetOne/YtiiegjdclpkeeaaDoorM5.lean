/- What this text holds: a number is looked for in rising spans. -/
import Derived.Test.YtiiegjdclpkeeaaDoorM1
import Derived.Test.YtiiegjdclpkeeaaDoorP1
import Derived.Shelf.Abstract
namespace Go.Proofs.YtiiegjdclpkeeaaDoor
open Go.RowKit Go.Shelf
set_option linter.unusedVariables false
set_option linter.unusedSimpArgs false

def cmpI (x y : Int) : Int := if x < y then -1 else if y < x then 1 else 0
theorem nan_any (x : Int) (w : World) : Calls Tryd.prog 36 #[.int .i64 x] w fun e w' => e = .returned (.bool false) ∧ w' = w := by
  have hb : (x != x) = false := by simp
  go_enter Tryd.func36, Tryd.ntmps36
  go_wp2_with fail
  go_ret
  exact ⟨rfl, rfl⟩
theorem cmp_any (x y : Int) (w : World) : Calls Tryd.prog 23 #[.int .i64 x, .int .i64 y] w fun e w' => e = .returned (.int .i64 (cmpI x y)) ∧ w' = w := by
  rcases Int.lt_trichotomy x y with h | h | h
  · have HC : Hid (cmpI x y = -1) := by unfold cmpI; rw [Hid, if_pos h]
    go_enter Tryd.func23, Tryd.ntmps23
    go_wp2_with (go_at_call 36; refine (nan_any _ _).mono ?_; rintro e w' ⟨rfl, rfl⟩)
    go_ret
    rw [HC.out]; exact ⟨rfl, rfl⟩
  · subst h
    have HC : Hid (cmpI x x = 0) := by unfold cmpI; rw [Hid, if_neg (by omega), if_neg (by omega)]
    go_enter Tryd.func23, Tryd.ntmps23
    go_wp2_with (go_at_call 36; refine (nan_any _ _).mono ?_; rintro e w' ⟨rfl, rfl⟩)
    go_ret
    rw [HC.out]; exact ⟨rfl, rfl⟩
  · have HC : Hid (cmpI x y = 1) := by unfold cmpI; rw [Hid, if_neg (by omega), if_pos h]
    have h' : ¬ x < y := by omega
    go_enter Tryd.func23, Tryd.ntmps23
    go_wp2_with (go_at_call 36; refine (nan_any _ _).mono ?_; rintro e w' ⟨rfl, rfl⟩)
    go_ret
    rw [HC.out]; exact ⟨rfl, rfl⟩
theorem clo51 (x y n : Int) (w : World) : Calls Tryd.prog 33 #[.agg #[.int .i64 x, .int .i64 y], .int .i64 n] w fun e w' => e = .returned (.int .i64 (cmpI y n)) ∧ Below w.heap.size w w' := by
  go_enter Tryd.func33, Tryd.ntmps33
  go_wp2_with (go_at_call 23; refine (cmp_any _ _ _).mono ?_; rintro e w' ⟨rfl, rfl⟩)
  go_ret
  exact ⟨rfl, (Below.refl _ _).alloc (Nat.le_refl _) _⟩
theorem cmp_neg (x y : Int) : cmpI x y < 0 ↔ x < y := by
  unfold cmpI
  split
  · omega
  · split <;> omega
theorem count_at (p : Sp → Bool) : ∀ (l : List Sp) (i : Nat), i ≤ l.length → (∀ t s, t < i → l[t]? = some s → p s = true) → (∀ t s, i ≤ t → l[t]? = some s → p s = false) → l.countP p = i
  | [], i, hi, _, _ => by simp at hi; simp [hi]
  | a :: r, 0, _, _, h2 => by
    rw [List.countP_eq_zero]
    intro x hx
    obtain ⟨t, ht, rfl⟩ := List.getElem_of_mem hx
    simp [h2 t _ (Nat.zero_le _) (List.getElem?_eq_getElem ht)]
  | a :: r, i + 1, hi, h1, h2 => by
    have ha : p a = true := h1 0 a (Nat.succ_pos _) rfl
    rw [List.countP_cons_of_pos ha, count_at p r i (by simpa using hi) (fun t s ht h => h1 (t + 1) s (by omega) (by simpa using h)) (fun t s h3 h4 => h2 (t + 1) s (by omega) (by simpa using h4))]
/-- What the search answers. -/
def SearchIs (l : List Sp) (n : Int) (w : World) (e : Ending) (w' : World) : Prop := (∃ b : Bool, e = .returned (.tuple #[.int .i64 (l.countP fun s => decide (s.2 < n) : Nat), .bool b])) ∧ Below w.heap.size w w'
set_option maxRecDepth 100000 in
set_option maxHeartbeats 4000000 in
theorem search_any {w : World} {l : List Sp} {g o c : Nat} (hr : GA eSp w g o l) (hg : g < w.heap.size) (hc : l.length ≤ c) (hl : l.length ≤ 1000000) (n : Int) (hm : Rise l) :
    Calls Tryd.prog 32 #[.slice (some ⟨g, o, none⟩) l.length c, .int .i64 n, .func (.func 33) #[] #[]] w (SearchIs l n w) := by
  have eg : ∀ args w, (callFunc 33 args).run Tryd.prog w = .ok (.enter 33 args) w := enters_of Tryd.func33 (by kernel_rfl) rfl
  have HR := hid hr
  have HM := hid hm
  clear hr hm
  go_enter Tryd.func32, Tryd.ntmps32
  go_wp2_with fail
  go_loopw [9, 10] (fun i j wr => ∃ lo hi : Nat, i = .int .i64 lo ∧ j = .int .i64 hi ∧ lo ≤ hi ∧ hi ≤ l.length ∧ (∀ t s, t < lo → l[t]? = some s → s.2 < n) ∧ (∀ t s, hi ≤ t → l[t]? = some s → n ≤ s.2) ∧ Below w.heap.size w wr) (fun i j _ => (intOf j).toNat - (intOf i).toNat)
  case atStart => exact ⟨0, l.length, rfl, rfl, by omega, by omega, fun t s h => by omega, fun t s h1 h2 => by rw [List.getElem?_eq_none (by omega)] at h2; simp at h2, Below.refl _ _⟩
  case round =>
    obtain ⟨lo, hi, rfl, rfl, h1, h2, hlo, hhi, hb⟩ := hrel
    have HLO := hid hlo
    have HHI := hid hhi
    have HB := hid hb
    clear hlo hhi hb
    by_cases hlt : lo < hi
    · have hlt' : (lo : Int) < hi := by omega
      have hmid : (lo + hi) / 2 < l.length := by omega
      obtain ⟨hc0, hc1⟩ := (HR.out.later HB.out).sp ((lo + hi) / 2) l[(lo + hi) / 2] (List.getElem?_eq_getElem hmid)
      have HG := hid (List.getElem?_eq_getElem hmid)
      generalize l[(lo + hi) / 2] = s at *
      obtain ⟨x, y⟩ := s
      simp only at hc0 hc1
      have C := fun W => clo51 x y n W
      by_cases hy : y < n
      · have hcn : cmpI y n < 0 := (cmp_neg _ _).2 hy
        generalize cmpI y n = cv at *
        go_wp2_with fail
        refine (C _).mono ?_
        rintro e w1 ⟨rfl, hb1⟩
        go_wp2_with fail
        go_roundw
        case rel =>
          refine ⟨(lo + hi) / 2 + 1, hi, by rw [show ((lo : Int) + (hi : Int)) / 2 + 1 = (((lo + hi) / 2 + 1 : Nat) : Int) by omega], rfl, by omega, h2, ?_, HHI.out, HB.out.trans (hb1.mono HB.out.size)⟩
          intro t s ht hs
          have := rise_hi HM.out t ((lo + hi) / 2) (by omega) s (x, y) hs HG.out
          simp only at this
          omega
        case measure => simp [intOf]; omega
      · have hcn : ¬ cmpI y n < 0 := fun e => hy ((cmp_neg _ _).1 e)
        generalize cmpI y n = cv at *
        go_wp2_with fail
        refine (C _).mono ?_
        rintro e w1 ⟨rfl, hb1⟩
        go_wp2_with fail
        go_roundw
        case rel =>
          refine ⟨lo, (lo + hi) / 2, rfl, by rw [show ((lo : Int) + (hi : Int)) / 2 = (((lo + hi) / 2 : Nat) : Int) by omega], by omega, by omega, HLO.out, ?_, HB.out.trans (hb1.mono HB.out.size)⟩
          intro t s ht hs
          have := rise_hi HM.out ((lo + hi) / 2) t ht (x, y) s HG.out hs
          simp only at this
          omega
        case measure => simp [intOf]; omega
    · have hlt' : ¬ (lo : Int) < hi := by omega
      obtain rfl : lo = hi := by omega
      have HCN : Hid ((l.countP fun s => decide (s.2 < n)) = lo) := count_at _ l lo h2 (fun t s h3 h4 => by simpa using HLO.out t s h3 h4) (fun t s h3 h4 => by have := HHI.out t s h3 h4; simp; omega)
      by_cases hle : lo < l.length
      · have hle' : (lo : Int) < l.length := by omega
        obtain ⟨hc0, hc1⟩ := (HR.out.later HB.out).sp lo l[lo] (List.getElem?_eq_getElem hle)
        generalize l[lo] = s at *
        obtain ⟨x, y⟩ := s
        simp only at hc0 hc1
        have C := fun W => clo51 x y n W
        generalize cmpI y n = cv at *
        go_wp2_with fail
        refine (C _).mono ?_
        rintro e w1 ⟨rfl, hb1⟩
        go_wp2_with fail
        go_ret2
        exact ⟨⟨cv == 0, by rw [HCN.out]; rfl⟩, HB.out.trans (hb1.mono HB.out.size)⟩
      · have hle' : ¬ (lo : Int) < l.length := by omega
        go_wp2_with fail
        go_ret2
        exact ⟨⟨false, by rw [HCN.out]; rfl⟩, HB.out⟩
end Go.Proofs.YtiiegjdclpkeeaaDoor
