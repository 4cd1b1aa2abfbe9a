/- What this text holds: joined reaches of any spans; which numbers are in them; the one way of a set. -/
import Derived.Test.YtiiegjdclpkeeaaDoorM8
import Derived.Test.YtiiegjdclpkeeaaDoorM6
namespace Go.Proofs.YtiiegjdclpkeeaaDoor
open Go.RowKit
set_option linter.unusedVariables false
set_option linter.unusedSimpArgs false

set_option maxRecDepth 100000 in
set_option maxHeartbeats 4000000 in
theorem joined_nil (a : Option Addr) (c : Nat) (w : World) (B : Nat) : Calls Tryd.prog 14 #[.slice a 0 c] w (JoinIs w B []) := by
  go_enter Tryd.func14, Tryd.ntmps14
  go_wp2_with fail
  refine (sort_nil _ _ _ _).mono ?_
  rintro e w1 ⟨rfl, rfl⟩
  go_wp2_with fail
  go_loopw [3, 11] (fun v i wr => v = .slice none 0 0 ∧ i = .int .i64 0 ∧ wr = w1) (fun _ _ _ => 0)
  case atStart => exact ⟨rfl, rfl, rfl⟩
  case round =>
    obtain ⟨rfl, rfl, rfl⟩ := hrel
    go_wp2_with fail
    go_ret
    exact ⟨⟨_, [], rfl, GO.nil _ _ _, trivial, fun _ => Iff.rfl, by simp⟩, Below.refl _ _⟩
theorem joined_any {w : World} {B : Nat} {v : Value} {l : List Sp} (h : GO eSp w B v l) (hl : l.length ≤ 1000000) (hB : B ≤ w.heap.size) (hok : ∀ s ∈ l, 1 ≤ s.1 ∧ s.1 ≤ s.2 ∧ s.2 ≤ mi) : Calls Tryd.prog 14 #[v] w (JoinIs w B l) := by
  rcases id h.2 with ⟨rfl, h0⟩ | ⟨g, cap, cur, rfl, _⟩
  · have := List.eq_nil_of_length_eq_zero h0
    subst this
    exact joined_nil none 0 w B
  · exact joined_loop h rfl hl hB hok
set_option maxRecDepth 100000 in
set_option maxHeartbeats 4000000 in
theorem search_nil (a : Option Addr) (c : Nat) (n : Int) (w : World) : Calls Tryd.prog 32 #[.slice a 0 c, .int .i64 n, .func (.func 33) #[] #[]] w (SearchIs [] n w) := by
  go_enter Tryd.func32, Tryd.ntmps32
  go_wp2_with fail
  go_loopw [9, 10] (fun i j wr => i = .int .i64 0 ∧ j = .int .i64 0 ∧ wr = w) (fun _ _ _ => 0)
  case atStart => exact ⟨rfl, rfl, rfl⟩
  case round =>
    obtain ⟨rfl, rfl, rfl⟩ := hrel
    go_wp2_with fail
    go_ret2
    exact ⟨⟨false, rfl⟩, Below.refl _ _⟩
set_option maxRecDepth 100000 in
set_option maxHeartbeats 4000000 in
/-- Is a number in rising spans? -/
theorem within_any {w : World} {v : Value} {l : List Sp} (h : GL eSp w v l) (hl : l.length ≤ 1000000) (n : Int) (hr : Rise l) :
    Calls Tryd.prog 20 #[v, .int .i64 n] w fun e w' => (∃ b : Bool, e = .returned (.bool b) ∧ (b = true ↔ memS l n)) ∧ Below w.heap.size w w' := by
  have HS := hid (rise_search hr n)
  obtain ⟨a, c, rfl, hg, hc⟩ := gl_slice h
  have HC : Hid (Calls Tryd.prog 32 #[.slice a l.length c, .int .i64 n, .func (.func 33) #[] #[]] w (SearchIs l n w)) := by
    by_cases hne : l = []
    · subst hne
      exact search_nil a c n w
    · obtain ⟨g, o, rfl, hga, hgz⟩ := hg hne
      exact search_any hga hgz hc hl n hr
  have HG := hid hg
  have hle : (l.countP fun s => decide (s.2 < n)) ≤ l.length := List.countP_le_length
  unfold SearchIs at HC
  generalize (l.countP fun s => decide (s.2 < n)) = p at *
  clear hg h hr
  go_enter Tryd.func20, Tryd.ntmps20
  go_wp2_with fail
  refine HC.out.mono ?_
  rintro e w1 ⟨⟨b, rfl⟩, hb1⟩
  have HB := hid hb1
  clear hb1
  by_cases hlt : p < l.length
  · have hlt' : (p : Int) < l.length := by omega
    have h0 : (0 : Int) ≤ p := by omega
    have hne : l ≠ [] := by rintro rfl; simp at hlt
    obtain ⟨g, o, rfl, hga, _⟩ := HG.out hne
    obtain ⟨hc0, _⟩ := (hga.later HB.out).sp p l[p] (List.getElem?_eq_getElem hlt)
    have HP := hid (List.getElem?_eq_getElem hlt)
    generalize l[p] = s at *
    clear hga hne HG HC
    obtain ⟨x, y⟩ := s
    simp only at hc0
    go_wp2_with fail
    go_ret
    refine ⟨⟨_, rfl, ?_⟩, HB.out⟩
    rw [HS.out, HP.out]
    simp
  · have hlt' : ¬ (p : Int) < l.length := by omega
    go_wp2_with fail
    go_ret
    refine ⟨⟨_, rfl, ?_⟩, HB.out⟩
    rw [HS.out, List.getElem?_eq_none (by omega)]
    simp
end Go.Proofs.YtiiegjdclpkeeaaDoor
