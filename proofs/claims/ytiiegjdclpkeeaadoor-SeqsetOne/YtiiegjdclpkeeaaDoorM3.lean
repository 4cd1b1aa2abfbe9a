/- What this text holds: the reaches of spans; whether a number is in them. -/
import Derived.Test.YtiiegjdclpkeeaaDoorM2
namespace Go.Proofs.YtiiegjdclpkeeaaDoor
open Go.RowKit
set_option linter.unusedVariables false
set_option linter.unusedSimpArgs false

theorem rchs_next (l : List Sp) (most : Int) (k : Nat) (hk : k < l.length) : rchs (l.take (k + 1)) most = rchs (l.take k) most ++ (if rchB l[k] most then [rchA l[k] most] else []) := by
  unfold rchs
  rw [List.take_succ_eq_append_getElem hk, List.filter_append, List.map_append]
  by_cases h : rchB l[k] most = true <;> simp [h]
theorem rchs_len (l : List Sp) (most : Int) : (rchs l most).length ≤ l.length := by
  unfold rchs; rw [List.length_map]; exact List.length_filter_le _ _
set_option maxRecDepth 100000 in
set_option maxHeartbeats 4000000 in
theorem reaches_any {w : World} {v : Value} {l : List Sp} (h : GL eSp w v l) (hl : l.length ≤ 1000000) (most : Int) :
    Calls Tryd.prog 15 #[v, .int .i64 most] w fun e w' => (∃ v', e = .returned v' ∧ GO eSp w' w.heap.size v' (rchs l most)) ∧ Below w.heap.size w w' := by
  obtain ⟨a, c, rfl, hc, hr⟩ := h
  rcases hr with hr | ⟨g, o, rfl, hr, hg⟩
  · subst hr
    go_enter Tryd.func15, Tryd.ntmps15
    go_wp2_with fail
    go_loopw [5, 12] (fun v i wr => v = .slice none 0 0 ∧ i = .int .i64 0 ∧ wr = w) (fun _ _ _ => 0)
    case atStart => exact ⟨rfl, rfl, rfl⟩
    case round =>
      obtain ⟨rfl, rfl, rfl⟩ := hrel
      go_wp2_with fail
      go_ret
      exact ⟨⟨_, rfl, GO.nil _ _ _⟩, Below.refl _ _⟩
  · have HR := hid hr
    clear hr
    go_enter Tryd.func15, Tryd.ntmps15
    go_wp2_with fail
    go_loopw [5, 12] (fun v i wr => ∃ k : Nat, k ≤ l.length ∧ i = .int .i64 k ∧ GO eSp wr w.heap.size v (rchs (l.take k) most) ∧ Below w.heap.size w wr) (fun _ i _ => l.length - (intOf i).toNat)
    case atStart => exact ⟨0, by omega, rfl, GO.nil _ _ _, Below.refl _ _⟩
    case round =>
      obtain ⟨k, hk, rfl, ho, hb⟩ := hrel
      have HB := hid hb
      have HO := hid ho
      clear ho hb
      by_cases hlt : k < l.length
      · have hlt' : (k : Int) < l.length := by omega
        obtain ⟨hc0, hc1⟩ := (HR.out.later HB.out).sp k l[k] (List.getElem?_eq_getElem hlt)
        have HN := hid (rchs_next l most k hlt)
        have HL : Hid ((rchs (l.take k) most).length ≤ 1000000) := by have := rchs_len (l.take k) most; rw [List.length_take] at this; unfold Hid; omega
        generalize l[k] = s at *
        obtain ⟨x, y⟩ := s
        simp only at hc0 hc1
        go_wp2_with fail
        have C := reach_any x y most (wr.alloc (.cells #[.int .i64 x, .int .i64 y] 26))
        have hb1 : Below wr.heap.size wr (wr.alloc (.cells #[.int .i64 x, .int .i64 y] 26)) := (Below.refl _ _).alloc (Nat.le_refl _) _
        have HB1 := hid hb1
        clear hb1
        unfold ReachIs at C
        generalize rchB (x, y) most = is at *
        refine C.mono ?_
        clear C
        rintro e w2 ⟨⟨p, q, rfl, hpq⟩, hb2⟩
        have HPQ := hid hpq
        have HB2 := hid (HB1.out.trans (hb2.mono HB1.out.size))
        clear hpq hb2
        have HO3 : Hid (GO eSp (w2.alloc (.cells #[.int .i64 p, .int .i64 q] 26)) w.heap.size _ (rchs (l.take k) most)) := HO.out.later (HB2.out.alloc HB2.out.size _)
        have HB3 : Hid (Below w.heap.size w (w2.alloc (.cells #[.int .i64 p, .int .i64 q] 26))) := (HB.out.trans (HB2.out.mono HB.out.size)).alloc (Nat.le_trans HB.out.size HB2.out.size) _
        cases is with
        | false =>
          go_wp2_with fail
          go_roundw
          case rel => exact ⟨k + 1, by omega, by go_num, by rw [HN.out]; simpa using HO3.out, HB3.out⟩
          case measure => simp [intOf]; omega
        | true =>
          have e := HPQ.out rfl
          have HE := hid e
          clear e
          obtain ⟨v', w', hr', ho', hb', _⟩ := go_one eSp HO3.out HB3.out.size (by have := HL.out; omega) (p, q) (w2.heap.size + 1) (by simp)
          have HR' := hid hr'
          have HO' := hid ho'
          have HB' := hid (HB3.out.trans hb')
          clear hr' ho' hb'
          obtain ⟨a0, c0, hv0⟩ := HO.out.slice (n := (rchs (l.take k) most).length) rfl
          obtain ⟨a5, c5, hv5⟩ := HO'.out.slice (n := (rchs (l.take k) most).length + 1) (by simp)
          subst hv0 hv5
          go_wp2_with (at_builtin; refine wpList_append_run rfl rfl HR'.out ?_)
          go_roundw
          case rel => exact ⟨k + 1, by omega, by go_num, by rw [HN.out, if_pos trivial, ← HE.out]; exact HO'.out, HB'.out⟩
          case measure => simp [intOf]; omega
      · have hlt' : ¬ (k : Int) < l.length := by omega
        have e : l.take k = l := List.take_of_length_le (by omega)
        rw [e] at HO
        go_wp2_with fail
        go_ret
        exact ⟨⟨_, rfl, HO.out⟩, HB.out⟩
end Go.Proofs.YtiiegjdclpkeeaaDoor
