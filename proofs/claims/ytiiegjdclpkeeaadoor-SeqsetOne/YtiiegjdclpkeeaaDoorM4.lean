/- What this text holds: whether a number is in a set. -/
import Derived.Test.YtiiegjdclpkeeaaDoorM2
namespace Go.Proofs.YtiiegjdclpkeeaaDoor
open Go.RowKit
set_option linter.unusedVariables false
set_option linter.unusedSimpArgs false

theorem hasB_next (l : List Sp) (n most : Int) (k : Nat) (hk : k < l.length) : hasB (l.take (k + 1)) n most = (hasB (l.take k) n most || (rchB l[k] most && inS (rchA l[k] most) n)) := by
  unfold hasB
  rw [List.take_succ_eq_append_getElem hk, List.any_append, rch_cov]
  simp
theorem hasB_yes (l : List Sp) (n most : Int) (k : Nat) (h : hasB (l.take k) n most = true) : hasB l n most = true := by
  unfold hasB at *
  rw [List.any_eq_true] at *
  obtain ⟨x, hx, h⟩ := h
  exact ⟨x, List.mem_of_mem_take hx, h⟩
set_option maxRecDepth 100000 in
set_option maxHeartbeats 4000000 in
theorem has_any {w : World} {v : Value} {l : List Sp} (h : GL eSp w v l) (hl : l.length ≤ 1000000) (n most : Int) :
    Calls Tryd.prog 9 #[v, .int .i64 n, .int .i64 most] w fun e w' => e = .returned (.bool (hasB l n most)) ∧ Below w.heap.size w w' := by
  obtain ⟨a, c, rfl, hc, hr⟩ := h
  rcases hr with hr | ⟨g, o, rfl, hr, hg⟩
  · subst hr
    go_enter Tryd.func9, Tryd.ntmps9
    go_wp2_with fail
    go_loopw [13] (fun i wr => i = .int .i64 0 ∧ wr = w) (fun _ _ => 0)
    case atStart => exact ⟨rfl, rfl⟩
    case round =>
      obtain ⟨rfl, rfl⟩ := hrel
      go_wp2_with fail
      go_ret
      exact ⟨rfl, Below.refl _ _⟩
  · have HR := hid hr
    clear hr
    go_enter Tryd.func9, Tryd.ntmps9
    go_wp2_with fail
    go_loopw [13] (fun i wr => ∃ k : Nat, k ≤ l.length ∧ i = .int .i64 k ∧ hasB (l.take k) n most = false ∧ Below w.heap.size w wr) (fun i _ => l.length - (intOf i).toNat)
    case atStart => exact ⟨0, by omega, rfl, rfl, Below.refl _ _⟩
    case round =>
      obtain ⟨k, hk, rfl, hf, hb⟩ := hrel
      have HB := hid hb
      have HF := hid hf
      clear hf hb
      by_cases hlt : k < l.length
      · have hlt' : (k : Int) < l.length := by omega
        obtain ⟨hc0, hc1⟩ := (HR.out.later HB.out).sp k l[k] (List.getElem?_eq_getElem hlt)
        have HN := hid (hasB_next l n most k hlt)
        rw [HF.out] at HN
        have HY := hid (hasB_yes l n most (k + 1))
        generalize l[k] = s at *
        obtain ⟨x, y⟩ := s
        simp only at hc0 hc1
        go_wp2_with fail
        have C := reach_any x y most (wr.alloc (.cells #[.int .i64 x, .int .i64 y] 26))
        have hb1 : Below wr.heap.size wr (wr.alloc (.cells #[.int .i64 x, .int .i64 y] 26)) := (Below.refl _ _).alloc (Nat.le_refl _) _
        have HB1 := hid hb1
        clear hb1
        unfold ReachIs at C
        generalize rchB (x, y) most = is at *
        refine C.mono ?_
        clear C
        rintro e w2 ⟨⟨p, q, rfl, hpq⟩, hb2⟩
        have HPQ := hid hpq
        have HB2 := hid (HB1.out.trans (hb2.mono HB1.out.size))
        clear hpq hb2
        have HB3 : Hid (Below w.heap.size w (w2.alloc (.cells #[.int .i64 p, .int .i64 q] 26))) := (HB.out.trans (HB2.out.mono HB.out.size)).alloc (Nat.le_trans HB.out.size HB2.out.size) _
        cases is with
        | false =>
          have HN2 : Hid (hasB (l.take (k + 1)) n most = false) := by rw [Hid, HN.out]; rfl
          go_wp2_with fail
          go_roundw
          case rel => exact ⟨k + 1, by omega, by go_num, HN2.out, HB3.out⟩
          case measure => simp [intOf]; omega
        | true =>
          have HN3 : Hid (hasB (l.take (k + 1)) n most = decide (p ≤ n ∧ n ≤ q)) := by rw [Hid, HN.out, ← HPQ.out rfl]; rfl
          clear HN HPQ
          by_cases c1 : p ≤ n
          · by_cases c2 : n ≤ q
            · have d1 : decide (p ≤ n) = true := by simpa using c1
              have d2 : decide (n ≤ q) = true := by simpa using c2
              have HT : Hid (hasB l n most = true) := HY.out (by rw [HN3.out]; simp [c1, c2])
              go_wp2_with fail
              go_ret
              rw [HT.out]
              exact ⟨rfl, HB3.out⟩
            · have d1 : decide (p ≤ n) = true := by simpa using c1
              have d2 : decide (n ≤ q) = false := by simpa using c2
              have HN2 : Hid (hasB (l.take (k + 1)) n most = false) := by rw [Hid, HN3.out]; simp; omega
              go_wp2_with fail
              go_roundw
              case rel => exact ⟨k + 1, by omega, by go_num, HN2.out, HB3.out⟩
              case measure => simp [intOf]; omega
          · have d1 : decide (p ≤ n) = false := by simpa using c1
            have HN2 : Hid (hasB (l.take (k + 1)) n most = false) := by rw [Hid, HN3.out]; simp; omega
            go_wp2_with fail
            go_roundw
            case rel => exact ⟨k + 1, by omega, by go_num, HN2.out, HB3.out⟩
            case measure => simp [intOf]; omega
      · have hlt' : ¬ (k : Int) < l.length := by omega
        have e : l.take k = l := List.take_of_length_le (by omega)
        rw [e] at HF
        go_wp2_with fail
        go_ret
        rw [HF.out]
        exact ⟨rfl, HB.out⟩
end Go.Proofs.YtiiegjdclpkeeaaDoor
