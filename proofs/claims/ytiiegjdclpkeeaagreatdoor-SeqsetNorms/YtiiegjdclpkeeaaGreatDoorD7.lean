/- What this text holds: the document's words for the set of some numbers. -/
import Derived.Test.YtiiegjdclpkeeaaGreatDoorD6
import Derived.Test.YtiiegjdclpkeeaaGreatDoorM13
import Derived.Test.YtiiegjdclpkeeaaGreatDoorM18
namespace Go.Proofs.YtiiegjdclpkeeaaGreatDoor
open Go.RowKit
set_option linter.unusedVariables false
set_option linter.unusedSimpArgs false

def dup (l : List Int) : List Sp := l.map fun x => (x, x)
theorem dup_next (l : List Int) (k : Nat) (hk : k < l.length) : dup (good (l.take (k + 1))) = dup (good (l.take k)) ++ (if goodB l[k] then [(l[k], l[k])] else []) := by
  rw [good_next l k hk]
  unfold dup
  rw [List.map_append]
  split <;> rfl
theorem dup_len (l : List Int) : (dup l).length = l.length := by simp [dup]
theorem dup_pos (l : List Int) : Pos (dup (good l)) := by
  intro s hs
  unfold dup at hs
  obtain ⟨x, hx, rfl⟩ := List.mem_map.1 hs
  have := (mem_good l x).1 hx
  simp only
  omega
theorem dup_has (l : List Int) (n : Int) : (n ≤ mx ∧ hasB (dup (good l)) n 0 = true) ↔ n ∈ l ∧ 1 ≤ n ∧ n ≤ mx := by
  rw [← mem_good]
  unfold hasB
  rw [List.any_eq_true]
  constructor
  · rintro ⟨h1, s, hs, h2⟩
    unfold dup at hs
    obtain ⟨x, hx, rfl⟩ := List.mem_map.1 hs
    have hx1 := (mem_good l x).1 hx
    simp only [Bool.and_eq_true, decide_eq_true_eq] at h2
    have h3 := h2.2
    unfold covB kn at h3
    rw [if_neg (by simp only; omega), if_neg (by simp only; omega)] at h3
    simp at h3
    have : n = x := by omega
    rw [this]; exact hx
  · intro h
    have h1 := (mem_good l n).1 h
    refine ⟨h1.2.2, (n, n), List.mem_map.2 ⟨n, h, rfl⟩, ?_⟩
    simp only [Bool.and_eq_true, decide_eq_true_eq]
    refine ⟨h1.2.1, ?_⟩
    unfold covB kn
    rw [if_neg (by simp only; omega), if_neg (by simp only; omega)]
    simp
theorem step_below {w wr W w' : World} {v : Value} {D : List Sp} (ho : GO eSp wr w.heap.size v D) (hb : Below w.heap.size w wr) (hW : Below wr.heap.size wr W) (hg : W.grownBy w' v.ownBlock) : Below w.heap.size w w' :=
  (hb.trans (hW.mono hb.size)).trans ((Below.refl _ W).grown hg (Nat.le_trans hb.size hW.size) (fun k hk => (World.ownsRow.lt ho k hk).1))
set_option maxRecDepth 100000 in
set_option maxHeartbeats 8000000 in
theorem rof_any {w : World} {u : Value} {l : List Int} (hu : GL eI w u l) (hl : l.length ≤ 1000000) : Calls Tryz.prog 25 #[u] w (OfIs l w) := by
  obtain ⟨a, c, rfl, hg, hc⟩ := gl_slice hu
  have HG := hid hg
  clear hg hu
  go_enter Tryz.func25, Tryz.ntmps25
  go_wp2_with fail
  go_loopw [3, 4] (fun v i wr => ∃ k : Nat, k ≤ l.length ∧ i = .int .i64 k ∧ GO eSp wr w.heap.size v (dup (good (l.take k))) ∧ Below w.heap.size w wr) (fun _ i _ => l.length - (intOf i).toNat)
  case atStart => exact ⟨0, by omega, rfl, GO.nil _ _ _, Below.refl _ _⟩
  case round =>
    obtain ⟨k, hk, rfl, ho, hb⟩ := hrel
    have HO := hid ho
    have HB := hid hb
    clear ho hb
    by_cases hlt : k < l.length
    · have hlt' : (k : Int) < l.length := by omega
      have hk0 : (0 : Int) ≤ k := by omega
      have hne : l ≠ [] := by rintro rfl; simp at hlt
      obtain ⟨g, o, rfl, hga, hgz⟩ := HG.out hne
      have hc0 := (hga.later HB.out).i k l[k] (List.getElem?_eq_getElem hlt)
      have HN := hid (dup_next l k hlt)
      have HL : Hid ((dup (good (l.take k))).length ≤ 1000000) := by rw [Hid, dup_len]; have := good_len (l.take k); rw [List.length_take] at this; omega
      clear hga hne HG
      generalize l[k] = x at *
      by_cases h1 : 1 ≤ x
      · by_cases h2 : x ≤ 4294967295
        · have HX : Hid (goodB x = true) := by unfold goodB mx; simp [Hid, h1, h2]
          rw [HX.out] at HN
          have d1 : decide (1 ≤ x) = true := by simpa using h1
          have d2 : decide (x ≤ 4294967295) = true := by simpa using h2
          obtain ⟨a0, c0, hv0⟩ := HO.out.slice (n := (dup (good (l.take k))).length) rfl
          subst hv0
          generalize dup (good (l.take k)) = D at *
          have HBlk : Hid ((wr.alloc (.cells #[.int .i64 x, .int .i64 x] 44)).heap[wr.heap.size]? = some (.cells #[.int .i64 x, .int .i64 x] 44 (0, 0))) := heap_alloc_new _ _
          go_wp2_with fail
          go_region_law ((refine step_more (B := w.heap.size) (S := D) (m := [(x, x)]) (by rfl) (.tmp 23) (.tmp 33) (by rfl) (by rfl) (by rfl) (by rfl) (by exact HO.out.later (by repeat (first | exact Below.refl _ _ | refine Below.alloc ?_ (by simp) _ | refine Below.drew ?_))) (by have := HB.out.size; simp <;> omega) (by exact gl_block (by exact HBlk.out)) (by have := HL.out; omega) (by simp) (by simp) ?_; intro v' w' hgo' hgr'; obtain ⟨a5, c5, rfl⟩ := hgo'.slice (n := D.length + 1) (by simp); have hbn := step_below HO.out HB.out (by repeat (first | exact Below.refl _ _ | refine Below.alloc ?_ (by simp) _ | refine Below.drew ?_)) hgr'))
          all_goals
            go_wp2_with fail
            go_roundw
            case rel => exact ⟨k + 1, by omega, by go_num, by rw [HN.out, if_pos trivial]; exact hgo', hbn⟩
            case measure => simp [intOf]; omega
        · have HX : Hid (goodB x = false) := by unfold goodB mx; simp [Hid]; omega
          rw [HX.out] at HN
          have d1 : decide (1 ≤ x) = true := by simpa using h1
          have d2 : decide (x ≤ 4294967295) = false := by simpa using h2
          go_wp2_with fail
          go_roundw
          case rel => exact ⟨k + 1, by omega, by go_num, by rw [HN.out]; simpa using HO.out, HB.out⟩
          case measure => simp [intOf]; omega
      · have HX : Hid (goodB x = false) := by unfold goodB mx; simp [Hid]; omega
        rw [HX.out] at HN
        have d1 : decide (1 ≤ x) = false := by simpa using h1
        go_wp2_with fail
        go_roundw
        case rel => exact ⟨k + 1, by omega, by go_num, by rw [HN.out]; simpa using HO.out, HB.out⟩
        case measure => simp [intOf]; omega
    · have hlt' : ¬ (k : Int) < l.length := by omega
      have e : l.take k = l := List.take_of_length_le (by omega)
      rw [e] at HO
      have hgl := good_len l
      have C := rnorm_any HO.out.gl (by rw [dup_len]; omega) 0 (dup_pos l)
      have HD := hid (fun n => dup_has l n)
      have hdl := dup_len (good l)
      unfold NormIs at C
      generalize dup (good l) = D at *
      obtain ⟨a0, c0, hv0⟩ := HO.out.slice (n := D.length) rfl
      subst hv0
      have HDl := hid hdl
      clear hdl
      go_wp2_with fail
      refine C.mono ?_
      clear C
      rintro e w1 ⟨⟨v1, L1, rfl, ho1, hr1, hm1, hl1⟩, hb1⟩
      have HO1 := hid ho1
      have HR1 := hid hr1
      have HM1 : Hid (∀ n, memS L1 n ↔ n ∈ l ∧ 1 ≤ n ∧ n ≤ mx) := fun n => (hm1 n).trans (HD.out n)
      have HB1 := hid (HB.out.trans (hb1.mono HB.out.size))
      clear ho1 hr1 hm1 hb1
      go_wp2_with fail
      go_ret
      exact ⟨⟨_, L1, rfl, HO1.out.base HB.out.size, HR1.out, HM1.out, by have := HDl.out; omega⟩, HB1.out⟩
end Go.Proofs.YtiiegjdclpkeeaaGreatDoor
