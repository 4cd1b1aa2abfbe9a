/- What this text holds: the one way of a set. -/
import Derived.Test.YtiiegjdclpkeeaaDoorM10
namespace Go.Proofs.YtiiegjdclpkeeaaDoor
open Go.RowKit
set_option linter.unusedVariables false
set_option linter.unusedSimpArgs false

theorem cut_next (l : List Sp) (k : Nat) (hk : k < l.length) : cutP (l.take (k + 1)) = cutP (l.take k) ++ (if l[k].1 ≤ mx then [(l[k].1, min l[k].2 mx)] else []) := by
  unfold cutP
  rw [List.take_succ_eq_append_getElem hk, List.filter_append, List.map_append]
  by_cases h : l[k].1 ≤ mx <;> simp [h]
theorem cut_len (l : List Sp) : (cutP l).length ≤ l.length := by unfold cutP; rw [List.length_map]; exact List.length_filter_le _ _
/-- What Norm answers. -/
def NormIs (l : List Sp) (most : Int) (w : World) (e : Ending) (w' : World) : Prop := (∃ v L, e = .returned v ∧ GO eSp w' w.heap.size v L ∧ Rise L ∧ (∀ n, memS L n ↔ n ≤ mx ∧ hasB l n most = true) ∧ L.length ≤ l.length) ∧ Below w.heap.size w w'
set_option maxRecDepth 100000 in
set_option maxHeartbeats 4000000 in
theorem norm_any {w : World} {v : Value} {l : List Sp} (h : GL eSp w v l) (hl : l.length ≤ 1000000) (most : Int) (hm : most ≤ mi) (hok : Ok64 l) :
    Calls Tryd.prog 5 #[v, .int .i64 most] w (NormIs l most w) := by
  have C1 := reaches_any h hl most
  have HOK := hid (rchs_all hm hok)
  have hrl := rchs_len l most
  have HMem := hid (fun n => mem_rchs l most n)
  clear hok h
  go_enter Tryd.func5, Tryd.ntmps5
  go_wp2_with fail
  refine C1.mono ?_
  clear C1
  rintro e w1 ⟨⟨v1, rfl, ho1⟩, hb1⟩
  have HB1 := hid hb1
  have C2 := joined_any ho1 (by omega) hb1.size HOK.out
  clear ho1 hb1 HOK
  generalize rchs l most = R at *
  go_wp2_with fail
  refine C2.mono ?_
  clear C2
  rintro e w2 ⟨⟨v2, acc, rfl, ho2, hr2, hm2, hl2⟩, hb2⟩
  have HB2 := hid (HB1.out.trans hb2)
  have HR2 := hid hr2
  have HM : Hid (∀ n, memS acc n ↔ hasB l n most = true) := fun n => (hm2 n).trans (HMem.out n)
  obtain ⟨a2, c2, rfl, hg2, hc2⟩ := gl_slice ho2.gl
  have HG := hid hg2
  clear ho2 hr2 hm2 hb2 HMem HB1 hg2
  have hal : acc.length ≤ 1000000 := by omega
  go_wp2_with fail
  go_loopw [5, 13] (fun v i wr => ∃ k : Nat, k ≤ acc.length ∧ i = .int .i64 k ∧ GO eSp wr w2.heap.size v (cutP (acc.take k)) ∧ Below w2.heap.size w2 wr) (fun _ i _ => acc.length - (intOf i).toNat)
  case atStart => exact ⟨0, by omega, rfl, GO.nil _ _ _, Below.refl _ _⟩
  case round =>
    obtain ⟨k, hk, rfl, ho, hb⟩ := hrel
    have HO := hid ho
    have HB := hid hb
    clear ho hb
    by_cases hlt : k < acc.length
    · have hlt' : (k : Int) < acc.length := by omega
      have hne : acc ≠ [] := by rintro rfl; simp at hlt
      obtain ⟨g, o, rfl, hga, hgz⟩ := HG.out hne
      obtain ⟨hc0, hc1⟩ := (hga.later HB.out).sp k acc[k] (List.getElem?_eq_getElem hlt)
      have HN := hid (cut_next acc k hlt)
      have HL : Hid ((cutP (acc.take k)).length ≤ 1000000) := by have := cut_len (acc.take k); rw [List.length_take] at this; unfold Hid; omega
      clear hga hne HG
      generalize acc[k] = s at *
      obtain ⟨x, y⟩ := s
      simp only at hc0 hc1 HN
      have hba : Below wr.heap.size wr (wr.alloc (.cells #[.int .i64 x, .int .i64 y] 26)) := (Below.refl _ _).alloc (Nat.le_refl _) _
      have HBa := hid (HB.out.trans (hba.mono HB.out.size))
      have HOa := hid (HO.out.later hba)
      clear hba
      unfold mx at HN
      by_cases hx : x ≤ 4294967295
      · rw [if_pos hx] at HN
        have fin : ∀ z, min y 4294967295 = z → ∃ v' w', (Builtin.append_ #[22, 22] 22 #[u5, .slice (some ⟨wr.heap.size + 1, 0, none⟩) 1 1]).run Tryd.prog ((wr.alloc (.cells #[.int .i64 x, .int .i64 y] 26)).alloc (.cells #[.int .i64 x, .int .i64 z] 26)) = .ok v' w' ∧ GO eSp w' w2.heap.size v' (cutP (acc.take (k + 1))) ∧ Below w2.heap.size w2 w' := by
          rintro z rfl
          obtain ⟨v', w', hr', ho', hb', hg'⟩ := go_one eSp HOa.out HBa.out.size (by have := HL.out; omega) (x, min y 4294967295) (wr.heap.size + 1) (by simp)
          exact ⟨v', w', hr', by rw [HN.out]; exact ho', HBa.out.trans hb'⟩
        have HF := hid fin
        clear fin
        obtain ⟨a0, c0, hv0⟩ := HO.out.slice (n := (cutP (acc.take k)).length) rfl
        subst hv0
        obtain ⟨v', w', hr', ho', hb'⟩ := HF.out _ rfl
        have HR' := hid hr'
        have HO' := hid ho'
        have HB' := hid hb'
        clear hr' ho' hb' HF
        obtain ⟨a5, c5, hv5⟩ := HO'.out.slice rfl
        subst hv5
        go_wp2_with (at_builtin; refine wpList_append_run rfl rfl HR'.out ?_)
        go_roundw
        case rel => exact ⟨k + 1, by omega, by go_num, HO'.out, HB'.out⟩
        case measure => simp [intOf]; omega
      · rw [if_neg hx, List.append_nil] at HN
        have hx' : ¬ x ≤ 4294967295 := hx
        go_wp2_with fail
        go_roundw
        case rel => exact ⟨k + 1, by omega, by go_num, by rw [HN.out]; exact HOa.out, HBa.out⟩
        case measure => simp [intOf]; omega
    · have hlt' : ¬ (k : Int) < acc.length := by omega
      have e : acc.take k = acc := List.take_of_length_le (by omega)
      rw [e] at HO
      have HL := hid (cut_len acc)
      go_wp2_with fail
      go_ret
      exact ⟨⟨_, _, rfl, HO.out.base HB2.out.size, rise_cut HR2.out, fun n => by rw [mem_cut, HM.out], by have := HL.out; omega⟩, HB2.out.trans (HB.out.mono HB2.out.size)⟩
end Go.Proofs.YtiiegjdclpkeeaaDoor
