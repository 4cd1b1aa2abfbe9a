/- What this text holds: the members of a set; the one way of a set. -/
import Derived.Test.YtiiegjdclpkeeaaDoorM9
namespace Go.Proofs.YtiiegjdclpkeeaaDoor
open Go.RowKit
set_option linter.unusedVariables false
set_option linter.unusedSimpArgs false

/-- Ends are numbers of the machine. -/
def Ok64 (l : List Sp) : Prop := ∀ s ∈ l, s.1 ≤ mi ∧ s.2 ≤ mi
theorem rchs_all {l : List Sp} {most : Int} (hm : most ≤ mi) (h : Ok64 l) : ∀ s ∈ rchs l most, 1 ≤ s.1 ∧ s.1 ≤ s.2 ∧ s.2 ≤ mi :=
  fun s hs => ⟨(rchs_ok l most s hs).1, (rchs_ok l most s hs).2, rchs_hi l most hm h s hs⟩
theorem memb_next (l : List Int) (p : Int → Bool) (k : Nat) (hk : k < l.length) : (l.take (k + 1)).filter p = (l.take k).filter p ++ (if p l[k] then [l[k]] else []) := by
  rw [List.take_succ_eq_append_getElem hk, List.filter_append]
  by_cases h : p l[k] = true <;> simp [h]
/-- What Members answers. -/
def MembIs (l : List Sp) (most : Int) (among : List Int) (w : World) (e : Ending) (w' : World) : Prop := (∃ v, e = .returned v ∧ GO eI w' w.heap.size v (among.filter fun n => hasB l n most)) ∧ Below w.heap.size w w'
set_option maxRecDepth 100000 in
set_option maxHeartbeats 4000000 in
theorem members_any {w : World} {v u : Value} {l : List Sp} {among : List Int} (h : GL eSp w v l) (hu : GL eI w u among) (hl : l.length ≤ 1000000) (ha : among.length ≤ 1000000) (most : Int) (hm : most ≤ mi) (hok : Ok64 l) :
    Calls Tryd.prog 13 #[v, .int .i64 most, u] w (MembIs l most among w) := by
  have C1 := reaches_any h hl most
  have HOK := hid (rchs_all hm hok)
  have hrl := rchs_len l most
  have HMem := hid (fun n => mem_rchs l most n)
  obtain ⟨a, c, rfl, hg, hc⟩ := gl_slice hu
  have HG := hid hg
  clear hok hg hu h
  go_enter Tryd.func13, Tryd.ntmps13
  go_wp2_with fail
  refine C1.mono ?_
  clear C1
  rintro e w1 ⟨⟨v1, rfl, ho1⟩, hb1⟩
  have HB1 := hid hb1
  have C2 := joined_any ho1 (by omega) hb1.size HOK.out
  clear ho1 hb1 HOK
  generalize rchs l most = R at *
  go_wp2_with fail
  refine C2.mono ?_
  clear C2
  rintro e w2 ⟨⟨v2, acc, rfl, ho2, hr2, hm2, hl2⟩, hb2⟩
  have HB2 := hid (HB1.out.trans hb2)
  have HG2 := hid ho2.gl
  have HR2 := hid hr2
  have HM : Hid (∀ n, memS acc n ↔ hasB l n most = true) := fun n => (hm2 n).trans (HMem.out n)
  clear ho2 hr2 hm2 hb2 HMem HB1
  obtain ⟨a2, c2, hv2, _⟩ := gl_slice HG2.out
  subst hv2
  go_wp2_with fail
  go_loopw [8, 17] (fun v i wr => ∃ k : Nat, k ≤ among.length ∧ i = .int .i64 k ∧ GO eI wr w2.heap.size v ((among.take k).filter fun n => hasB l n most) ∧ Below w2.heap.size w2 wr) (fun _ i _ => among.length - (intOf i).toNat)
  case atStart => exact ⟨0, by omega, rfl, GO.nil _ _ _, Below.refl _ _⟩
  case round =>
    obtain ⟨k, hk, rfl, ho, hb⟩ := hrel
    have HO := hid ho
    have HB := hid hb
    clear ho hb
    by_cases hlt : k < among.length
    · have hlt' : (k : Int) < among.length := by omega
      have hne : among ≠ [] := by rintro rfl; simp at hlt
      obtain ⟨g, o, rfl, hga, hgz⟩ := HG.out hne
      have hc0 := ((hga.later HB2.out).later HB.out).i k among[k] (List.getElem?_eq_getElem hlt)
      have HN := hid (memb_next among (fun n => hasB l n most) k hlt)
      have HL : Hid (((among.take k).filter fun n => hasB l n most).length ≤ 1000000) := by have := List.length_filter_le (fun n => hasB l n most) (among.take k); rw [List.length_take] at this; unfold Hid; omega
      clear hga hne HG
      generalize among[k] = x at *
      have C := within_any (HG2.out.later HB.out) (by omega) x HR2.out
      go_wp2_with fail
      refine C.mono ?_
      clear C
      rintro e w3 ⟨⟨b, rfl, hbb⟩, hb3⟩
      have HBB : Hid (hasB l x most = b) := by rw [Hid, Bool.eq_iff_iff, ← HM.out x]; exact hbb.symm
      have HB3 := hid (HB.out.trans (hb3.mono HB.out.size))
      have HO3 := hid (HO.out.later hb3)
      have hb3s := hb3.size
      clear hbb hb3
      cases b with
      | false =>
        go_wp2_with fail
        go_roundw
        case rel => exact ⟨k + 1, by omega, by go_num, by rw [HN.out, HBB.out]; simpa using HO3.out, HB3.out⟩
        case measure => simp [intOf]; omega
      | true =>
        obtain ⟨v', w', hr', ho', hb', hg'⟩ := go_one eI HO3.out (Nat.le_trans HB.out.size hb3s) (by have := HL.out; omega) x w3.heap.size rfl
        have HR' := hid hr'
        have HO' := hid ho'
        have HB' : Hid (Below w2.heap.size w2 w') := HB3.out.trans hb'
        clear hr' ho' hb' hg'
        obtain ⟨a0, c0, hv0⟩ := HO.out.slice (n := ((among.take k).filter fun n => hasB l n most).length) rfl
        obtain ⟨a5, c5, hv5⟩ := HO'.out.slice (n := ((among.take k).filter fun n => hasB l n most).length + 1) (by simp)
        subst hv0 hv5
        go_wp2_with (at_builtin; refine wpList_append_run rfl rfl HR'.out ?_)
        go_roundw
        case rel => exact ⟨k + 1, by omega, by go_num, by rw [HN.out, HBB.out]; exact HO'.out, HB'.out⟩
        case measure => simp [intOf]; omega
    · have hlt' : ¬ (k : Int) < among.length := by omega
      have e : among.take k = among := List.take_of_length_le (by omega)
      rw [e] at HO
      go_wp2_with fail
      go_ret
      exact ⟨⟨_, rfl, HO.out.base HB2.out.size⟩, HB2.out.trans (HB.out.mono HB2.out.size)⟩
end Go.Proofs.YtiiegjdclpkeeaaDoor
