/- What this text holds: the fields of a text, with their lines. -/
import Derived.Test.YtaniljfjmbifnaaGreatDoorHM3
namespace Go.Proofs.YtaniljfjmbifnaaGreatDoor.H
open Go.RowKit
set_option linter.unusedVariables false
set_option linter.unusedSimpArgs false

/-- A field's record: its name, its value, its lines. -/
def entR (e : Bs × Bs) : List Bs := [e.1, bare (e.2.drop (e.1.length + 1)), e.2]
theorem entR_wd (l : List (Bs × Bs)) : Wd 3 (l.map entR) := by
  intro r hr
  obtain ⟨e, _, rfl⟩ := List.mem_map.1 hr
  rfl
theorem nameB_lt (l : Bs) (h : nameB l ≠ []) : (nameB l).length < l.length := by
  unfold nameB at *
  split at h
  · rename_i h1; rw [if_pos h1]; exact h1.1
  · exact absurd rfl h
theorem ents_no {t : Bs} (h : t ≠ []) (hn : nameB (t.take (ln t)) = []) : ents t = ents (t.drop (ln t)) := by rw [ents_step t h, if_pos hn]
theorem ents_yes {t : Bs} (h : t ≠ []) (hn : nameB (t.take (ln t)) ≠ []) : ents t = (nameB (t.take (ln t)), t.take (fl t)) :: ents (t.drop (fl t)) := by rw [ents_step t h, if_neg hn]
theorem TAt.lineRO {w : World} {b : Nat} {l : Bs} (h : TAt w b l) (hl : l.length ≤ 10000000) {B T k : Nat} {v : Value} {L : List (List Bs)} (ho : RO w B T k v L) (hT : 123 ≠ T) (hB : B ≤ b) :
    Calls Tryz.prog 98 #[.pointer (some ⟨b, 0, none⟩)] w fun e w' => e = .returned (.string (str (l.take (ln l)))) ∧ TAt w' b (l.drop (ln l)) ∧ RO w' B T k v L ∧ Below B w w' := by
  refine (line_any h.cell.1 h.cell.2 hl).mono ?_
  rintro e w' ⟨rfl, rfl⟩
  exact ⟨rfl, h.set _, ho.setOther hT h.at_ _ _, (Below.refl _ _).setCell hB _⟩
/-- One more field. -/
theorem ent_more {w : World} {B b : Nat} {t : Bs} {v : Value} {L : List (Bs × Bs)} (ho : RO w B 127 3 v (L.map entR)) (hBw : B ≤ w.heap.size) (ht : TAt w b t) (hl : L.length ≤ 10000000) (e : Bs × Bs) (x y z : Bs) (hx : entR e = [x, y, z]) :
    ∃ v' w', (Builtin.append_ #[124, 124] 124 #[v, .slice (some ⟨w.heap.size, 0, none⟩) 1 1]).run Tryz.prog (w.alloc (.cells #[.string (str x), .string (str y), .string (str z)] 127)) = .ok v' w' ∧ RO w' B 127 3 v' ((L ++ [e]).map entR) ∧ TAt w' b t ∧ Below B w w' := by
  have hb : Below w.heap.size w (w.alloc (.cells #[.string (str x), .string (str y), .string (str z)] 127)) := (Below.refl _ _).alloc (Nat.le_refl _) _
  have hr := ra_one w (entR e) 127
  rw [hx] at hr
  have ho2 := ho.later hb
  obtain ⟨v', w', h1, h2, h3, h4⟩ := ro_more Tryz.underlying124 Tryz.info127 rfl (by omega) (by omega) ho2 (Nat.le_trans hBw hb.size) hr (by simpa using hl) (by simp) (by simp)
  refine ⟨v', w', h1, ?_, ?_, (hb.mono hBw).trans h3⟩
  · rw [List.map_append, List.map_singleton, hx]; exact h2
  · have h5 := ht.later hb
    exact ⟨(h4.block b h5.lt (fun e => ho2.ne (by decide) h5.at_ e.symm)).trans h5.at_⟩

set_option maxRecDepth 100000 in
set_option maxHeartbeats 4000000 in
theorem entries_any (s : Bs) {w : World} (he : Env w) (hs : s.length ≤ 1000000) :
    Calls Tryz.prog 100 #[.string (str s)] w fun e w' => (∃ v, e = .returned v ∧ RO w' w.heap.size 127 3 v ((ents s).map entR)) ∧ Below w.heap.size w w' := by
  have HT0 : Hid (TAt (w.alloc (.cells #[.string (str s)] 123)) w.heap.size s) := ⟨heap_alloc_new _ _⟩
  have HB0 : Hid (Below w.heap.size w (w.alloc (.cells #[.string (str s)] 123))) := (Below.refl _ _).alloc (Nat.le_refl _) _
  have HE := hid he
  have hpos := he.pos
  clear he
  go_enter Tryz.func100, Tryz.ntmps100
  go_wp2_with fail
  go_loopw [3] (fun v wr => ∃ (k : Nat) (L : List (Bs × Bs)), k ≤ s.length ∧ L.length ≤ k ∧ TAt wr w.heap.size (s.drop k) ∧ RO wr w.heap.size 127 3 v (L.map entR) ∧ Below w.heap.size w wr ∧ L ++ ents (s.drop k) = ents s) (fun _ wr => leftN w.heap.size wr)
  case atStart => exact ⟨0, [], by omega, by simp, HT0.out, RO.nil _ _ _ _, HB0.out, by simp⟩
  case round =>
    obtain ⟨k, L, hk, hL, ht, ho, hb, hd⟩ := hrel
    have HMe := hid (leftN_is ht.cell.1)
    have hdl : (s.drop k).length = s.length - k := by simp
    have HDr : Hid (∀ m, (s.drop k).drop m = s.drop (k + m)) := fun m => List.drop_drop
    generalize s.drop k = t at *
    have HT := hid ht
    have HO := hid ho
    have HB := hid hb
    have HD := hid hd
    clear ht ho hb hd HT0 HB0
    by_cases h0 : t = []
    · subst h0
      have HC := hid (more_no_any HT.out.cell.1)
      go_wp2_with fail
      refine HC.out.mono ?_
      rintro e w1 ⟨rfl, rfl⟩
      go_wp2_with fail
      go_ret
      have e := HD.out
      rw [ents_nil, List.append_nil] at e
      rw [← e]
      exact ⟨⟨_, rfl, HO.out⟩, HB.out⟩
    · have HN0 := hid h0
      obtain ⟨c, l, hcl⟩ : ∃ c l, t = c :: l := by
        cases t with
        | nil => exact absurd rfl h0
        | cons c l => exact ⟨c, l, rfl⟩
      have HC : Hid (Calls Tryz.prog 96 #[.pointer (some ⟨w.heap.size, 0, none⟩)] wr fun e w' => e = .returned (.bool true) ∧ w' = wr) := by
        have hT := HT.out
        rw [hcl] at hT
        exact more_yes_any hT.cell.1
      have hlp := ln_pos _ h0
      have hll := ln_le t
      have hcell := HT.out.cell.1
      have HLn := hid (HT.out.lineRO (by omega) HO.out (by decide) (Nat.le_refl _))
      clear hcl h0
      have HNo := hid (ents_no HN0.out)
      have HYes := hid (ents_yes HN0.out)
      have HNl := hid (nameB_lt (t.take (ln t)))
      have hnl : (t.take (ln t)).length = ln t := by rw [List.length_take]; omega
      go_wp2_with fail
      refine HC.out.mono ?_
      rintro e w1 ⟨rfl, rfl⟩
      go_wp2_with fail
      refine HLn.out.mono ?_
      rintro e w2 ⟨rfl, h2, o2, hb2⟩
      have H2 := hid h2
      have O2 := hid o2
      have HB2 := hid (HB.out.trans hb2)
      clear h2 o2 hb2
      have HCb := hid (begin_any (t.take (ln t)) (HE.out.below HB2.out hpos) (by omega))
      clear hcell
      by_cases hn : nameB (t.take (ln t)) = []
      · have HX := hid (HNo.out hn)
        rw [hn, show decide (([] : Bs) ≠ []) = false by simp] at HCb
        clear hn
        go_wp2_with fail
        refine HCb.out.mono ?_
        rintro e w3 ⟨rfl, ⟨nq, rfl⟩⟩
        go_wp2_with fail
        go_roundw
        case rel =>
          refine ⟨k + ln t, L, by omega, by omega, ?_, O2.out.drewN _, HB2.out.trans (drewN_below _ _ _), ?_⟩
          · have := H2.out.drewN nq
            rw [HDr.out] at this
            exact this
          · rw [← HDr.out, ← HX.out]; exact HD.out
        case measure =>
          rw [HMe.out, leftN_is (H2.out.drewN nq).cell.1, List.length_drop]
          omega
      · have HX := hid (HYes.out hn)
        have hlt := HNl.out hn
        rw [show decide (nameB (t.take (ln t)) ≠ []) = true by simp [hn]] at HCb
        clear hn HNo HYes HNl
        rw [hnl] at hlt
        clear hnl
        generalize nameB (t.take (ln t)) = nm at *
        have hfl := fl_le t
        have hfp := fl_pos t HN0.out
        have HFl : Hid (fl t = ln t + more (t.drop (ln t))) := rfl
        go_wp2_with fail
        refine HCb.out.mono ?_
        rintro e w3 ⟨rfl, ⟨nq, rfl⟩⟩
        have H3 := hid (H2.out.drewN nq)
        have O3 := hid (O2.out.drewN nq)
        have HB3 := hid (HB2.out.trans (drewN_below _ nq _))
        clear H2 O2 HB2 HCb
        generalize w2.drewN nq = w3 at *
        have hmo := more_le _ (t.drop (ln t)) (Nat.le_refl _)
        have hdl2 : (t.drop (ln t)).length = t.length - ln t := List.length_drop
        generalize hq : t.drop (ln t) = q at HFl hmo hdl2 H3
        have HQ : Hid (q = t.drop (ln t)) := hq.symm
        clear hq
        go_wp2_with fail
        go_loopw [] (fun w4 => ∃ j : Nat, j ≤ q.length ∧ TAt w4 w.heap.size (q.drop j) ∧ RO w4 w.heap.size 127 3 u3 (L.map entR) ∧ Below w.heap.size w w4 ∧ j + more (q.drop j) = more q) (fun w4 => leftN w.heap.size w4)
        case atStart => exact ⟨0, by omega, H3.out, O3.out, HB3.out, by simp⟩
        case round =>
          obtain ⟨j, hj, h4, o4, hb4, hm4⟩ := hrel
          have HMe4 := hid (leftN_is h4.cell.1)
          have hdl4 : (q.drop j).length = q.length - j := List.length_drop
          have HDr4 : Hid (∀ m, (q.drop j).drop m = q.drop (j + m)) := fun m => List.drop_drop
          have HDt : Hid (q.drop j = t.drop (ln t + j)) := by rw [Hid, HQ.out, List.drop_drop]
          generalize hr : q.drop j = r at *
          have H4 := hid h4
          have O4 := hid o4
          have HB4 := hid hb4
          have HM4 := hid hm4
          clear h4 o4 hb4 hm4 H3 O3 HB3
          have HG := hid (goesOn_any H4.out.cell.1 (by omega))
          rcases hcn : cont r
          · rw [hcn] at HG
            have HK : Hid (j = more q) := by have := HM4.out; rw [more_no r hcn, Nat.add_zero] at this; exact this
            have hTf : TAt wr w.heap.size (t.drop (fl t)) := by
              have := H4.out
              rw [HDt.out, HK.out, ← HFl.out] at this
              exact this
            have HTf := hid hTf
            have HBe := hid (behind_any t (fl t) hfl hTf.cell.1 (by omega))
            have HTL : Hid ((t.take (fl t)).length = fl t) := by rw [Hid, List.length_take]; omega
            have hts := str_size (t.take (fl t))
            rw [HTL.out] at hts
            have hns := str_size nm
            have HDs : Hid ((str (t.take (fl t))).extract (nm.length + 1) (fl t) = str ((t.take (fl t)).drop (nm.length + 1))) := by
              have := drop_str (t.take (fl t)) (nm.length + 1)
              rw [str_size, HTL.out] at this
              exact this
            have hnf : nm.length + 1 ≤ fl t := by have := HFl.out; omega
            have HEn := hid (fun W => endless_any ((t.take (fl t)).drop (nm.length + 1)) W (by rw [List.length_drop, HTL.out]; omega))
            obtain ⟨v5, w5, hr5, o5, h5, hb5⟩ := ent_more O4.out (Nat.le_trans (Nat.le_refl _) HB4.out.size) HTf.out (by omega) (nm, t.take (fl t)) nm (bare ((t.take (fl t)).drop (nm.length + 1))) (t.take (fl t)) rfl
            have HR5 := hid hr5
            have O5 := hid o5
            have H5 := hid h5
            have HB5 := hid (HB4.out.trans hb5)
            clear hr5 o5 h5 hb5 hTf hcn
            obtain ⟨a0, c0, hv0⟩ := O4.out.slice
            obtain ⟨a5, c5, hv5⟩ := O5.out.slice
            subst hv0 hv5
            rw [List.length_map] at *
            generalize t.take (fl t) = ls at *
            generalize hvv : bare (ls.drop (nm.length + 1)) = vv at *
            go_wp2_with fail
            refine HG.out.mono ?_
            rintro e w1 ⟨rfl, rfl⟩
            go_wp2_with fail
            refine HBe.out.mono ?_
            rintro e w1 ⟨rfl, rfl⟩
            go_wp2_with fail
            rw [HDs.out]
            refine (HEn.out _).mono ?_
            rintro e w1 ⟨rfl, rfl⟩
            go_wp2_with (at_builtin; refine wpList_append_run rfl rfl HR5.out ?_)
            go_roundw
            case rel =>
              refine ⟨k + fl t, L ++ [(nm, ls)], by omega, by simp; omega, ?_, by have := O5.out; simp only [List.length_append, List.length_singleton] at this; exact this, HB5.out, ?_⟩
              · rw [← HDr.out]; exact H5.out
              · rw [← HDr.out, List.append_assoc, List.singleton_append, ← HX.out]; exact HD.out
            case measure =>
              rw [HMe.out, leftN_is H5.out.cell.1, List.length_drop]
              omega
          · rw [hcn] at HG
            have HK := hid (more_yes r hcn)
            have hlp4 := ln_pos r (cont_ne hcn)
            have hll4 := ln_le r
            have HLn4 := hid (H4.out.lineRO (by omega) O4.out (by decide) (Nat.le_refl _))
            clear hcn
            go_wp2_with fail
            refine HG.out.mono ?_
            rintro e w1 ⟨rfl, rfl⟩
            go_wp2_with fail
            refine HLn4.out.mono ?_
            rintro e w5 ⟨rfl, h5, o5, hb5⟩
            have H5 := hid h5
            have O5 := hid o5
            have HB5 := hid (HB4.out.trans hb5)
            clear h5 o5 hb5
            go_wp2_with fail
            go_roundw
            case rel =>
              refine ⟨j + ln r, by omega, ?_, O5.out, HB5.out, ?_⟩
              · rw [← HDr4.out]; exact H5.out
              · rw [← HDr4.out]; have := HM4.out; have := HK.out; omega
            case measure =>
              rw [HMe4.out, leftN_is H5.out.cell.1, List.length_drop]
              omega
end Go.Proofs.YtaniljfjmbifnaaGreatDoor.H
