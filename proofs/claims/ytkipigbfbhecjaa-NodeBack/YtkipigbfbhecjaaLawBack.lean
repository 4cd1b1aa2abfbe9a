/- Proved here: a node is read from its content as it was; what is read has that content, if it is not too long (NodeBack returns true for every input, and leaves its arguments as they were). No condition. -/
import Derived.Test.YtkipigbfbhecjaaRows
import Derived.Test.YtkipigbfbhecjaaN17
import Derived.Test.YtkipigbfbhecjaaN19
import Derived.Test.YtkipigbfbhecjaaN20
import Derived.Test.YtkipigbfbhecjaaN22
import Derived.Test.YtkipigbfbhecjaaN27
import Derived.ProofKit
import Derived.ShutString
import Derived.ChangeOld
import Derived.Below
namespace Go.Proofs.Ytkipigbfbhecjaa.nodeBack
open Go.ChangeShapes Go.WideShapes Go.ChangeAt Go.RowKit
set_option linter.unusedVariables false

theorem alive_any (w : World) : Calls Try.prog 11 #[] w fun e w' => e = .returned (.bool true) ∧ Below w.heap.size w w' := alive_of (fun _ _ _ h s => split_any h s) w
/-- What Encode answers, in three ways. -/
theorem enc_three (n : Nd) (hk : n.keys.length ≤ 65535) : encV n = .tuple #[.int .i64 0, .string ⟨#[]⟩, .int .i64 2] ∧ rightB n = false ∨ encV n = .tuple #[.int .i64 0, .string ⟨#[]⟩, .int .i64 4] ∧ 492 < sizeN n n.keys.length ∨
    encV n = .tuple #[.int .i64 (if n.leaf then 1 else 2), .string (strOf (contentL n)), .int .i64 0] ∧ rightB n = true ∧ sizeN n n.keys.length ≤ 492 := by
  unfold encV
  cases h : rightB n with
  | false => exact .inl ⟨rfl, rfl⟩
  | true =>
    by_cases h4 : 492 < sizeN n n.keys.length
    · exact .inr (.inl ⟨by rw [if_pos rfl, if_pos h4], h4⟩)
    · exact .inr (.inr ⟨by rw [if_pos rfl, if_neg h4], rfl, by omega⟩)
/-- The second half: what any kind and content are. -/
def TailP (w : World) (e : Ending) (w' : World) : Prop := e = .returned (.bool true) ∧ Below w.heap.size w w'

theorem encV_ok {n : Nd} (h : rightB n = true) : encV n = if 492 < sizeN n n.keys.length then .tuple #[.int .i64 0, .string ⟨#[]⟩, .int .i64 4] else .tuple #[.int .i64 (if n.leaf then 1 else 2), .string (strOf (contentL n)), .int .i64 0] := by
  unfold encV; rw [if_pos h]

set_option maxRecDepth 100000 in
set_option maxHeartbeats 8000000 in
theorem walk {w : World} {v : Value} {n : Nd} (h : NAt w v n) (kind : Int) (s : ByteArray) (hss : s.size ≤ maxLen) : Calls Try.prog 6 #[v, .int .i64 kind, .string s] w fun e w' => e = .returned (.bool true) ∧ Below w.heap.size w w' := by
  obtain ⟨ka, kp, ia, ep, da, dp, rfl, _⟩ := h.at_
  unfold maxLen at hss
  have HN := hid (h.later (below_box w (.cells #[.bool n.leaf, .slice ka n.keys.length kp, .slice ia n.items.length ep, .slice da n.kids.length dp] 26)))
  have HB0 := hid (below_box w (.cells #[.bool n.leaf, .slice ka n.keys.length kp, .slice ia n.items.length ep, .slice da n.kids.length dp] 26))
  have HX := hid (@box4 w _ _ _ _ _ _ (Below.refl (w.alloc (.cells #[.bool n.leaf, .slice ka n.keys.length kp, .slice ia n.items.length ep, .slice da n.kids.length dp] 26)).heap.size _))
  clear h
  unfold nv at HN ⊢
  go_enter Try.func6, Try.ntmps6
  go_wp2_with fail
  generalize w.alloc (.cells #[.bool n.leaf, .slice ka n.keys.length kp, .slice ia n.items.length ep, .slice da n.kids.length dp] 26) = W at HB0 HX HN ⊢
  have hB : w.heap.size ≤ W.heap.size := HB0.out.size
  generalize hBe : w.heap.size = B at HB0 HX hB ⊢
  refine (few_any HN.out).mono ?_
  rintro e w1 ⟨b, rfl, hf, hb1⟩
  have HB1 := hid hb1
  obtain ⟨x0, x1, x2, x3⟩ := HX.out
  clear hb1
  cases b with
  | false =>
    clear hf
    go_wp2_with (first | (go_at_call 11; refine (alive_any _).mono ?_; rintro e w2 ⟨rfl, hb2⟩; have HB2 := hid (HB1.out.trans (hb2.mono HB1.out.size)); clear hb2))
    go_ret
    exact ⟨rfl, below3 hBe HB0.out hB HB2.out⟩
  | true =>
    obtain ⟨f1, f2, f3⟩ := hf rfl
    have HSm : Hid n.small := ⟨by omega, by omega, by omega⟩
    clear f2 f3 hf
    by_cases h2 : (20000 : Int) < s.size
    · go_wp2_with (first | (go_at_call 11; refine (alive_any _).mono ?_; rintro e w2 ⟨rfl, hb2⟩; have HB2 := hid (HB1.out.trans (hb2.mono HB1.out.size)); clear hb2))
      go_ret
      exact ⟨rfl, below3 hBe HB0.out hB HB2.out⟩
    · have c0 := cell_later HB1.out x0
      have c1 := cell_later HB1.out x1
      have c2 := cell_later HB1.out x2
      have c3 := cell_later HB1.out x3
      go_wp2_with fail
      refine (encode_any (HN.out.later HB1.out) HSm.out).mono ?_
      rcases enc_three n (by omega) with ⟨he, _⟩ | ⟨he, _⟩ | ⟨he, hr, h49⟩
      · rw [he]
        clear he
        rintro e w2 ⟨rfl, hb2⟩
        have HB2 := hid (HB1.out.trans (hb2.mono HB1.out.size))
        clear hb2 c0 c1 c2 c3
        go_wp2_with (first | (go_at_call 18; refine (no_any _ _).mono ?_; rintro e wz ⟨rfl, rfl⟩))
        refine (decode_any _ kind s (by omega)).mono ?_
        rintro e w5 hdp
        rcases hdp with ⟨leaf, hkd, hdb, hsmM, hlfM, vM, rfl, hvM, hbM⟩ | ⟨_, vM, rfl, hvM, hbM⟩
        · have HB5 := hid (HB2.out.trans (hbM.mono HB2.out.size))
          obtain ⟨ma, mp, mia, mip, mda, mdp, rfl, _⟩ := hvM.at_
          have hright : rightB (readN leaf s) = true := by unfold decB at hdb; rw [Bool.and_eq_true] at hdb; exact hdb.1
          have hcont : strOf (contentL (readN leaf s)) = s := by unfold decB at hdb; rw [Bool.and_eq_true] at hdb; exact toList_inj (eq_of_beq hdb.2)
          have hsz := content_size (readN leaf s)
          rw [hcont] at hsz
          have hkm := hsmM.k
          have HEn := hid (encV_ok hright)
          rw [hcont, hlfM, ← hkd] at HEn
          have HSmM := hid hsmM
          have HRt := hid hright
          clear hdb hright hcont hsmM hlfM hbM hkd
          generalize readN leaf s = m at *
          have HVM := hid (hvM.later (below_box w5 (.cells #[.bool m.leaf, .slice ma m.keys.length mp, .slice mia m.items.length mip, .slice mda m.kids.length mdp] 26)))
          have HBM := hid (below_box w5 (.cells #[.bool m.leaf, .slice ma m.keys.length mp, .slice mia m.items.length mip, .slice mda m.kids.length mdp] 26))
          have HXM := hid (@box4 w5 _ _ _ _ _ _ (Below.refl (w5.alloc (.cells #[.bool m.leaf, .slice ma m.keys.length mp, .slice mia m.items.length mip, .slice mda m.kids.length mdp] 26)).heap.size _))
          clear hvM
          unfold nv at HVM ⊢
          go_wp2_with (first | (go_at_call 18; refine (no_any _ _).mono ?_; rintro e wz ⟨rfl, rfl⟩))
          generalize w5.alloc (.cells #[.bool m.leaf, .slice ma m.keys.length mp, .slice mia m.items.length mip, .slice mda m.kids.length mdp] 26) = V5 at HVM HBM HXM ⊢
          have hV5 : w5.heap.size ≤ V5.heap.size := HBM.out.size
          generalize hMe : w5.heap.size = M at HXM HBM hV5 ⊢
          have HB5V := hid (HB5.out.trans (HBM.out.mono (hMe ▸ HB5.out.size)))
          obtain ⟨y0, y1, y2, y3⟩ := HXM.out
          refine (encode_any HVM.out HSmM.out).mono ?_
          rw [HEn.out]
          by_cases h4 : 492 < sizeN m m.keys.length
          · rw [if_pos h4]
            rintro e w6 ⟨rfl, hb6⟩
            have HB6 := hid (HB5V.out.trans (hb6.mono HB5V.out.size))
            clear hb6
            have h4' : (492 : Int) < s.size := by omega
            go_wp2_with (first | (go_at_call 18; refine (no_any _ _).mono ?_; rintro e wz ⟨rfl, rfl⟩) | (go_at_call 11; refine (alive_any _).mono ?_; rintro e w7 ⟨rfl, hb7⟩; have HB7 := hid (HB6.out.trans (hb7.mono HB6.out.size)); clear hb7))
            go_ret
            exact ⟨rfl, below3 hBe HB0.out hB HB7.out⟩
          · rw [if_neg h4]
            rintro e w6 ⟨rfl, hb6⟩
            have HV6 := hid (HVM.out.later hb6)
            have d0 := cell_later hb6 y0
            have d1 := cell_later hb6 y1
            have d2 := cell_later hb6 y2
            have d3 := cell_later hb6 y3
            have HB6 := hid (HB5V.out.trans (hb6.mono HB5V.out.size))
            clear hb6
            have HRr := hid (right_any HV6.out HSmM.out)
            rw [HRt.out] at HRr
            go_wp2_with (first | (go_at_call 18; refine (no_any _ _).mono ?_; rintro e wz ⟨rfl, rfl⟩) | (go_at_call 12; refine HRr.out.mono ?_; rintro e w7 ⟨rfl, hb7⟩; have HB7 := hid (HB6.out.trans (hb7.mono HB6.out.size)); clear hb7) | (go_at_call 11; refine (alive_any _).mono ?_; rintro e w8 ⟨rfl, hb8⟩; have HB8 := hid (HB7.out.trans (hb8.mono HB7.out.size)); clear hb8))
            go_ret
            exact ⟨rfl, below3 hBe HB0.out hB HB8.out⟩
        · have HB5 := hid (HB2.out.trans (hbM.mono HB2.out.size))
          obtain ⟨ma, mp, mia, mip, mda, mdp, rfl, _⟩ := hvM.at_
          clear hvM hbM
          unfold nv
          have HBM := hid (below_box w5 (.cells #[.bool (Nd.mk false [] [] []).leaf, .slice ma (Nd.mk false [] [] []).keys.length mp, .slice mia (Nd.mk false [] [] []).items.length mip, .slice mda (Nd.mk false [] [] []).kids.length mdp] 26))
          have HB6 := hid (HB5.out.trans (HBM.out.mono HB5.out.size))
          go_wp2_with (first | (go_at_call 18; refine (no_any _ _).mono ?_; rintro e wz ⟨rfl, rfl⟩) | (go_at_call 11; refine (alive_any _).mono ?_; rintro e w8 ⟨rfl, hb8⟩; have HB8 := hid (HB6.out.trans (hb8.mono HB6.out.size)); clear hb8))
          go_ret
          exact ⟨rfl, below3 hBe HB0.out hB HB8.out⟩
      · rw [he]
        clear he
        rintro e w2 ⟨rfl, hb2⟩
        have HB2 := hid (HB1.out.trans (hb2.mono HB1.out.size))
        clear hb2 c0 c1 c2 c3
        go_wp2_with (first | (go_at_call 18; refine (no_any _ _).mono ?_; rintro e wz ⟨rfl, rfl⟩))
        refine (decode_any _ kind s (by omega)).mono ?_
        rintro e w5 hdp
        rcases hdp with ⟨leaf, hkd, hdb, hsmM, hlfM, vM, rfl, hvM, hbM⟩ | ⟨_, vM, rfl, hvM, hbM⟩
        · have HB5 := hid (HB2.out.trans (hbM.mono HB2.out.size))
          obtain ⟨ma, mp, mia, mip, mda, mdp, rfl, _⟩ := hvM.at_
          have hright : rightB (readN leaf s) = true := by unfold decB at hdb; rw [Bool.and_eq_true] at hdb; exact hdb.1
          have hcont : strOf (contentL (readN leaf s)) = s := by unfold decB at hdb; rw [Bool.and_eq_true] at hdb; exact toList_inj (eq_of_beq hdb.2)
          have hsz := content_size (readN leaf s)
          rw [hcont] at hsz
          have hkm := hsmM.k
          have HEn := hid (encV_ok hright)
          rw [hcont, hlfM, ← hkd] at HEn
          have HSmM := hid hsmM
          have HRt := hid hright
          clear hdb hright hcont hsmM hlfM hbM hkd
          generalize readN leaf s = m at *
          have HVM := hid (hvM.later (below_box w5 (.cells #[.bool m.leaf, .slice ma m.keys.length mp, .slice mia m.items.length mip, .slice mda m.kids.length mdp] 26)))
          have HBM := hid (below_box w5 (.cells #[.bool m.leaf, .slice ma m.keys.length mp, .slice mia m.items.length mip, .slice mda m.kids.length mdp] 26))
          have HXM := hid (@box4 w5 _ _ _ _ _ _ (Below.refl (w5.alloc (.cells #[.bool m.leaf, .slice ma m.keys.length mp, .slice mia m.items.length mip, .slice mda m.kids.length mdp] 26)).heap.size _))
          clear hvM
          unfold nv at HVM ⊢
          go_wp2_with (first | (go_at_call 18; refine (no_any _ _).mono ?_; rintro e wz ⟨rfl, rfl⟩))
          generalize w5.alloc (.cells #[.bool m.leaf, .slice ma m.keys.length mp, .slice mia m.items.length mip, .slice mda m.kids.length mdp] 26) = V5 at HVM HBM HXM ⊢
          have hV5 : w5.heap.size ≤ V5.heap.size := HBM.out.size
          generalize hMe : w5.heap.size = M at HXM HBM hV5 ⊢
          have HB5V := hid (HB5.out.trans (HBM.out.mono (hMe ▸ HB5.out.size)))
          obtain ⟨y0, y1, y2, y3⟩ := HXM.out
          refine (encode_any HVM.out HSmM.out).mono ?_
          rw [HEn.out]
          by_cases h4 : 492 < sizeN m m.keys.length
          · rw [if_pos h4]
            rintro e w6 ⟨rfl, hb6⟩
            have HB6 := hid (HB5V.out.trans (hb6.mono HB5V.out.size))
            clear hb6
            have h4' : (492 : Int) < s.size := by omega
            go_wp2_with (first | (go_at_call 18; refine (no_any _ _).mono ?_; rintro e wz ⟨rfl, rfl⟩) | (go_at_call 11; refine (alive_any _).mono ?_; rintro e w7 ⟨rfl, hb7⟩; have HB7 := hid (HB6.out.trans (hb7.mono HB6.out.size)); clear hb7))
            go_ret
            exact ⟨rfl, below3 hBe HB0.out hB HB7.out⟩
          · rw [if_neg h4]
            rintro e w6 ⟨rfl, hb6⟩
            have HV6 := hid (HVM.out.later hb6)
            have d0 := cell_later hb6 y0
            have d1 := cell_later hb6 y1
            have d2 := cell_later hb6 y2
            have d3 := cell_later hb6 y3
            have HB6 := hid (HB5V.out.trans (hb6.mono HB5V.out.size))
            clear hb6
            have HRr := hid (right_any HV6.out HSmM.out)
            rw [HRt.out] at HRr
            go_wp2_with (first | (go_at_call 18; refine (no_any _ _).mono ?_; rintro e wz ⟨rfl, rfl⟩) | (go_at_call 12; refine HRr.out.mono ?_; rintro e w7 ⟨rfl, hb7⟩; have HB7 := hid (HB6.out.trans (hb7.mono HB6.out.size)); clear hb7) | (go_at_call 11; refine (alive_any _).mono ?_; rintro e w8 ⟨rfl, hb8⟩; have HB8 := hid (HB7.out.trans (hb8.mono HB7.out.size)); clear hb8))
            go_ret
            exact ⟨rfl, below3 hBe HB0.out hB HB8.out⟩
        · have HB5 := hid (HB2.out.trans (hbM.mono HB2.out.size))
          obtain ⟨ma, mp, mia, mip, mda, mdp, rfl, _⟩ := hvM.at_
          clear hvM hbM
          unfold nv
          have HBM := hid (below_box w5 (.cells #[.bool (Nd.mk false [] [] []).leaf, .slice ma (Nd.mk false [] [] []).keys.length mp, .slice mia (Nd.mk false [] [] []).items.length mip, .slice mda (Nd.mk false [] [] []).kids.length mdp] 26))
          have HB6 := hid (HB5.out.trans (HBM.out.mono HB5.out.size))
          go_wp2_with (first | (go_at_call 18; refine (no_any _ _).mono ?_; rintro e wz ⟨rfl, rfl⟩) | (go_at_call 11; refine (alive_any _).mono ?_; rintro e w8 ⟨rfl, hb8⟩; have HB8 := hid (HB6.out.trans (hb8.mono HB6.out.size)); clear hb8))
          go_ret
          exact ⟨rfl, below3 hBe HB0.out hB HB8.out⟩
      · rw [he]
        clear he
        rintro e w2 ⟨rfl, hb2⟩
        have HB2 := hid (HB1.out.trans (hb2.mono HB1.out.size))
        clear hb2 c0 c1 c2 c3
        have hcs := content_size n
        have hbk := read_back (ri_of hr) (by omega)
        have hdbk := dec_back (ri_of hr) (by omega)
        have hdec := decode_any w2 (if n.leaf then 1 else 2) (strOf (contentL n)) (by omega)
        have HBk := hid hbk
        have HDb := hid hdbk
        have HDec := hid hdec
        have hszn : sizeB n = sizeN n n.keys.length := by unfold sizeB; rw [if_pos hr]
        have HSz := hid hszn
        clear hbk hdbk hdec hszn hr
        generalize hT : strOf (contentL n) = T at *
        clear hT
        generalize hK : (if n.leaf then (1 : Int) else 2) = K at *
        have HKK := hid hK
        clear hK
        go_wp2_with (first | (go_at_call 18; refine (no_any _ _).mono ?_; rintro e wz ⟨rfl, rfl⟩))
        refine HDec.out.mono ?_
        rintro e w3 hdp
        rcases hdp with ⟨leaf, hkd, _, hsmL, hlfL, vL, rfl, hvL, hbL⟩ | ⟨hno, _⟩
        · have hlf : leaf = n.leaf := by
            have := HKK.out
            rw [hkd] at this
            cases leaf <;> cases hh : n.leaf <;> simp [hh] at this ⊢
          subst hlf
          rw [HBk.out] at hvL
          have HB3 := hid (HB2.out.trans (hbL.mono HB2.out.size))
          obtain ⟨la, lp, lia, lip, lda, ldp, rfl, _⟩ := hvL.at_
          have HVL := hid (hvL.later (below_box w3 (.cells #[.bool n.leaf, .slice la n.keys.length lp, .slice lia n.items.length lip, .slice lda n.kids.length ldp] 26)))
          have HBL := hid (below_box w3 (.cells #[.bool n.leaf, .slice la n.keys.length lp, .slice lia n.items.length lip, .slice lda n.kids.length ldp] 26))
          have HXL := hid (@box4 w3 _ _ _ _ _ _ (Below.refl (w3.alloc (.cells #[.bool n.leaf, .slice la n.keys.length lp, .slice lia n.items.length lip, .slice lda n.kids.length ldp] 26)).heap.size _))
          clear hvL hbL hkd hsmL hlfL
          unfold nv at HVL ⊢
          have HB3V0 := hid (HB3.out.trans (HBL.out.mono HB3.out.size))
          have HNL := hid (HN.out.later HB3V0.out)
          have HSame := hid (same_yes HNL.out HVL.out HSm.out)
          have z0 := cell_later HB3.out x0
          have z1 := cell_later HB3.out x1
          have z2 := cell_later HB3.out x2
          have z3 := cell_later HB3.out x3
          have Z0 := cell_later HB3V0.out x0
          have Z1 := cell_later HB3V0.out x1
          have Z2 := cell_later HB3V0.out x2
          have Z3 := cell_later HB3V0.out x3
          go_wp2_with (first | (go_at_call 18; refine (no_any _ _).mono ?_; rintro e wz ⟨rfl, rfl⟩))
          refine HSame.out.mono ?_
          generalize w3.alloc (.cells #[.bool n.leaf, .slice la n.keys.length lp, .slice lia n.items.length lip, .slice lda n.kids.length ldp] 26) = V3 at HVL HBL HXL HB3V0 HNL HSame Z0 Z1 Z2 Z3 ⊢
          rintro e w4 ⟨rfl, hb4⟩
          have HB4 := hid (HB3V0.out.trans (hb4.mono HB3V0.out.size))
          clear hb4 z0 z1 z2 z3 Z0 Z1 Z2 Z3
          have z0 := cell_later HB4.out x0
          have z1 := cell_later HB4.out x1
          have z2 := cell_later HB4.out x2
          have z3 := cell_later HB4.out x3
          go_wp2_with fail
          refine (size_any (HN.out.later HB4.out) HSm.out).mono ?_
          rw [HSz.out, ← hcs]
          rintro e wS ⟨rfl, hbS⟩
          have HBS := hid (HB4.out.trans (hbS.mono HB4.out.size))
          clear hbS z0 z1 z2 z3
          have hT4 : ¬ (492 : Int) < T.size := by omega
          have hcs' := hid hcs
          clear hcs
          go_wp2_with fail
          refine (decode_any _ kind s (by omega)).mono ?_
          rintro e w5 hdp
          rcases hdp with ⟨leaf, hkd, hdb, hsmM, hlfM, vM, rfl, hvM, hbM⟩ | ⟨_, vM, rfl, hvM, hbM⟩
          · have HB5 := hid (HBS.out.trans (hbM.mono HBS.out.size))
            obtain ⟨ma, mp, mia, mip, mda, mdp, rfl, _⟩ := hvM.at_
            have hright : rightB (readN leaf s) = true := by unfold decB at hdb; rw [Bool.and_eq_true] at hdb; exact hdb.1
            have hcont : strOf (contentL (readN leaf s)) = s := by unfold decB at hdb; rw [Bool.and_eq_true] at hdb; exact toList_inj (eq_of_beq hdb.2)
            have hsz := content_size (readN leaf s)
            rw [hcont] at hsz
            have hkm := hsmM.k
            have HEn := hid (encV_ok hright)
            rw [hcont, hlfM, ← hkd] at HEn
            have HSmM := hid hsmM
            have HRt := hid hright
            clear hdb hright hcont hsmM hlfM hbM hkd
            generalize readN leaf s = m at *
            have HVM := hid (hvM.later (below_box w5 (.cells #[.bool m.leaf, .slice ma m.keys.length mp, .slice mia m.items.length mip, .slice mda m.kids.length mdp] 26)))
            have HBM := hid (below_box w5 (.cells #[.bool m.leaf, .slice ma m.keys.length mp, .slice mia m.items.length mip, .slice mda m.kids.length mdp] 26))
            have HXM := hid (@box4 w5 _ _ _ _ _ _ (Below.refl (w5.alloc (.cells #[.bool m.leaf, .slice ma m.keys.length mp, .slice mia m.items.length mip, .slice mda m.kids.length mdp] 26)).heap.size _))
            clear hvM
            unfold nv at HVM ⊢
            go_wp2_with (first | (go_at_call 18; refine (no_any _ _).mono ?_; rintro e wz ⟨rfl, rfl⟩))
            generalize w5.alloc (.cells #[.bool m.leaf, .slice ma m.keys.length mp, .slice mia m.items.length mip, .slice mda m.kids.length mdp] 26) = V5 at HVM HBM HXM ⊢
            have hV5 : w5.heap.size ≤ V5.heap.size := HBM.out.size
            generalize hMe : w5.heap.size = M at HXM HBM hV5 ⊢
            have HB5V := hid (HB5.out.trans (HBM.out.mono (hMe ▸ HB5.out.size)))
            obtain ⟨y0, y1, y2, y3⟩ := HXM.out
            refine (encode_any HVM.out HSmM.out).mono ?_
            rw [HEn.out]
            by_cases h4 : 492 < sizeN m m.keys.length
            · rw [if_pos h4]
              rintro e w6 ⟨rfl, hb6⟩
              have HB6 := hid (HB5V.out.trans (hb6.mono HB5V.out.size))
              clear hb6
              have h4' : (492 : Int) < s.size := by omega
              go_wp2_with (first | (go_at_call 18; refine (no_any _ _).mono ?_; rintro e wz ⟨rfl, rfl⟩) | (go_at_call 11; refine (alive_any _).mono ?_; rintro e w7 ⟨rfl, hb7⟩; have HB7 := hid (HB6.out.trans (hb7.mono HB6.out.size)); clear hb7))
              go_ret
              exact ⟨rfl, below3 hBe HB0.out hB HB7.out⟩
            · rw [if_neg h4]
              rintro e w6 ⟨rfl, hb6⟩
              have HV6 := hid (HVM.out.later hb6)
              have d0 := cell_later hb6 y0
              have d1 := cell_later hb6 y1
              have d2 := cell_later hb6 y2
              have d3 := cell_later hb6 y3
              have HB6 := hid (HB5V.out.trans (hb6.mono HB5V.out.size))
              clear hb6
              have HRr := hid (right_any HV6.out HSmM.out)
              rw [HRt.out] at HRr
              go_wp2_with (first | (go_at_call 18; refine (no_any _ _).mono ?_; rintro e wz ⟨rfl, rfl⟩) | (go_at_call 12; refine HRr.out.mono ?_; rintro e w7 ⟨rfl, hb7⟩; have HB7 := hid (HB6.out.trans (hb7.mono HB6.out.size)); clear hb7) | (go_at_call 11; refine (alive_any _).mono ?_; rintro e w8 ⟨rfl, hb8⟩; have HB8 := hid (HB7.out.trans (hb8.mono HB7.out.size)); clear hb8))
              go_ret
              exact ⟨rfl, below3 hBe HB0.out hB HB8.out⟩
          · have HB5 := hid (HBS.out.trans (hbM.mono HBS.out.size))
            obtain ⟨ma, mp, mia, mip, mda, mdp, rfl, _⟩ := hvM.at_
            clear hvM hbM
            unfold nv
            have HBM := hid (below_box w5 (.cells #[.bool (Nd.mk false [] [] []).leaf, .slice ma (Nd.mk false [] [] []).keys.length mp, .slice mia (Nd.mk false [] [] []).items.length mip, .slice mda (Nd.mk false [] [] []).kids.length mdp] 26))
            have HB6 := hid (HB5.out.trans (HBM.out.mono HB5.out.size))
            go_wp2_with (first | (go_at_call 18; refine (no_any _ _).mono ?_; rintro e wz ⟨rfl, rfl⟩) | (go_at_call 11; refine (alive_any _).mono ?_; rintro e w8 ⟨rfl, hb8⟩; have HB8 := hid (HB6.out.trans (hb8.mono HB6.out.size)); clear hb8))
            go_ret
            exact ⟨rfl, below3 hBe HB0.out hB HB8.out⟩
        · exfalso
          have := hno n.leaf HKK.out.symm
          rw [HDb.out] at this
          cases this

theorem own : ownKnob Try.prog.godebug = none := by kernel_rfl
theorem laidOut : laidOutB Try.prog = true := by kernel_rfl

set_option maxRecDepth 100000 in
theorem lifted (os : Os) (started : os.Started) (H : Type) (enc : TypeId × Value → H) :
    ReturnsInHanded {} Try.checked os 6 .any (Rows.nodeBackSpec.pre6 enc Try.prog Try.f6 Rows.nodeBackRow.domain false) (Rows.nodeBackSpec.post enc Try.prog Try.f6 false true false false) := by
  refine returnsInHanded_of_change (C := Try.checked) own started (by kernel_rfl) Try.func6
    (ChangeSpec.witness6 (enc := enc) (C := Try.checked) false ⟨#[], #[.agg #[.bool false, .slice none 0 0, .slice none 0 0, .slice none 0 0], .int .i64 0, .string ⟨#[]⟩], []⟩ 8 (by kernel_rfl) (by kernel_rfl) (by kernel_rfl) (by kernel_rfl)) ?_
  intro W base args ds gs before hval0 hW hcnd _
  have hval : ∀ (j : Nat) t v, Try.f6.params[j]? = some t → args[j]? = some v → Value.okWide Try.prog W .any base t v := hval0
  have hW' := hW
  obtain ⟨p, q, hA0, hV, rfl, hfz, hnd⟩ := hW
  have hA : DataW.TrodAll enc Try.prog W 0 (fun _ => true) true Try.f6.params.toList args.toList ds p := hA0
  rw [Try.params6] at hA hval
  obtain ⟨v0, vs0, d0, ds0, p0, q0, hargs, rfl, rfl, h0, r0⟩ := trodAll_cons hA
  obtain ⟨v1, vs1, d1, ds1, p1, q1, rfl, rfl, rfl, h1, r1⟩ := trodAll_cons r0
  obtain ⟨v2, vs2, d2, ds2, p2, q2, rfl, rfl, rfl, h2, r2⟩ := trodAll_cons r1
  obtain ⟨rfl, rfl, rfl⟩ := trodAll_nil r2
  obtain rfl : args = #[v0, v1, v2] := by cases args; simp_all
  obtain ⟨rfl, rfl⟩ := trodVars_none hV
  obtain ⟨cs0, rfl, sz0⟩ := okWide_struct Try.underlying26 (hval 0 26 v0 rfl rfl)
  have lt0 : ∀ x ∈ p0, x.block < W.heap.size := by obtain ⟨m, hm⟩ := h0; exact DataW.trod_lt m _ _ _ hm
  obtain ⟨l0, hl0⟩ : ∃ l, NAt W (.agg cs0) l := by obtain ⟨fuel, hf⟩ := h0; exact open_node (sz0.trans cells26) hf
  obtain ⟨a1, rfl, rfl, rfl, w1⟩ := open_int Try.underlying3 (hval 1 3 v1 rfl rfl) h1
  obtain ⟨a2, rfl⟩ := okWide_string Try.underlying9 (hval 2 9 v2 rfl rfl)
  have lt2 : ∀ x ∈ p2, x.block < W.heap.size := by obtain ⟨m, hm⟩ := h2; exact DataW.trod_lt m _ _ _ hm
  have hs2 : a2.size ≤ maxLen := by obtain ⟨fuel, hf⟩ := h2; exact open_str hf
  clear hA0 hval0
  refine (walk hl0 a1 a2 hs2).mono fun e W' ⟨he, bel⟩ => ?_
  subst he
  exact ⟨_, rfl, _, _, _, [], _, [], hW', trodAll_mk1 (shut_bool Try.underlying4 _), (trodAll_cons_mk (Below.trod laidOut (by kernel_rfl) (of_decide_eq_true (by kernel_rfl)) h0 bel lt0) (trodAll_cons_mk (shut_int Try.underlying3 w1) (trodAll_cons_mk (Below.trod laidOut (by kernel_rfl) (of_decide_eq_true (by kernel_rfl)) h2 bel lt2) trodAll_mk0))), rfl, bel.frame _, fun h => by cases h⟩

theorem over : Rows.nodeBackRow.holds Try.pinned (OpenSpec.ofChange Rows.nodeBackSpec) :=
  OpenClaim.holds_of_wide 6 Try.f6 rfl rfl rfl rfl rfl rfl rfl ⟨rfl, rfl, rfl, rfl, rfl⟩ rfl rfl rfl rfl rfl (by kernel_rfl) Try.func6 (by kernel_rfl)
    (of_decide_eq_true (by kernel_rfl)) (by unfold Func.isWrapper; first | (rw [if_pos (by decide +kernel)]; kernel_rfl) | (rw [if_neg (by decide +kernel)]; exact ⟨rfl, rfl⟩))
    (fun os started H enc _ => lifted os started H enc)
end Go.Proofs.Ytkipigbfbhecjaa.nodeBack
namespace Go.Proofs.Ytkipigbfbhecjaa
/-- THE STATEMENT. -/
theorem nodeBack_holds : Rows.NodeBackSaid := nodeBack.over
#print axioms nodeBack_holds
end Go.Proofs.Ytkipigbfbhecjaa
