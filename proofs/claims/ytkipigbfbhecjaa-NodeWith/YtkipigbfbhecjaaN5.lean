/- What this text holds: Right, as the document says it. -/
import Derived.Test.YtkipigbfbhecjaaN4
namespace Go.Proofs.Ytkipigbfbhecjaa
open Go.RowKit
set_option linter.unusedVariables false
set_option linter.unusedSimpArgs false

theorem below_drewN (B : Nat) (w : World) : ∀ n, Below B w (w.drewN n)
  | 0 => Below.refl _ _
  | n + 1 => (below_drewN B w n).drew
theorem below3 {w W wr : World} {B : Nat} (hBe : w.heap.size = B) (h : Below B w W) (hB : B ≤ W.heap.size) (hr : Below W.heap.size W wr) : Below w.heap.size w wr := by
  rw [hBe]; exact h.trans (hr.mono hB)

set_option maxRecDepth 100000 in
set_option maxHeartbeats 2000000 in
theorem rright_any {w : World} {v : Value} {n : Nd} (h : NAt w v n) (sm : n.small) : Calls Try.prog 13 #[v] w fun e w' => e = .returned (.bool (rightB n)) ∧ Below w.heap.size w w' := by
  obtain ⟨ka, kp, ia, ep, da, dp, rfl, hk, hi, hd, ⟨k1, k2⟩, ⟨i1, i2⟩, ⟨d1, d2⟩⟩ := h.at_
  have HK := hid hk
  have HI := hid hi
  have HD := hid hd
  have HS := hid h.ks
  unfold maxLen at k2 i2 d2
  clear h hk hi hd
  obtain ⟨leaf, keys, items, kids⟩ := n
  unfold nv
  obtain ⟨s1, s2, s3⟩ := sm
  simp only at *
  generalize hkn : keys.length = kn at k1 s1 ⊢
  generalize hen : items.length = en at i1 s2 ⊢
  generalize hdn : kids.length = dn at d1 s3 ⊢
  have HKn := hid hkn
  have HEn := hid hen
  have HDn := hid hdn
  clear hkn hen hdn
  have HB0 := hid (below_box w (.cells #[.bool leaf, .slice ka kn kp, .slice ia en ep, .slice da dn dp] 26))
  have HX := hid (@box4 w _ _ _ _ _ _ (Below.refl (w.alloc (.cells #[.bool leaf, .slice ka kn kp, .slice ia en ep, .slice da dn dp] 26)).heap.size _))
  replace HK := hid (HK.out.later HB0.out)
  replace HI := hid (HI.out.later HB0.out)
  replace HD := hid (HD.out.later HB0.out)
  go_enter Try.func13, Try.ntmps13
  go_wp2_with fail
  generalize w.alloc (.cells #[.bool leaf, .slice ka kn kp, .slice ia en ep, .slice da dn dp] 26) = W at HB0 HX HK HI HD ⊢
  have hB : w.heap.size ≤ W.heap.size := HB0.out.size
  generalize hBe : w.heap.size = B at HB0 HX hB ⊢
  go_loopw [3] (fun i wr => ∃ k : Nat, k ≤ kn ∧ i = .int .i64 k ∧ (∀ j < k, keyOk keys j = true) ∧ Below W.heap.size W wr) (fun i _ => kn - (intOf i).toNat)
  case atStart => exact ⟨0, by omega, rfl, fun j hj => by omega, Below.refl _ _⟩
  case round =>
    obtain ⟨k, hk, rfl, hr, hb⟩ := hrel
    have HR := hid hr
    have HBr := hid hb
    obtain ⟨x0, x1, x2, x3⟩ := HX.out
    have c0 := cell_later hb x0
    have c1 := cell_later hb x1
    have c2 := cell_later hb x2
    have c3 := cell_later hb x3
    clear hr hb x0 x1 x2 x3
    by_cases hlt : k < kn
    · obtain ⟨b, o, rfl, hc⟩ := (HK.out.later HBr.out).key k (by rw [HKn.out]; exact hlt)
      have hsz := HS.out _ (List.getElem_mem (n := k) (by rw [HKn.out]; exact hlt))
      unfold maxLen at hsz
      have HE := hid (keyOk_at keys k (by rw [HKn.out]; exact hlt))
      by_cases h0 : k = 0
      · subst h0
        generalize keys[0]'(by rw [HKn.out]; exact hlt) = s at hc hsz HE
        rw [Nat.add_zero] at hc
        by_cases h60 : (60 : Int) < s.size
        · go_wp2_with fail
          go_quiet (fail)
          go_wp2_with fail
          go_ret
          refine ⟨?_, below3 hBe HB0.out hB (HBr.out.trans (below_drewN _ _ _))⟩
          unfold rightB; rw [rising_no (by rw [HKn.out]; exact hlt) (by rw [HE.out]; simp; omega)]; rfl
        · have hd60 : decide ((60 : Int) < s.size) = false := by simp; omega
          go_wp2_with fail
          go_quiet (fail)
          go_wp2_with fail
          go_roundw
          case rel => exact ⟨1, by omega, by go_num, (fun j hj => by rw [show j = 0 by omega, HE.out]; simp at hd60 ⊢; omega), HBr.out.trans (below_drewN _ _ _)⟩
          case measure => simp [intOf]; omega
      · obtain ⟨b', o', e, hc'⟩ := (HK.out.later HBr.out).key (k - 1) (by rw [HKn.out]; omega)
        simp only [Option.some.injEq, Addr.mk.injEq, and_true] at e
        obtain ⟨rfl, rfl⟩ := e
        have h0' : (0 : Int) < k := by omega
        generalize keys[k]'(by rw [HKn.out]; exact hlt) = s at hc hsz HE
        generalize keys[k - 1]'(by rw [HKn.out]; omega) = s' at hc' HE
        have HL := hid (leq_eq s s')
        by_cases h60 : (60 : Int) < s.size
        · go_wp2_with fail
          go_quiet (fail)
          go_wp2_with fail
          go_ret
          refine ⟨?_, below3 hBe HB0.out hB (HBr.out.trans (below_drewN _ _ _))⟩
          unfold rightB; rw [rising_no (by rw [HKn.out]; exact hlt) (by rw [HE.out]; simp; omega)]; rfl
        · have hd60 : decide ((60 : Int) < s.size) = false := by simp; omega
          have hd0 : decide (0 < k) = true := by simp; omega
          clear h60 h0'
          cases hle : lt s' s with
          | true =>
            have hd : (Op.bytesLess s.toList s'.toList || s.toList == s'.toList) = false := by
              have := HL.out; rw [hle] at this; exact this
            go_wp2_with fail
            go_quiet (fail)
            go_wp2_with fail
            go_roundw
            case rel => exact ⟨k + 1, by omega, by go_num, (fun j hj => by
              by_cases e : j < k
              · exact HR.out j e
              · rw [show j = k by omega, HE.out, hle]; simp at hd60 ⊢; omega), HBr.out.trans (below_drewN _ _ _)⟩
            case measure => simp [intOf]; omega
          | false =>
            have hd : (Op.bytesLess s.toList s'.toList || s.toList == s'.toList) = true := by
              have := HL.out; rw [hle] at this; exact this
            go_wp2_with fail
            go_quiet (fail)
            go_wp2_with fail
            go_ret
            refine ⟨?_, below3 hBe HB0.out hB (HBr.out.trans (below_drewN _ _ _))⟩
            unfold rightB; rw [rising_no (by rw [HKn.out]; exact hlt) (by rw [HE.out, hle]; simp at hd60 ⊢; omega)]; rfl
    · obtain rfl : kn = k := by omega
      have hri := hid (rising_yes (by rw [HKn.out]; exact HR.out))
      clear HR
      cases leaf with
      | true =>
        by_cases hil : en = kn
        · have hil1 : ((en : Int) == kn) = true := beq_iff_eq.2 (by omega)
          have hil2 : ((en : Int) != kn) = false := by rw [bne, hil1]; rfl
          replace hil := hid hil
          by_cases hdl : dn = 0
          · have hdl1 : decide (0 < dn) = false := decide_eq_false (by omega)
            replace hdl := hid hdl
            go_wp2_with fail
            go_loopw [4] (fun i wr => ∃ k : Nat, k ≤ en ∧ i = .int .i64 k ∧ (items.take k).all itemOk = true ∧ Below W.heap.size W wr) (fun i _ => en - (intOf i).toNat)
            case atStart => exact ⟨0, by omega, rfl, rfl, HBr.out⟩
            case round =>
              clear HBr c0 c1 c2 c3
              obtain ⟨k, hk, rfl, hr, hb⟩ := hrel
              have HR := hid hr
              have HBr := hid hb
              obtain ⟨x0, x1, x2, x3⟩ := HX.out
              have c0 := cell_later hb x0
              have c1 := cell_later hb x1
              have c2 := cell_later hb x2
              have c3 := cell_later hb x3
              clear hr hb x0 x1 x2 x3
              by_cases hlt : k < en
              · obtain ⟨b, o, rfl, hc0, hc1, hc2⟩ := (HI.out.later HBr.out).item k (by rw [HEn.out]; exact hlt)
                generalize hx : items[k]'(by rw [HEn.out]; exact hlt) = x at hc0 hc1 hc2
                have HXx := hid hx
                clear hx
                go_wp2_with fail
                refine (ritem_any ⟨x.val, x.page, x.size⟩ _).mono ?_
                rintro e w1 ⟨rfl, hb⟩
                have HB1 := hid (HBr.out.trans (hb.mono HBr.out.size))
                clear hb
                cases hok : itemOk x with
                | true =>
                  go_wp2_with fail
                  go_roundw
                  case rel => exact ⟨k + 1, by omega, by go_num, all_take _ _ _ (by rw [HEn.out]; exact hlt) HR.out (by rw [HXx.out]; exact hok), HB1.out⟩
                  case measure => simp [intOf]; omega
                | false =>
                  go_wp2_with fail
                  go_ret
                  refine ⟨?_, below3 hBe HB0.out hB HB1.out⟩
                  have hno := all_no itemOk items k (by rw [HEn.out]; exact hlt) (by rw [HXx.out]; exact hok)
                  unfold rightB; simp only [hno, Bool.and_false, if_true]; rfl
              · have e : en = k := by omega
                subst e
                go_wp2_with fail
                go_ret
                refine ⟨?_, below3 hBe HB0.out hB HBr.out⟩
                have h1 := HR.out
                rw [← HEn.out, List.take_length] at h1
                have h2 := hri.out
                have h3 := HEn.out
                have h4 := HDn.out
                have h5 := HKn.out
                have h6 := hil.out
                have h7 := hdl.out
                unfold rightB
                simp only [h1, h2, h3, h4, h5, ← h6, h7]
                simp
          · have hdl' : decide (0 < dn) = true := decide_eq_true (by omega)
            go_wp2_with fail
            go_ret
            refine ⟨?_, below3 hBe HB0.out hB HBr.out⟩
            unfold rightB; simp only [HDn.out, hdl, decide_false, Bool.and_false, Bool.false_and, if_true]; rfl
        · have hil1 : ((en : Int) == kn) = false := beq_eq_false_iff_ne.2 (by omega)
          have hil2 : ((en : Int) != kn) = true := by rw [bne, hil1]; rfl
          go_wp2_with fail
          go_ret
          refine ⟨?_, below3 hBe HB0.out hB HBr.out⟩
          unfold rightB; simp only [HEn.out, HKn.out, hil, decide_false, Bool.and_false, Bool.false_and, if_true]; rfl
      | false =>
        by_cases h0k : kn = 0
        · have h0k' : ((kn : Int) == 0) = true := beq_iff_eq.2 (by omega)
          go_wp2_with fail
          go_ret
          refine ⟨?_, below3 hBe HB0.out hB HBr.out⟩
          unfold rightB; simp only [HKn.out, h0k]; simp
        · have h0k' : ((kn : Int) == 0) = false := beq_eq_false_iff_ne.2 (by omega)
          by_cases hdl : dn = kn + 1
          · have hdl1 : ((dn : Int) == kn + 1) = true := beq_iff_eq.2 (by omega)
            have hdl2 : ((dn : Int) != kn + 1) = false := by rw [bne, hdl1]; rfl
            replace hdl := hid hdl
            by_cases hil : en = 0
            · have hil1 : decide (0 < en) = false := decide_eq_false (by omega)
              replace hil := hid hil
              go_wp2_with fail
              go_loopw [5] (fun i wr => ∃ k : Nat, k ≤ dn ∧ i = .int .i64 k ∧ (kids.take k).all pageOk = true ∧ Below W.heap.size W wr) (fun i _ => dn - (intOf i).toNat)
              case atStart => exact ⟨0, by omega, rfl, rfl, HBr.out⟩
              case round =>
                clear HBr c0 c1 c2 c3
                obtain ⟨k, hk, rfl, hr, hb⟩ := hrel
                have HR := hid hr
                have HBr := hid hb
                obtain ⟨x0, x1, x2, x3⟩ := HX.out
                have c0 := cell_later hb x0
                have c1 := cell_later hb x1
                have c2 := cell_later hb x2
                have c3 := cell_later hb x3
                clear hr hb x0 x1 x2 x3
                by_cases hlt : k < dn
                · obtain ⟨b, o, rfl, hc0⟩ := (HD.out.later HBr.out).kid k (by rw [HDn.out]; exact hlt)
                  generalize hx : kids[k]'(by rw [HDn.out]; exact hlt) = x at hc0
                  have HXx := hid hx
                  clear hx
                  go_wp2_with fail
                  refine (kid_any x _).mono ?_
                  rintro e w1 ⟨rfl, rfl⟩
                  have HB1 := HBr
                  cases hok : pageOk x with
                  | true =>
                    go_wp2_with fail
                    go_roundw
                    case rel => exact ⟨k + 1, by omega, by go_num, all_take _ _ _ (by rw [HDn.out]; exact hlt) HR.out (by rw [HXx.out]; exact hok), HB1.out⟩
                    case measure => simp [intOf]; omega
                  | false =>
                    go_wp2_with fail
                    go_ret
                    refine ⟨?_, below3 hBe HB0.out hB HB1.out⟩
                    have hno := all_no pageOk kids k (by rw [HDn.out]; exact hlt) (by rw [HXx.out]; exact hok)
                    unfold rightB; simp only [hno, Bool.and_false, Bool.false_eq_true, if_false]; rfl
                · have e : dn = k := by omega
                  subst e
                  go_wp2_with fail
                  go_ret
                  refine ⟨?_, below3 hBe HB0.out hB HBr.out⟩
                  have h1 := HR.out
                  rw [← HDn.out, List.take_length] at h1
                  have h2 := hri.out
                  have h3 := HEn.out
                  have h4 := HDn.out
                  have h5 := HKn.out
                  have h6 := hil.out
                  have h7 := hdl.out
                  unfold rightB
                  simp only [h1, h2, h3, h4, h5, h6, h7]
                  simp; omega
            · have hil' : decide (0 < en) = true := decide_eq_true (by omega)
              go_wp2_with fail
              go_ret
              refine ⟨?_, below3 hBe HB0.out hB HBr.out⟩
              unfold rightB; simp only [HEn.out, hil]; simp
          · have hdl1 : ((dn : Int) == kn + 1) = false := beq_eq_false_iff_ne.2 (by omega)
            have hdl2 : ((dn : Int) != kn + 1) = true := by rw [bne, hdl1]; rfl
            go_wp2_with fail
            go_ret
            refine ⟨?_, below3 hBe HB0.out hB HBr.out⟩
            unfold rightB; simp only [HDn.out, HKn.out, hdl]; simp
end Go.Proofs.Ytkipigbfbhecjaa
