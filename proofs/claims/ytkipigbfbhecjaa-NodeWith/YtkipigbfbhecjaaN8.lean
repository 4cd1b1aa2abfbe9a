/- What this text holds: a node's content, as the document lays it. -/
import Derived.Test.YtkipigbfbhecjaaN7
namespace Go.Proofs.Ytkipigbfbhecjaa
open Go.RowKit
set_option linter.unusedVariables false
set_option linter.unusedSimpArgs false

theorem size_num (k : Nat) (n : Int) : (strOf (numB k n)).size = k := by rw [strOf_size, numB_length]

set_option maxRecDepth 100000 in
set_option maxHeartbeats 4000000 in
theorem rcontent_any {w : World} {v : Value} {n : Nd} (h : NAt w v n) (sm : n.small) (r : Ri n) : Calls Try.prog 36 #[v] w fun e w' => e = .returned (.string (strOf (contentL n))) ∧ Below w.heap.size w w' := by
  obtain ⟨ka, kp, ia, ep, da, dp, rfl, hk, hI, hd, ⟨k1, k2⟩, ⟨i1, i2⟩, ⟨d1, d2⟩⟩ := h.at_
  have HSm := hid sm
  have hk7 := sm.k
  have hi7 := sm.i
  have hd7 := sm.d
  have HR := hid r
  unfold maxLen at k2 i2 d2
  have HB0 := hid (below_box w (.cells #[.bool n.leaf, .slice ka n.keys.length kp, .slice ia n.items.length ep, .slice da n.kids.length dp] 26))
  have HX := hid (@box4 w _ _ _ _ _ _ (Below.refl (w.alloc (.cells #[.bool n.leaf, .slice ka n.keys.length kp, .slice ia n.items.length ep, .slice da n.kids.length dp] 26)).heap.size _))
  have HK := hid (hk.later HB0.out)
  have HI := hid (hI.later HB0.out)
  have HD := hid (hd.later HB0.out)
  clear hk hI hd h sm r
  unfold nv
  go_enter Try.func36, Try.ntmps36
  go_wp2_with fail
  generalize w.alloc (.cells #[.bool n.leaf, .slice ka n.keys.length kp, .slice ia n.items.length ep, .slice da n.kids.length dp] 26) = W at HB0 HX HK HI HD ⊢
  have hB : w.heap.size ≤ W.heap.size := HB0.out.size
  generalize hBe : w.heap.size = B at HB0 HX hB ⊢
  have HKn : Hid (n.keys.length = n.keys.length) := rfl
  refine (rnumber_any (n.keys.length : Int) 2 _ (by omega) (by omega) (by omega)).mono ?_
  rintro e w1 ⟨rfl, hb1⟩
  have HB1 := hid hb1
  obtain ⟨x0, x1, x2, x3⟩ := HX.out
  have c0 := cell_later hb1 x0
  have c3 := cell_later hb1 x3
  clear hb1 x0 x1 x2 x3
  have hz1 := size_num
  cases hl : n.leaf with
  | true =>
    obtain ⟨r1, r2, _⟩ := HR.out.leaf hl
    have HL := hid hl
    have HH := hid (show strOf (headL n ++ partsL n 0) = strOf (numB 2 n.keys.length) by unfold headL partsL; rw [HL.out]; simp)
    rw [hl] at c0 HX
    clear hl
    have HR1 := hid r1
    clear r1 r2
    go_wp2_with fail
    rw [← HH.out]
    clear HH
    generalize hkn : n.keys.length = kn at HX hk7 k1 HKn HR1 ⊢
    generalize hen : n.items.length = en at HX hi7 i1 HR1 ⊢
    generalize hdn : n.kids.length = dn at HX hd7 d1 ⊢
    have HKn := hid hkn
    have HEn := hid hen
    clear hkn hen hdn c0 c3
    go_loopw [3, 4] (fun s i wr => ∃ k : Nat, k ≤ kn ∧ i = .int .i64 k ∧ s = .string (strOf (headL n ++ partsL n k)) ∧ Below W.heap.size W wr) (fun _ i _ => kn - (intOf i).toNat)
    case atStart => exact ⟨0, by omega, rfl, rfl, HB1.out⟩
    case round =>
      clear HB1
      obtain ⟨k, hk, rfl, rfl, hb⟩ := hrel
      have HBr := hid hb
      obtain ⟨x0, x1, x2, x3⟩ := HX.out
      have c0 := cell_later hb x0
      have c1 := cell_later hb x1
      have c2 := cell_later hb x2
      have c3 := cell_later hb x3
      clear hb
      by_cases hlt : k < kn
      · have hlk : k < n.keys.length := by rw [HKn.out]; exact hlt
        obtain ⟨b, o, rfl, hc⟩ := HK.out.key k hlk
        rw [← n.key_at k hlk] at hc
        have hc' := cell_later HBr.out hc
        have hs := HR.out.key_size k hlk
        have hS := HR.out.sizeN_le k (by omega)
        have hSz : (strOf (headL n ++ partsL n k)).size = sizeN n k := by rw [strOf_size]; rfl
        have HP := hid (show strOf (headL n ++ partsL n (k + 1)) = strOf (headL n ++ partsL n k) ++ strOf (numB 1 (n.key k).size) ++ n.key k ++ strOf (itemL (n.item k)) by
          show strOf (headL n ++ (partsL n k ++ partL n k)) = _
          unfold partL; rw [HL.out]; simp only [if_true, strOf_append, strOf_bOf, ByteArray.append_assoc])
        generalize n.key k = s at hc hc' hs HP
        generalize strOf (headL n ++ partsL n k) = S at hSz HP ⊢
        generalize sizeN n k = z at hS hSz
        have hrn := hid (rnumber_any (s.size : Int) 1)
        have t1 : ¬ 9223372036854775807 < z + 1 := by omega
        have t2 : ¬ 9223372036854775807 < z + 1 + s.size := by omega
        go_wp2_with fail
        have HB0r := hid (Below.refl wr.heap.size wr)
        go_region_held3 (fun w' => w'.cell? ⟨B, 1, none⟩ = some (.slice (some ⟨b, o, none⟩) kn kp) ∧ w'.cell? ⟨b, o + k, none⟩ = some (.string s) ∧ Below W.heap.size W w') (first | exact ⟨c1, hc', HBr.out⟩ | exact ⟨cell_later HBr.out.drew x1, cell_later HBr.out.drew hc, HBr.out.drew⟩ | exact ⟨g1, g2, HBd.out⟩) (first | (go_at_call 59; refine (hrn.out _ (by omega) (by omega) (by omega)).mono ?_; rintro e wd ⟨rfl, hbd⟩; have HBd := hid (HBr.out.drew.trans (hbd.mono HBr.out.drew.size)); have g1 := cell_later HBd.out x1; have g2 := cell_later HBd.out hc))
        clear c0 c1 c2 c3 hc' HBr g1 g2 hrn HB0r
        rename_i hSwd
        clear hSwd
        have hlI : k < n.items.length := by rw [HEn.out, HR1.out]; exact hlt
        obtain ⟨ib, io, rfl, ci0, ci1, ci2⟩ := HI.out.item k hlI
        rw [← n.item_at k hlI] at ci0 ci1 ci2
        have hok := HR.out.item_ok HL.out k hlk
        have c0 := cell_later HBd.out x0
        have c2 := cell_later HBd.out x2
        have cp := cell_later HBd.out ci1
        have hT : (S ++ strOf (numB 1 s.size) ++ s).size = z + 1 + s.size := by rw [ByteArray.size_append, ByteArray.size_append, size_num, hSz]
        generalize S ++ strOf (numB 1 s.size) ++ s = T at HP hT ⊢
        generalize n.item k = x at ci0 ci1 ci2 cp hok HP
        have hken : k < en := by have := HR1.out; omega
        by_cases h0 : x.page = 0
        · obtain ⟨q1, q2⟩ := itemOk_zero hok h0
          have HP2 := hid (show T ++ strOf (itemL x) = T ++ strOf (numB 1 x.val.size) ++ x.val by unfold itemL; rw [if_pos h0]; simp only [strOf_append, strOf_bOf, ByteArray.append_assoc])
          rw [h0] at cp
          have cv := cell_later HBd.out ci0
          generalize x.val = xv at *
          have hrn := hid (rnumber_any (xv.size : Int) 1)
          have t3 : ¬ 9223372036854775807 < z + 1 + s.size + 1 := by omega
          have t4 : ¬ 9223372036854775807 < z + 1 + s.size + 1 + xv.size := by omega
          go_wp2_with fail
          go_region_held3 (fun w' => w'.cell? ⟨B, 2, none⟩ = some (.slice (some ⟨ib, io, none⟩) en ep) ∧ w'.cell? ⟨ib, io + k * 3, none⟩ = some (.string xv) ∧ Below W.heap.size W w') (first | exact ⟨c2, cv, HBd.out⟩ | exact ⟨cell_later HBd.out.drew x2, cell_later HBd.out.drew ci0, HBd.out.drew⟩ | exact ⟨cell_later HBe.out x2, cell_later HBe.out ci0, HBe.out⟩) (first | (go_at_call 59; refine (hrn.out _ (by omega) (by omega) (by omega)).mono ?_; rintro e we ⟨rfl, hbe⟩; have HBe := hid (HBd.out.drew.trans (hbe.mono HBd.out.drew.size))))
          rename_i hSwd
          clear hSwd
          clear c0 c2 cp cv
          go_wp2_with fail
          go_roundw
          case rel => exact ⟨k + 1, by omega, by go_num, by rw [HP.out, HP2.out], HBe.out⟩
          case measure => simp [intOf]; omega
        · obtain ⟨q1, q2, q3, q4⟩ := itemOk_page hok h0
          have HP2 := hid (show T ++ strOf (itemL x) = T ++ ⟨#[255]⟩ ++ strOf (numB 4 x.page) ++ strOf (numB 4 x.size) by
            unfold itemL; rw [if_neg h0]; simp only [strOf_append, ByteArray.append_assoc]; rfl)
          have q0 : 0 < x.page := by omega
          have cz := cell_later HBd.out ci2
          have hq1 : 0 ≤ x.page := by omega
          have hq2 : x.page ≤ 9223372036854775807 := by omega
          have hq3 : 0 ≤ x.size := by omega
          have hq4 : x.size ≤ 9223372036854775807 := by omega
          generalize x.page = xp at *
          generalize x.size = xz at *
          have hT2 : (T ++ ⟨#[255]⟩).size = z + 1 + s.size + 1 := by rw [ByteArray.size_append, hT]; rfl
          have t3 : ¬ 9223372036854775807 < z + 1 + s.size + 1 := by omega
          have t4 : ¬ 9223372036854775807 < z + 1 + s.size + 1 + 4 := by omega
          have t5 : ¬ 9223372036854775807 < z + 1 + s.size + 1 + 4 + 4 := by omega
          go_wp2_with fail
          go_region_held3 (fun w' => w'.cell? ⟨B, 2, none⟩ = some (.slice (some ⟨ib, io, none⟩) en ep) ∧ w'.cell? ⟨ib, io + k * 3 + 1, none⟩ = some (.int .i64 xp) ∧ w'.cell? ⟨ib, io + k * 3 + 2, none⟩ = some (.int .i64 xz) ∧ Below W.heap.size W w') (first | exact ⟨c2, cp, cz, HBd.out⟩ | exact ⟨cell_later HBd.out.drew x2, cell_later HBd.out.drew ci1, cell_later HBd.out.drew ci2, HBd.out.drew⟩ | exact ⟨cell_later HBe2.out x2, cell_later HBe2.out ci1, cell_later HBe2.out ci2, HBe2.out⟩ | exact ⟨cell_later HBe.out x2, cell_later HBe.out ci1, cell_later HBe.out ci2, HBe.out⟩) (first | (go_at_call 59; refine Calls.mono (rnumber_any _ 4 _ (by first | exact hq1 | exact hq3) (by first | exact hq2 | exact hq4) (by omega)) ?_; rintro e we ⟨rfl, hbe⟩; first | have HBe2 := hid (HBe.out.trans (hbe.mono HBe.out.size)) | have HBe := hid (HBd.out.drew.trans (hbe.mono HBd.out.drew.size))))
          all_goals rename_i hSwd
          all_goals clear hSwd c0 c2 cp cz
          all_goals go_wp2_with fail
          all_goals go_roundw
          case rel => exact ⟨k + 1, by omega, by go_num, by rw [HP.out, HP2.out], HBe2.out⟩
          case measure => simp [intOf]; omega
      · obtain rfl : kn = k := by omega
        clear x0 x2 x3 c0 c2 c3
        go_wp2_with fail
        go_ret
        exact ⟨by unfold contentL; rw [HKn.out]; rfl, below3 hBe HB0.out hB HBr.out⟩
  | false =>
    obtain ⟨r0, r1, r2, _⟩ := HR.out.other hl
    have HL := hid hl
    have hd0 : 0 < n.kids.length := by omega
    have HH := hid (show strOf (headL n ++ partsL n 0) = strOf (numB 2 n.keys.length) ++ strOf (numB 4 (n.kid 0)) by unfold headL partsL; rw [HL.out]; simp [strOf_append])
    rw [hl] at c0 HX
    clear hl
    have HR1 := hid r1
    clear r0 r1 r2
    obtain ⟨db, dd, rfl, cd⟩ := HD.out.kid 0 hd0
    rw [← n.kid_at 0 hd0, Nat.add_zero] at cd
    have cd' := cell_later HB1.out cd
    have hp0 := pageOk_iff (HR.out.kid_ok HL.out 0 (by omega))
    generalize n.kid 0 = p0 at cd cd' hp0 HH
    go_wp2_with fail
    refine (rnumber_any p0 4 _ (by omega) (by omega) (by omega)).mono ?_
    rintro e w2 ⟨rfl, hb2⟩
    have HB2 := hid (HB1.out.trans (hb2.mono HB1.out.size))
    clear hb2 HB1 c0 c3 cd'
    go_wp2_with fail
    rw [← HH.out]
    clear HH
    generalize hkn : n.keys.length = kn at HX hk7 k1 HKn HR1 ⊢
    generalize hen : n.items.length = en at HX hi7 i1 ⊢
    generalize hdn : n.kids.length = dn at HX hd7 d1 HR1 hd0 ⊢
    have HKn := hid hkn
    have HDn := hid hdn
    clear hkn hen hdn
    go_loopw [3, 4] (fun s i wr => ∃ k : Nat, k ≤ kn ∧ i = .int .i64 k ∧ s = .string (strOf (headL n ++ partsL n k)) ∧ Below W.heap.size W wr) (fun _ i _ => kn - (intOf i).toNat)
    case atStart => exact ⟨0, by omega, rfl, rfl, HB2.out⟩
    case round =>
      clear HB2
      obtain ⟨k, hk, rfl, rfl, hb⟩ := hrel
      have HBr := hid hb
      obtain ⟨x0, x1, x2, x3⟩ := HX.out
      have c0 := cell_later hb x0
      have c1 := cell_later hb x1
      have c3 := cell_later hb x3
      clear hb
      by_cases hlt : k < kn
      · have hlk : k < n.keys.length := by rw [HKn.out]; exact hlt
        obtain ⟨b, o, rfl, hc⟩ := HK.out.key k hlk
        rw [← n.key_at k hlk] at hc
        have hc' := cell_later HBr.out hc
        have hs := HR.out.key_size k hlk
        have hS := HR.out.sizeN_le k (by omega)
        have hSz : (strOf (headL n ++ partsL n k)).size = sizeN n k := by rw [strOf_size]; rfl
        have HP := hid (show strOf (headL n ++ partsL n (k + 1)) = strOf (headL n ++ partsL n k) ++ strOf (numB 1 (n.key k).size) ++ n.key k ++ strOf (numB 4 (n.kid (k + 1))) by
          show strOf (headL n ++ (partsL n k ++ partL n k)) = _
          unfold partL; rw [HL.out]; simp only [Bool.false_eq_true, if_false, strOf_append, strOf_bOf, ByteArray.append_assoc])
        generalize n.key k = s at hc hc' hs HP
        generalize strOf (headL n ++ partsL n k) = S at hSz HP ⊢
        generalize sizeN n k = z at hS hSz
        have hrn := hid (rnumber_any (s.size : Int) 1)
        have t1 : ¬ 9223372036854775807 < z + 1 := by omega
        have t2 : ¬ 9223372036854775807 < z + 1 + s.size := by omega
        go_wp2_with fail
        go_region_held3 (fun w' => w'.cell? ⟨B, 1, none⟩ = some (.slice (some ⟨b, o, none⟩) kn kp) ∧ w'.cell? ⟨b, o + k, none⟩ = some (.string s) ∧ Below W.heap.size W w') (first | exact ⟨c1, hc', HBr.out⟩ | exact ⟨cell_later HBr.out.drew x1, cell_later HBr.out.drew hc, HBr.out.drew⟩ | exact ⟨cell_later HBd.out x1, cell_later HBd.out hc, HBd.out⟩) (first | (go_at_call 59; refine (hrn.out _ (by omega) (by omega) (by omega)).mono ?_; rintro e wd ⟨rfl, hbd⟩; have HBd := hid (HBr.out.drew.trans (hbd.mono HBr.out.drew.size))))
        clear c0 c1 c3 hc' HBr hrn
        rename_i hSwd
        clear hSwd
        have hlD : k + 1 < n.kids.length := by rw [HDn.out, HR1.out]; omega
        obtain ⟨ib, io, e, ci0⟩ := HD.out.kid (k + 1) hlD
        simp only [Option.some.injEq, Addr.mk.injEq, and_true] at e
        obtain ⟨rfl, rfl⟩ := e
        rw [← n.kid_at (k + 1) hlD] at ci0
        have hok := pageOk_iff (HR.out.kid_ok HL.out (k + 1) (by omega))
        have c0 := cell_later HBd.out x0
        have c3 := cell_later HBd.out x3
        have cp := cell_later HBd.out ci0
        have hT : (S ++ strOf (numB 1 s.size) ++ s).size = z + 1 + s.size := by rw [ByteArray.size_append, ByteArray.size_append, size_num, hSz]
        generalize S ++ strOf (numB 1 s.size) ++ s = T at HP hT ⊢
        generalize n.kid (k + 1) = x at ci0 cp hok HP
        have hkd : ((k : Int) + 1) < dn := by have := HR1.out; omega
        go_wp2_with fail
        refine (rnumber_any x 4 _ (by omega) (by omega) (by omega)).mono ?_
        rintro e we ⟨rfl, hbe⟩
        have HBe := hid (HBd.out.trans (hbe.mono HBd.out.size))
        clear hbe c0 c3 cp
        have t3 : ¬ 9223372036854775807 < z + 1 + s.size + 4 := by omega
        go_wp2_with fail
        go_roundw
        case rel => exact ⟨k + 1, by omega, by go_num, by rw [HP.out], HBe.out⟩
        case measure => simp [intOf]; omega
      · obtain rfl : kn = k := by omega
        clear x0 x2 x3 c0 c3
        go_wp2_with fail
        go_ret
        exact ⟨by unfold contentL; rw [HKn.out]; rfl, below3 hBe HB0.out hB HBr.out⟩
end Go.Proofs.Ytkipigbfbhecjaa
