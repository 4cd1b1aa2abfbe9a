/- Proved here: what was cut is joined again as it was; both parts are right, each key lies on its side; of a node that was too long each part takes a quarter of a page at least (NodeJoins returns true for every input, and leaves its argument as it was). No condition. -/
import Derived.Test.YtkipigbfbhecjaaRows
import Derived.Test.YtkipigbfbhecjaaN17
import Derived.Test.YtkipigbfbhecjaaN19
import Derived.Test.YtkipigbfbhecjaaN20
import Derived.Test.YtkipigbfbhecjaaN22
import Derived.Test.YtkipigbfbhecjaaN38
import Derived.ProofKit
import Derived.ShutString
import Derived.ChangeOld
import Derived.Below
namespace Go.Proofs.Ytkipigbfbhecjaa.nodeJoins
open Go.ChangeShapes Go.WideShapes Go.ChangeAt Go.RowKit
set_option linter.unusedVariables false

theorem alive_any (w : World) : Calls Try.prog 11 #[] w fun e w' => e = .returned (.bool true) ∧ Below w.heap.size w w' := alive_of (fun _ _ _ h s => split_any h s) w
theorem join_any {w : World} {va vb : Value} {a b : Nd} {key : ByteArray} (ha : NAt w va a) (hb : NAt w vb b) (sa : a.small) (sb : b.small) (hab : b.leaf = a.leaf) (hkey : key.size ≤ maxLen) :
    Calls Try.prog 25 #[va, .string key, vb] w fun e w' => ∃ v, e = .returned v ∧ NAt w' v (joinN a key b) ∧ Below w.heap.size w w' := by
  unfold joinN
  cases hl : a.leaf with
  | true => exact join_leaf ha hb sa sb hl (hab.trans hl) hkey
  | false => exact join_other ha hb sa sb hl (hab.trans hl) hkey
theorem cut_small (n : Nd) (i : Nat) (h : n.small) : (cutA n i).small ∧ (cutB n i).small := by
  obtain ⟨h1, h2, h3⟩ := h
  unfold cutA cutB
  cases n.leaf <;> simp <;> refine ⟨⟨?_, ?_, ?_⟩, ⟨?_, ?_, ?_⟩⟩ <;> simp <;> omega

set_option maxRecDepth 100000 in
set_option maxHeartbeats 8000000 in
theorem walk {w : World} {v : Value} {n : Nd} (h : NAt w v n) : Calls Try.prog 8 #[v] w fun e w' => e = .returned (.bool true) ∧ Below w.heap.size w w' := by
  obtain ⟨ka, kp, ia, ep, da, dp, rfl, _⟩ := h.at_
  have HN := hid (h.later (below_box w (.cells #[.bool n.leaf, .slice ka n.keys.length kp, .slice ia n.items.length ep, .slice da n.kids.length dp] 26)))
  have HB0 := hid (below_box w (.cells #[.bool n.leaf, .slice ka n.keys.length kp, .slice ia n.items.length ep, .slice da n.kids.length dp] 26))
  have HX := hid (@box4 w _ _ _ _ _ _ (Below.refl (w.alloc (.cells #[.bool n.leaf, .slice ka n.keys.length kp, .slice ia n.items.length ep, .slice da n.kids.length dp] 26)).heap.size _))
  clear h
  unfold nv at HN ⊢
  go_enter Try.func8, Try.ntmps8
  go_wp2_with fail
  generalize w.alloc (.cells #[.bool n.leaf, .slice ka n.keys.length kp, .slice ia n.items.length ep, .slice da n.kids.length dp] 26) = W at HB0 HX HN ⊢
  have hB : w.heap.size ≤ W.heap.size := HB0.out.size
  generalize hBe : w.heap.size = B at HB0 HX hB ⊢
  refine (few_any HN.out).mono ?_
  rintro e w1 ⟨fb, rfl, hf, hb1⟩
  have HB1 := hid hb1
  obtain ⟨x0, x1, x2, x3⟩ := HX.out
  clear hb1
  cases fb with
  | false =>
    clear hf
    go_wp2_with (first | (go_at_call 11; refine (alive_any _).mono ?_; rintro e w2 ⟨rfl, hb2⟩; have HB2 := hid (HB1.out.trans (hb2.mono HB1.out.size)); clear hb2))
    go_ret
    exact ⟨rfl, below3 hBe HB0.out hB HB2.out⟩
  | true =>
    obtain ⟨f1, f2, f3⟩ := hf rfl
    have HSm : Hid n.small := ⟨by omega, by omega, by omega⟩
    clear f1 f2 f3 hf
    have c0 := cell_later HB1.out x0
    have c1 := cell_later HB1.out x1
    have c2 := cell_later HB1.out x2
    have c3 := cell_later HB1.out x3
    go_wp2_with fail
    refine (split_any (HN.out.later HB1.out) HSm.out).mono ?_
    rintro e w2 hsp
    clear c0 c1 c2 c3
    rcases hsp with ⟨_, ⟨va, vb, rfl, hva, hvb⟩, hb2⟩ | ⟨hsp, i, va, vb, hhalf, rfl, hva, hvb, hb2⟩
    · have HB2 := hid (HB1.out.trans (hb2.mono HB1.out.size))
      obtain ⟨pa, pp, pia, pip, pda, pdp, rfl, _⟩ := hva.at_
      obtain ⟨qa, qp, qia, qip, qda, qdp, rfl, _⟩ := hvb.at_
      clear hva hvb hb2
      unfold nv
      have HB3 := hid (HB2.out.trans ((below_two w2 (.cells #[.bool false, .slice pa 0 pp, .slice pia 0 pip, .slice pda 0 pdp] 26) (.cells #[.bool false, .slice qa 0 qp, .slice qia 0 qip, .slice qda 0 qdp] 26)).mono HB2.out.size))
      go_wp2_with (first | (go_at_call 18; refine (no_any _ _).mono ?_; rintro e wz ⟨rfl, rfl⟩) | (go_at_call 11; refine (alive_any _).mono ?_; rintro e w4 ⟨rfl, hb4⟩; have HB4 := hid (HB3.out.trans (hb4.mono HB3.out.size)); clear hb4))
      go_ret
      exact ⟨rfl, below3 hBe HB0.out hB HB4.out⟩
    · have HB2 := hid (HB1.out.trans (hb2.mono HB1.out.size))
      clear hb2
      obtain ⟨hi1, hi2, hi3⟩ := cut_range hsp hhalf
      have hri := (split_room hsp).1
      obtain ⟨hra, hrb⟩ := cut_right hri hi1 hi3
      obtain ⟨hlt1, hlt2⟩ := cut_sides hri hi1 hi3
      obtain ⟨hsa, hsb⟩ := cut_small n i HSm.out
      have hjn := cut_joined hri hi2
      have hq := fun h => cut_quarter hsp hhalf h
      have hla := cutA_leaf n i
      have hlb := cutB_leaf n i
      have hka := cutA_keys n i
      have hkb := cutB_keys n i
      have hkey := hri.key_size i hi2
      have hSn : sizeB n = sizeN n n.keys.length := by unfold sizeB; rw [if_pos (of_ri hri)]
      have hSa : sizeB (cutA n i) = sizeN (cutA n i) (cutA n i).keys.length := by unfold sizeB; rw [if_pos (of_ri hra)]
      have hSb : sizeB (cutB n i) = sizeN (cutB n i) (cutB n i).keys.length := by unfold sizeB; rw [if_pos (of_ri hrb)]
      have hkA : (cutA n i).keys.length = i := by rw [hka, List.length_take]; omega
      have hkB : 0 < (cutB n i).keys.length := by rw [hkb, List.length_drop]; omega
      have e1 : (cutA n i).key (i - 1) = n.key (i - 1) := by unfold Nd.key; rw [hka, getD_take (by omega)]
      have e2 : (cutB n i).key 0 = n.key (fromB n i) := by unfold Nd.key; rw [hkb, getD_drop, Nat.add_zero]
      have hT : 492 < sizeB n → 123 ≤ sizeB (cutA n i) ∧ 123 ≤ sizeB (cutB n i) := by rw [hSn, hSa, hSb]; exact hq
      have hSnL : sizeB n ≤ 6 + 122 * 70000 := by rw [hSn]; have h1 := hri.sizeN_le n.keys.length (Nat.le_refl _); have h2 := HSm.out.k; have := Nat.mul_le_mul_left 122 h2; omega
      have hSaL : sizeB (cutA n i) ≤ 6 + 122 * 70000 := by rw [hSa]; have h1 := hra.sizeN_le _ (Nat.le_refl _); have h2 := hsa.k; have := Nat.mul_le_mul_left 122 h2; omega
      have hSbL : sizeB (cutB n i) ≤ 6 + 122 * 70000 := by rw [hSb]; have h1 := hrb.sizeN_le _ (Nat.le_refl _); have h2 := hsb.k; have := Nat.mul_le_mul_left 122 h2; omega
      obtain ⟨m, rfl⟩ : ∃ m, i = m + 1 := ⟨i - 1, by omega⟩
      simp only [Nat.add_sub_cancel] at e1 hlt1
      have hab : (cutB n (m + 1)).leaf = (cutA n (m + 1)).leaf := hlb.trans hla.symm
      have hra' := of_ri hra
      have hrb' := of_ri hrb
      have hkey' : (n.key (m + 1)).size ≤ maxLen := by unfold maxLen; omega
      clear hsp hhalf hi1 hi2 hi3 hri hq hla hlb hka hkb hSn hSa hSb hra hrb
      have HZn : Hid (∀ (w : World) (v : Value), NAt w v n → Calls Try.prog 14 #[v] w fun e w' => e = .returned (.int .i64 ((sizeB n : Nat) : Int)) ∧ Below w.heap.size w w') := fun _ _ h => size_any h HSm.out
      have HZa : Hid (∀ (w : World) (v : Value), NAt w v (cutA n (m + 1)) → Calls Try.prog 14 #[v] w fun e w' => e = .returned (.int .i64 ((sizeB (cutA n (m + 1)) : Nat) : Int)) ∧ Below w.heap.size w w') := fun _ _ h => size_any h hsa
      have HZb : Hid (∀ (w : World) (v : Value), NAt w v (cutB n (m + 1)) → Calls Try.prog 14 #[v] w fun e w' => e = .returned (.int .i64 ((sizeB (cutB n (m + 1)) : Nat) : Int)) ∧ Below w.heap.size w w') := fun _ _ h => size_any h hsb
      generalize n.key (m + 1) = key at *
      generalize n.key m = s1 at *
      generalize n.key (fromB n (m + 1)) = s2 at *
      generalize cutA n (m + 1) = a at *
      generalize cutB n (m + 1) = b at *
      generalize sizeB n = tn at *
      generalize sizeB a = ta at *
      generalize sizeB b = tb at *
      obtain ⟨aka, ap, aia, aip, ada, adp, rfl, hak, har⟩ := hva.at_
      obtain ⟨bka, bp, bia, bip, bda, bdp, rfl, hbk, hbr⟩ := hvb.at_
      obtain ⟨ab, ao, rfl, hc1w⟩ := hak.key m (by omega)
      obtain ⟨bb, bo, rfl, hc2w⟩ := hbk.key 0 hkB
      rw [← a.key_at m (by omega), e1] at hc1w
      rw [← b.key_at 0 hkB, e2, Nat.add_zero] at hc2w
      unfold nv at hva hvb ⊢
      obtain ⟨ex1, ex2, ⟨ex3, hap⟩, ex4⟩ := har
      obtain ⟨ex5, ex6, ⟨hbp1, hbp⟩, ex7⟩ := hbr
      unfold maxLen at hap hbp
      clear e1 e2 hak hbk
      have hapm : m + 1 ≤ ap := by omega
      have hm7 : m + 1 ≤ 70000 := by have := hsa.k; omega
      have hm0 : (0 : Int) ≤ m := by omega
      have hm1 : (m : Int) ≤ 70000 := by omega
      have hm2 : (m : Int) < (m : Int) + 1 := by omega
      have hm3 : m < m + 1 := by omega
      have hw1 : IntKind.i64.wrap (m : Int) = m := by rw [IntKind.wrap_i64]; omega
      have hw2 : IntKind.i64.wrap ((m : Int) + 1 - 1) = m := by rw [IntKind.wrap_i64]; omega
      have hw3 : IntKind.i64.wrap (((m + 1 : Nat) : Int) - 1) = m := by rw [IntKind.wrap_i64]; omega
      have hkB' : (0 : Int) < b.keys.length := by omega
      clear ex1 ex2 ex3 ex4 ex5 ex6 ex7
      rw [hkA] at hva ⊢
      generalize hbn : b.keys.length = bn at *
      have Hbn := hid hbn
      clear hbn hkA
      have HBa := hid (below_box w2 (.cells #[.bool a.leaf, .slice (some ⟨ab, ao, none⟩) (m + 1) ap, .slice aia a.items.length aip, .slice ada a.kids.length adp] 26))
      have HBb := hid (below_box (w2.alloc (.cells #[.bool a.leaf, .slice (some ⟨ab, ao, none⟩) (m + 1) ap, .slice aia a.items.length aip, .slice ada a.kids.length adp] 26)) (.cells #[.bool b.leaf, .slice (some ⟨bb, bo, none⟩) bn bp, .slice bia b.items.length bip, .slice bda b.kids.length bdp] 26))
      have em : (w2.alloc (.cells #[.bool a.leaf, .slice (some ⟨ab, ao, none⟩) (m + 1) ap, .slice aia a.items.length aip, .slice ada a.kids.length adp] 26)).heap.size = w2.heap.size + 1 := by simp
      obtain ⟨y0, y1, y2, y3⟩ := (cells4 ((HBb.out.block w2.heap.size (by rw [em]; omega)).trans (heap_alloc_new w2 (.cells #[.bool a.leaf, .slice (some ⟨ab, ao, none⟩) (m + 1) ap, .slice aia a.items.length aip, .slice ada a.kids.length adp] 26)))).1
      have hz := heap_alloc_new (w2.alloc (.cells #[.bool a.leaf, .slice (some ⟨ab, ao, none⟩) (m + 1) ap, .slice aia a.items.length aip, .slice ada a.kids.length adp] 26)) (.cells #[.bool b.leaf, .slice (some ⟨bb, bo, none⟩) bn bp, .slice bia b.items.length bip, .slice bda b.kids.length bdp] 26)
      rw [em] at hz
      obtain ⟨z0, z1, z2, z3⟩ := (cells4 hz).1
      clear hz
      have HBab := hid (HBa.out.trans (HBb.out.mono HBa.out.size))
      have HVa := hid (hva.later HBab.out)
      have HVb := hid (hvb.later HBab.out)
      have hc1 := cell_later HBab.out hc1w
      have hc2 := cell_later HBab.out hc2w
      have HBV := hid (HB2.out.trans (HBab.out.mono HB2.out.size))
      have HNV := hid (HN.out.later HBV.out)
      have u0 := cell_later HBV.out x0
      have u1 := cell_later HBV.out x1
      have u2 := cell_later HBV.out x2
      have u3 := cell_later HBV.out x3
      clear x0 x1 x2 x3 hva hvb hc1w hc2w HBa HBb HBab em HN HB2 HX
      have HJ : Hid (∀ V w' : World, NAt V (.agg #[.bool a.leaf, .slice (some ⟨ab, ao, none⟩) (m + 1) ap, .slice aia a.items.length aip, .slice ada a.kids.length adp]) a → NAt V (.agg #[.bool b.leaf, .slice (some ⟨bb, bo, none⟩) bn bp, .slice bia b.items.length bip, .slice bda b.kids.length bdp]) b → Below V.heap.size V w' → Calls Try.prog 25 #[.agg #[.bool a.leaf, .slice (some ⟨ab, ao, none⟩) (m + 1) ap, .slice aia a.items.length aip, .slice ada a.kids.length adp], .string key, .agg #[.bool b.leaf, .slice (some ⟨bb, bo, none⟩) bn bp, .slice bia b.items.length bip, .slice bda b.kids.length bdp]] w' fun e w'' => ∃ v, e = .returned v ∧ NAt w'' v n ∧ Below w'.heap.size w' w'') := fun V w' h1 h2 hb => hjn ▸ join_any (h1.later hb) (h2.later hb) hsa hsb hab hkey'
      have HRa : Hid (∀ V w' : World, NAt V (.agg #[.bool a.leaf, .slice (some ⟨ab, ao, none⟩) (m + 1) ap, .slice aia a.items.length aip, .slice ada a.kids.length adp]) a → Below V.heap.size V w' → Calls Try.prog 12 #[.agg #[.bool a.leaf, .slice (some ⟨ab, ao, none⟩) (m + 1) ap, .slice aia a.items.length aip, .slice ada a.kids.length adp]] w' fun e w'' => e = .returned (.bool true) ∧ Below w'.heap.size w' w'') := fun V w' h1 hb => hra' ▸ right_any (h1.later hb) hsa
      have HRb : Hid (∀ V w' : World, NAt V (.agg #[.bool b.leaf, .slice (some ⟨bb, bo, none⟩) bn bp, .slice bia b.items.length bip, .slice bda b.kids.length bdp]) b → Below V.heap.size V w' → Calls Try.prog 12 #[.agg #[.bool b.leaf, .slice (some ⟨bb, bo, none⟩) bn bp, .slice bia b.items.length bip, .slice bda b.kids.length bdp]] w' fun e w'' => e = .returned (.bool true) ∧ Below w'.heap.size w' w'') := fun V w' h1 hb => hrb' ▸ right_any (h1.later hb) hsb
      have hl1 : Op.bytesLess s1.toList key.toList = true := hlt1
      have hl2 : Op.bytesLess s2.toList key.toList = false := hlt2
      have HTq := hid hT
      clear hlt1 hlt2 hab hjn hsa hsb hra' hrb' hkey hkey' hT
      go_wp2_with (first | (go_at_call 18; refine (no_any _ _).mono ?_; rintro e wz ⟨rfl, rfl⟩))
      generalize (w2.alloc (.cells #[.bool a.leaf, .slice (some ⟨ab, ao, none⟩) (m + 1) ap, .slice aia a.items.length aip, .slice ada a.kids.length adp] 26)).alloc (.cells #[.bool b.leaf, .slice (some ⟨bb, bo, none⟩) bn bp, .slice bia b.items.length bip, .slice bda b.kids.length bdp] 26) = V at *
      generalize w2.heap.size = M at *
      generalize M + 1 = M1 at *
      have J1 := hid (fun w' hb => HJ.out V w' HVa.out HVb.out hb)
      have J2 := hid (fun w' hb => HRa.out V w' HVa.out hb)
      have J3 := hid (fun w' hb => HRb.out V w' HVb.out hb)
      clear HJ HRa HRb
      go_region_held3 (fun w' => w'.cell? ⟨B, 0, none⟩ = some (.bool n.leaf) ∧ w'.cell? ⟨B, 1, none⟩ = some (.slice ka n.keys.length kp) ∧ w'.cell? ⟨B, 2, none⟩ = some (.slice ia n.items.length ep) ∧ w'.cell? ⟨B, 3, none⟩ = some (.slice da n.kids.length dp) ∧ w'.cell? ⟨M, 0, none⟩ = some (.bool a.leaf) ∧ w'.cell? ⟨M, 1, none⟩ = some (.slice (some ⟨ab, ao, none⟩) (m + 1) ap) ∧ w'.cell? ⟨M, 2, none⟩ = some (.slice aia a.items.length aip) ∧ w'.cell? ⟨M, 3, none⟩ = some (.slice ada a.kids.length adp) ∧ w'.cell? ⟨M1, 0, none⟩ = some (.bool b.leaf) ∧ w'.cell? ⟨M1, 1, none⟩ = some (.slice (some ⟨bb, bo, none⟩) bn bp) ∧ w'.cell? ⟨M1, 2, none⟩ = some (.slice bia b.items.length bip) ∧ w'.cell? ⟨M1, 3, none⟩ = some (.slice bda b.kids.length bdp) ∧ w'.cell? ⟨ab, ao + m, none⟩ = some (.string s1) ∧ w'.cell? ⟨bb, bo, none⟩ = some (.string s2) ∧ Below V.heap.size V w') (first | exact ⟨cell_later A4.out u0, cell_later A4.out u1, cell_later A4.out u2, cell_later A4.out u3, cell_later A4.out y0, cell_later A4.out y1, cell_later A4.out y2, cell_later A4.out y3, cell_later A4.out z0, cell_later A4.out z1, cell_later A4.out z2, cell_later A4.out z3, cell_later A4.out hc1, cell_later A4.out hc2, A4.out⟩ | exact ⟨cell_later A3.out u0, cell_later A3.out u1, cell_later A3.out u2, cell_later A3.out u3, cell_later A3.out y0, cell_later A3.out y1, cell_later A3.out y2, cell_later A3.out y3, cell_later A3.out z0, cell_later A3.out z1, cell_later A3.out z2, cell_later A3.out z3, cell_later A3.out hc1, cell_later A3.out hc2, A3.out⟩ | exact ⟨cell_later A2.out u0, cell_later A2.out u1, cell_later A2.out u2, cell_later A2.out u3, cell_later A2.out y0, cell_later A2.out y1, cell_later A2.out y2, cell_later A2.out y3, cell_later A2.out z0, cell_later A2.out z1, cell_later A2.out z2, cell_later A2.out z3, cell_later A2.out hc1, cell_later A2.out hc2, A2.out⟩ | exact ⟨cell_later A1.out u0, cell_later A1.out u1, cell_later A1.out u2, cell_later A1.out u3, cell_later A1.out y0, cell_later A1.out y1, cell_later A1.out y2, cell_later A1.out y3, cell_later A1.out z0, cell_later A1.out z1, cell_later A1.out z2, cell_later A1.out z3, cell_later A1.out hc1, cell_later A1.out hc2, A1.out⟩ | exact ⟨cell_later (Below.refl V.heap.size V).drew u0, cell_later (Below.refl V.heap.size V).drew u1, cell_later (Below.refl V.heap.size V).drew u2, cell_later (Below.refl V.heap.size V).drew u3, cell_later (Below.refl V.heap.size V).drew y0, cell_later (Below.refl V.heap.size V).drew y1, cell_later (Below.refl V.heap.size V).drew y2, cell_later (Below.refl V.heap.size V).drew y3, cell_later (Below.refl V.heap.size V).drew z0, cell_later (Below.refl V.heap.size V).drew z1, cell_later (Below.refl V.heap.size V).drew z2, cell_later (Below.refl V.heap.size V).drew z3, cell_later (Below.refl V.heap.size V).drew hc1, cell_later (Below.refl V.heap.size V).drew hc2, (Below.refl V.heap.size V).drew⟩ | exact ⟨cell_later (Below.refl V.heap.size V) u0, cell_later (Below.refl V.heap.size V) u1, cell_later (Below.refl V.heap.size V) u2, cell_later (Below.refl V.heap.size V) u3, cell_later (Below.refl V.heap.size V) y0, cell_later (Below.refl V.heap.size V) y1, cell_later (Below.refl V.heap.size V) y2, cell_later (Below.refl V.heap.size V) y3, cell_later (Below.refl V.heap.size V) z0, cell_later (Below.refl V.heap.size V) z1, cell_later (Below.refl V.heap.size V) z2, cell_later (Below.refl V.heap.size V) z3, cell_later (Below.refl V.heap.size V) hc1, cell_later (Below.refl V.heap.size V) hc2, (Below.refl V.heap.size V)⟩) (first | (go_at_call 25; refine (J1.out _ (Below.refl V.heap.size V).drew).mono ?_; rintro e wA1 ⟨vj, rfl, hvj, hbx⟩; have HVJ := hid hvj; have A1 := hid ((Below.refl V.heap.size V).drew.trans (hbx.mono (Below.refl V.heap.size V).drew.size)); clear hbx hvj) | (go_at_call 21; refine (same_yes HVJ.out (HNV.out.later A1.out) HSm.out).mono ?_; rintro e wA2 ⟨rfl, hbx⟩; have A2 := hid (A1.out.trans (hbx.mono A1.out.size)); clear hbx) | (go_at_call 12; first | (refine (J3.out _ A3.out).mono ?_; rintro e wA4 ⟨rfl, hbx⟩; have A4 := hid (A3.out.trans (hbx.mono A3.out.size)); clear hbx) | (refine (J2.out _ A2.out).mono ?_; rintro e wA3 ⟨rfl, hbx⟩; have A3 := hid (A2.out.trans (hbx.mono A2.out.size)); clear hbx)))
      all_goals have d0 := cell_later A4.out u0
      all_goals have d1 := cell_later A4.out u1
      all_goals have d2 := cell_later A4.out u2
      all_goals have d3 := cell_later A4.out u3
      all_goals have f0 := cell_later A4.out y0
      all_goals have f1 := cell_later A4.out y1
      all_goals have f2 := cell_later A4.out y2
      all_goals have f3 := cell_later A4.out y3
      all_goals have g0 := cell_later A4.out z0
      all_goals have g1 := cell_later A4.out z1
      all_goals have g2 := cell_later A4.out z2
      all_goals have g3 := cell_later A4.out z3
      all_goals clear u0 u1 u2 u3 y0 y1 y2 y3 z0 z1 z2 z3 hc1 hc2
      have HBV2 := hid (HBV.out)
      by_cases h49 : 492 < tn
      · have h49' : ¬ (tn : Int) ≤ 492 := by omega
        have hta : (123 : Int) ≤ ta := by have := (HTq.out h49).1; omega
        have htb : (123 : Int) ≤ tb := by have := (HTq.out h49).2; omega
        go_wp2_with (first | (go_at_call 14; first | (refine (HZb.out _ _ (HVb.out.later A6.out)).mono ?_; rintro e wA7 ⟨rfl, hbx⟩; have A7 := hid (A6.out.trans (hbx.mono A6.out.size)); clear hbx) | (refine (HZa.out _ _ (HVa.out.later A5.out)).mono ?_; rintro e wA6 ⟨rfl, hbx⟩; have A6 := hid (A5.out.trans (hbx.mono A5.out.size)); have j0 := cell_later hbx k0; have j1 := cell_later hbx k1; have j2 := cell_later hbx k2; have j3 := cell_later hbx k3; clear hbx) | (refine (HZn.out _ _ (HNV.out.later A4.out)).mono ?_; rintro e wA5 ⟨rfl, hbx⟩; have A5 := hid (A4.out.trans (hbx.mono A4.out.size)); have h0 := cell_later hbx f0; have k0 := cell_later hbx g0; have h1 := cell_later hbx f1; have k1 := cell_later hbx g1; have h2 := cell_later hbx f2; have k2 := cell_later hbx g2; have h3 := cell_later hbx f3; have k3 := cell_later hbx g3; clear hbx)) | (go_at_call 11; (refine (alive_any _).mono ?_; rintro e wA8 ⟨rfl, hbx⟩; have A8 := hid (A7.out.trans (hbx.mono A7.out.size)); clear hbx)))
        go_ret
        exact ⟨rfl, below3 hBe HB0.out hB (HBV.out.trans (A8.out.mono HBV.out.size))⟩
      · have h49' : (tn : Int) ≤ 492 := by omega
        go_wp2_with (first | (go_at_call 14; (refine (HZn.out _ _ (HNV.out.later A4.out)).mono ?_; rintro e wA5 ⟨rfl, hbx⟩; have A5 := hid (A4.out.trans (hbx.mono A4.out.size)); have h0 := cell_later hbx f0; have k0 := cell_later hbx g0; have h1 := cell_later hbx f1; have k1 := cell_later hbx g1; have h2 := cell_later hbx f2; have k2 := cell_later hbx g2; have h3 := cell_later hbx f3; have k3 := cell_later hbx g3; clear hbx)) | (go_at_call 11; (refine (alive_any _).mono ?_; rintro e wA6 ⟨rfl, hbx⟩; have A6 := hid (A5.out.trans (hbx.mono A5.out.size)); clear hbx)))
        go_ret
        exact ⟨rfl, below3 hBe HB0.out hB (HBV.out.trans (A6.out.mono HBV.out.size))⟩

theorem own : ownKnob Try.prog.godebug = none := by kernel_rfl
theorem laidOut : laidOutB Try.prog = true := by kernel_rfl

set_option maxRecDepth 100000 in
theorem lifted (os : Os) (started : os.Started) (H : Type) (enc : TypeId × Value → H) :
    ReturnsInHanded {} Try.checked os 8 .any (Rows.nodeJoinsSpec.pre6 enc Try.prog Try.f8 Rows.nodeJoinsRow.domain false) (Rows.nodeJoinsSpec.post enc Try.prog Try.f8 false true false false) := by
  refine returnsInHanded_of_change (C := Try.checked) own started (by kernel_rfl) Try.func8
    (ChangeSpec.witness6 (enc := enc) (C := Try.checked) false ⟨#[], #[.agg #[.bool false, .slice none 0 0, .slice none 0 0, .slice none 0 0]], []⟩ 8 (by kernel_rfl) (by kernel_rfl) (by kernel_rfl) (by kernel_rfl)) ?_
  intro W base args ds gs before hval0 hW hcnd _
  have hval : ∀ (j : Nat) t v, Try.f8.params[j]? = some t → args[j]? = some v → Value.okWide Try.prog W .any base t v := hval0
  have hW' := hW
  obtain ⟨p, q, hA0, hV, rfl, hfz, hnd⟩ := hW
  have hA : DataW.TrodAll enc Try.prog W 0 (fun _ => true) true Try.f8.params.toList args.toList ds p := hA0
  rw [Try.params8] at hA hval
  obtain ⟨v0, vs0, d0, ds0, p0, q0, hargs, rfl, rfl, h0, r0⟩ := trodAll_cons hA
  obtain ⟨rfl, rfl, rfl⟩ := trodAll_nil r0
  obtain rfl : args = #[v0] := by cases args; simp_all
  obtain ⟨rfl, rfl⟩ := trodVars_none hV
  obtain ⟨cs0, rfl, sz0⟩ := okWide_struct Try.underlying26 (hval 0 26 v0 rfl rfl)
  have lt0 : ∀ x ∈ p0, x.block < W.heap.size := by obtain ⟨m, hm⟩ := h0; exact DataW.trod_lt m _ _ _ hm
  obtain ⟨l0, hl0⟩ : ∃ l, NAt W (.agg cs0) l := by obtain ⟨fuel, hf⟩ := h0; exact open_node (sz0.trans cells26) hf
  clear hA0 hval0
  refine (walk hl0).mono fun e W' ⟨he, bel⟩ => ?_
  subst he
  exact ⟨_, rfl, _, _, _, [], _, [], hW', trodAll_mk1 (shut_bool Try.underlying4 _), (trodAll_cons_mk (Below.trod laidOut (by kernel_rfl) (of_decide_eq_true (by kernel_rfl)) h0 bel lt0) trodAll_mk0), rfl, bel.frame _, fun h => by cases h⟩

theorem over : Rows.nodeJoinsRow.holds Try.pinned (OpenSpec.ofChange Rows.nodeJoinsSpec) :=
  OpenClaim.holds_of_wide 8 Try.f8 rfl rfl rfl rfl rfl rfl rfl ⟨rfl, rfl, rfl, rfl, rfl⟩ rfl rfl rfl rfl rfl (by kernel_rfl) Try.func8 (by kernel_rfl)
    (of_decide_eq_true (by kernel_rfl)) (by unfold Func.isWrapper; first | (rw [if_pos (by decide +kernel)]; kernel_rfl) | (rw [if_neg (by decide +kernel)]; exact ⟨rfl, rfl⟩))
    (fun os started H enc _ => lifted os started H enc)
end Go.Proofs.Ytkipigbfbhecjaa.nodeJoins
namespace Go.Proofs.Ytkipigbfbhecjaa
/-- THE STATEMENT. -/
theorem nodeJoins_holds : Rows.NodeJoinsSaid := nodeJoins.over
#print axioms nodeJoins_holds
end Go.Proofs.Ytkipigbfbhecjaa
