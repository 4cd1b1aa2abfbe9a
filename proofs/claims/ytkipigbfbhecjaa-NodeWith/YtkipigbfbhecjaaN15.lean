/- What this text holds: where a node is cut. -/
import Derived.Test.YtkipigbfbhecjaaN14
namespace Go.Proofs.Ytkipigbfbhecjaa
open Go.RowKit
set_option linter.unusedVariables false
set_option linter.unusedSimpArgs false

/-- With how many keys half of the size is reached. -/
structure HalfAt (n : Nd) (most i : Nat) : Prop where
  one : 1 ≤ i
  le : i ≤ most
  low : ∀ j, 1 ≤ j → j < i → 2 * sizeN n j < sizeN n n.keys.length
  end_ : i = most ∨ sizeN n n.keys.length ≤ 2 * sizeN n i

set_option maxRecDepth 100000 in
set_option maxHeartbeats 2000000 in
theorem half_any {w : World} {v : Value} {n : Nd} (h : NAt w v n) (sm : n.small) (r : Ri n) (most : Nat) (h1 : 1 ≤ most) (h2 : most < n.keys.length) : Calls Try.prog 44 #[v, .int .i64 most] w fun e w' => ∃ i, e = .returned (.int .i64 (i : Nat)) ∧ HalfAt n most i ∧ Below w.heap.size w w' := by
  obtain ⟨ka, kp, ia, ep, da, dp, rfl, _⟩ := h.at_
  have HSm := hid sm
  have HRi := hid r
  have hk7 := sm.k
  have HN := hid (h.later (below_box w (.cells #[.bool n.leaf, .slice ka n.keys.length kp, .slice ia n.items.length ep, .slice da n.kids.length dp] 26)))
  have HB0 := hid (below_box w (.cells #[.bool n.leaf, .slice ka n.keys.length kp, .slice ia n.items.length ep, .slice da n.kids.length dp] 26))
  have HX := hid (@box4 w _ _ _ _ _ _ (Below.refl (w.alloc (.cells #[.bool n.leaf, .slice ka n.keys.length kp, .slice ia n.items.length ep, .slice da n.kids.length dp] 26)).heap.size _))
  have HZ := hid (show sizeB n = sizeN n n.keys.length by unfold sizeB; rw [of_ri r]; rfl)
  have hzl := r.sizeN_le n.keys.length (Nat.le_refl _)
  have hz1 := r.sizeN_le 1 (by omega)
  have hz0 := r.sizeN_le 0 (by omega)
  have hk0 := r.keyN_le 0 (by omega)
  have HS0 := hid (sizeN_succ n 0)
  clear h sm r
  unfold nv at HN ⊢
  go_enter Try.func44, Try.ntmps44
  go_wp2_with fail
  generalize w.alloc (.cells #[.bool n.leaf, .slice ka n.keys.length kp, .slice ia n.items.length ep, .slice da n.kids.length dp] 26) = W at HB0 HX HN ⊢
  have hB : w.heap.size ≤ W.heap.size := HB0.out.size
  generalize hBe : w.heap.size = B at HB0 HX hB ⊢
  refine (size_any HN.out HSm.out).mono ?_
  rw [HZ.out]
  rintro e w1 ⟨rfl, hb1⟩
  have HB1 := hid hb1
  obtain ⟨x0, x1, x2, x3⟩ := HX.out
  have c0 := cell_later hb1 x0
  have c1 := cell_later hb1 x1
  have c2 := cell_later hb1 x2
  have c3 := cell_later hb1 x3
  clear hb1
  have HKl : Hid (0 < n.keys.length) := by unfold Hid; omega
  generalize hzz : sizeN n n.keys.length = Z at hzl ⊢
  have HZZ := hid hzz
  clear hzz HZ
  go_wp2_with fail
  go_region_held3 (fun w' => w'.cell? ⟨B, 0, none⟩ = some (.bool n.leaf) ∧ w'.cell? ⟨B, 1, none⟩ = some (.slice ka n.keys.length kp) ∧ w'.cell? ⟨B, 2, none⟩ = some (.slice ia n.items.length ep) ∧ w'.cell? ⟨B, 3, none⟩ = some (.slice da n.kids.length dp) ∧ Below W.heap.size W w') (first | exact ⟨c0, c1, c2, c3, HB1.out⟩ | exact ⟨c0, c1, c2, c3, HB1.out.drew⟩ | exact ⟨cell_later HB4.out x0, cell_later HB4.out x1, cell_later HB4.out x2, cell_later HB4.out x3, HB4.out⟩ | exact ⟨cell_later HB3.out x0, cell_later HB3.out x1, cell_later HB3.out x2, cell_later HB3.out x3, HB3.out⟩) (first | (go_at_call 34; first | (refine (base_any (HN.out.later HB3.out)).mono ?_; rintro e w4 ⟨rfl, hb4⟩; have HB4 := hid (HB3.out.trans (hb4.mono HB3.out.size)); clear hb4) | (refine (base_any (HN.out.later HB1.out.drew)).mono ?_; rintro e w3 ⟨rfl, hb3⟩; have HB3 := hid (HB1.out.drew.trans (hb3.mono HB1.out.drew.size)); clear hb3)) | (go_at_call 35; first | (refine (keysize_any (HN.out.later HB3.out) HSm.out HRi.out 0 HKl.out).mono ?_; rintro e w4 ⟨rfl, hb4⟩; have HB4 := hid (HB3.out.trans (hb4.mono HB3.out.size)); clear hb4) | (refine (keysize_any (HN.out.later HB1.out.drew) HSm.out HRi.out 0 HKl.out).mono ?_; rintro e w3 ⟨rfl, hb3⟩; have HB3 := hid (HB1.out.drew.trans (hb3.mono HB1.out.drew.size)); clear hb3)))
  rename_i hSw
  clear hSw c0 c1 c2 c3
  have hwr : IntKind.i64.wrap ((sizeN n 0 : Int) + keyN n 0) = ((sizeN n 1 : Nat) : Int) := by
    rw [wrap_i64 _ (by omega) (by omega), HS0.out]; omega
  rw [hwr]
  clear hwr
  go_wp2_with fail
  go_loopw [6, 7] (fun f a wr => ∃ k : Nat, 1 ≤ k ∧ k ≤ most ∧ a = .int .i64 k ∧ f = .int .i64 (sizeN n k) ∧ (∀ j, 1 ≤ j → j < k → 2 * sizeN n j < Z) ∧ Below W.heap.size W wr) (fun _ a _ => most - (intOf a).toNat)
  case atStart => exact ⟨1, by omega, by omega, rfl, rfl, fun j h1 h2 => by omega, HB4.out⟩
  case round =>
    clear HB4 HB3 HB1
    obtain ⟨k, hk1, hk2, rfl, rfl, hlow, hb⟩ := hrel
    have HLow := hid hlow
    have HBr := hid hb
    have c0 := cell_later hb x0
    have c1 := cell_later hb x1
    have c2 := cell_later hb x2
    have c3 := cell_later hb x3
    clear hb hlow
    have hs1 := HRi.out.sizeN_le k (by omega)
    by_cases hlt : k < most
    · have hlt' : (k : Int) < most := by omega
      by_cases h2z : 2 * sizeN n k < Z
      · have h2z' : 2 * (sizeN n k : Int) < Z := by omega
        have hs2 := HRi.out.keyN_le k (by omega)
        have HS := hid (sizeN_succ n k)
        have HC := hid (keysize_any (HN.out.later HBr.out) HSm.out HRi.out k (by omega))
        go_wp2_with fail
        refine HC.out.mono ?_
        rintro e w5 ⟨rfl, hb5⟩
        have HB5 := hid (HBr.out.trans (hb5.mono HBr.out.size))
        clear hb5 HC
        go_wp2_with fail
        go_roundw
        case rel => exact ⟨k + 1, by omega, by omega, by go_num, by rw [HS.out]; go_num, (fun j h1 h2 => by
          by_cases e : j < k
          · exact HLow.out j h1 e
          · rw [show j = k by omega]; exact h2z), HB5.out⟩
        case measure => simp [intOf]; omega
      · have h2z' : ¬ 2 * (sizeN n k : Int) < Z := by omega
        go_wp2_with fail
        go_ret
        exact ⟨k, rfl, ⟨hk1, hk2, (by rw [HZZ.out]; exact HLow.out), .inr (by rw [HZZ.out]; omega)⟩, by first | exact below3 hBe HB0.out hB HBr.out | exact hBe ▸ below3 hBe HB0.out hB HBr.out⟩
    · have hlt' : ¬ (k : Int) < most := by omega
      go_wp2_with fail
      go_ret
      exact ⟨k, rfl, ⟨hk1, hk2, (by rw [HZZ.out]; exact HLow.out), .inl (by omega)⟩, by first | exact below3 hBe HB0.out hB HBr.out | exact hBe ▸ below3 hBe HB0.out hB HBr.out⟩
end Go.Proofs.Ytkipigbfbhecjaa
