/- What this text holds: Encode, of the program. -/
import Derived.Test.YtkipigbfbhecjaaN11
namespace Go.Proofs.Ytkipigbfbhecjaa
open Go.RowKit
set_option linter.unusedVariables false
set_option linter.unusedSimpArgs false

def kindN (n : Nd) : Int := if n.leaf then 1 else 2
set_option maxRecDepth 100000 in
set_option maxHeartbeats 400000 in
theorem kind_any {w : World} {v : Value} {n : Nd} (h : NAt w v n) : Calls Try.prog 37 #[v] w fun e w' => e = .returned (.int .i64 (kindN n)) ∧ Below w.heap.size w w' := by
  obtain ⟨ka, kp, ia, ep, da, dp, rfl, _⟩ := h.at_
  unfold kindN
  generalize n.leaf = leaf
  unfold nv
  cases leaf
  all_goals go_enter Try.func37, Try.ntmps37
  all_goals go_wp2
  all_goals (go_ret; exact ⟨rfl, below_box _ _⟩)

set_option maxRecDepth 100000 in
set_option maxHeartbeats 1000000 in
theorem encode_any {w : World} {v : Value} {n : Nd} (h : NAt w v n) (sm : n.small) : Calls Try.prog 16 #[v] w fun e w' => e = .returned (encV n) ∧ Below w.heap.size w w' := by
  obtain ⟨ka, kp, ia, ep, da, dp, rfl, _⟩ := h.at_
  have HSm := hid sm
  have HN := hid (h.later (below_box w (.cells #[.bool n.leaf, .slice ka n.keys.length kp, .slice ia n.items.length ep, .slice da n.kids.length dp] 26)))
  have HB0 := hid (below_box w (.cells #[.bool n.leaf, .slice ka n.keys.length kp, .slice ia n.items.length ep, .slice da n.kids.length dp] 26))
  have HX := hid (@box4 w _ _ _ _ _ _ (Below.refl (w.alloc (.cells #[.bool n.leaf, .slice ka n.keys.length kp, .slice ia n.items.length ep, .slice da n.kids.length dp] 26)).heap.size _))
  clear h
  unfold nv at HN ⊢
  go_enter Try.func16, Try.ntmps16
  go_wp2_with fail
  generalize w.alloc (.cells #[.bool n.leaf, .slice ka n.keys.length kp, .slice ia n.items.length ep, .slice da n.kids.length dp] 26) = W at HB0 HX HN ⊢
  have hB : w.heap.size ≤ W.heap.size := HB0.out.size
  generalize hBe : w.heap.size = B at HB0 HX hB ⊢
  refine (right_any HN.out HSm.out).mono ?_
  rintro e w1 ⟨rfl, hb1⟩
  have HB1 := hid hb1
  obtain ⟨x0, x1, x2, x3⟩ := HX.out
  have c0 := cell_later hb1 x0
  have c1 := cell_later hb1 x1
  have c2 := cell_later hb1 x2
  have c3 := cell_later hb1 x3
  clear hb1
  cases hr : rightB n with
  | false =>
    go_wp2_with fail
    go_ret3
    exact ⟨by unfold encV; rw [hr]; rfl, below3 hBe HB0.out hB HB1.out⟩
  | true =>
    have HRi := hid (ri_of hr)
    have hle := (ri_of hr).sizeN_le n.keys.length (Nat.le_refl _)
    have hk7 := sm.k
    have HE := hid (show encV n = (if 492 < sizeN n n.keys.length then .tuple #[.int .i64 0, .string ⟨#[]⟩, .int .i64 4] else .tuple #[.int .i64 (kindN n), .string (strOf (contentL n)), .int .i64 0]) by unfold encV kindN; rw [hr]; rfl)
    have HZ := hid (show sizeB n = sizeN n n.keys.length by unfold sizeB; rw [hr]; rfl)
    clear hr sm
    go_wp2_with fail
    refine (size_any (HN.out.later HB1.out) HSm.out).mono ?_
    rw [HZ.out]
    rintro e w2 ⟨rfl, hb2⟩
    have HB2 := hid (HB1.out.trans (hb2.mono HB1.out.size))
    clear c0 c1 c2 c3
    have c0 := cell_later HB2.out x0
    have c1 := cell_later HB2.out x1
    have c2 := cell_later HB2.out x2
    have c3 := cell_later HB2.out x3
    clear hb2
    by_cases h4 : 492 < sizeN n n.keys.length
    · have h4' : (492 : Int) < sizeN n n.keys.length := by omega
      go_wp2_with fail
      go_ret3
      exact ⟨by rw [HE.out, if_pos h4]; rfl, below3 hBe HB0.out hB HB2.out⟩
    · have h4' : ¬ (492 : Int) < sizeN n n.keys.length := by omega
      rw [if_neg h4] at HE
      go_wp2_with fail
      go_region_held3 (fun w' => w'.cell? ⟨B, 0, none⟩ = some (.bool n.leaf) ∧ w'.cell? ⟨B, 1, none⟩ = some (.slice ka n.keys.length kp) ∧ w'.cell? ⟨B, 2, none⟩ = some (.slice ia n.items.length ep) ∧ w'.cell? ⟨B, 3, none⟩ = some (.slice da n.kids.length dp) ∧ Below W.heap.size W w') (first | exact ⟨c0, c1, c2, c3, HB2.out⟩ | exact ⟨c0, c1, c2, c3, HB2.out.drew⟩ | exact ⟨cell_later HB4.out x0, cell_later HB4.out x1, cell_later HB4.out x2, cell_later HB4.out x3, HB4.out⟩ | exact ⟨cell_later HB3.out x0, cell_later HB3.out x1, cell_later HB3.out x2, cell_later HB3.out x3, HB3.out⟩) (first | (go_at_call 37; first | (refine (kind_any (HN.out.later HB3.out)).mono ?_; rintro e w4 ⟨rfl, hb4⟩; have HB4 := hid (HB3.out.trans (hb4.mono HB3.out.size)); clear hb4) | (refine (kind_any (HN.out.later HB2.out.drew)).mono ?_; rintro e w3 ⟨rfl, hb3⟩; have HB3 := hid (HB2.out.drew.trans (hb3.mono HB2.out.drew.size)); clear hb3)) | (go_at_call 38; first | (refine (content_any (HN.out.later HB3.out) HSm.out HRi.out).mono ?_; rintro e w4 ⟨rfl, hb4⟩; have HB4 := hid (HB3.out.trans (hb4.mono HB3.out.size)); clear hb4) | (refine (content_any (HN.out.later HB2.out.drew) HSm.out HRi.out).mono ?_; rintro e w3 ⟨rfl, hb3⟩; have HB3 := hid (HB2.out.drew.trans (hb3.mono HB2.out.drew.size)); clear hb3)))
      all_goals go_wp2_with fail
      all_goals go_ret3
      all_goals exact ⟨by rw [HE.out]; rfl, below3 hBe HB0.out hB HB4.out⟩
end Go.Proofs.Ytkipigbfbhecjaa
