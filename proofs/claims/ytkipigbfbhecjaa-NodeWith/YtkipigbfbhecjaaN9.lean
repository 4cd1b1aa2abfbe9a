/- What this text holds: Size and Encode, as the document has them. -/
import Derived.Test.YtkipigbfbhecjaaN8
namespace Go.Proofs.Ytkipigbfbhecjaa
open Go.RowKit
set_option linter.unusedVariables false
set_option linter.unusedSimpArgs false

/-- What Encode answers. -/
def encV (n : Nd) : Value := if rightB n then (if 492 < sizeN n n.keys.length then .tuple #[.int .i64 0, .string ⟨#[]⟩, .int .i64 4] else .tuple #[.int .i64 (if n.leaf then 1 else 2), .string (strOf (contentL n)), .int .i64 0]) else .tuple #[.int .i64 0, .string ⟨#[]⟩, .int .i64 2]
theorem content_size (n : Nd) : (strOf (contentL n)).size = sizeN n n.keys.length := by rw [strOf_size]; rfl

set_option maxRecDepth 100000 in
set_option maxHeartbeats 1000000 in
theorem rsize_any {w : World} {v : Value} {n : Nd} (h : NAt w v n) (sm : n.small) : Calls Try.prog 15 #[v] w fun e w' => e = .returned (.int .i64 (sizeB n)) ∧ Below w.heap.size w w' := by
  obtain ⟨ka, kp, ia, ep, da, dp, rfl, _⟩ := h.at_
  have HSm := hid sm
  have HN := hid (h.later (below_box w (.cells #[.bool n.leaf, .slice ka n.keys.length kp, .slice ia n.items.length ep, .slice da n.kids.length dp] 26)))
  have HB0 := hid (below_box w (.cells #[.bool n.leaf, .slice ka n.keys.length kp, .slice ia n.items.length ep, .slice da n.kids.length dp] 26))
  have HX := hid (@box4 w _ _ _ _ _ _ (Below.refl (w.alloc (.cells #[.bool n.leaf, .slice ka n.keys.length kp, .slice ia n.items.length ep, .slice da n.kids.length dp] 26)).heap.size _))
  clear h sm
  unfold nv
  go_enter Try.func15, Try.ntmps15
  go_wp2_with fail
  generalize w.alloc (.cells #[.bool n.leaf, .slice ka n.keys.length kp, .slice ia n.items.length ep, .slice da n.kids.length dp] 26) = W at HB0 HX HN ⊢
  have hB : w.heap.size ≤ W.heap.size := HB0.out.size
  generalize hBe : w.heap.size = B at HB0 HX hB ⊢
  refine (rright_any HN.out HSm.out).mono ?_
  rintro e w1 ⟨rfl, hb1⟩
  have HB1 := hid hb1
  obtain ⟨x0, x1, x2, x3⟩ := HX.out
  have c0 := cell_later hb1 x0
  have c1 := cell_later hb1 x1
  have c2 := cell_later hb1 x2
  have c3 := cell_later hb1 x3
  clear hb1 x0 x1 x2 x3
  cases hr : rightB n with
  | false =>
    go_wp2_with fail
    go_ret
    exact ⟨by unfold sizeB; rw [hr]; rfl, below3 hBe HB0.out hB HB1.out⟩
  | true =>
    have HE : Hid (sizeB n = sizeN n n.keys.length) := by unfold sizeB; rw [hr]; rfl
    have HC := hid (rcontent_any (HN.out.later HB1.out) HSm.out (ri_of hr))
    have hz := content_size n
    clear hr
    go_wp2_with fail
    refine HC.out.mono ?_
    generalize strOf (contentL n) = S at hz ⊢
    rintro e w2 ⟨rfl, hb2⟩
    have HB2 := hid (HB1.out.trans (hb2.mono HB1.out.size))
    clear hb2 HC c0 c1 c2 c3
    have HZ := hid hz
    clear hz
    go_wp2_with fail
    go_ret
    exact ⟨by rw [HE.out, ← HZ.out]; rfl, below3 hBe HB0.out hB HB2.out⟩

set_option maxRecDepth 100000 in
set_option maxHeartbeats 1000000 in
theorem rencode_any {w : World} {v : Value} {n : Nd} (h : NAt w v n) (sm : n.small) : Calls Try.prog 17 #[v] w fun e w' => e = .returned (encV n) ∧ Below w.heap.size w w' := by
  obtain ⟨ka, kp, ia, ep, da, dp, rfl, _⟩ := h.at_
  have HSm := hid sm
  have HN := hid (h.later (below_box w (.cells #[.bool n.leaf, .slice ka n.keys.length kp, .slice ia n.items.length ep, .slice da n.kids.length dp] 26)))
  have HB0 := hid (below_box w (.cells #[.bool n.leaf, .slice ka n.keys.length kp, .slice ia n.items.length ep, .slice da n.kids.length dp] 26))
  have HX := hid (@box4 w _ _ _ _ _ _ (Below.refl (w.alloc (.cells #[.bool n.leaf, .slice ka n.keys.length kp, .slice ia n.items.length ep, .slice da n.kids.length dp] 26)).heap.size _))
  clear h
  unfold nv
  go_enter Try.func17, Try.ntmps17
  go_wp2_with fail
  generalize w.alloc (.cells #[.bool n.leaf, .slice ka n.keys.length kp, .slice ia n.items.length ep, .slice da n.kids.length dp] 26) = W at HB0 HX HN ⊢
  have hB : w.heap.size ≤ W.heap.size := HB0.out.size
  generalize hBe : w.heap.size = B at HB0 HX hB ⊢
  refine (rright_any HN.out HSm.out).mono ?_
  rintro e w1 ⟨rfl, hb1⟩
  have HB1 := hid hb1
  obtain ⟨x0, x1, x2, x3⟩ := HX.out
  have c0 := cell_later hb1 x0
  have c1 := cell_later hb1 x1
  have c2 := cell_later hb1 x2
  have c3 := cell_later hb1 x3
  clear hb1
  cases hr : rightB n with
  | false =>
    go_wp2_with fail
    go_ret3
    exact ⟨by unfold encV; rw [hr]; rfl, below3 hBe HB0.out hB HB1.out⟩
  | true =>
    have HRb := hid hr
    have HC := hid (rcontent_any (HN.out.later HB1.out) HSm.out (ri_of hr))
    have hz := content_size n
    have hle := (ri_of hr).sizeN_le n.keys.length (Nat.le_refl _)
    have hk7 := sm.k
    clear hr sm
    go_wp2_with fail
    refine HC.out.mono ?_
    have HE := hid (show encV n = (if 492 < sizeN n n.keys.length then .tuple #[.int .i64 0, .string ⟨#[]⟩, .int .i64 4] else .tuple #[.int .i64 (if n.leaf then 1 else 2), .string (strOf (contentL n)), .int .i64 0]) by unfold encV; rw [HRb.out]; rfl)
    generalize strOf (contentL n) = S at hz HE ⊢
    generalize hzz : sizeN n n.keys.length = z at hz hle HE
    rintro e w2 ⟨rfl, hb2⟩
    have HB2 := hid (HB1.out.trans (hb2.mono HB1.out.size))
    clear c0 c1 c2 c3
    have c0 := cell_later HB2.out x0
    clear hb2 HC x0 x1 x2 x3
    by_cases h4 : 492 < z
    · have h4' : (492 : Int) < S.size := by omega
      go_wp2_with fail
      go_ret3
      exact ⟨by rw [HE.out, if_pos h4]; rfl, below3 hBe HB0.out hB HB2.out⟩
    · have h4' : ¬ (492 : Int) < S.size := by omega
      rw [if_neg h4] at HE
      cases hl : n.leaf with
      | true =>
        rw [hl] at c0 HE
        go_wp2_with fail
        go_ret3
        exact ⟨by rw [HE.out]; rfl, below3 hBe HB0.out hB HB2.out⟩
      | false =>
        rw [hl] at c0 HE
        go_wp2_with fail
        go_ret3
        exact ⟨by rw [HE.out]; rfl, below3 hBe HB0.out hB HB2.out⟩
end Go.Proofs.Ytkipigbfbhecjaa
