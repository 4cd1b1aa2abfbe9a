/- What this text holds: a node's content as plain data; how many bytes it has, as the program counts them. -/
import Derived.Test.YtkipigbfbhecjaaN6
namespace Go.Proofs.Ytkipigbfbhecjaa
open Go.RowKit
set_option linter.unusedVariables false
set_option linter.unusedSimpArgs false

def Nd.key (n : Nd) (i : Nat) : ByteArray := n.keys.getD i ByteArray.empty
def Nd.item (n : Nd) (i : Nat) : It := n.items.getD i ⟨ByteArray.empty, 0, 0⟩
def Nd.kid (n : Nd) (i : Nat) : Int := n.kids.getD i 0
theorem Nd.key_at (n : Nd) (i : Nat) (h : i < n.keys.length) : n.key i = n.keys[i] := by unfold Nd.key; rw [List.getD_eq_getElem?_getD, List.getElem?_eq_getElem h]; rfl
theorem Nd.item_at (n : Nd) (i : Nat) (h : i < n.items.length) : n.item i = n.items[i] := by unfold Nd.item; rw [List.getD_eq_getElem?_getD, List.getElem?_eq_getElem h]; rfl
theorem Nd.kid_at (n : Nd) (i : Nat) (h : i < n.kids.length) : n.kid i = n.kids[i] := by unfold Nd.kid; rw [List.getD_eq_getElem?_getD, List.getElem?_eq_getElem h]; rfl

/-- The bytes of an item; of a key with what belongs to it; of the first keys; of all. -/
def itemL (x : It) : List Int := if x.page = 0 then numB 1 x.val.size ++ bOf x.val else numB 1 255 ++ numB 4 x.page ++ numB 4 x.size
def partL (n : Nd) (i : Nat) : List Int := numB 1 (n.key i).size ++ bOf (n.key i) ++ (if n.leaf then itemL (n.item i) else numB 4 (n.kid (i + 1)))
def partsL (n : Nd) : Nat → List Int
  | 0 => []
  | k + 1 => partsL n k ++ partL n k
def headL (n : Nd) : List Int := numB 2 n.keys.length ++ (if n.leaf then [] else numB 4 (n.kid 0))
def contentL (n : Nd) : List Int := headL n ++ partsL n n.keys.length
/-- How many bytes these have. -/
def keyN (n : Nd) (i : Nat) : Nat := (partL n i).length
def sizeN (n : Nd) (k : Nat) : Nat := (headL n ++ partsL n k).length
theorem sizeN_zero (n : Nd) : sizeN n 0 = if n.leaf then 2 else 6 := by
  unfold sizeN headL partsL
  cases n.leaf <;> simp [numB_length]
theorem sizeN_succ (n : Nd) (k : Nat) : sizeN n (k + 1) = sizeN n k + keyN n k := by
  show (headL n ++ (partsL n k ++ partL n k)).length = (headL n ++ partsL n k).length + (partL n k).length
  simp only [List.length_append]; omega

theorem itemL_length (x : It) : (itemL x).length = if x.page = 0 then 1 + x.val.size else 9 := by
  unfold itemL
  split <;> simp [numB_length, bOf_length]
theorem keyN_eq (n : Nd) (i : Nat) : keyN n i = 1 + (n.key i).size + (if n.leaf then (itemL (n.item i)).length else 4) := by
  unfold keyN partL
  simp only [List.length_append, numB_length, bOf_length]
  cases n.leaf <;> simp [numB_length]

/-- What a right node's parts are. -/
structure Ri (n : Nd) : Prop where
  rise : risingB n.keys = true
  leaf : n.leaf = true → n.items.length = n.keys.length ∧ n.kids.length = 0 ∧ ∀ x ∈ n.items, itemOk x = true
  other : n.leaf = false → 0 < n.keys.length ∧ n.kids.length = n.keys.length + 1 ∧ n.items.length = 0 ∧ ∀ x ∈ n.kids, pageOk x = true
theorem ri_of {n : Nd} (h : rightB n = true) : Ri n := by
  unfold rightB at h
  rw [Bool.and_eq_true] at h
  refine ⟨h.1, fun e => ?_, fun e => ?_⟩
  · have := h.2; rw [e] at this
    simpa [and_assoc] using this
  · have := h.2; rw [e] at this
    simpa [and_assoc] using this
theorem of_ri {n : Nd} (h : Ri n) : rightB n = true := by
  unfold rightB
  rw [h.rise]
  cases e : n.leaf with
  | true => obtain ⟨h1, h2, h3⟩ := h.leaf e; simp only [h1, h2, List.all_eq_true.2 h3]; rfl
  | false => obtain ⟨h1, h2, h3, h4⟩ := h.other e; simp only [h1, h2, h3, List.all_eq_true.2 h4]; rfl
theorem Ri.keyOk {n : Nd} (h : Ri n) (i : Nat) (hi : i < n.keys.length) : keyOk n.keys i = true := by
  have := h.rise
  unfold risingB at this
  exact List.all_eq_true.1 this i (List.mem_range.2 hi)
theorem Ri.key_size {n : Nd} (h : Ri n) (i : Nat) (hi : i < n.keys.length) : (n.key i).size ≤ 60 := by
  have := h.keyOk i hi
  rw [keyOk_at _ _ hi, Bool.and_eq_true, decide_eq_true_eq] at this
  rw [n.key_at i hi]; exact this.1
theorem Ri.item_ok {n : Nd} (h : Ri n) (hl : n.leaf = true) (i : Nat) (hi : i < n.keys.length) : itemOk (n.item i) = true := by
  obtain ⟨h1, _, h3⟩ := h.leaf hl
  rw [n.item_at i (by omega)]; exact h3 _ (List.getElem_mem _)
theorem Ri.kid_ok {n : Nd} (h : Ri n) (hl : n.leaf = false) (i : Nat) (hi : i ≤ n.keys.length) : pageOk (n.kid i) = true := by
  obtain ⟨_, h1, _, h3⟩ := h.other hl
  rw [n.kid_at i (by omega)]; exact h3 _ (List.getElem_mem _)
theorem pageOk_iff {p : Int} (h : pageOk p = true) : 2 ≤ p ∧ p < 4096 := by
  unfold pageOk at h; simpa using h
theorem itemOk_zero {x : It} (h : itemOk x = true) (h0 : x.page = 0) : x.size = 0 ∧ x.val.size ≤ 60 := by
  unfold itemOk at h; rw [if_pos h0] at h; simpa using h
theorem itemOk_page {x : It} (h : itemOk x = true) (h0 : x.page ≠ 0) : (2 ≤ x.page ∧ x.page < 4096) ∧ x.val.toList = [] ∧ 60 < x.size ∧ x.size ≤ 60000 := by
  unfold itemOk at h; rw [if_neg h0] at h
  simp only [Bool.and_eq_true, decide_eq_true_eq, List.isEmpty_iff] at h
  exact ⟨pageOk_iff h.1.1.1, h.1.1.2, h.1.2, h.2⟩
theorem Ri.keyN_le {n : Nd} (h : Ri n) (i : Nat) (hi : i < n.keys.length) : keyN n i ≤ 122 := by
  have h1 := h.key_size i hi
  rw [keyN_eq]
  cases hl : n.leaf with
  | false => simp; omega
  | true =>
    have h2 := h.item_ok hl i hi
    simp only [if_true, itemL_length]
    by_cases h0 : (n.item i).page = 0
    · have := (itemOk_zero h2 h0).2; simp only [h0, if_true]; omega
    · simp only [h0, if_false]; omega
theorem Ri.sizeN_le {n : Nd} (h : Ri n) : ∀ k, k ≤ n.keys.length → sizeN n k ≤ 6 + 122 * k
  | 0, _ => by rw [sizeN_zero]; split <;> omega
  | k + 1, hk => by rw [sizeN_succ]; have := h.sizeN_le k (by omega); have := h.keyN_le k (by omega); omega

set_option maxRecDepth 100000 in
set_option maxHeartbeats 400000 in
theorem base_any {w : World} {v : Value} {n : Nd} (h : NAt w v n) : Calls Try.prog 34 #[v] w fun e w' => e = .returned (.int .i64 (sizeN n 0)) ∧ Below w.heap.size w w' := by
  obtain ⟨ka, kp, ia, ep, da, dp, rfl, _⟩ := h.at_
  rw [sizeN_zero]
  generalize n.leaf = leaf
  unfold nv
  cases leaf
  all_goals go_enter Try.func34, Try.ntmps34
  all_goals go_wp2
  all_goals (go_ret; exact ⟨rfl, below_box _ _⟩)

set_option maxRecDepth 100000 in
set_option maxHeartbeats 1000000 in
theorem keysize_any {w : World} {v : Value} {n : Nd} (h : NAt w v n) (sm : n.small) (r : Ri n) (i : Nat) (hi : i < n.keys.length) : Calls Try.prog 35 #[v, .int .i64 i] w fun e w' => e = .returned (.int .i64 (keyN n i)) ∧ Below w.heap.size w w' := by
  obtain ⟨ka, kp, ia, ep, da, dp, rfl, hk, hI, hd, ⟨k1, k2⟩, ⟨i1, i2⟩, ⟨d1, d2⟩⟩ := h.at_
  have hs := r.key_size i hi
  have HN := hid (keyN_eq n i)
  obtain ⟨kb, ko, rfl, ck⟩ := (hk.later (below_box w (.cells #[.bool n.leaf, .slice ka n.keys.length kp, .slice ia n.items.length ep, .slice da n.kids.length dp] 26))).key i hi
  rw [← n.key_at i hi] at ck
  unfold maxLen at k2 i2 d2
  have hk7 := sm.k
  cases hl : n.leaf with
  | false =>
    rw [hl] at ck
    clear hk hI hd h
    unfold nv
    rw [hl] at HN
    generalize n.key i = s at ck hs HN
    generalize n.keys.length = kn at *
    go_enter Try.func35, Try.ntmps35
    go_wp2
    go_ret
    refine ⟨?_, below_box _ _⟩
    rw [HN.out]
    simp
  | true =>
    have hi' : i < n.items.length := by rw [(r.leaf hl).1]; exact hi
    obtain ⟨ib, io, rfl, c0, c1, c2⟩ := (hI.later (below_box w (.cells #[.bool n.leaf, .slice (some ⟨kb, ko, none⟩) n.keys.length kp, .slice ia n.items.length ep, .slice da n.kids.length dp] 26))).item i hi'
    rw [← n.item_at i hi'] at c0 c1 c2
    have hok := r.item_ok hl i hi
    have hi7 := sm.i
    rw [hl] at ck c0 c1 c2
    clear hk hI hd h
    unfold nv
    rw [hl] at HN
    generalize n.key i = s at ck hs HN
    generalize n.item i = x at c0 c1 c2 HN hok
    generalize n.keys.length = kn at *
    generalize n.items.length = en at *
    by_cases h0 : x.page = 0
    · have hv := (itemOk_zero hok h0).2
      rw [h0] at c1
      go_enter Try.func35, Try.ntmps35
      go_wp2
      go_ret
      refine ⟨?_, below_box _ _⟩
      rw [HN.out, itemL_length]
      simp [h0]
      go_num
    · have hv := (itemOk_page hok h0).1
      have hv' : 0 < x.page := by omega
      go_enter Try.func35, Try.ntmps35
      go_wp2
      go_ret
      refine ⟨?_, below_box _ _⟩
      rw [HN.out, itemL_length]
      simp [h0]
      go_num

def sizeB (n : Nd) : Nat := if rightB n then sizeN n n.keys.length else 0
set_option maxRecDepth 100000 in
set_option maxHeartbeats 1000000 in
theorem size_any {w : World} {v : Value} {n : Nd} (h : NAt w v n) (sm : n.small) : Calls Try.prog 14 #[v] w fun e w' => e = .returned (.int .i64 (sizeB n)) ∧ Below w.heap.size w w' := by
  obtain ⟨ka, kp, ia, ep, da, dp, rfl, hk, hI, hd, ⟨k1, k2⟩, ⟨i1, i2⟩, ⟨d1, d2⟩⟩ := h.at_
  have HSm := hid sm
  have hk7 := sm.k
  have HN := hid (h.later (below_box w (.cells #[.bool n.leaf, .slice ka n.keys.length kp, .slice ia n.items.length ep, .slice da n.kids.length dp] 26)))
  have HB0 := hid (below_box w (.cells #[.bool n.leaf, .slice ka n.keys.length kp, .slice ia n.items.length ep, .slice da n.kids.length dp] 26))
  have HX := hid (@box4 w _ _ _ _ _ _ (Below.refl (w.alloc (.cells #[.bool n.leaf, .slice ka n.keys.length kp, .slice ia n.items.length ep, .slice da n.kids.length dp] 26)).heap.size _))
  clear hk hI hd h sm
  unfold nv
  go_enter Try.func14, Try.ntmps14
  go_wp2_with fail
  generalize w.alloc (.cells #[.bool n.leaf, .slice ka n.keys.length kp, .slice ia n.items.length ep, .slice da n.kids.length dp] 26) = W at HB0 HX HN ⊢
  have hB : w.heap.size ≤ W.heap.size := HB0.out.size
  generalize hBe : w.heap.size = B at HB0 HX hB ⊢
  refine (right_any HN.out HSm.out).mono ?_
  rintro e w1 ⟨rfl, hb1⟩
  have HB1 := hid hb1
  obtain ⟨x0, x1, x2, x3⟩ := HX.out
  have c0 := cell_later hb1 x0
  have c1 := cell_later hb1 x1
  have c2 := cell_later hb1 x2
  have c3 := cell_later hb1 x3
  clear hb1 x0 x1 x2 x3
  cases hr : rightB n with
  | false =>
    go_wp2_with fail
    go_ret
    exact ⟨by unfold sizeB; rw [hr]; rfl, below3 hBe HB0.out hB HB1.out⟩
  | true =>
    have HRi := hid (ri_of hr)
    have HE : Hid (sizeB n = sizeN n n.keys.length) := by unfold sizeB; rw [hr]; rfl
    clear hr
    go_wp2_with fail
    refine (base_any (HN.out.later HB1.out)).mono ?_
    rintro e w2 ⟨rfl, hb2⟩
    have HB2 := hid (HB1.out.trans (hb2.mono HB1.out.size))
    obtain ⟨x0, x1, x2, x3⟩ := HX.out
    clear c0 c1 c2 c3
    have c1 := cell_later HB2.out x1
    clear hb2 x0 x1 x2 x3
    generalize hkn : n.keys.length = kn at *
    have HKn := hid hkn
    clear hkn
    go_wp2_with fail
    go_loopw [3, 13] (fun s i wr => ∃ k : Nat, k ≤ kn ∧ i = .int .i64 k ∧ s = .int .i64 (sizeN n k) ∧ Below W.heap.size W wr) (fun _ i _ => kn - (intOf i).toNat)
    case atStart => exact ⟨0, by omega, rfl, rfl, HB2.out⟩
    case round =>
      obtain ⟨k, hk, rfl, rfl, hb⟩ := hrel
      have HBr := hid hb
      obtain ⟨x0, x1, x2, x3⟩ := HX.out
      clear c1
      have c0 := cell_later hb x0
      have c1 := cell_later hb x1
      have c2 := cell_later hb x2
      have c3 := cell_later hb x3
      clear hb x0 x1 x2 x3
      by_cases hlt : k < kn
      · have hlk : k < n.keys.length := by rw [HKn.out]; exact hlt
        have hs1 := HRi.out.sizeN_le k (by omega)
        have hs2 := HRi.out.keyN_le k hlk
        have HS := hid (sizeN_succ n k)
        have HC := hid (keysize_any (HN.out.later HBr.out) HSm.out HRi.out k hlk)
        go_wp2_with fail
        refine HC.out.mono ?_
        rintro e w3 ⟨rfl, hb3⟩
        have HB3 := hid (HBr.out.trans (hb3.mono HBr.out.size))
        clear hb3 HC
        go_wp2_with fail
        go_roundw
        case rel => exact ⟨k + 1, by omega, by go_num, by rw [HS.out]; go_num, HB3.out⟩
        case measure => simp [intOf]; omega
      · obtain rfl : kn = k := by omega
        go_wp2_with fail
        go_ret
        exact ⟨by rw [HE.out]; rfl, below3 hBe HB0.out hB HBr.out⟩
end Go.Proofs.Ytkipigbfbhecjaa
