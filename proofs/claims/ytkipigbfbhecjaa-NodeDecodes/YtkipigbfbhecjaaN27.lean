/- What this text holds: what was laid is read as it was. -/
import Derived.Test.YtkipigbfbhecjaaN26
namespace Go.Proofs.Ytkipigbfbhecjaa
open Go.RowKit
set_option linter.unusedVariables false
set_option linter.unusedSimpArgs false

theorem strOf_len (l : List Int) : (strOf l).data.toList.length = l.length := by rw [strOf_toList, List.length_map]
theorem extract_toList (s : ByteArray) (i j : Nat) : (s.extract i j).data.toList = (s.data.toList.drop i).take (j - i) := by
  rw [ByteArray.data_extract, Array.toList_extract, List.extract_eq_take_drop]
theorem cut_app (l1 l2 : List Int) (sh : Bool) {k : Nat} (h : l1.length = k) : (Rs.mk (strOf (l1 ++ l2)) sh).cut k = strOf l1 ∧ (Rs.mk (strOf (l1 ++ l2)) sh).after k = ⟨strOf l2, sh⟩ := by
  have hsz : (strOf (l1 ++ l2)).size = l1.length + l2.length := by rw [strOf_size, List.length_append]
  have hn : ¬ (strOf (l1 ++ l2)).size < k := by omega
  unfold Rs.cut Rs.after
  rw [if_neg hn, if_neg hn]
  refine ⟨?_, ?_⟩
  · apply ByteArray.ext
    apply Array.toList_inj.1
    rw [extract_toList, strOf_toList, strOf_toList, List.drop_zero, List.map_append, List.take_append_of_le_length (by simp; omega), List.take_of_length_le (by simp; omega)]
  · congr 1
    apply ByteArray.ext
    apply Array.toList_inj.1
    rw [extract_toList, strOf_toList, strOf_toList, List.map_append, List.drop_append_of_le_length (by simp; omega), List.drop_of_length_le (by simp; omega), List.nil_append, List.take_of_length_le (by simp [hsz]; omega)]
theorem numB_byt : ∀ (k : Nat) (x : Int), Byt (numB k x)
  | 0, _ => fun y hy => by cases hy
  | k + 1, x => fun y hy => by
    simp only [numB, List.mem_cons] at hy
    rcases hy with rfl | hy
    · omega
    · exact numB_byt k x y hy
theorem num_app (k : Nat) (x : Int) (l2 : List Int) (sh : Bool) (h0 : 0 ≤ x) (h1 : x < 256 ^ k) : (Rs.mk (strOf (numB k x ++ l2)) sh).num k = x := by
  unfold Rs.num
  rw [(cut_app (numB k x) l2 sh (numB_length k x)).1, bOf_strOf _ (numB_byt k x), val_numB' _ _ h0 h1]

/-- The parts from a place on. -/
def restL (n : Nd) : Nat → Nat → List Int
  | _, 0 => []
  | i, d + 1 => partL n i ++ restL n (i + 1) d
theorem parts_rest (n : Nd) : ∀ (d i : Nat), partsL n (i + d) = partsL n i ++ restL n i d
  | 0, i => by simp [restL]
  | d + 1, i => by
    rw [show i + (d + 1) = (i + 1) + d by omega, parts_rest n d (i + 1)]
    show partsL n i ++ partL n i ++ _ = _
    rw [List.append_assoc]; rfl

theorem key_read (n : Nd) (i : Nat) (L : List Int) (h : (n.key i).size ≤ 60) : (Rs.mk (strOf (numB 1 (n.key i).size ++ bOf (n.key i) ++ L)) false).keyR = n.key i ∧ (Rs.mk (strOf (numB 1 (n.key i).size ++ bOf (n.key i) ++ L)) false).afterKey = ⟨strOf L, false⟩ := by
  unfold Rs.keyR Rs.afterKey
  rw [List.append_assoc, num_app 1 _ _ _ (by omega) (by omega), (cut_app (numB 1 _) _ _ (numB_length 1 _)).2, Int.toNat_natCast]
  obtain ⟨h1, h2⟩ := cut_app (bOf (n.key i)) L false (bOf_length (n.key i))
  exact ⟨by rw [h1, strOf_bOf], h2⟩
theorem item_read (x : It) (L : List Int) (h : itemOk x = true) : (Rs.mk (strOf (itemL x ++ L)) false).item = x ∧ (Rs.mk (strOf (itemL x ++ L)) false).afterItem = ⟨strOf L, false⟩ := by
  unfold Rs.item Rs.afterItem itemL
  by_cases h0 : x.page = 0
  · obtain ⟨q1, q2⟩ := itemOk_zero h h0
    rw [if_pos h0, List.append_assoc, num_app 1 _ _ _ (by omega) (by omega), (cut_app (numB 1 _) _ _ (numB_length 1 _)).2, if_neg (by omega), if_neg (by omega), Int.toNat_natCast]
    obtain ⟨h1, h2⟩ := cut_app (bOf x.val) L false (bOf_length x.val)
    refine ⟨?_, h2⟩
    rw [h1, strOf_bOf]
    cases x; simp_all
  · obtain ⟨q1, q2, q3, q4⟩ := itemOk_page h h0
    rw [if_neg h0, List.append_assoc, List.append_assoc, num_app 1 _ _ _ (by omega) (by omega), (cut_app (numB 1 _) _ _ (numB_length 1 _)).2, if_pos rfl, if_pos rfl, num_app 4 _ _ _ (by omega) (by omega), (cut_app (numB 4 x.page) _ _ (numB_length 4 _)).2, num_app 4 _ _ _ (by omega) (by omega), (cut_app (numB 4 x.size) _ _ (numB_length 4 _)).2]
    refine ⟨?_, rfl⟩
    have e : x.val = ⟨#[]⟩ := toList_inj (by rw [q2, ba_toList])
    cases x; simp_all
theorem run_back {n : Nd} (r : Ri n) : ∀ (d i : Nat), i + d = n.keys.length → runR d (⟨strOf (restL n i d), false⟩, ⟨n.leaf, n.keys.take i, n.items.take i, if n.leaf then [] else n.kids.take (i + 1)⟩) = (⟨strOf [], false⟩, n)
  | 0, i, h => by
    have hi : i = n.keys.length := by omega
    subst hi
    show (_, _) = _
    congr 1
    cases hl : n.leaf with
    | true =>
      obtain ⟨h1, h2, _⟩ := r.leaf hl
      have e : n.kids = [] := List.eq_nil_of_length_eq_zero h2
      rw [List.take_length, ← h1, List.take_length]
      cases n; simp_all
    | false =>
      obtain ⟨_, h1, h2, _⟩ := r.other hl
      have e : n.items = [] := List.eq_nil_of_length_eq_zero h2
      rw [List.take_length, ← h1, List.take_length, e]
      cases n; simp_all
  | d + 1, i, h => by
    have hik : i < n.keys.length := by omega
    rw [runR_succ _ _ rfl]
    rw [← run_back r d (i + 1) (by omega)]
    congr 1
    show stepR (⟨strOf (partL n i ++ restL n (i + 1) d), false⟩, _) = _
    have hks := r.key_size i hik
    have etk : n.keys.take (i + 1) = n.keys.take i ++ [n.key i] := by rw [List.take_succ_eq_append_getElem hik, n.key_at i hik]
    unfold stepR partL
    cases hl : n.leaf with
    | true =>
      obtain ⟨h1, h2, _⟩ := r.leaf hl
      have hik2 : i < n.items.length := by omega
      have eti : n.items.take (i + 1) = n.items.take i ++ [n.item i] := by rw [List.take_succ_eq_append_getElem hik2, n.item_at i hik2]
      obtain ⟨k1, k2⟩ := key_read n i (itemL (n.item i) ++ restL n (i + 1) d) hks
      obtain ⟨m1, m2⟩ := item_read (n.item i) (restL n (i + 1) d) (r.item_ok hl i hik)
      simp only [if_true]
      rw [List.append_assoc, k1, k2, m1, m2, etk, eti]
    | false =>
      obtain ⟨_, h1, h2, _⟩ := r.other hl
      have hik2 : i + 1 < n.kids.length := by omega
      have eti : n.kids.take (i + 1 + 1) = n.kids.take (i + 1) ++ [n.kid (i + 1)] := by rw [List.take_succ_eq_append_getElem hik2, n.kid_at (i + 1) hik2]
      have e0 : n.items = [] := List.eq_nil_of_length_eq_zero h2
      obtain ⟨k1, k2⟩ := key_read n i (numB 4 (n.kid (i + 1)) ++ restL n (i + 1) d) hks
      have hp := pageOk_iff (r.kid_ok hl (i + 1) (by omega))
      simp only [Bool.false_eq_true, if_false]
      rw [List.append_assoc, k1, k2, num_app 4 _ _ _ (by omega) (by omega), (cut_app (numB 4 _) _ _ (numB_length 4 _)).2, etk, eti, e0]
      simp
theorem read_back {n : Nd} (r : Ri n) (hk : n.keys.length ≤ 65535) : readN n.leaf (strOf (contentL n)) = n := by
  unfold readN begR contentL headL
  cases hl : n.leaf with
  | true =>
    simp only [if_true, List.append_nil]
    rw [num_app 2 _ _ _ (by omega) (by omega), (cut_app (numB 2 _) _ _ (numB_length 2 _)).2, Int.toNat_natCast]
    have h1 := run_back r n.keys.length 0 (by omega)
    have h2 := parts_rest n n.keys.length 0
    rw [Nat.zero_add] at h2
    rw [h2]
    simp only [hl, if_true, List.take_zero] at h1
    show (runR _ (⟨strOf ([] ++ restL n 0 n.keys.length), false⟩, _)).2 = n
    rw [List.nil_append, h1]
  | false =>
    simp only [Bool.false_eq_true, if_false]
    have hp := pageOk_iff (r.kid_ok hl 0 (by omega))
    obtain ⟨_, hkd, hit, _⟩ := r.other hl
    rw [List.append_assoc, num_app 2 _ _ _ (by omega) (by omega), (cut_app (numB 2 _) _ _ (numB_length 2 _)).2, num_app 4 _ _ _ (by omega) (by omega), (cut_app (numB 4 _) _ _ (numB_length 4 _)).2, Int.toNat_natCast]
    have h1 := run_back r n.keys.length 0 (by omega)
    have h2 := parts_rest n n.keys.length 0
    rw [Nat.zero_add] at h2
    rw [h2]
    have e1 : n.kids.take 1 = [n.kid 0] := by rw [List.take_succ_eq_append_getElem (by omega : 0 < n.kids.length), n.kid_at 0 (by omega)]; rfl
    simp only [hl, Bool.false_eq_true, if_false, List.take_zero, Nat.zero_add, e1] at h1
    show (runR _ (⟨strOf ([] ++ restL n 0 n.keys.length), false⟩, _)).2 = n
    rw [List.nil_append, h1]
theorem dec_back {n : Nd} (r : Ri n) (hk : n.keys.length ≤ 65535) : decB n.leaf (strOf (contentL n)) = true := by
  unfold decB
  rw [read_back r hk, of_ri r]
  simp
end Go.Proofs.Ytkipigbfbhecjaa
