/- What this text holds: a node that the document reads out of a content: what lies in memory meanwhile. -/
import Derived.Test.YtkipigbfbhecjaaN27
import Derived.Test.YtkipigbfbhecjaaN28
namespace Go.Proofs.Ytkipigbfbhecjaa
open Go.RowKit
set_option linter.unusedVariables false
set_option linter.unusedSimpArgs false

/-- The node under way, and the place of the answer. -/
structure Rd2 (w : World) (B r4 b6 : Nat) (vk vi vd : Value) (n : Nd) : Prop where
  nd : w.heap[b6]? = some (.cells #[.bool n.leaf, vk, vi, vd] 26 (0, 0))
  ok : w.ownsRow B 9 1 vk n.keys.length (kc n.keys)
  oi : w.ownsRow B 51 3 vi n.items.length (ic n.items)
  od : w.ownsRow B 3 1 vd n.kids.length (dc n.kids)
  z : w.heap[r4]? = some (.cells #[.bool false, .slice none 0 0, .slice none 0 0, .slice none 0 0] 26 (0, 0))
  ne : b6 ≠ r4
  h4 : B ≤ r4
  h6 : B ≤ b6
theorem Rd2.later {w w' : World} {B r4 b6 : Nat} {vk vi vd : Value} {n : Nd} (h : Rd2 w B r4 b6 vk vi vd n) (hb : Below w.heap.size w w') : Rd2 w' B r4 b6 vk vi vd n := by
  have hlt : ∀ k o, w.heap[k]? = some o → k < w.heap.size := fun k o hh => by
    rw [Array.getElem?_eq_some_iff] at hh
    exact hh.1
  exact { nd := (hb.block _ (hlt _ _ h.nd)).trans h.nd, ok := ownsRow_block h.ok (fun k hk => hb.block k (h.ok.lt k hk).2), oi := ownsRow_block h.oi (fun k hk => hb.block k (h.oi.lt k hk).2), od := ownsRow_block h.od (fun k hk => hb.block k (h.od.lt k hk).2), z := (hb.block _ (hlt _ _ h.z)).trans h.z, ne := h.ne, h4 := h.h4, h6 := h.h6 }

theorem rd2_push1 {w : World} {B r4 b6 : Nat} {vk vi vd : Value} {n : Nd} (h : Rd2 w B r4 b6 vk vi vd n) (hBw : B ≤ w.heap.size) (x : ByteArray) (hl : n.keys.length ≤ 69999) :
    ∃ v' w', w.cell? ⟨b6, 1, none⟩ = some vk ∧ (w.alloc (.cells #[.string x] 9)).cell? ⟨b6, 1, none⟩ = some vk ∧ (Builtin.append_ #[22, 22] 22 #[vk, .slice (some ⟨w.heap.size, 0, none⟩) 1 1]).run Try.prog (w.alloc (.cells #[.string x] 9)) = .ok v' w' ∧
      (∃ a n c, v' = .slice a n c) ∧ w'.cell? ⟨b6, 1, none⟩ = some vk ∧ w'.frozen? ⟨b6, 1, none⟩ = false ∧ Rd2 (w'.setCell ⟨b6, 1, none⟩ v') B r4 b6 v' vi vd { n with keys := n.keys ++ [x] } ∧ Below B w (w'.setCell ⟨b6, 1, none⟩ v') := by
  have hlt : ∀ (w : World) k o, w.heap[k]? = some o → k < w.heap.size := fun w k o hh => by
    rw [Array.getElem?_eq_some_iff] at hh
    exact hh.1
  obtain ⟨i, hi, hz0, hz1, hz2⟩ := info_parts Try.info9
  have hal : (w.alloc (.cells #[.string x] 9)).heap[w.heap.size]? = some (.cells #[.string x] 9 (0, 0)) := heap_alloc_new _ _
  have hA : Rd2 (w.alloc (.cells #[.string x] 9)) B r4 b6 vk vi vd n :=
    { nd := (Below.heap_alloc _ _ _ (hlt _ _ _ h.nd)).trans h.nd, ok := World.ownsRow.alloc h.ok _, oi := World.ownsRow.alloc h.oi _, od := World.ownsRow.alloc h.od _, z := (Below.heap_alloc _ _ _ (hlt _ _ _ h.z)).trans h.z, ne := h.ne, h4 := h.h4, h6 := h.h6 }
  obtain ⟨v', w', hr, ho, hg, _, _⟩ := run_append_own_at (P := Try.prog) (w.alloc (.cells #[.string x] 9)) B 22 22 9 i _ 1 16 Try.underlying22 hi hz0 hz1 hz2 rfl (by omega) _ n.keys.length (kc n.keys) hA.ok
    ⟨w.heap.size, 0, none⟩ 1 1 [.string x] rfl (fun j u hu => by
      rw [Addr.add_mid, Nat.zero_add]
      simp only [World.cell?, hal]
      simpa using hu) (fun u hu => by simp only [List.mem_cons, List.not_mem_nil, or_false] at hu; subst hu; rfl) (by unfold maxLen; omega) (by omega) (by simp; omega)
  have hO := OthT.grown hA.ok hg
  have e1 : kc n.keys ++ [.string x] = kc (n.keys ++ [x]) := by simp [kc]
  have e2 : n.keys.length + 1 = (n.keys ++ [x]).length := by simp
  rw [e1, e2] at ho
  have hnd' := hO b6 _ _ _ (by decide) hA.nd
  obtain ⟨⟨c0, c1, c2, c3⟩, hf⟩ := cells4 hnd'
  refine ⟨v', w', (cells4 h.nd).1.2.1, (cells4 hA.nd).1.2.1, hr, ?_, c1, hf _, ?_, ?_⟩
  · obtain ⟨a, c, e, _⟩ := slice_any ho
    exact ⟨a, _, c, e⟩
  · have hk := Kept.setCell [b6] w' ⟨b6, 1, none⟩ v' (by simp)
    have hS : ∀ k ∈ [b6], ∀ cs t m, w'.heap[k]? = some (.cells cs t m) → t = 26 := fun k hk cs t m hh => by
      simp only [List.mem_singleton] at hk
      subst hk
      rw [hnd'] at hh
      simp at hh
      exact hh.2.1.symm
    have hz := hO r4 _ _ _ (by decide) hA.z
    refine { nd := ?_, ok := ?_, oi := ?_, od := ?_, z := ?_, ne := h.ne, h4 := h.h4, h6 := h.h6 }
    · rw [heap_setCell_same _ _ _ _ _ _ hnd']; rfl
    · exact own_kept hk ho (fun k hm cs t m hh => by rw [hS k hm cs t m hh]; decide)
    · exact own_kept hk (hO.own (by decide) hA.oi) (fun k hm cs t m hh => by rw [hS k hm cs t m hh]; decide)
    · exact own_kept hk (hO.own (by decide) hA.od) (fun k hm cs t m hh => by rw [hS k hm cs t m hh]; decide)
    · exact (hk.block r4 (hlt _ _ _ hz) (by simpa using h.ne.symm)).trans hz
  · exact (((Below.refl B w).alloc hBw _).grown hg (by simp; omega) (fun k hk => (hA.ok.lt k hk).1)).setCell h.h6 _

theorem rd2_push2 {w : World} {B r4 b6 : Nat} {vk vi vd : Value} {n : Nd} (h : Rd2 w B r4 b6 vk vi vd n) (hBw : B ≤ w.heap.size) (x : It) (hl : n.items.length ≤ 69999) :
    ∃ v' w', w.cell? ⟨b6, 2, none⟩ = some vi ∧ (w.alloc (.cells #[.string x.val, .int .i64 x.page, .int .i64 x.size] 51)).cell? ⟨b6, 2, none⟩ = some vi ∧ (Builtin.append_ #[23, 23] 23 #[vi, .slice (some ⟨w.heap.size, 0, none⟩) 1 1]).run Try.prog (w.alloc (.cells #[.string x.val, .int .i64 x.page, .int .i64 x.size] 51)) = .ok v' w' ∧
      (∃ a n c, v' = .slice a n c) ∧ w'.cell? ⟨b6, 2, none⟩ = some vi ∧ w'.frozen? ⟨b6, 2, none⟩ = false ∧ Rd2 (w'.setCell ⟨b6, 2, none⟩ v') B r4 b6 vk v' vd { n with items := n.items ++ [x] } ∧ Below B w (w'.setCell ⟨b6, 2, none⟩ v') := by
  have hlt : ∀ (w : World) k o, w.heap[k]? = some o → k < w.heap.size := fun w k o hh => by
    rw [Array.getElem?_eq_some_iff] at hh
    exact hh.1
  obtain ⟨i, hi, hz0, hz1, hz2⟩ := info_parts Try.info51
  have hal : (w.alloc (.cells #[.string x.val, .int .i64 x.page, .int .i64 x.size] 51)).heap[w.heap.size]? = some (.cells #[.string x.val, .int .i64 x.page, .int .i64 x.size] 51 (0, 0)) := heap_alloc_new _ _
  have hA : Rd2 (w.alloc (.cells #[.string x.val, .int .i64 x.page, .int .i64 x.size] 51)) B r4 b6 vk vi vd n :=
    { nd := (Below.heap_alloc _ _ _ (hlt _ _ _ h.nd)).trans h.nd, ok := World.ownsRow.alloc h.ok _, oi := World.ownsRow.alloc h.oi _, od := World.ownsRow.alloc h.od _, z := (Below.heap_alloc _ _ _ (hlt _ _ _ h.z)).trans h.z, ne := h.ne, h4 := h.h4, h6 := h.h6 }
  obtain ⟨v', w', hr, ho, hg, _, _⟩ := run_append_own_at (P := Try.prog) (w.alloc (.cells #[.string x.val, .int .i64 x.page, .int .i64 x.size] 51)) B 23 23 51 i _ 3 32 Try.underlying23 hi hz0 hz1 hz2 rfl (by omega) _ n.items.length (ic n.items) hA.oi
    ⟨w.heap.size, 0, none⟩ 1 1 [.string x.val, .int .i64 x.page, .int .i64 x.size] rfl (fun j u hu => by
      rw [Addr.add_mid, Nat.zero_add]
      simp only [World.cell?, hal]
      simpa using hu) (fun u hu => by simp only [List.mem_cons, List.not_mem_nil, or_false] at hu; rcases hu with rfl | rfl | rfl <;> rfl) (by unfold maxLen; omega) (by omega) (by simp; omega)
  have hO := OthT.grown hA.oi hg
  have e1 : ic n.items ++ [.string x.val, .int .i64 x.page, .int .i64 x.size] = ic (n.items ++ [x]) := by simp [ic, itc]
  have e2 : n.items.length + 1 = (n.items ++ [x]).length := by simp
  rw [e1, e2] at ho
  have hnd' := hO b6 _ _ _ (by decide) hA.nd
  obtain ⟨⟨c0, c1, c2, c3⟩, hf⟩ := cells4 hnd'
  refine ⟨v', w', (cells4 h.nd).1.2.2.1, (cells4 hA.nd).1.2.2.1, hr, ?_, c2, hf _, ?_, ?_⟩
  · obtain ⟨a, c, e, _⟩ := slice_any ho
    exact ⟨a, _, c, e⟩
  · have hk := Kept.setCell [b6] w' ⟨b6, 2, none⟩ v' (by simp)
    have hS : ∀ k ∈ [b6], ∀ cs t m, w'.heap[k]? = some (.cells cs t m) → t = 26 := fun k hk cs t m hh => by
      simp only [List.mem_singleton] at hk
      subst hk
      rw [hnd'] at hh
      simp at hh
      exact hh.2.1.symm
    have hz := hO r4 _ _ _ (by decide) hA.z
    refine { nd := ?_, ok := ?_, oi := ?_, od := ?_, z := ?_, ne := h.ne, h4 := h.h4, h6 := h.h6 }
    · rw [heap_setCell_same _ _ _ _ _ _ hnd']; rfl
    · exact own_kept hk (hO.own (by decide) hA.ok) (fun k hm cs t m hh => by rw [hS k hm cs t m hh]; decide)
    · exact own_kept hk ho (fun k hm cs t m hh => by rw [hS k hm cs t m hh]; decide)
    · exact own_kept hk (hO.own (by decide) hA.od) (fun k hm cs t m hh => by rw [hS k hm cs t m hh]; decide)
    · exact (hk.block r4 (hlt _ _ _ hz) (by simpa using h.ne.symm)).trans hz
  · exact (((Below.refl B w).alloc hBw _).grown hg (by simp; omega) (fun k hk => (hA.oi.lt k hk).1)).setCell h.h6 _

theorem rd2_push3 {w : World} {B r4 b6 : Nat} {vk vi vd : Value} {n : Nd} (h : Rd2 w B r4 b6 vk vi vd n) (hBw : B ≤ w.heap.size) (x : Int) (hl : n.kids.length ≤ 69999) :
    ∃ v' w', w.cell? ⟨b6, 3, none⟩ = some vd ∧ (w.alloc (.cells #[.int .i64 x] 3)).cell? ⟨b6, 3, none⟩ = some vd ∧ (Builtin.append_ #[24, 24] 24 #[vd, .slice (some ⟨w.heap.size, 0, none⟩) 1 1]).run Try.prog (w.alloc (.cells #[.int .i64 x] 3)) = .ok v' w' ∧
      (∃ a n c, v' = .slice a n c) ∧ w'.cell? ⟨b6, 3, none⟩ = some vd ∧ w'.frozen? ⟨b6, 3, none⟩ = false ∧ Rd2 (w'.setCell ⟨b6, 3, none⟩ v') B r4 b6 vk vi v' { n with kids := n.kids ++ [x] } ∧ Below B w (w'.setCell ⟨b6, 3, none⟩ v') := by
  have hlt : ∀ (w : World) k o, w.heap[k]? = some o → k < w.heap.size := fun w k o hh => by
    rw [Array.getElem?_eq_some_iff] at hh
    exact hh.1
  obtain ⟨i, hi, hz0, hz1, hz2⟩ := info_parts Try.info3
  have hal : (w.alloc (.cells #[.int .i64 x] 3)).heap[w.heap.size]? = some (.cells #[.int .i64 x] 3 (0, 0)) := heap_alloc_new _ _
  have hA : Rd2 (w.alloc (.cells #[.int .i64 x] 3)) B r4 b6 vk vi vd n :=
    { nd := (Below.heap_alloc _ _ _ (hlt _ _ _ h.nd)).trans h.nd, ok := World.ownsRow.alloc h.ok _, oi := World.ownsRow.alloc h.oi _, od := World.ownsRow.alloc h.od _, z := (Below.heap_alloc _ _ _ (hlt _ _ _ h.z)).trans h.z, ne := h.ne, h4 := h.h4, h6 := h.h6 }
  obtain ⟨v', w', hr, ho, hg, _, _⟩ := run_append_own_at (P := Try.prog) (w.alloc (.cells #[.int .i64 x] 3)) B 24 24 3 i _ 1 8 Try.underlying24 hi hz0 hz1 hz2 rfl (by omega) _ n.kids.length (dc n.kids) hA.od
    ⟨w.heap.size, 0, none⟩ 1 1 [.int .i64 x] rfl (fun j u hu => by
      rw [Addr.add_mid, Nat.zero_add]
      simp only [World.cell?, hal]
      simpa using hu) (fun u hu => by simp only [List.mem_cons, List.not_mem_nil, or_false] at hu; subst hu; rfl) (by unfold maxLen; omega) (by omega) (by simp; omega)
  have hO := OthT.grown hA.od hg
  have e1 : dc n.kids ++ [.int .i64 x] = dc (n.kids ++ [x]) := by simp [dc]
  have e2 : n.kids.length + 1 = (n.kids ++ [x]).length := by simp
  rw [e1, e2] at ho
  have hnd' := hO b6 _ _ _ (by decide) hA.nd
  obtain ⟨⟨c0, c1, c2, c3⟩, hf⟩ := cells4 hnd'
  refine ⟨v', w', (cells4 h.nd).1.2.2.2, (cells4 hA.nd).1.2.2.2, hr, ?_, c3, hf _, ?_, ?_⟩
  · obtain ⟨a, c, e, _⟩ := slice_any ho
    exact ⟨a, _, c, e⟩
  · have hk := Kept.setCell [b6] w' ⟨b6, 3, none⟩ v' (by simp)
    have hS : ∀ k ∈ [b6], ∀ cs t m, w'.heap[k]? = some (.cells cs t m) → t = 26 := fun k hk cs t m hh => by
      simp only [List.mem_singleton] at hk
      subst hk
      rw [hnd'] at hh
      simp at hh
      exact hh.2.1.symm
    have hz := hO r4 _ _ _ (by decide) hA.z
    refine { nd := ?_, ok := ?_, oi := ?_, od := ?_, z := ?_, ne := h.ne, h4 := h.h4, h6 := h.h6 }
    · rw [heap_setCell_same _ _ _ _ _ _ hnd']; rfl
    · exact own_kept hk (hO.own (by decide) hA.ok) (fun k hm cs t m hh => by rw [hS k hm cs t m hh]; decide)
    · exact own_kept hk (hO.own (by decide) hA.oi) (fun k hm cs t m hh => by rw [hS k hm cs t m hh]; decide)
    · exact own_kept hk ho (fun k hm cs t m hh => by rw [hS k hm cs t m hh]; decide)
    · exact (hk.block r4 (hlt _ _ _ hz) (by simpa using h.ne.symm)).trans hz
  · exact (((Below.refl B w).alloc hBw _).grown hg (by simp; omega) (fun k hk => (hA.od.lt k hk).1)).setCell h.h6 _

/-- Once short, always short. -/
theorem step_short {x : Rs × Nd} (h : (stepR x).1.short = false) : (x.1.after 1).short = false ∧ x.1.afterKey.short = false := by
  unfold stepR at h
  have hk : x.1.afterKey.short = false := by
    split at h
    · cases hh : x.1.afterKey.short with
      | false => rfl
      | true =>
        have h2 : x.1.afterKey.afterItem.short = true := by
          unfold Rs.afterItem
          split
          · rw [after_short, after_short, after_short, hh]; rfl
          · rw [after_short, after_short, hh]; rfl
        rw [h2] at h; cases h
    · cases hh : x.1.afterKey.short with
      | false => rfl
      | true => have h2 : (x.1.afterKey.after 4).short = true := by rw [after_short, hh]; rfl
                rw [h2] at h; cases h
  refine ⟨?_, hk⟩
  unfold Rs.afterKey at hk
  rw [after_short] at hk
  cases hh : (x.1.after 1).short with
  | false => rfl
  | true => rw [hh] at hk; cases hk
theorem stepR_leaf (x : Rs × Nd) : (stepR x).2.leaf = x.2.leaf ∧ (stepR x).2.keys.length = x.2.keys.length + 1 := by
  unfold stepR
  split <;> simp
theorem runR_leaf : ∀ (k : Nat) (x : Rs × Nd), (runR k x).2.leaf = x.2.leaf ∧ (runR k x).2.keys.length ≤ x.2.keys.length + k
  | 0, x => ⟨rfl, Nat.le_refl _⟩
  | k + 1, x => by
    show ((if x.1.short then x else runR k (stepR x)).2.leaf = _) ∧ ((if x.1.short then x else runR k (stepR x)).2.keys.length ≤ _)
    split
    · exact ⟨rfl, by omega⟩
    · obtain ⟨h1, h2⟩ := runR_leaf k (stepR x)
      obtain ⟨h3, h4⟩ := stepR_leaf x
      exact ⟨h1.trans h3, by omega⟩
theorem readN_leaf (leaf : Bool) (s : ByteArray) : (readN leaf s).leaf = leaf ∧ (readN leaf s).keys.length ≤ 65535 := by
  obtain ⟨h1, h2⟩ := runR_leaf ((Rs.mk s false).num 2).toNat (begR leaf s)
  have hn := num_lt (Rs.mk s false) 2 (by omega)
  have hb : (begR leaf s).2.leaf = leaf ∧ (begR leaf s).2.keys.length = 0 := by unfold begR; cases leaf <;> exact ⟨rfl, rfl⟩
  unfold readN
  exact ⟨h1.trans hb.1, by omega⟩
theorem run_pair {n : Nd} (r : Ri n) (hk : n.keys.length ≤ 65535) : runR ((Rs.mk (strOf (contentL n)) false).num 2).toNat (begR n.leaf (strOf (contentL n))) = (⟨strOf [], false⟩, n) ∧ ((Rs.mk (strOf (contentL n)) false).after 2).short = false ∧ (n.leaf = false → (((Rs.mk (strOf (contentL n)) false).after 2).after 4).short = false) := by
  unfold begR contentL headL
  cases hl : n.leaf with
  | true =>
    simp only [if_true, List.append_nil]
    rw [num_app 2 _ _ _ (by omega) (by omega), (cut_app (numB 2 _) _ _ (numB_length 2 _)).2, Int.toNat_natCast]
    have h1 := run_back r n.keys.length 0 (by omega)
    have h2 := parts_rest n n.keys.length 0
    rw [Nat.zero_add] at h2
    rw [h2]
    simp only [hl, if_true, List.take_zero] at h1
    refine ⟨?_, rfl, fun h => by cases h⟩
    show runR _ (⟨strOf ([] ++ restL n 0 n.keys.length), false⟩, _) = _
    rw [List.nil_append, h1]
  | false =>
    simp only [Bool.false_eq_true, if_false]
    have hp := pageOk_iff (r.kid_ok hl 0 (by omega))
    obtain ⟨_, hkd, hit, _⟩ := r.other hl
    rw [List.append_assoc, num_app 2 _ _ _ (by omega) (by omega), (cut_app (numB 2 _) _ _ (numB_length 2 _)).2, num_app 4 _ _ _ (by omega) (by omega), (cut_app (numB 4 _) _ _ (numB_length 4 _)).2, Int.toNat_natCast]
    have h1 := run_back r n.keys.length 0 (by omega)
    have h2 := parts_rest n n.keys.length 0
    rw [Nat.zero_add] at h2
    rw [h2]
    have e1 : n.kids.take 1 = [n.kid 0] := by rw [List.take_succ_eq_append_getElem (by omega : 0 < n.kids.length), n.kid_at 0 (by omega)]; rfl
    simp only [hl, Bool.false_eq_true, if_false, List.take_zero, Nat.zero_add, e1] at h1
    refine ⟨?_, rfl, fun _ => rfl⟩
    show runR _ (⟨strOf ([] ++ restL n 0 n.keys.length), false⟩, _) = _
    rw [List.nil_append, h1]
theorem dec_run {leaf : Bool} {s : ByteArray} (h : decB leaf s = true) : runR ((Rs.of s).num 2).toNat (begR leaf s) = (⟨strOf [], false⟩, readN leaf s) ∧ ((Rs.of s).after 2).short = false ∧ (leaf = false → (((Rs.of s).after 2).after 4).short = false) := by
  unfold decB at h
  rw [Bool.and_eq_true] at h
  have hc : strOf (contentL (readN leaf s)) = s := toList_inj (eq_of_beq h.2)
  obtain ⟨hl, hk⟩ := readN_leaf leaf s
  have := run_pair (ri_of h.1) hk
  rw [hc, hl] at this
  exact this
/-- Where the document's reading ends short, the content is none. -/
theorem dec_no {leaf : Bool} {s : ByteArray} (h : (runR ((Rs.of s).num 2).toNat (begR leaf s)).1.short = true) : decB leaf s = false := by
  cases hd : decB leaf s with
  | false => rfl
  | true => rw [(dec_run hd).1] at h; cases h
theorem dec_no2 {leaf : Bool} {s : ByteArray} (h : ((Rs.of s).after 2).short = true) : decB leaf s = false := by
  cases hd : decB leaf s with
  | false => rfl
  | true => rw [(dec_run hd).2.1] at h; cases h
theorem dec_no4 {s : ByteArray} (h : (((Rs.of s).after 2).after 4).short = true) : decB false s = false := by
  cases hd : decB false s with
  | false => rfl
  | true => rw [(dec_run hd).2.2 rfl] at h; cases h
theorem dec_end {leaf : Bool} {s : ByteArray} {r : Rs} {n : Nd} (h : runR ((Rs.of s).num 2).toNat (begR leaf s) = (r, n)) : readN leaf s = n ∧ (r.s.toList ≠ [] → decB leaf s = false) ∧ decB leaf s = (rightB n && ((strOf (contentL n)).toList == s.toList)) := by
  have e : readN leaf s = n := by
    show (runR ((Rs.of s).num 2).toNat (begR leaf s)).2 = n
    rw [h]
  refine ⟨e, fun hr => ?_, by unfold decB; rw [e]⟩
  cases hd : decB leaf s with
  | false => rfl
  | true =>
    have := (dec_run hd).1
    rw [h, Prod.mk.injEq] at this
    rw [this.1] at hr
    exact absurd (by rw [ba_toList, strOf_toList]; rfl) hr
end Go.Proofs.Ytkipigbfbhecjaa
