/- What this text holds: a leaf, and another node, with lists of their own. -/
import Derived.Test.YtkipigbfbhecjaaN13
namespace Go.Proofs.Ytkipigbfbhecjaa
open Go.RowKit
set_option linter.unusedVariables false
set_option linter.unusedSimpArgs false

theorem cells4 {w : World} {R : Nat} {x0 x1 x2 x3 : Value} {t : TypeId} (h : w.heap[R]? = some (.cells #[x0, x1, x2, x3] t (0, 0))) :
    (w.cell? ⟨R, 0, none⟩ = some x0 ∧ w.cell? ⟨R, 1, none⟩ = some x1 ∧ w.cell? ⟨R, 2, none⟩ = some x2 ∧ w.cell? ⟨R, 3, none⟩ = some x3) ∧ ∀ o, w.frozen? ⟨R, o, none⟩ = false := by
  refine ⟨?_, fun o => by simp [World.frozen?, h]⟩
  simp only [World.cell?, h]; exact ⟨rfl, rfl, rfl, rfl⟩
theorem set4 {w : World} {R : Nat} {x0 x1 x2 x3 : Value} {t : TypeId} (h : w.heap[R]? = some (.cells #[x0, x1, x2, x3] t (0, 0))) (y0 y1 y2 y3 : Value) :
    ((((w.setCell ⟨R, 0, none⟩ y0).setCell ⟨R, 1, none⟩ y1).setCell ⟨R, 2, none⟩ y2).setCell ⟨R, 3, none⟩ y3).heap[R]? = some (.cells #[y0, y1, y2, y3] t (0, 0)) := by
  rw [heap_setCell_same _ _ _ _ _ _ (heap_setCell_same _ _ _ _ _ _ (heap_setCell_same _ _ _ _ _ _ (heap_setCell_same _ _ _ _ _ _ h)))]
  rfl
theorem below_set4 {w : World} {B R : Nat} (hB : B ≤ R) (y0 y1 y2 y3 : Value) : Below B w ((((w.setCell ⟨R, 0, none⟩ y0).setCell ⟨R, 1, none⟩ y1).setCell ⟨R, 2, none⟩ y2).setCell ⟨R, 3, none⟩ y3) :=
  ((((Below.refl B w).setCell hB _).setCell hB _).setCell hB _).setCell hB _
theorem at_set {w w0 : World} {a : Option Addr} {cs : List Value} (h : At w a cs) {R : Nat} (hn : New w0 a) (hR : R < w0.heap.size) (y0 y1 y2 y3 : Value) :
    At ((((w.setCell ⟨R, 0, none⟩ y0).setCell ⟨R, 1, none⟩ y1).setCell ⟨R, 2, none⟩ y2).setCell ⟨R, 3, none⟩ y3) a cs := by
  rcases h with h | ⟨b, o, rfl, h⟩
  · exact .inl h
  · have hb : b ≠ R := by have := hn _ rfl; simp at this; omega
    refine .inr ⟨b, o, rfl, fun j v hv => ?_⟩
    refine (World.cell?_of_block (w := w) ?_).trans (h j v hv)
    show ((((w.setCell ⟨R, 0, none⟩ y0).setCell ⟨R, 1, none⟩ y1).setCell ⟨R, 2, none⟩ y2).setCell ⟨R, 3, none⟩ y3).heap[b]? = w.heap[b]?
    rw [Below.heap_setCell _ _ _ _ hb, Below.heap_setCell _ _ _ _ hb, Below.heap_setCell _ _ _ _ hb, Below.heap_setCell _ _ _ _ hb]
theorem sizeOf26 : (Try.prog.info? 26).map (·.size) = some 4 := by kernel_rfl
theorem load26 {R : Nat} {x0 x1 x2 x3 : Value} {w : World} (h : w.heap[R]? = some (.cells #[x0, x1, x2, x3] 26 (0, 0))) : (loadVar 26 ⟨R, 0, none⟩).run Try.prog w = .ok (.agg #[x0, x1, x2, x3]) w := by
  obtain ⟨⟨c0, c1, c2, c3⟩, _⟩ := cells4 h
  have hs := sizeOf26
  cases hq : Try.prog.info? 26 with
  | none => simp [hq] at hs
  | some i =>
    have h1 : i.size = 4 := by simpa [hq] using hs
    have hu : (isAgg 26).run Try.prog w = .ok true w := by kernel_rfl
    have e0 : (⟨R, 0, none⟩ : Addr).add 0 = ⟨R, 0, none⟩ := rfl
    have e1 : (⟨R, 0, none⟩ : Addr).add 1 = ⟨R, 1, none⟩ := rfl
    have e2 : (⟨R, 0, none⟩ : Addr).add 2 = ⟨R, 2, none⟩ := rfl
    have e3 : (⟨R, 0, none⟩ : Addr).add 3 = ⟨R, 3, none⟩ := rfl
    have hl := run_loadCells_list (P := Try.prog) w ⟨R, 0, none⟩ [x0, x1, x2, x3] (fun j v hv => by
      rcases j with _ | _ | _ | _ | j
      · simp at hv; rw [e0, c0, hv]
      · simp at hv; rw [e1, c1, hv]
      · simp at hv; rw [e2, c2, hv]
      · simp at hv; rw [e3, c3, hv]
      · simp at hv)
    have hl4 : (loadCells ⟨R, 0, none⟩ 4).run Try.prog w = .ok #[x0, x1, x2, x3] w := hl
    simp [loadVar, Sem.run_bind, hu, sizeOf, typeInfo, hq, h1, hl4]
theorem results_cell26 {fn : Func} {p : Tmp} (h : fn.results = #[.cell p 26]) {tmps : Array Value} {w : World} {R : Nat} {x0 x1 x2 x3 : Value} (ht : tmps.getD p undef = .pointer (some ⟨R, 0, none⟩)) (hx : w.heap[R]? = some (.cells #[x0, x1, x2, x3] 26 (0, 0))) :
    (results fn tmps).run Try.prog w = .ok (.agg #[x0, x1, x2, x3]) w := by
  have e : (results fn tmps).run Try.prog w = ((asAddr (tmps.getD p undef)).run Try.prog w).andThen fun a w₁ => (loadVar 26 a).run Try.prog w₁ := by
    simp only [results, h]
    simp [Sem.run_bind, Result.andThen]
  refine e.trans ?_
  generalize tmps.getD p undef = v at ht
  subst ht
  have ha : (asAddr (.pointer (some ⟨R, 0, none⟩))).run Try.prog w = .ok ⟨R, 0, none⟩ w := by simp [asAddr]
  simp only [ha, Result.andThen_ok]
  exact load26 hx
set_option maxRecDepth 100000 in
set_option maxHeartbeats 1000000 in
theorem leaf_any {w : World} {ka ia : Option Addr} {keys : List ByteArray} {items : List It} {kn kp en ep : Nat} (hk : At w ka (kc keys)) (hi : At w ia (ic items)) (hkn : keys.length = kn) (hen : items.length = en) (hk7 : kn ≤ 70000) (hi7 : en ≤ 70000) (hs : ∀ k ∈ keys, k.size ≤ maxLen) (ht : ∀ x ∈ items, x.val.size ≤ maxLen) :
    Calls Try.prog 45 #[.slice ka kn kp, .slice ia en ep] w fun e w' => ∃ v, e = .returned v ∧ NAt w' v ⟨true, keys, items, []⟩ ∧ Below w.heap.size w w' := by
  have HK := hid hk
  have HI := hid hi
  have Hkn := hid hkn
  have Hen := hid hen
  have HS := hid hs
  have HT := hid ht
  clear hk hi hkn hen hs ht
  have HB0 := hid (below_box w (.cells #[.bool false, .slice none 0 0, .slice none 0 0, .slice none 0 0] 26))
  have HX := hid (heap_alloc_new w (.cells #[.bool false, .slice none 0 0, .slice none 0 0, .slice none 0 0] 26))
  have HSz : Hid (w.heap.size < (w.alloc (.cells #[.bool false, .slice none 0 0, .slice none 0 0, .slice none 0 0] 26)).heap.size) := by unfold Hid; simp
  go_enter Try.func45, Try.ntmps45
  go_wp2_with fail
  generalize w.alloc (.cells #[.bool false, .slice none 0 0, .slice none 0 0, .slice none 0 0] 26) = W at HB0 HX HSz ⊢
  refine (clonek_any (HK.out.later HB0.out) Hkn.out (by have := Hkn.out; omega)).mono ?_
  rintro e w1 ⟨ka', kc', rfl, hk1, hkc, hnew1, hb1⟩
  have HK1 := hid hk1
  have HKC := hid hkc
  have HB1 := hid hb1
  have HN1 := hid hnew1
  clear hk1 hkc hb1 hnew1
  go_wp2_with fail
  refine (clonei_any ((HI.out.later HB0.out).later HB1.out) Hen.out (by have := Hen.out; omega)).mono ?_
  rintro e w2 ⟨ia', ic', rfl, hi2, hic, hnew2, hb2⟩
  have HI2 := hid hi2
  have HIC := hid hic
  have HN2 := hid hnew2
  have HK2 := hid (HK1.out.later hb2)
  have HB2 := hid (HB1.out.trans (hb2.mono HB1.out.size))
  clear hi2 hic hb2 hnew2
  have HX2 := hid ((HB2.out.block w.heap.size (by have := HX.out; rw [Array.getElem?_eq_some_iff] at this; exact this.1)).trans HX.out)
  obtain ⟨⟨c0, c1, c2, c3⟩, hf⟩ := cells4 HX2.out
  have f0 := hf 0
  have f1 := hf 1
  have f2 := hf 2
  have f3 := hf 3
  clear hf
  generalize hR : w.heap.size = R at *
  go_wp2_with fail
  refine bodyPost_ret (results_cell26 rfl rfl (set4 HX2.out _ _ _ _)) rfl ?_
  have HSz1 : R < w1.heap.size := Nat.lt_of_lt_of_le HSz.out HB1.out.size
  refine ⟨_, rfl, ⟨⟨ka', kc', ia', ic', none, 0, ?_, at_set HK2.out HN1.out HSz.out _ _ _ _, at_set HI2.out HN2.out HSz1 _ _ _ _, .inl rfl, ?_, ?_, ⟨Nat.le_refl _, Nat.zero_le _⟩⟩, HS.out, HT.out⟩, ?_⟩
  · simp only [nv, Hkn.out, Hen.out, List.length_nil]
  · simp only [Hkn.out]; exact HKC.out
  · simp only [Hen.out]; exact HIC.out
  · rw [hR]
    exact (HB0.out.trans (HB2.out.mono (Nat.le_of_lt HSz.out))).trans (below_set4 (Nat.le_refl _) _ _ _ _)

set_option maxRecDepth 100000 in
set_option maxHeartbeats 1000000 in
theorem other_any {w : World} {ka ia : Option Addr} {keys : List ByteArray} {items : List Int} {kn kp en ep : Nat} (hk : At w ka (kc keys)) (hi : At w ia (dc items)) (hkn : keys.length = kn) (hen : items.length = en) (hk7 : kn ≤ 70000) (hi7 : en ≤ 70000) (hs : ∀ k ∈ keys, k.size ≤ maxLen) :
    Calls Try.prog 46 #[.slice ka kn kp, .slice ia en ep] w fun e w' => ∃ v, e = .returned v ∧ NAt w' v ⟨false, keys, [], items⟩ ∧ Below w.heap.size w w' := by
  have HK := hid hk
  have HI := hid hi
  have Hkn := hid hkn
  have Hen := hid hen
  have HS := hid hs
  skip
  clear hk hi hkn hen hs
  have HB0 := hid (below_box w (.cells #[.bool false, .slice none 0 0, .slice none 0 0, .slice none 0 0] 26))
  have HX := hid (heap_alloc_new w (.cells #[.bool false, .slice none 0 0, .slice none 0 0, .slice none 0 0] 26))
  have HSz : Hid (w.heap.size < (w.alloc (.cells #[.bool false, .slice none 0 0, .slice none 0 0, .slice none 0 0] 26)).heap.size) := by unfold Hid; simp
  go_enter Try.func46, Try.ntmps46
  go_wp2_with fail
  generalize w.alloc (.cells #[.bool false, .slice none 0 0, .slice none 0 0, .slice none 0 0] 26) = W at HB0 HX HSz ⊢
  refine (clonek_any (HK.out.later HB0.out) Hkn.out (by have := Hkn.out; omega)).mono ?_
  rintro e w1 ⟨ka', kc', rfl, hk1, hkc, hnew1, hb1⟩
  have HK1 := hid hk1
  have HKC := hid hkc
  have HB1 := hid hb1
  have HN1 := hid hnew1
  clear hk1 hkc hb1 hnew1
  go_wp2_with fail
  refine (cloned_any ((HI.out.later HB0.out).later HB1.out) Hen.out (by have := Hen.out; omega)).mono ?_
  rintro e w2 ⟨ia', ic', rfl, hi2, hic, hnew2, hb2⟩
  have HI2 := hid hi2
  have HIC := hid hic
  have HN2 := hid hnew2
  have HK2 := hid (HK1.out.later hb2)
  have HB2 := hid (HB1.out.trans (hb2.mono HB1.out.size))
  clear hi2 hic hb2 hnew2
  have HX2 := hid ((HB2.out.block w.heap.size (by have := HX.out; rw [Array.getElem?_eq_some_iff] at this; exact this.1)).trans HX.out)
  obtain ⟨⟨c0, c1, c2, c3⟩, hf⟩ := cells4 HX2.out
  have f0 := hf 0
  have f1 := hf 1
  have f2 := hf 2
  have f3 := hf 3
  clear hf
  generalize hR : w.heap.size = R at *
  go_wp2_with fail
  refine bodyPost_ret (results_cell26 rfl rfl (set4 HX2.out _ _ _ _)) rfl ?_
  have HSz1 : R < w1.heap.size := Nat.lt_of_lt_of_le HSz.out HB1.out.size
  refine ⟨_, rfl, ⟨⟨ka', kc', none, 0, ia', ic', ?_, at_set HK2.out HN1.out HSz.out _ _ _ _, .inl rfl, at_set HI2.out HN2.out HSz1 _ _ _ _, ?_, ⟨Nat.le_refl _, Nat.zero_le _⟩, ?_⟩, HS.out, fun x hx => by cases hx⟩, ?_⟩
  · simp only [nv, Hkn.out, Hen.out, List.length_nil]
  · simp only [Hkn.out]; exact HKC.out
  · simp only [Hen.out]; exact HIC.out
  · rw [hR]
    exact (HB0.out.trans (HB2.out.mono (Nat.le_of_lt HSz.out))).trans (below_set4 (Nat.le_refl _) _ _ _ _)

end Go.Proofs.Ytkipigbfbhecjaa
