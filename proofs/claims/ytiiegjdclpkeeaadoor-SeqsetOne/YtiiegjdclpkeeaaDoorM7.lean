/- What this text holds: a list of one's own is sorted. -/
import Derived.Test.YtiiegjdclpkeeaaDoorM5
import Derived.Test.YtiiegjdclpkeeaaDoorShelf
import Derived.Shelf.SlSortCmp.NoneTotal
namespace Go.Proofs.YtiiegjdclpkeeaaDoor
open Go.RowKit Go.Shelf Go.Sort
set_option linter.unusedVariables false
set_option linter.unusedSimpArgs false
variable {α : Type} [Inhabited α]

theorem flat_is (E : En α) (d : Array α) : (flatK E.enc E.k d).toList = E.cs d.toList := by
  apply List.ext_getElem?
  intro t
  by_cases ht : t < d.size * E.k
  · have e1 : t / E.k < d.size := (Nat.div_lt_iff_lt_mul E.hk).2 ht
    have e2 : t % E.k < E.k := Nat.mod_lt _ E.hk
    have e3 : t / E.k * E.k + t % E.k = t := by rw [Nat.mul_comm]; exact Nat.div_add_mod t E.k
    have e4 : d.toList[t / E.k]? = some d[t / E.k] := by simp [e1]
    have e5 : (E.enc d[t / E.k])[t % E.k]? = some ((E.enc d[t / E.k])[t % E.k]'(by rw [E.len]; exact e2)) := List.getElem?_eq_getElem _
    have e7 := E.cs_at d.toList _ _ _ _ e4 e5
    rw [e3] at e7
    rw [e7, Array.getElem?_toList]
    have h1 : t < (flatK E.enc E.k d).size := by simpa using ht
    rw [Array.getElem?_eq_getElem h1]
    have h2 := get_flatK E.enc E.k d t ht
    rw [getElem!_pos _ t h1] at h2
    rw [h2, getElem!_pos d _ e1, getElem!_pos (E.enc d[t / E.k]) (t % E.k) (by rw [E.len]; exact e2)]
  · rw [List.getElem?_eq_none (by simp; omega), List.getElem?_eq_none (by rw [E.cs_len]; simpa using ht)]
theorem go_holds {E : En α} {w : World} {B g n c : Nat} {l : List α} (h : GO E w B (.slice (some ⟨g, 0, none⟩) n c) l) (hn : l.length = n) : HoldsK E.enc E.k w g 0 l.toArray ∧ g < w.heap.size ∧ B ≤ g := by
  subst hn
  have hst : w.ownsRow B E.T E.k (.slice (some ⟨g, 0, none⟩) l.length c) l.length (E.cs l) := h
  rcases hst.2 with ⟨e, _⟩ | ⟨g', cap, cur, e, hB, hg, _⟩
  · cases e
  · cases e
    refine ⟨?_, lt_of_some hg, hB⟩
    intro j hj
    have hc := World.ownsRow.cells hst rfl
    have hj' : j < l.length * E.k := by simpa using hj
    have he : (E.cs l)[j]? = some (flatK E.enc E.k l.toArray)[j]! := by
      have hx : (flatK E.enc E.k l.toArray).toList = E.cs l := flat_is E l.toArray
      rw [← hx, Array.getElem?_toList, getElem!_pos _ j hj, Array.getElem?_eq_getElem hj]
    have := hc j _ he
    rw [Addr.add_mid] at this
    exact ⟨this, World.ownsRow.frozenAt hst _⟩
theorem go_sorted {E : En α} {w : World} {B g n c m : Nat} {l : List α} {os : Array Obj} (d : Array α) (h : GO E w B (.slice (some ⟨g, 0, none⟩) n c) l) (hn : l.length = n) (hd : d.size = n) :
    GO E (sortWorldK E.enc E.k w g 0 m d os) B (.slice (some ⟨g, 0, none⟩) n c) d.toList ∧ w.grownBy (sortWorldK E.enc E.k w g 0 m d os) (some g) := by
  subst hn
  have hst : w.ownsRow B E.T E.k (.slice (some ⟨g, 0, none⟩) l.length c) l.length (E.cs l) := h
  rcases hst.2 with ⟨e, _⟩ | ⟨g', cap, cur, e, hB, hg, h1, h2, h3, h4⟩
  · cases e
  · cases e
    have hlt := lt_of_some hg
    have hblk : (sortWorldK E.enc E.k w g 0 m d os).heap[g]? = some (.cells (putCells id 0 (flatK E.enc E.k d) cur) E.T (0, 0)) := by
      unfold sortWorldK putRowK
      rw [heap_grow_old _ _ (by simpa using hlt)]
      simp [putRow, mapBlock, Sort.ahead, Array.getElem?_modify, hg, onCells]
    have hle : d.toList.length * E.k ≤ cur.size := by
      rw [h3, Array.length_toList, hd]; exact Nat.mul_le_mul_right _ h1
    refine ⟨?_, ?_⟩
    · unfold GO
      rw [show d.toList.length = l.length by simpa using hd]
      refine ⟨by rw [E.cs_len]; simp [hd], .inr ⟨g, c, _, rfl, hB, hblk, h1, h2, by simp [putCells, h3], ?_⟩⟩
      rw [← hd, ← flat_is]
      apply List.ext_getElem?
      intro j
      by_cases hj : j < d.size * E.k
      · rw [List.getElem?_take_of_lt hj, Array.getElem?_toList, Array.getElem?_toList]
        have hj2 : j < cur.size := by simp at hle; omega
        have hj3 : j < (flatK E.enc E.k d).size := by simpa using hj
        simp only [putCells, Nat.zero_le, Nat.zero_add, true_and, Nat.sub_zero, id_eq, Array.getElem?_mapIdx]
        rw [Array.getElem?_eq_getElem hj2, Array.getElem?_eq_getElem hj3, Option.map_some, if_pos hj3, getElem!_pos _ j hj3]
      · rw [List.getElem?_take_eq_none (by omega), List.getElem?_eq_none (by simp; omega)]
    · refine ⟨rfl, rfl, rfl, by simp [sortWorldK, putRowK, putRow, mapBlock], fun k hk hne => ?_⟩
      unfold sortWorldK putRowK
      rw [heap_grow_old _ _ (by simpa using hk)]
      have : g ≠ k := fun e => hne (by rw [e])
      simp [putRow, mapBlock, Sort.ahead, Array.getElem?_modify, this]
theorem clo48 (x y : Sp) (W : World) : Calls Tryd.prog 22 #[.agg #[.int .i64 x.1, .int .i64 x.2], .agg #[.int .i64 y.1, .int .i64 y.2]] W fun e w' => e = .returned (.int .i64 (cmpI x.1 y.1)) ∧ ∃ q os', w' = grow (W.drewN q) os' := by
  go_enter Tryd.func22, Tryd.ntmps22
  go_wp2_with (go_at_call 23; refine (cmp_any _ _ _).mono ?_; rintro e w' ⟨rfl, rfl⟩)
  go_ret
  exact ⟨rfl, 0, _, by rw [alloc_eq_grow, alloc_eq_grow, grow_grow]; rfl⟩
theorem lt48 (x y : Sp) : ltOf (fun x y : Sp => cmpI x.1 y.1) x y = decide (x.1 < y.1) := by
  unfold ltOf
  rw [decide_eq_decide]
  exact cmp_neg _ _
theorem swo48 : SWO (ltOf fun x y : Sp => cmpI x.1 y.1) where
  irrefl x := by rw [lt48]; simp
  trans x y z h1 h2 := by rw [lt48] at *; simp at *; omega
  ntrans x y z h1 h2 := by rw [lt48] at *; simp at *; omega
/-- What the sort leaves: the same spans, by their beginnings. -/
def SortIs (w : World) (B : Nat) (v : Value) (l : List Sp) (e : Ending) (w' : World) : Prop := e = .returned (.tuple #[]) ∧ ∃ l', l'.Perm l ∧ l'.Pairwise (fun a b => a.1 ≤ b.1) ∧ GO eSp w' B v l' ∧ Below B w w'
theorem sort_any {w : World} {B g n c : Nat} {l : List Sp} (h : GO eSp w B (.slice (some ⟨g, 0, none⟩) n c) l) (hn : l.length = n) (hl : l.length ≤ 1000000) (hB : B ≤ w.heap.size) :
    Calls Tryd.prog 21 #[.slice (some ⟨g, 0, none⟩) n c, .func (.func 22) #[] #[]] w (SortIs w B (.slice (some ⟨g, 0, none⟩) n c) l) := by
  have eg : ∀ args w, (callFunc 22 args).run Tryd.prog w = .ok (.enter 22 args) w := enters_of Tryd.func22 (by kernel_rfl) rfl
  obtain ⟨hH, hlt, hBg⟩ := go_holds h hn
  have C := AnyQ.slices_SortFunc Tryd.sortSp 2 Tryd.isAgg26 Tryd.sizeOf26 eSp.enc (fun _ => rfl) eSp.one (fun x y => cmpI x.1 y.1) swo48 22 #[] g 0 c l.toArray w eg (fun _ _ _ _ x y => clo48 x y _) hH hlt (by simp; omega)
  rw [List.size_toArray, hn] at C
  refine Calls.mono C ?_
  rintro e w' ⟨rfl, d', m, os, hp, hs, rfl⟩
  have hsz : d'.size = n := by rw [hp.1]; simpa using hn
  obtain ⟨hgo, hgr⟩ := go_sorted (m := m) (os := os) d' h hn hsz
  refine ⟨rfl, d'.toList, ?_, ?_, hgo, (Below.refl B w).grown hgr hB (fun k hk => by cases hk; exact hBg)⟩
  · have := hp.2.2
    rw [Array.extract_eq_self_of_le (by omega), Array.extract_eq_self_of_le (by simp; omega)] at this
    exact this
  · rw [List.pairwise_iff_getElem]
    intro i j hi hj hij
    have := hs i j (by omega) hij (by simp at hj; omega)
    rw [lt48] at this
    simp at hi hj
    rw [getElem!_pos d' j hj, getElem!_pos d' i hi] at this
    simp at this
    simpa using this
theorem sort_nil (p : Option Addr) (c : Nat) (fv : Value) (w : World) : Calls Tryd.prog 21 #[.slice p 0 c, fv] w fun e w' => e = .returned (.tuple #[]) ∧ w' = w := AnyF.slices_SortFunc_none Tryd.sortSp p c fv w
end Go.Proofs.YtiiegjdclpkeeaaDoor
