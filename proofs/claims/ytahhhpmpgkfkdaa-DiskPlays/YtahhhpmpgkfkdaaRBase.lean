/- What this text holds: the document's own disk, as it lies in memory, and its small calls. -/
import Derived.Test.YtahhhpmpgkfkdaaOpen
namespace Go.Proofs.Ytahhhpmpgkfkdaa
open Go.RowKit
set_option linter.unusedVariables false

/-- The sectors as strings. -/
def strs (n : Nat) (s : List Int) : List Value := (List.range n).map fun i => .string (strOf (sec s i))
theorem strs_length (n : Nat) (s : List Int) : (strs n s).length = n := by simp [strs]
theorem strs_at (n : Nat) (s : List Int) (i : Nat) (hi : i < n) : (strs n s)[i]? = some (.string (strOf (sec s i))) := by simp [strs, hi]
/-- The writes that wait. -/
def rws (l : List (Int × List Int)) : List Value := l.flatMap fun x => [.int .i64 x.1, .string (strOf x.2)]
theorem rws_length (l : List (Int × List Int)) : (rws l).length = l.length * 2 := by
  induction l with
  | nil => rfl
  | cons x l ih => simp only [rws, List.flatMap_cons, List.length_append, List.length_cons, List.length_nil] at ih ⊢; omega
theorem rws_snoc (l : List (Int × List Int)) (i : Int) (b : List Int) : rws (l ++ [(i, b)]) = rws l ++ [.int .i64 i, .string (strOf b)] := by simp [rws]
theorem rws_at (l : List (Int × List Int)) : ∀ (k : Nat) (hk : k < l.length), (rws l)[k * 2]? = some (.int .i64 (l[k]).1) ∧ (rws l)[k * 2 + 1]? = some (.string (strOf (l[k]).2)) := by
  induction l with
  | nil => intro k hk; simp at hk
  | cons x l ih =>
    intro k hk
    have e : rws (x :: l) = .int .i64 x.1 :: .string (strOf x.2) :: rws l := rfl
    cases k with
    | zero => rw [e]; exact ⟨rfl, rfl⟩
    | succ k =>
      have := ih k (by simpa using hk)
      rw [e, show (k + 1) * 2 = k * 2 + 1 + 1 by omega]
      simpa using this
theorem rws_one (l : List (Int × List Int)) : ∀ v ∈ rws l, v.oneCell' = true := by
  intro v hv
  simp only [rws, List.mem_flatMap, List.mem_cons, List.not_mem_nil, or_false] at hv
  obtain ⟨x, _, rfl | rfl⟩ := hv <;> rfl
theorem strs_one (n : Nat) (s : List Int) : ∀ v ∈ strs n s, v.oneCell' = true := by
  intro v hv
  simp only [strs, List.mem_map] at hv
  obtain ⟨x, _, rfl⟩ := hv
  rfl

structure RDiskAt (w : World) (B r gl lc : Nat) (wv : Value) (D : DS) : Prop where
  blk : w.heap[r]? = some (.cells #[.slice (some ⟨gl, 0, none⟩) D.n lc, wv, .int .i64 D.steps, .int .i64 D.fuse, .bool D.gone] 70 (0, 0))
  L : w.ownsRow B 9 1 (.slice (some ⟨gl, 0, none⟩) D.n lc) D.n (strs D.n D.secs)
  W : w.ownsRow B 77 2 wv D.waits.length (rws D.waits)
  ne1 : gl ≠ r
  ne2 : wv.ownBlock ≠ some r
  ne3 : wv.ownBlock ≠ some gl
  hB : B ≤ r
  good : D.good
def RDisk (w : World) (B r : Nat) (own : List Nat) (D : DS) : Prop := ∃ gl lc wv, RDiskAt w B r gl lc wv D ∧ own = r :: gl :: wv.ownBlock.toList

theorem RDiskAt.keep {w w' : World} {B r gl lc : Nat} {wv : Value} {D : DS} (h : RDiskAt w B r gl lc wv D) {S : List Nat} (k : Kept S w w')
    (hS : ∀ i ∈ r :: gl :: wv.ownBlock.toList, i ∉ S) : RDiskAt w' B r gl lc wv D := by
  have hb := h.blk
  refine { h with blk := ?_, L := ?_, W := ?_ }
  · rw [k.block r (Array.getElem?_eq_some_iff.1 hb).1 (hS r (by simp))]; exact hb
  · refine ownsRow_block h.L fun i hi => ?_
    exact k.block i (h.L.lt i hi).2 (hS i (by simp only [Value.ownBlock, Option.some.injEq] at hi; subst hi; simp))
  · refine ownsRow_block h.W fun i hi => ?_
    exact k.block i (h.W.lt i hi).2 (hS i (by simp [hi]))
theorem RDisk.keep {w w' : World} {B r : Nat} {own : List Nat} {D : DS} (h : RDisk w B r own D) {S : List Nat} (k : Kept S w w') (hS : ∀ i ∈ own, i ∉ S) : RDisk w' B r own D := by
  obtain ⟨gl, lc, wv, hd, rfl⟩ := h
  exact ⟨gl, lc, wv, hd.keep k hS, rfl⟩
theorem RDiskAt.lt {w : World} {B r gl lc : Nat} {wv : Value} {D : DS} (h : RDiskAt w B r gl lc wv D) : ∀ i ∈ r :: gl :: wv.ownBlock.toList, B ≤ i ∧ i < w.heap.size := by
  intro i hi
  simp only [List.mem_cons, Option.mem_toList] at hi
  rcases hi with rfl | rfl | hi
  · exact ⟨h.hB, (Array.getElem?_eq_some_iff.1 h.blk).1⟩
  · exact h.L.lt i rfl
  · exact h.W.lt i hi
theorem RDisk.lt {w : World} {B r : Nat} {own : List Nat} {D : DS} (h : RDisk w B r own D) : ∀ i ∈ own, B ≤ i ∧ i < w.heap.size := by
  obtain ⟨gl, lc, wv, hd, rfl⟩ := h
  exact hd.lt
theorem RDiskAt.cells {w : World} {B r gl lc : Nat} {wv : Value} {D : DS} (h : RDiskAt w B r gl lc wv D) :
    w.cell? ⟨r, 0, none⟩ = some (.slice (some ⟨gl, 0, none⟩) D.n lc) ∧ w.cell? ⟨r, 1, none⟩ = some wv ∧ w.cell? ⟨r, 2, none⟩ = some (.int .i64 D.steps) ∧
    w.cell? ⟨r, 3, none⟩ = some (.int .i64 D.fuse) ∧ w.cell? ⟨r, 4, none⟩ = some (.bool D.gone) := by
  simp [World.cell?, h.blk]
theorem RDiskAt.free {w : World} {B r gl lc : Nat} {wv : Value} {D : DS} (h : RDiskAt w B r gl lc wv D) (k : Nat) : w.frozen? ⟨r, k, none⟩ = false := by
  simp [World.frozen?, h.blk]
theorem RDiskAt.wvSlice {w : World} {B r gl lc : Nat} {wv : Value} {D : DS} (h : RDiskAt w B r gl lc wv D) : ∃ a c, wv = .slice a D.waits.length c := by
  rcases h.W.2 with ⟨h1, h2⟩ | ⟨g, cap, cur, h1, _⟩
  · exact ⟨none, 0, by rw [h1, h2]⟩
  · exact ⟨_, _, h1⟩
theorem RDiskAt.base {w : World} {B B' r gl lc : Nat} {wv : Value} {D : DS} (h : RDiskAt w B r gl lc wv D) (hB : B' ≤ B) : RDiskAt w B' r gl lc wv D :=
  { h with L := ownsRow_base h.L hB, W := ownsRow_base h.W hB, hB := Nat.le_trans hB h.hB }
theorem rdisk_base {w : World} {B B' r : Nat} {own : List Nat} {D : DS} (h : RDisk w B r own D) (hB : B' ≤ B) : RDisk w B' r own D := by
  obtain ⟨gl, lc, wv, hd, rfl⟩ := h
  exact ⟨gl, lc, wv, hd.base hB, rfl⟩
/-- The cells of the k-th write. -/
theorem rwait_cells {w : World} {B r gl lc : Nat} {wv : Value} {D : DS} (h : RDiskAt w B r gl lc wv D) (k : Nat) (hk : k < D.waits.length) :
    ∃ gw wc, wv = .slice (some ⟨gw, 0, none⟩) D.waits.length wc ∧ w.cell? ⟨gw, k * 2, none⟩ = some (.int .i64 (D.waits[k]).1) ∧ w.cell? ⟨gw, k * 2 + 1, none⟩ = some (.string (strOf (D.waits[k]).2)) := by
  obtain ⟨gw, wc, e, _⟩ := ownsRow_some h.W (by omega)
  subst e
  obtain ⟨h1, h2⟩ := rws_at D.waits k hk
  exact ⟨gw, wc, rfl, by rw [h.W.cellAt _ (by omega), h1], by rw [h.W.cellAt _ (by omega), h2]⟩
theorem rsec_cell {w : World} {B r gl lc : Nat} {wv : Value} {D : DS} (h : RDiskAt w B r gl lc wv D) (k : Nat) (hk : k < D.n) : w.cell? ⟨gl, k, none⟩ = some (.string (strOf (sec D.secs k))) := by
  rw [h.L.cellAt _ (by omega), strs_at _ _ _ hk]

theorem RDiskAt.setFuse {w : World} {B r gl lc : Nat} {wv : Value} {D : DS} (h : RDiskAt w B r gl lc wv D) (n : Int) (hn : -1 ≤ n) (h2 : n ≤ 9223372036854775807) :
    RDiskAt (w.setCell ⟨r, 3, none⟩ (.int .i64 n)) B r gl lc wv { D with fuse := n } := by
  have hk := Kept.setCell [r] w ⟨r, 3, none⟩ (.int .i64 n) (by simp)
  refine { blk := ?_, L := ?_, W := ?_, ne1 := h.ne1, ne2 := h.ne2, ne3 := h.ne3, hB := h.hB, good := { h.good with f1 := hn, f2 := h2 } }
  · simp [World.setCell, Array.getElem?_modify, h.blk]
  · exact ownsRow_block h.L fun i hi => hk.block i (h.L.lt i hi).2 (by simp only [Value.ownBlock, Option.some.injEq] at hi; subst hi; simpa using h.ne1)
  · exact ownsRow_block h.W fun i hi => hk.block i (h.W.lt i hi).2 (by have := h.ne2; rw [hi] at this; simpa using this)
theorem RDiskAt.setGone {w : World} {B r gl lc : Nat} {wv : Value} {D : DS} (h : RDiskAt w B r gl lc wv D) (g : Bool) :
    RDiskAt (w.setCell ⟨r, 4, none⟩ (.bool g)) B r gl lc wv { D with gone := g } := by
  have hk := Kept.setCell [r] w ⟨r, 4, none⟩ (.bool g) (by simp)
  refine { blk := ?_, L := ?_, W := ?_, ne1 := h.ne1, ne2 := h.ne2, ne3 := h.ne3, hB := h.hB, good := { h.good with } }
  · simp [World.setCell, Array.getElem?_modify, h.blk]
  · exact ownsRow_block h.L fun i hi => hk.block i (h.L.lt i hi).2 (by simp only [Value.ownBlock, Option.some.injEq] at hi; subst hi; simpa using h.ne1)
  · exact ownsRow_block h.W fun i hi => hk.block i (h.W.lt i hi).2 (by have := h.ne2; rw [hi] at this; simpa using this)
theorem RDiskAt.setSteps {w : World} {B r gl lc : Nat} {wv : Value} {D : DS} (h : RDiskAt w B r gl lc wv D) (n : Int) (hn : 0 ≤ n) (h2 : n ≤ 1000) :
    RDiskAt (w.setCell ⟨r, 2, none⟩ (.int .i64 n)) B r gl lc wv { D with steps := n } := by
  have hk := Kept.setCell [r] w ⟨r, 2, none⟩ (.int .i64 n) (by simp)
  refine { blk := ?_, L := ?_, W := ?_, ne1 := h.ne1, ne2 := h.ne2, ne3 := h.ne3, hB := h.hB, good := { h.good with s1 := hn, s2 := h2 } }
  · simp [World.setCell, Array.getElem?_modify, h.blk]
  · exact ownsRow_block h.L fun i hi => hk.block i (h.L.lt i hi).2 (by simp only [Value.ownBlock, Option.some.injEq] at hi; subst hi; simpa using h.ne1)
  · exact ownsRow_block h.W fun i hi => hk.block i (h.W.lt i hi).2 (by have := h.ne2; rw [hi] at this; simpa using this)
theorem RDiskAt.setNoWaits {w : World} {B r gl lc : Nat} {wv : Value} {D : DS} (h : RDiskAt w B r gl lc wv D) :
    RDiskAt (w.setCell ⟨r, 1, none⟩ (.slice none 0 0)) B r gl lc (.slice none 0 0) { D with waits := [] } := by
  have hk := Kept.setCell [r] w ⟨r, 1, none⟩ (.slice none 0 0) (by simp)
  refine { blk := ?_, L := ?_, W := World.ownsRow_nil _ _ _ _, ne1 := h.ne1, ne2 := by simp [Value.ownBlock], ne3 := by simp [Value.ownBlock], hB := h.hB, good := { h.good with wl := by simp, w := by simp } }
  · simp [World.setCell, Array.getElem?_modify, h.blk]
  · exact ownsRow_block h.L fun i hi => hk.block i (h.L.lt i hi).2 (by simp only [Value.ownBlock, Option.some.injEq] at hi; subst hi; simpa using h.ne1)

set_option maxHeartbeats 1000000 in
theorem rstep_any {w : World} {B r gl lc : Nat} {wv : Value} {D : DS} (h : RDiskAt w B r gl lc wv D) (hs : D.steps < 1000) :
    Calls Try.prog 43 #[.pointer (some ⟨r, 0, none⟩)] w fun e w' => e = .returned (.bool D.step.1) ∧ RDiskAt w' B r gl lc wv D.step.2 ∧ Kept [r] w w' := by
  obtain ⟨c0, c1, c2, c3, c4⟩ := h.cells
  have hf := h.free 2
  have hg := h.free 3
  have hh := h.free 4
  have f1 := h.good.f1
  have f2 := h.good.f2
  have s1 := h.good.s1
  go_enter Try.func43, Try.ntmps43
  go_wp2
  · go_ret
    have hz : D.fuse = 0 := by simpa using (by assumption : (D.fuse == 0) = true)
    have e : D.step = (false, { D with gone := true }) := by simp [DS.step, hz]
    rw [e]
    exact ⟨rfl, h.setGone true, Kept.setCell [r] w _ _ (by simp)⟩
  · go_ret
    have hz : D.gone = true := by assumption
    have e : D.step = (false, { D with gone := true }) := by simp [DS.step, hz]
    rw [e]
    refine ⟨rfl, ?_, Kept.refl _ _⟩
    have e2 : ({ D with gone := true } : DS) = D := by rw [← hz]
    rw [e2]; exact h
  · go_ret
    have h1 : (D.fuse == 0) = false := by assumption
    have h2 : D.gone = false := by assumption
    have h3 : 0 < D.fuse := by assumption
    have e : D.step = (true, { D with fuse := D.fuse - 1, steps := D.steps + 1 }) := by
      simp only [beq_eq_false_iff_ne] at h1
      simp [DS.step, h1, h2, h3]
    rw [e]
    exact ⟨rfl, (h.setFuse (D.fuse - 1) (by omega) (by have := h.good.f2; omega)).setSteps (D.steps + 1) (by have := h.good.s1; simp; omega) (by omega), (Kept.setCell [r] w _ _ (by simp)).trans (Kept.setCell [r] _ _ _ (by simp)) (fun _ _ h => h)⟩
  · go_ret
    have h1 : (D.fuse == 0) = false := by assumption
    have h2 : D.gone = false := by assumption
    have h3 : D.fuse ≤ 0 := by assumption
    have e : D.step = (true, { D with steps := D.steps + 1 }) := by
      simp only [beq_eq_false_iff_ne] at h1
      simp [DS.step, h1, h2, Int.not_lt.2 h3]
    rw [e]
    exact ⟨rfl, h.setSteps (D.steps + 1) (by have := h.good.s1; omega) (by omega), Kept.setCell [r] w _ _ (by simp)⟩

theorem setCell_twice (w : World) (p : Addr) (x y : Value) : (w.setCell p x).setCell p y = w.setCell p y := by
  unfold World.setCell
  simp only
  congr 1
  apply Array.ext_getElem?
  intro i
  simp only [Array.getElem?_modify]
  by_cases h : p.block = i
  · simp only [h, if_true]
    cases w.heap[i]? with
    | none => rfl
    | some o =>
      cases o <;> simp only [Option.map_some]
      split <;> simp
  · simp only [h, if_false]

set_option maxHeartbeats 400000 in
theorem rfuse_any {w : World} {B r gl lc : Nat} {wv : Value} {D : DS} (h : RDiskAt w B r gl lc wv D) (n : Int) (hn : n ≤ 9223372036854775807) :
    Calls Try.prog 39 #[.pointer (some ⟨r, 0, none⟩), .int .i64 n] w fun e w' => e = .returned (.tuple #[]) ∧ RDiskAt w' B r gl lc wv (D.fused n) ∧ Kept [r] w w' := by
  obtain ⟨c0, c1, c2, c3, c4⟩ := h.cells
  have hf := h.free 3
  have HH := hid h
  clear h
  by_cases hlt : n < 0
  · go_enter Try.func39, Try.ntmps39
    go_wp2
    go_end0
    have hm := HH.out.setFuse (-1) (by omega) (by omega)
    have e : (w.setCell ⟨r, 3, none⟩ (.int .i64 n)).setCell ⟨r, 3, none⟩ (.int .i64 (-1)) = w.setCell ⟨r, 3, none⟩ (.int .i64 (-1)) := setCell_twice w _ _ _
    rw [e]
    refine ⟨rfl, ?_, Kept.setCell [r] w _ _ (by simp)⟩
    unfold DS.fused
    rw [show max n (-1) = -1 by omega]
    exact hm
  · go_enter Try.func39, Try.ntmps39
    go_wp2
    go_end0
    have hm := HH.out.setFuse n (by omega) hn
    refine ⟨rfl, ?_, Kept.setCell [r] w _ _ (by simp)⟩
    unfold DS.fused
    rw [show max n (-1) = n by omega]
    exact hm
end Go.Proofs.Ytahhhpmpgkfkdaa
