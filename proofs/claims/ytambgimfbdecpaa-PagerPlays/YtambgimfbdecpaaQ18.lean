/- What this text holds: the document's own disk, as it lies in memory, and its small calls. · What this text holds: Read, Write and Flush of the document's own disk. -/
import Derived.Test.YtambgimfbdecpaaQ17
namespace Go.Proofs.Ytambgimfbdecpaa
open Go.RowKit
set_option linter.unusedVariables false

/-- The sectors as strings. -/
def strs (n : Nat) (s : List Int) : List Value := (List.range n).map fun i => .string (strOf (sec s i))
theorem strs_length (n : Nat) (s : List Int) : (strs n s).length = n := by simp [strs]
theorem strs_at (n : Nat) (s : List Int) (i : Nat) (hi : i < n) : (strs n s)[i]? = some (.string (strOf (sec s i))) := by simp [strs, hi]
/-- The writes that wait. -/
def rws (l : List (Int × List Int)) : List Value := l.flatMap fun x => [.int .i64 x.1, .string (strOf x.2)]
theorem rws_length (l : List (Int × List Int)) : (rws l).length = l.length * 2 := by
  induction l with
  | nil => rfl
  | cons x l ih => simp only [rws, List.flatMap_cons, List.length_append, List.length_cons, List.length_nil] at ih ⊢; omega
theorem rws_snoc (l : List (Int × List Int)) (i : Int) (b : List Int) : rws (l ++ [(i, b)]) = rws l ++ [.int .i64 i, .string (strOf b)] := by simp [rws]
theorem rws_at (l : List (Int × List Int)) : ∀ (k : Nat) (hk : k < l.length), (rws l)[k * 2]? = some (.int .i64 (l[k]).1) ∧ (rws l)[k * 2 + 1]? = some (.string (strOf (l[k]).2)) := by
  induction l with
  | nil => intro k hk; simp at hk
  | cons x l ih =>
    intro k hk
    have e : rws (x :: l) = .int .i64 x.1 :: .string (strOf x.2) :: rws l := rfl
    cases k with
    | zero => rw [e]; exact ⟨rfl, rfl⟩
    | succ k =>
      have := ih k (by simpa using hk)
      rw [e, show (k + 1) * 2 = k * 2 + 1 + 1 by omega]
      simpa using this
theorem rws_one (l : List (Int × List Int)) : ∀ v ∈ rws l, v.oneCell' = true := by
  intro v hv
  simp only [rws, List.mem_flatMap, List.mem_cons, List.not_mem_nil, or_false] at hv
  obtain ⟨x, _, rfl | rfl⟩ := hv <;> rfl
theorem strs_one (n : Nat) (s : List Int) : ∀ v ∈ strs n s, v.oneCell' = true := by
  intro v hv
  simp only [strs, List.mem_map] at hv
  obtain ⟨x, _, rfl⟩ := hv
  rfl

structure RDiskAt (w : World) (B r gl lc : Nat) (wv : Value) (D : DS) : Prop where
  blk : w.heap[r]? = some (.cells #[.slice (some ⟨gl, 0, none⟩) D.n lc, wv, .int .i64 D.steps, .int .i64 D.fuse, .bool D.gone] 86 (0, 0))
  L : w.ownsRow B 9 1 (.slice (some ⟨gl, 0, none⟩) D.n lc) D.n (strs D.n D.secs)
  W : w.ownsRow B 100 2 wv D.waits.length (rws D.waits)
  ne1 : gl ≠ r
  ne2 : wv.ownBlock ≠ some r
  ne3 : wv.ownBlock ≠ some gl
  hB : B ≤ r
  good : D.good
def RDisk (w : World) (B r : Nat) (own : List Nat) (D : DS) : Prop := ∃ gl lc wv, RDiskAt w B r gl lc wv D ∧ own = r :: gl :: wv.ownBlock.toList

theorem RDiskAt.keep {w w' : World} {B r gl lc : Nat} {wv : Value} {D : DS} (h : RDiskAt w B r gl lc wv D) {S : List Nat} (k : Kept S w w')
    (hS : ∀ i ∈ r :: gl :: wv.ownBlock.toList, i ∉ S) : RDiskAt w' B r gl lc wv D := by
  have hb := h.blk
  refine { h with blk := ?_, L := ?_, W := ?_ }
  · rw [k.block r (Array.getElem?_eq_some_iff.1 hb).1 (hS r (by simp))]; exact hb
  · refine ownsRow_block h.L fun i hi => ?_
    exact k.block i (h.L.lt i hi).2 (hS i (by simp only [Value.ownBlock, Option.some.injEq] at hi; subst hi; simp))
  · refine ownsRow_block h.W fun i hi => ?_
    exact k.block i (h.W.lt i hi).2 (hS i (by simp [hi]))
theorem RDisk.keep {w w' : World} {B r : Nat} {own : List Nat} {D : DS} (h : RDisk w B r own D) {S : List Nat} (k : Kept S w w') (hS : ∀ i ∈ own, i ∉ S) : RDisk w' B r own D := by
  obtain ⟨gl, lc, wv, hd, rfl⟩ := h
  exact ⟨gl, lc, wv, hd.keep k hS, rfl⟩
theorem RDiskAt.lt {w : World} {B r gl lc : Nat} {wv : Value} {D : DS} (h : RDiskAt w B r gl lc wv D) : ∀ i ∈ r :: gl :: wv.ownBlock.toList, B ≤ i ∧ i < w.heap.size := by
  intro i hi
  simp only [List.mem_cons, Option.mem_toList] at hi
  rcases hi with rfl | rfl | hi
  · exact ⟨h.hB, (Array.getElem?_eq_some_iff.1 h.blk).1⟩
  · exact h.L.lt i rfl
  · exact h.W.lt i hi
theorem RDisk.lt {w : World} {B r : Nat} {own : List Nat} {D : DS} (h : RDisk w B r own D) : ∀ i ∈ own, B ≤ i ∧ i < w.heap.size := by
  obtain ⟨gl, lc, wv, hd, rfl⟩ := h
  exact hd.lt
theorem RDiskAt.cells {w : World} {B r gl lc : Nat} {wv : Value} {D : DS} (h : RDiskAt w B r gl lc wv D) :
    w.cell? ⟨r, 0, none⟩ = some (.slice (some ⟨gl, 0, none⟩) D.n lc) ∧ w.cell? ⟨r, 1, none⟩ = some wv ∧ w.cell? ⟨r, 2, none⟩ = some (.int .i64 D.steps) ∧
    w.cell? ⟨r, 3, none⟩ = some (.int .i64 D.fuse) ∧ w.cell? ⟨r, 4, none⟩ = some (.bool D.gone) := by
  simp [World.cell?, h.blk]
theorem RDiskAt.free {w : World} {B r gl lc : Nat} {wv : Value} {D : DS} (h : RDiskAt w B r gl lc wv D) (k : Nat) : w.frozen? ⟨r, k, none⟩ = false := by
  simp [World.frozen?, h.blk]
theorem RDiskAt.wvSlice {w : World} {B r gl lc : Nat} {wv : Value} {D : DS} (h : RDiskAt w B r gl lc wv D) : ∃ a c, wv = .slice a D.waits.length c := by
  rcases h.W.2 with ⟨h1, h2⟩ | ⟨g, cap, cur, h1, _⟩
  · exact ⟨none, 0, by rw [h1, h2]⟩
  · exact ⟨_, _, h1⟩
theorem RDiskAt.base {w : World} {B B' r gl lc : Nat} {wv : Value} {D : DS} (h : RDiskAt w B r gl lc wv D) (hB : B' ≤ B) : RDiskAt w B' r gl lc wv D :=
  { h with L := ownsRow_base h.L hB, W := ownsRow_base h.W hB, hB := Nat.le_trans hB h.hB }
theorem rdisk_base {w : World} {B B' r : Nat} {own : List Nat} {D : DS} (h : RDisk w B r own D) (hB : B' ≤ B) : RDisk w B' r own D := by
  obtain ⟨gl, lc, wv, hd, rfl⟩ := h
  exact ⟨gl, lc, wv, hd.base hB, rfl⟩
/-- The cells of the k-th write. -/
theorem rwait_cells {w : World} {B r gl lc : Nat} {wv : Value} {D : DS} (h : RDiskAt w B r gl lc wv D) (k : Nat) (hk : k < D.waits.length) :
    ∃ gw wc, wv = .slice (some ⟨gw, 0, none⟩) D.waits.length wc ∧ w.cell? ⟨gw, k * 2, none⟩ = some (.int .i64 (D.waits[k]).1) ∧ w.cell? ⟨gw, k * 2 + 1, none⟩ = some (.string (strOf (D.waits[k]).2)) := by
  obtain ⟨gw, wc, e, _⟩ := ownsRow_some h.W (by omega)
  subst e
  obtain ⟨h1, h2⟩ := rws_at D.waits k hk
  exact ⟨gw, wc, rfl, by rw [h.W.cellAt _ (by omega), h1], by rw [h.W.cellAt _ (by omega), h2]⟩
theorem rsec_cell {w : World} {B r gl lc : Nat} {wv : Value} {D : DS} (h : RDiskAt w B r gl lc wv D) (k : Nat) (hk : k < D.n) : w.cell? ⟨gl, k, none⟩ = some (.string (strOf (sec D.secs k))) := by
  rw [h.L.cellAt _ (by omega), strs_at _ _ _ hk]

theorem RDiskAt.setFuse {w : World} {B r gl lc : Nat} {wv : Value} {D : DS} (h : RDiskAt w B r gl lc wv D) (n : Int) (hn : -1 ≤ n) (h2 : n ≤ 9223372036854775807) :
    RDiskAt (w.setCell ⟨r, 3, none⟩ (.int .i64 n)) B r gl lc wv { D with fuse := n } := by
  have hk := Kept.setCell [r] w ⟨r, 3, none⟩ (.int .i64 n) (by simp)
  refine { blk := ?_, L := ?_, W := ?_, ne1 := h.ne1, ne2 := h.ne2, ne3 := h.ne3, hB := h.hB, good := { h.good with f1 := hn, f2 := h2 } }
  · simp [World.setCell, Array.getElem?_modify, h.blk]
  · exact ownsRow_block h.L fun i hi => hk.block i (h.L.lt i hi).2 (by simp only [Value.ownBlock, Option.some.injEq] at hi; subst hi; simpa using h.ne1)
  · exact ownsRow_block h.W fun i hi => hk.block i (h.W.lt i hi).2 (by have := h.ne2; rw [hi] at this; simpa using this)
theorem RDiskAt.setGone {w : World} {B r gl lc : Nat} {wv : Value} {D : DS} (h : RDiskAt w B r gl lc wv D) (g : Bool) :
    RDiskAt (w.setCell ⟨r, 4, none⟩ (.bool g)) B r gl lc wv { D with gone := g } := by
  have hk := Kept.setCell [r] w ⟨r, 4, none⟩ (.bool g) (by simp)
  refine { blk := ?_, L := ?_, W := ?_, ne1 := h.ne1, ne2 := h.ne2, ne3 := h.ne3, hB := h.hB, good := { h.good with } }
  · simp [World.setCell, Array.getElem?_modify, h.blk]
  · exact ownsRow_block h.L fun i hi => hk.block i (h.L.lt i hi).2 (by simp only [Value.ownBlock, Option.some.injEq] at hi; subst hi; simpa using h.ne1)
  · exact ownsRow_block h.W fun i hi => hk.block i (h.W.lt i hi).2 (by have := h.ne2; rw [hi] at this; simpa using this)
theorem RDiskAt.setSteps {w : World} {B r gl lc : Nat} {wv : Value} {D : DS} (h : RDiskAt w B r gl lc wv D) (n : Int) (hn : 0 ≤ n) (h2 : n ≤ 1000) :
    RDiskAt (w.setCell ⟨r, 2, none⟩ (.int .i64 n)) B r gl lc wv { D with steps := n } := by
  have hk := Kept.setCell [r] w ⟨r, 2, none⟩ (.int .i64 n) (by simp)
  refine { blk := ?_, L := ?_, W := ?_, ne1 := h.ne1, ne2 := h.ne2, ne3 := h.ne3, hB := h.hB, good := { h.good with s1 := hn, s2 := h2 } }
  · simp [World.setCell, Array.getElem?_modify, h.blk]
  · exact ownsRow_block h.L fun i hi => hk.block i (h.L.lt i hi).2 (by simp only [Value.ownBlock, Option.some.injEq] at hi; subst hi; simpa using h.ne1)
  · exact ownsRow_block h.W fun i hi => hk.block i (h.W.lt i hi).2 (by have := h.ne2; rw [hi] at this; simpa using this)
theorem RDiskAt.setNoWaits {w : World} {B r gl lc : Nat} {wv : Value} {D : DS} (h : RDiskAt w B r gl lc wv D) :
    RDiskAt (w.setCell ⟨r, 1, none⟩ (.slice none 0 0)) B r gl lc (.slice none 0 0) { D with waits := [] } := by
  have hk := Kept.setCell [r] w ⟨r, 1, none⟩ (.slice none 0 0) (by simp)
  refine { blk := ?_, L := ?_, W := World.ownsRow_nil _ _ _ _, ne1 := h.ne1, ne2 := by simp [Value.ownBlock], ne3 := by simp [Value.ownBlock], hB := h.hB, good := { h.good with wl := by simp, w := by simp } }
  · simp [World.setCell, Array.getElem?_modify, h.blk]
  · exact ownsRow_block h.L fun i hi => hk.block i (h.L.lt i hi).2 (by simp only [Value.ownBlock, Option.some.injEq] at hi; subst hi; simpa using h.ne1)

set_option maxHeartbeats 1000000 in
theorem rstep_any {w : World} {B r gl lc : Nat} {wv : Value} {D : DS} (h : RDiskAt w B r gl lc wv D) (hs : D.steps < 1000) :
    Calls Try.prog 50 #[.pointer (some ⟨r, 0, none⟩)] w fun e w' => e = .returned (.bool D.step.1) ∧ RDiskAt w' B r gl lc wv D.step.2 ∧ Kept [r] w w' := by
  obtain ⟨c0, c1, c2, c3, c4⟩ := h.cells
  have hf := h.free 2
  have hg := h.free 3
  have hh := h.free 4
  have f1 := h.good.f1
  have f2 := h.good.f2
  have s1 := h.good.s1
  go_enter Try.func50, Try.ntmps50
  go_wp2
  · go_ret
    have hz : D.fuse = 0 := by simpa using (by assumption : (D.fuse == 0) = true)
    have e : D.step = (false, { D with gone := true }) := by simp [DS.step, hz]
    rw [e]
    exact ⟨rfl, h.setGone true, Kept.setCell [r] w _ _ (by simp)⟩
  · go_ret
    have hz : D.gone = true := by assumption
    have e : D.step = (false, { D with gone := true }) := by simp [DS.step, hz]
    rw [e]
    refine ⟨rfl, ?_, Kept.refl _ _⟩
    have e2 : ({ D with gone := true } : DS) = D := by rw [← hz]
    rw [e2]; exact h
  · go_ret
    have h1 : (D.fuse == 0) = false := by assumption
    have h2 : D.gone = false := by assumption
    have h3 : 0 < D.fuse := by assumption
    have e : D.step = (true, { D with fuse := D.fuse - 1, steps := D.steps + 1 }) := by
      simp only [beq_eq_false_iff_ne] at h1
      simp [DS.step, h1, h2, h3]
    rw [e]
    exact ⟨rfl, (h.setFuse (D.fuse - 1) (by omega) (by have := h.good.f2; omega)).setSteps (D.steps + 1) (by have := h.good.s1; simp; omega) (by omega), (Kept.setCell [r] w _ _ (by simp)).trans (Kept.setCell [r] _ _ _ (by simp)) (fun _ _ h => h)⟩
  · go_ret
    have h1 : (D.fuse == 0) = false := by assumption
    have h2 : D.gone = false := by assumption
    have h3 : D.fuse ≤ 0 := by assumption
    have e : D.step = (true, { D with steps := D.steps + 1 }) := by
      simp only [beq_eq_false_iff_ne] at h1
      simp [DS.step, h1, h2, Int.not_lt.2 h3]
    rw [e]
    exact ⟨rfl, h.setSteps (D.steps + 1) (by have := h.good.s1; omega) (by omega), Kept.setCell [r] w _ _ (by simp)⟩

theorem setCell_twice (w : World) (p : Addr) (x y : Value) : (w.setCell p x).setCell p y = w.setCell p y := by
  unfold World.setCell
  simp only
  congr 1
  apply Array.ext_getElem?
  intro i
  simp only [Array.getElem?_modify]
  by_cases h : p.block = i
  · simp only [h, if_true]
    cases w.heap[i]? with
    | none => rfl
    | some o =>
      cases o <;> simp only [Option.map_some]
      split <;> simp
  · simp only [h, if_false]

set_option maxHeartbeats 400000 in
theorem rfuse_any {w : World} {B r gl lc : Nat} {wv : Value} {D : DS} (h : RDiskAt w B r gl lc wv D) (n : Int) (hn : n ≤ 9223372036854775807) :
    Calls Try.prog 18 #[.pointer (some ⟨r, 0, none⟩), .int .i64 n] w fun e w' => e = .returned (.tuple #[]) ∧ RDiskAt w' B r gl lc wv (D.fused n) ∧ Kept [r] w w' := by
  obtain ⟨c0, c1, c2, c3, c4⟩ := h.cells
  have hf := h.free 3
  have HH := hid h
  clear h
  by_cases hlt : n < 0
  · go_enter Try.func18, Try.ntmps18
    go_wp2
    go_end0
    have hm := HH.out.setFuse (-1) (by omega) (by omega)
    have e : (w.setCell ⟨r, 3, none⟩ (.int .i64 n)).setCell ⟨r, 3, none⟩ (.int .i64 (-1)) = w.setCell ⟨r, 3, none⟩ (.int .i64 (-1)) := setCell_twice w _ _ _
    rw [e]
    refine ⟨rfl, ?_, Kept.setCell [r] w _ _ (by simp)⟩
    unfold DS.fused
    rw [show max n (-1) = -1 by omega]
    exact hm
  · go_enter Try.func18, Try.ntmps18
    go_wp2
    go_end0
    have hm := HH.out.setFuse n (by omega) hn
    refine ⟨rfl, ?_, Kept.setCell [r] w _ _ (by simp)⟩
    unfold DS.fused
    rw [show max n (-1) = n by omega]
    exact hm
end Go.Proofs.Ytambgimfbdecpaa
namespace Go.Proofs.Ytambgimfbdecpaa
open Go.RowKit
set_option linter.unusedVariables false

set_option maxRecDepth 100000 in
set_option maxHeartbeats 1000000 in
theorem rread_range {w : World} {B r gl lc : Nat} {wv : Value} {D : DS} (h : RDiskAt w B r gl lc wv D) (i : Int) (hi : ¬ (0 ≤ i ∧ i < D.n)) :
    Calls Try.prog 78 #[.pointer (some ⟨r, 0, none⟩), .int .i64 i] w fun e w' => e = .returned (.tuple #[.string ⟨#[]⟩, .int .i64 3]) ∧ w' = w := by
  obtain ⟨c0, c1, c2, c3, c4⟩ := h.cells
  have hn := h.good.n2
  clear h
  by_cases h0 : i < 0
  · clear hi
    go_enter Try.func78, Try.ntmps78
    go_wp2
    go_ret2
    exact ⟨rfl, rfl⟩
  · have h1 : (D.n : Int) ≤ i := by omega
    clear hi
    go_enter Try.func78, Try.ntmps78
    go_wp2
    go_ret2
    exact ⟨rfl, rfl⟩

set_option maxRecDepth 100000 in
set_option maxHeartbeats 1000000 in
theorem rread_gone {w : World} {B r gl lc : Nat} {wv : Value} {D : DS} (h : RDiskAt w B r gl lc wv D) (i : Nat) (hi : i < D.n) (hg : D.gone = true) :
    Calls Try.prog 78 #[.pointer (some ⟨r, 0, none⟩), .int .i64 i] w fun e w' => e = .returned (.tuple #[.string ⟨#[]⟩, .int .i64 9]) ∧ w' = w := by
  obtain ⟨c0, c1, c2, c3, c4⟩ := h.cells
  have hn := h.good.n2
  have h0 : ¬ (i : Int) < 0 := by omega
  have h1 : (i : Int) < D.n := by omega
  clear h
  go_enter Try.func78, Try.ntmps78
  go_wp2
  go_ret2
  exact ⟨rfl, rfl⟩

set_option maxRecDepth 100000 in
set_option maxHeartbeats 2000000 in
theorem rread_yes {w : World} {B r gl lc : Nat} {wv : Value} {D : DS} (h : RDiskAt w B r gl lc wv D) (i : Nat) (hi : i < D.n) (hg : D.gone = false) :
    Calls Try.prog 78 #[.pointer (some ⟨r, 0, none⟩), .int .i64 i] w fun e w' => e = .returned (.tuple #[.string (strOf (D.read i)), .int .i64 0]) ∧ w' = w := by
  obtain ⟨a, c, rfl⟩ := h.wvSlice
  obtain ⟨c0, c1, c2, c3, c4⟩ := h.cells
  have hn := h.good.n2
  have hwl := h.good.wl
  have h0 : ¬ (i : Int) < 0 := by omega
  have h1 : (i : Int) < D.n := by omega
  have hL := rsec_cell h i hi
  have HH := hid h
  clear h
  go_enter Try.func78, Try.ntmps78
  go_wp2
  go_loop [6, 7] (fun s q => ∃ k : Nat, k ≤ D.waits.length ∧ q = .int .i64 k ∧ s = .string (strOf (lastW (D.waits.take k) i (sec D.secs i)))) (fun _ q => D.waits.length - (intOf q).toNat)
  case atStart => exact ⟨0, by omega, rfl, rfl⟩
  case round =>
    obtain ⟨k, hk, rfl, rfl⟩ := hrel
    by_cases hlt : k < D.waits.length
    · obtain ⟨gw, wc, e, hc1, hc2⟩ := rwait_cells HH.out k hlt
      simp only [Value.slice.injEq, true_and] at e
      obtain ⟨rfl, rfl⟩ := e
      have hts : lastW (D.waits.take (k + 1)) i (sec D.secs i) = if (D.waits[k]).1 = i then (D.waits[k]).2 else lastW (D.waits.take k) i (sec D.secs i) := by
        rw [List.take_succ_eq_append_getElem hlt, lastW_append]; rfl
      have HT := hid hts
      clear hts
      by_cases hat : (D.waits[k]).1 = i
      · have hat2 : ((D.waits[k]).1 == (i : Int)) = true := by simp [hat]
        have HA := hid hat
        clear hat
        go_wp2
        go_round
        case rel => exact ⟨k + 1, by omega, by go_num, by rw [HT.out, if_pos HA.out]⟩
        case measure => simp [intOf]; omega
      · have hat2 : ((D.waits[k]).1 == (i : Int)) = false := by simp [hat]
        have HA := hid hat
        clear hat
        go_wp2
        go_round
        case rel => exact ⟨k + 1, by omega, by go_num, by rw [HT.out, if_neg HA.out]⟩
        case measure => simp [intOf]; omega
    · have e : k = D.waits.length := by omega
      subst e
      rw [List.take_length]
      go_wp2
      go_ret2
      exact ⟨rfl, rfl⟩

theorem strs_lay (n : Nat) (s : List Int) (i : Nat) (b : List Int) (hs : s.length = n * 512) (hi : i < n) (hb : b.length ≤ 512) : strs n (layS s i b) = (strs n s).set i (.string (strOf (b ++ (sec s i).drop b.length))) := by
  apply List.ext_getElem?
  intro j
  rw [List.getElem?_set]
  by_cases hj : j < n
  · rw [strs_at n _ j hj]
    by_cases e : i = j
    · subst e
      rw [if_pos rfl, if_pos (by rw [strs_length]; exact hi), sec_layS_same s n i b hs hi hb]
    · rw [if_neg e, strs_at n _ j hj, sec_layS_other s n i j b hs hi hb (fun h => e h.symm)]
  · rw [List.getElem?_eq_none (by rw [strs_length]; omega)]
    split
    · omega
    · rw [List.getElem?_eq_none (by rw [strs_length]; omega)]

/-- A sector of the document's own disk is another one. -/
theorem RDiskAt.setSec {w : World} {B r gl lc : Nat} {wv : Value} {D : DS} (h : RDiskAt w B r gl lc wv D) (i : Nat) (b : List Int) (hi : i < D.n) (hb : b.length ≤ 512) :
    RDiskAt (w.setCell ⟨gl, i, none⟩ (.string (strOf (b ++ (sec D.secs i).drop b.length)))) B r gl lc wv { D with secs := layS D.secs i b } := by
  obtain ⟨h1, h2⟩ := h.L.stored i (.string (strOf (b ++ (sec D.secs i).drop b.length)))
  have hl := layS_length D.secs D.n i b h.good.len hi hb
  refine { blk := ?_, L := ?_, W := ?_, ne1 := h.ne1, ne2 := h.ne2, ne3 := h.ne3, hB := h.hB, good := { h.good with len := hl } }
  · rw [h2.block r (Array.getElem?_eq_some_iff.1 h.blk).1 (by simpa using (Ne.symm h.ne1))]; exact h.blk
  · rw [strs_lay D.n D.secs i b h.good.len hi hb]; exact h1
  · exact ownsRow_block h.W fun k hk => h2.block k (h.W.lt k hk).2 (by rw [← hk]; exact h.ne3)

set_option maxRecDepth 100000 in
set_option maxHeartbeats 2000000 in
theorem rflush_power {w : World} {B r gl lc : Nat} {wv : Value} {D : DS} (h : RDiskAt w B r gl lc wv D) (hs : D.steps < 1000) (hp : D.step.1 = false) :
    Calls Try.prog 44 #[.pointer (some ⟨r, 0, none⟩)] w fun e w' => e = .returned (.int .i64 9) ∧ RDiskAt w' B r gl lc wv D.step.2 ∧ Kept [r] w w' := by
  have HH := hid h
  have HP := hid hp
  clear h hp
  go_enter Try.func44, Try.ntmps44
  go_wp2_with (go_at_call 50; refine (rstep_any HH.out hs).mono ?_; rw [HP.out]; rintro e w1 ⟨rfl, hd, hk⟩)
  go_ret
  exact ⟨rfl, hd, hk⟩

set_option maxRecDepth 100000 in
set_option maxHeartbeats 4000000 in
theorem rflush_yes {w : World} {B r gl lc : Nat} {wv : Value} {D : DS} (h : RDiskAt w B r gl lc wv D) (hs : D.steps < 1000) (hp : D.step.1 = true) :
    Calls Try.prog 44 #[.pointer (some ⟨r, 0, none⟩)] w fun e w' => e = .returned (.int .i64 0) ∧ RDiskAt w' B r gl lc (.slice none 0 0) D.step.2.flushed ∧ Kept [r, gl] w w' := by
  have HH := hid h
  have HP := hid hp
  clear h hp
  go_enter Try.func44, Try.ntmps44
  go_wp2_with (go_at_call 50; refine (rstep_any HH.out hs).mono ?_; rw [HP.out]; rintro e w1 ⟨rfl, hd, hk⟩; obtain ⟨a, c, rfl⟩ := hd.wvSlice; have HD := hid hd; have HW := hd.good.wl; clear hd)
  obtain ⟨E, hE⟩ : ∃ E, E = D.step.2 := ⟨_, rfl⟩
  rw [← hE] at HD HW
  have HE := hid hE
  clear hE
  go_loopw [3] (fun q wr => ∃ k : Nat, k ≤ E.waits.length ∧ q = .int .i64 k ∧ RDiskAt wr B r gl lc (.slice a E.waits.length c) { E with secs := layAll E.secs (E.waits.take k) } ∧ Kept [gl] w1 wr) (fun q _ => E.waits.length - (intOf q).toNat)
  case atStart => exact ⟨0, by omega, rfl, by simpa [layAll] using HD.out, Kept.refl _ _⟩
  case round =>
    obtain ⟨k, hkl, rfl, hdr, hkr⟩ := hrel
    obtain ⟨f0, f1, f2, f3, f4⟩ := hdr.cells
    simp only at f0 f1 f2 f3 f4
    by_cases hlt : k < E.waits.length
    · obtain ⟨gw, wc, e, hc1, hc2⟩ := rwait_cells hdr k hlt
      simp only [Value.slice.injEq, true_and] at e
      obtain ⟨rfl, rfl⟩ := e
      obtain ⟨at_, hat⟩ : ∃ m : Nat, (E.waits[k]).1 = m := ⟨(E.waits[k]).1.toNat, by have := (hdr.good.w _ (List.getElem_mem hlt)).1; omega⟩
      have hatn : at_ < E.n := by have := (hdr.good.w _ (List.getElem_mem hlt)).2.1; simp only at this; omega
      have hatn' : (at_ : Int) < E.n := by omega
      have hx : (E.waits[k]).2.length = 512 := (hdr.good.w _ (List.getElem_mem hlt)).2.2
      simp only at hc1 hc2
      rw [hat] at hc1
      have hsc := rsec_cell hdr at_ hatn
      have hfz : wr.frozen? ⟨gl, at_, none⟩ = false := hdr.L.frozenAt at_
      have hne1 : gl ≠ r := hdr.ne1
      have hne2 : gw ≠ gl := by have := hdr.ne3; simpa [Value.ownBlock] using this
      have hne1' : ¬ gl = r := hne1
      have hne2' : ¬ gl = gw := fun h => hne2 h.symm
      have HA := hid hat
      have HX := hid hx
      have HR := hid hdr
      clear hat hx hdr
      obtain ⟨S, hS⟩ : ∃ S, S = strOf (E.waits[k]).2 := ⟨_, rfl⟩
      rw [← hS] at hc2
      have HSe := hid hS
      clear hS
      go_wp2
      go_region_held3 (fun w' => w'.cell? ⟨r, 0, none⟩ = some (.slice (some ⟨gl, 0, none⟩) E.n lc) ∧ w'.cell? ⟨r, 1, none⟩ = some (.slice (some ⟨gw, 0, none⟩) E.waits.length c) ∧ w'.cell? ⟨gw, k * 2, none⟩ = some (.int .i64 at_) ∧ w'.cell? ⟨gw, k * 2 + 1, none⟩ = some (.string S)) (first | go_keep) (fail)
      go_wp2
      go_roundw
      case rel =>
        refine ⟨k + 1, by omega, by go_num, ?_, ?_⟩
        · have h2 := HR.out.setSec at_ (E.waits[k]).2 hatn (by rw [HX.out]; omega)
          have e0 : (sec (layAll E.secs (E.waits.take k)) at_).drop (E.waits[k]).2.length = [] := List.drop_of_length_le (by rw [HX.out, sec_length _ at_ E.n HR.out.good.len hatn]; omega)
          have e : layAll E.secs (E.waits.take (k + 1)) = layS (layAll E.secs (E.waits.take k)) at_ (E.waits[k]).2 := by
            rw [List.take_succ_eq_append_getElem hlt, layAll_snoc, HA.out, Int.toNat_natCast]
          simp only [e0, List.append_nil, ← HSe.out] at h2
          rw [e]
          exact h2.keep (Kept.drew [] _) (by simp)
        · exact hkr.trans ((Kept.setCell [gl] wr _ _ (by simp)).trans (Kept.drew [gl] _) (fun _ _ h => h)) (fun _ _ h => h)
      case measure => simp [intOf]; omega
    · have e : k = E.waits.length := by omega
      subst e
      have hfr := hdr.free 1
      rw [List.take_length] at hdr
      have HR := hid hdr
      clear hdr
      go_wp2
      go_ret
      refine ⟨rfl, by rw [← HE.out]; exact HR.out.setNoWaits, ?_⟩
      exact ((hk.mono (fun k _ h => by simp only [List.mem_singleton] at h; simp [h])).trans hkr (fun k _ h => by simp only [List.mem_singleton] at h; simp [h])).trans (Kept.setCell [r] _ _ _ (by simp)) (fun k _ h => by simp only [List.mem_singleton] at h; simp [h])

set_option maxRecDepth 100000 in
set_option maxHeartbeats 1000000 in
theorem rwrite_len {w : World} {B r gl lc : Nat} {wv : Value} {D : DS} (h : RDiskAt w B r gl lc wv D) (i : Int) (a : Option Addr) (len cap : Nat) (hl : len ≠ 512) (hm : len ≤ maxLen) :
    Calls Try.prog 22 #[.pointer (some ⟨r, 0, none⟩), .int .i64 i, .slice a len cap] w fun e w' => e = .returned (.int .i64 2) ∧ w' = w := by
  have hl2 : ((len : Int) != 512) = true := by rw [bne_iff_ne]; omega
  unfold maxLen at hm
  clear h
  go_enter Try.func22, Try.ntmps22
  go_wp2_with fail
  go_ret
  exact ⟨rfl, rfl⟩

set_option maxRecDepth 100000 in
set_option maxHeartbeats 1000000 in
theorem rwrite_range {w : World} {B r gl lc : Nat} {wv : Value} {D : DS} (h : RDiskAt w B r gl lc wv D) (i : Int) (a : Option Addr) (cap : Nat) (hi : ¬ (0 ≤ i ∧ i < D.n)) :
    Calls Try.prog 22 #[.pointer (some ⟨r, 0, none⟩), .int .i64 i, .slice a 512 cap] w fun e w' => e = .returned (.int .i64 3) ∧ w' = w := by
  obtain ⟨c0, c1, c2, c3, c4⟩ := h.cells
  have hn := h.good.n2
  clear h
  by_cases h0 : i < 0
  · clear hi
    go_enter Try.func22, Try.ntmps22
    go_wp2_with fail
    go_ret
    exact ⟨rfl, rfl⟩
  · have h1 : (D.n : Int) ≤ i := by omega
    clear hi
    go_enter Try.func22, Try.ntmps22
    go_wp2_with fail
    go_ret
    exact ⟨rfl, rfl⟩

set_option maxRecDepth 100000 in
set_option maxHeartbeats 1000000 in
theorem rwrite_power {w : World} {B r gl lc : Nat} {wv : Value} {D : DS} (h : RDiskAt w B r gl lc wv D) (i : Nat) (a : Option Addr) (cap : Nat) (hi : i < D.n) (hs : D.steps < 1000) (hp : D.step.1 = false) :
    Calls Try.prog 22 #[.pointer (some ⟨r, 0, none⟩), .int .i64 i, .slice a 512 cap] w fun e w' => e = .returned (.int .i64 9) ∧ RDiskAt w' B r gl lc wv D.step.2 ∧ Kept [r] w w' := by
  obtain ⟨c0, c1, c2, c3, c4⟩ := h.cells
  have hn := h.good.n2
  have h0 : ¬ (i : Int) < 0 := by omega
  have h1 : (i : Int) < D.n := by omega
  have HH := hid h
  have HP := hid hp
  clear h hp
  go_enter Try.func22, Try.ntmps22
  go_wp2_with (go_at_call 50; refine (rstep_any HH.out hs).mono ?_; rw [HP.out]; rintro e w1 ⟨rfl, hd, hk⟩)
  go_ret
  exact ⟨rfl, hd, hk⟩
end Go.Proofs.Ytambgimfbdecpaa
