/- What this text holds: words for a disk that lies in memory, and what keeps it as it was. · What this text holds: what the small functions of a disk do, each said of every world in which a disk lies. · What this text holds: 'Of': a sector of one byte. · What this text holds: rows of the program's table of types, by the kernel. · What this text holds: 'blank' and 'New': a disk of noughts. · What this text holds: 'held' and 'lay': a sector read, and written. -/
import Derived.Test.YtambgimfbdecpaaProg
import Derived.WalkKit
import Derived.WalkSpells
import Derived.WalkLawsBesides
import Derived.Laws.BytesString
import Derived.Laws.CopyOwn
import Derived.Laws.OwnMore
import Derived.Deep.MidRow
import Derived.Deep.RegionHeld3
import Derived.Deep.WholeRow
namespace Go.Proofs.Ytambgimfbdecpaa
open Go.RowKit

/-- Cells of bytes. -/
def bc (l : List Int) : List Value := l.map (Value.int .u8)
theorem bc_length (l : List Int) : (bc l).length = l.length := by simp [bc]
theorem bc_append (l m : List Int) : bc (l ++ m) = bc l ++ bc m := by simp [bc]
theorem bc_oneCell (l : List Int) : ∀ v ∈ bc l, v.oneCell' = true := by
  intro v hv
  simp only [bc, List.mem_map] at hv
  obtain ⟨x, _, rfl⟩ := hv
  rfl

/-- A disk as plain data: sectors, one behind the other; the writes that wait. -/
structure DS where
  n : Nat
  secs : List Int
  waits : List (Int × List Int)
  fuse : Int
  gone : Bool
  steps : Int

/-- Cells of the writes that wait. -/
def wcs (l : List (Int × List Int)) : List Value := l.flatMap fun x => .int .i64 x.1 :: bc x.2

structure DS.good (D : DS) : Prop where
  n1 : 1 ≤ D.n
  n2 : D.n ≤ 4096
  len : D.secs.length = D.n * 512
  wl : D.waits.length ≤ 200
  w : ∀ x ∈ D.waits, 0 ≤ x.1 ∧ x.1 < D.n ∧ x.2.length = 512
  f1 : -1 ≤ D.fuse
  f2 : D.fuse ≤ 9223372036854775807
  s1 : 0 ≤ D.steps
  s2 : D.steps ≤ 1000

/-- Nothing that was there has turned but the blocks of a list. -/
structure Kept (S : List Nat) (w w' : World) : Prop where
  os : w'.os = w.os
  tape : w'.tape = w.tape
  output : w'.output = w.output
  size : w.heap.size ≤ w'.heap.size
  block : ∀ k, k < w.heap.size → k ∉ S → w'.heap[k]? = w.heap[k]?

theorem Kept.refl (S : List Nat) (w : World) : Kept S w w := ⟨rfl, rfl, rfl, Nat.le_refl _, fun _ _ _ => rfl⟩
theorem Kept.trans {S T : List Nat} {a b c : World} (h : Kept S a b) (k : Kept T b c) (hT : ∀ i, i < a.heap.size → i ∈ T → i ∈ S) : Kept S a c :=
  ⟨k.os.trans h.os, k.tape.trans h.tape, k.output.trans h.output, Nat.le_trans h.size k.size,
    fun i hi hn => (k.block i (Nat.lt_of_lt_of_le hi h.size) (fun e => hn (hT i hi e))).trans (h.block i hi hn)⟩
theorem Kept.mono {S T : List Nat} {a b : World} (h : Kept S a b) (hT : ∀ i, i < a.heap.size → i ∈ S → i ∈ T) : Kept T a b :=
  ⟨h.os, h.tape, h.output, h.size, fun i hi hn => h.block i hi (fun e => hn (hT i hi e))⟩
theorem Kept.below {S : List Nat} {a b : World} {B : Nat} (h : Kept S a b) (hS : ∀ i ∈ S, B ≤ i) (hB : B ≤ a.heap.size) : Below B a b :=
  ⟨h.os, h.tape, h.output, h.size, fun i hi => h.block i (by omega) (fun e => by have := hS i e; omega)⟩
theorem Kept.ofBelow {a b : World} (h : Below a.heap.size a b) (S : List Nat) : Kept S a b :=
  ⟨h.os, h.tape, h.output, h.size, fun i hi _ => h.block i hi⟩
theorem Kept.ofGrown {a b : World} {row : Option Nat} (h : a.grownBy b row) (S : List Nat) (hr : ∀ k, row = some k → k ∈ S) : Kept S a b :=
  ⟨h.os, h.tape, h.output, h.size, fun i hi hn => h.block i hi (fun e => hn (hr i e.symm))⟩
theorem Kept.alloc (S : List Nat) (w : World) (o : Obj) : Kept S w (w.alloc o) := Kept.ofGrown (World.grownBy_alloc w o none) S (fun _ h => by cases h)
theorem Kept.setCell (S : List Nat) (w : World) (p : Addr) (v : Value) (h : p.block ∈ S) : Kept S w (w.setCell p v) :=
  ⟨rfl, rfl, rfl, by simp [World.setCell], fun i _ hn => Below.heap_setCell _ _ _ _ (fun e => hn (e ▸ h))⟩
theorem Kept.drew (S : List Nat) (w : World) : Kept S w w.drew := ⟨rfl, rfl, rfl, Nat.le_refl _, fun _ _ _ => rfl⟩

theorem ownsRow_block {w w' : World} {base : Nat} {e : TypeId} {size : Nat} {v : Value} {n : Nat} {xs : List Value} (h : w.ownsRow base e size v n xs)
    (hb : ∀ k, v.ownBlock = some k → w'.heap[k]? = w.heap[k]?) : w'.ownsRow base e size v n xs := by
  refine ⟨h.1, ?_⟩
  rcases h.2 with hn | ⟨g, cap, cur, rfl, hg, hgg, rest⟩
  · exact .inl hn
  · exact .inr ⟨g, cap, cur, rfl, hg, by rw [hb g rfl]; exact hgg, rest⟩

/-- A disk lies at block b; its sectors in block bs; the slice of its waiting writes is wv. -/
structure DiskAt (w : World) (B b bs sc : Nat) (wv : Value) (D : DS) : Prop where
  blk : w.heap[b]? = some (.cells #[.slice (some ⟨bs, 0, none⟩) D.n sc, wv, .int .i64 D.fuse, .bool D.gone, .int .i64 D.steps] 83 (0, 0))
  secs : w.ownsRow B 96 512 (.slice (some ⟨bs, 0, none⟩) D.n sc) D.n (bc D.secs)
  waits : w.ownsRow B 98 513 wv D.waits.length (wcs D.waits)
  ne1 : bs ≠ b
  ne2 : wv.ownBlock ≠ some b
  ne3 : wv.ownBlock ≠ some bs
  hB : B ≤ b
  good : D.good

/-- The same, its blocks in a list. -/
def Disk (w : World) (B b : Nat) (own : List Nat) (D : DS) : Prop := ∃ bs sc wv, DiskAt w B b bs sc wv D ∧ own = b :: bs :: wv.ownBlock.toList

theorem DiskAt.keep {w w' : World} {B b bs sc : Nat} {wv : Value} {D : DS} (h : DiskAt w B b bs sc wv D) {S : List Nat} (k : Kept S w w')
    (hS : ∀ i ∈ b :: bs :: wv.ownBlock.toList, i ∉ S) : DiskAt w' B b bs sc wv D := by
  have hb := h.blk
  refine { h with blk := ?_, secs := ?_, waits := ?_ }
  · rw [k.block b (Array.getElem?_eq_some_iff.1 hb).1 (hS b (by simp))]; exact hb
  · refine ownsRow_block h.secs fun i hi => ?_
    exact k.block i (h.secs.lt i hi).2 (hS i (by simp only [Value.ownBlock, Option.some.injEq] at hi; subst hi; simp))
  · refine ownsRow_block h.waits fun i hi => ?_
    exact k.block i (h.waits.lt i hi).2 (hS i (by simp [hi]))

theorem Disk.keep {w w' : World} {B b : Nat} {own : List Nat} {D : DS} (h : Disk w B b own D) {S : List Nat} (k : Kept S w w') (hS : ∀ i ∈ own, i ∉ S) : Disk w' B b own D := by
  obtain ⟨bs, sc, wv, hd, rfl⟩ := h
  exact ⟨bs, sc, wv, hd.keep k hS, rfl⟩

theorem DiskAt.lt {w : World} {B b bs sc : Nat} {wv : Value} {D : DS} (h : DiskAt w B b bs sc wv D) : ∀ i ∈ b :: bs :: wv.ownBlock.toList, B ≤ i ∧ i < w.heap.size := by
  intro i hi
  simp only [List.mem_cons, Option.mem_toList] at hi
  rcases hi with rfl | rfl | hi
  · exact ⟨h.hB, (Array.getElem?_eq_some_iff.1 h.blk).1⟩
  · exact h.secs.lt i rfl
  · exact h.waits.lt i hi

theorem Disk.lt {w : World} {B b : Nat} {own : List Nat} {D : DS} (h : Disk w B b own D) : ∀ i ∈ own, B ≤ i ∧ i < w.heap.size := by
  obtain ⟨bs, sc, wv, hd, rfl⟩ := h
  exact hd.lt

theorem Disk.good {w : World} {B b : Nat} {own : List Nat} {D : DS} (h : Disk w B b own D) : D.good := by
  obtain ⟨bs, sc, wv, hd, rfl⟩ := h
  exact hd.good

/-- The cells of the disk's own block. -/
theorem DiskAt.cells {w : World} {B b bs sc : Nat} {wv : Value} {D : DS} (h : DiskAt w B b bs sc wv D) :
    w.cell? ⟨b, 0, none⟩ = some (.slice (some ⟨bs, 0, none⟩) D.n sc) ∧ w.cell? ⟨b, 1, none⟩ = some wv ∧ w.cell? ⟨b, 2, none⟩ = some (.int .i64 D.fuse) ∧
    w.cell? ⟨b, 3, none⟩ = some (.bool D.gone) ∧ w.cell? ⟨b, 4, none⟩ = some (.int .i64 D.steps) := by
  simp [World.cell?, h.blk]
theorem DiskAt.free {w : World} {B b bs sc : Nat} {wv : Value} {D : DS} (h : DiskAt w B b bs sc wv D) (k : Nat) : w.frozen? ⟨b, k, none⟩ = false := by
  simp [World.frozen?, h.blk]
theorem DiskAt.wvSlice {w : World} {B b bs sc : Nat} {wv : Value} {D : DS} (h : DiskAt w B b bs sc wv D) : ∃ a c, wv = .slice a D.waits.length c := by
  rcases h.waits.2 with ⟨h1, h2⟩ | ⟨g, cap, cur, h1, _⟩
  · exact ⟨none, 0, by rw [h1, h2]⟩
  · exact ⟨_, _, h1⟩
end Go.Proofs.Ytambgimfbdecpaa
namespace Go.Proofs.Ytambgimfbdecpaa
open Go.RowKit

set_option maxHeartbeats 400000 in
theorem no_any (n : Int) (w : World) :
    Calls Try.prog 11 #[.int .i64 n] w fun e w' => e = .returned (.int .i64 n) ∧ w' = w := by
  go_enter Try.func11, Try.ntmps11
  go_wp2
  go_ret
  exact ⟨rfl, rfl⟩

set_option maxHeartbeats 400000 in
theorem has_yes (b : Nat) (a : Option Addr) (n c : Nat) (at_ : Int) (w : World) (_hn : n ≤ 4096) (h : w.cell? ⟨b, 0, none⟩ = some (.slice a n c)) (h0 : 0 ≤ at_) (h1 : at_ < n) :
    Calls Try.prog 48 #[.pointer (some ⟨b, 0, none⟩), .int .i64 at_] w fun e w' => e = .returned (.bool true) ∧ w' = w := by
  go_enter Try.func48, Try.ntmps48
  go_wp2
  go_ret
  exact ⟨rfl, rfl⟩

set_option maxHeartbeats 400000 in
theorem has_no (b : Nat) (a : Option Addr) (n c : Nat) (at_ : Int) (w : World) (_hn : n ≤ 4096) (h : w.cell? ⟨b, 0, none⟩ = some (.slice a n c)) (h0 : ¬ (0 ≤ at_ ∧ at_ < n)) :
    Calls Try.prog 48 #[.pointer (some ⟨b, 0, none⟩), .int .i64 at_] w fun e w' => e = .returned (.bool false) ∧ w' = w := by
  by_cases h1 : 0 ≤ at_
  · have h2 : ¬ at_ < n := by omega
    clear h0
    go_enter Try.func48, Try.ntmps48
    go_wp2
    go_ret
    exact ⟨rfl, rfl⟩
  · clear h0
    go_enter Try.func48, Try.ntmps48
    go_wp2
    go_ret
    exact ⟨rfl, rfl⟩

set_option maxHeartbeats 400000 in
theorem size_any {w : World} {B b bs sc : Nat} {wv : Value} {D : DS} (h : DiskAt w B b bs sc wv D) :
    Calls Try.prog 74 #[.pointer (some ⟨b, 0, none⟩)] w fun e w' => e = .returned (.int .i64 D.n) ∧ w' = w := by
  obtain ⟨c0, c1, c2, c3, c4⟩ := h.cells
  have hn := h.good.n2
  clear h
  go_enter Try.func74, Try.ntmps74
  go_wp2
  go_ret
  exact ⟨rfl, rfl⟩

/-- The disk with another fuse. -/
def DS.fused (D : DS) (n : Int) : DS := { D with fuse := max n (-1) }

theorem DiskAt.setFuse {w : World} {B b bs sc : Nat} {wv : Value} {D : DS} (h : DiskAt w B b bs sc wv D) (n : Int) (hn : -1 ≤ n) (h2 : n ≤ 9223372036854775807) :
    DiskAt (w.setCell ⟨b, 2, none⟩ (.int .i64 n)) B b bs sc wv { D with fuse := n } := by
  have hk := Kept.setCell [b] w ⟨b, 2, none⟩ (.int .i64 n) (by simp)
  refine { blk := ?_, secs := ?_, waits := ?_, ne1 := h.ne1, ne2 := h.ne2, ne3 := h.ne3, hB := h.hB, good := { h.good with f1 := hn, f2 := h2 } }
  · simp [World.setCell, Array.getElem?_modify, h.blk]
  · exact ownsRow_block h.secs fun i hi => hk.block i (h.secs.lt i hi).2 (by simp only [Value.ownBlock, Option.some.injEq] at hi; subst hi; simpa using h.ne1)
  · exact ownsRow_block h.waits fun i hi => hk.block i (h.waits.lt i hi).2 (by have := h.ne2; rw [hi] at this; simpa using this)

theorem DiskAt.setGone {w : World} {B b bs sc : Nat} {wv : Value} {D : DS} (h : DiskAt w B b bs sc wv D) (g : Bool) :
    DiskAt (w.setCell ⟨b, 3, none⟩ (.bool g)) B b bs sc wv { D with gone := g } := by
  have hk := Kept.setCell [b] w ⟨b, 3, none⟩ (.bool g) (by simp)
  refine { blk := ?_, secs := ?_, waits := ?_, ne1 := h.ne1, ne2 := h.ne2, ne3 := h.ne3, hB := h.hB, good := { h.good with } }
  · simp [World.setCell, Array.getElem?_modify, h.blk]
  · exact ownsRow_block h.secs fun i hi => hk.block i (h.secs.lt i hi).2 (by simp only [Value.ownBlock, Option.some.injEq] at hi; subst hi; simpa using h.ne1)
  · exact ownsRow_block h.waits fun i hi => hk.block i (h.waits.lt i hi).2 (by have := h.ne2; rw [hi] at this; simpa using this)

theorem DiskAt.setSteps {w : World} {B b bs sc : Nat} {wv : Value} {D : DS} (h : DiskAt w B b bs sc wv D) (n : Int) (hn : 0 ≤ n) (h2 : n ≤ 1000) :
    DiskAt (w.setCell ⟨b, 4, none⟩ (.int .i64 n)) B b bs sc wv { D with steps := n } := by
  have hk := Kept.setCell [b] w ⟨b, 4, none⟩ (.int .i64 n) (by simp)
  refine { blk := ?_, secs := ?_, waits := ?_, ne1 := h.ne1, ne2 := h.ne2, ne3 := h.ne3, hB := h.hB, good := { h.good with s1 := hn, s2 := h2 } }
  · simp [World.setCell, Array.getElem?_modify, h.blk]
  · exact ownsRow_block h.secs fun i hi => hk.block i (h.secs.lt i hi).2 (by simp only [Value.ownBlock, Option.some.injEq] at hi; subst hi; simpa using h.ne1)
  · exact ownsRow_block h.waits fun i hi => hk.block i (h.waits.lt i hi).2 (by have := h.ne2; rw [hi] at this; simpa using this)

set_option maxHeartbeats 400000 in
theorem fuse_any {w : World} {B b bs sc : Nat} {wv : Value} {D : DS} (h : DiskAt w B b bs sc wv D) (n : Int) (hn : n ≤ 9223372036854775807) :
    Calls Try.prog 17 #[.pointer (some ⟨b, 0, none⟩), .int .i64 n] w fun e w' => e = .returned (.tuple #[]) ∧ DiskAt w' B b bs sc wv (D.fused n) ∧ Kept [b] w w' := by
  obtain ⟨c0, c1, c2, c3, c4⟩ := h.cells
  have hf := h.free 2
  have fin : DiskAt (w.setCell ⟨b, 2, none⟩ (.int .i64 (max n (-1)))) B b bs sc wv (D.fused n) := h.setFuse _ (by omega) (by omega)
  have HF : Hid _ := fin
  clear fin h
  go_enter Try.func17, Try.ntmps17
  go_wp2
  · go_end0
    have hm := HF.out
    rw [show max n (-1) = -1 by omega] at hm
    exact ⟨rfl, hm, Kept.setCell [b] w _ _ (by simp)⟩
  · go_end0
    have hm := HF.out
    rw [show max n (-1) = n by omega] at hm
    exact ⟨rfl, hm, Kept.setCell [b] w _ _ (by simp)⟩

/-- What a step does: there was power, and the disk behind it. -/
def DS.step (D : DS) : Bool × DS :=
  if D.gone = true ∨ D.fuse = 0 then (false, { D with gone := true })
  else (true, { D with fuse := if 0 < D.fuse then D.fuse - 1 else D.fuse, steps := D.steps + 1 })

set_option maxHeartbeats 1000000 in
theorem step_any {w : World} {B b bs sc : Nat} {wv : Value} {D : DS} (h : DiskAt w B b bs sc wv D) (hs : D.steps < 1000) :
    Calls Try.prog 49 #[.pointer (some ⟨b, 0, none⟩)] w fun e w' => e = .returned (.bool D.step.1) ∧ DiskAt w' B b bs sc wv D.step.2 ∧ Kept [b] w w' := by
  obtain ⟨c0, c1, c2, c3, c4⟩ := h.cells
  have hf := h.free 2
  have hg := h.free 3
  have hh := h.free 4
  have f1 := h.good.f1
  have f2 := h.good.f2
  have s1 := h.good.s1
  go_enter Try.func49, Try.ntmps49
  go_wp2
  · go_ret
    have hz : D.fuse = 0 := by simpa using (by assumption : (D.fuse == 0) = true)
    have e : D.step = (false, { D with gone := true }) := by simp [DS.step, hz]
    rw [e]
    exact ⟨rfl, h.setGone true, Kept.setCell [b] w _ _ (by simp)⟩
  · go_ret
    have hz : D.gone = true := by assumption
    have e : D.step = (false, { D with gone := true }) := by simp [DS.step, hz]
    rw [e]
    refine ⟨rfl, ?_, Kept.refl _ _⟩
    have e2 : ({ D with gone := true } : DS) = D := by rw [← hz]
    rw [e2]; exact h
  · go_ret
    have h1 : (D.fuse == 0) = false := by assumption
    have h2 : D.gone = false := by assumption
    have h3 : 0 < D.fuse := by assumption
    have e : D.step = (true, { D with fuse := D.fuse - 1, steps := D.steps + 1 }) := by
      simp only [beq_eq_false_iff_ne] at h1
      simp [DS.step, h1, h2, h3]
    rw [e]
    exact ⟨rfl, (h.setFuse (D.fuse - 1) (by omega) (by have := h.good.f2; omega)).setSteps (D.steps + 1) (by have := h.good.s1; simp; omega) (by omega), (Kept.setCell [b] w _ _ (by simp)).trans (Kept.setCell [b] _ _ _ (by simp)) (fun _ _ h => h)⟩
  · go_ret
    have h1 : (D.fuse == 0) = false := by assumption
    have h2 : D.gone = false := by assumption
    have h3 : D.fuse ≤ 0 := by assumption
    have e : D.step = (true, { D with steps := D.steps + 1 }) := by
      simp only [beq_eq_false_iff_ne] at h1
      simp [DS.step, h1, h2, Int.not_lt.2 h3]
    rw [e]
    exact ⟨rfl, h.setSteps (D.steps + 1) (by have := h.good.s1; omega) (by omega), Kept.setCell [b] w _ _ (by simp)⟩
end Go.Proofs.Ytambgimfbdecpaa
namespace Go.Proofs.Ytambgimfbdecpaa
open Go.RowKit

theorem Try.info5 : (Try.prog.info? 5).map (fun i => (i.zero, i.size, i.bytes)) = some (some (.int .u8 0), 1, 1) := by kernel_rfl

/-- A new slice of bytes. -/
def NewBytes (w w' : World) (v : Value) (l : List Int) : Prop :=
  ∃ g, v = .slice (some ⟨g, 0, none⟩) l.length l.length ∧ w.heap.size ≤ g ∧ w'.heap[g]? = some (.cells (bc l).toArray 5 (0, 0))

theorem madeCells_same (m n : Nat) (v : Value) (hm : 0 < m) : (madeCells (Array.replicate m v) n).toList = List.replicate n v := by
  apply List.ext_getElem?
  intro j
  by_cases hj : j < n
  · have : j % m < m := Nat.mod_lt _ hm
    simp [madeCells, hj, this]
  · simp [madeCells, hj]

/-- n times one byte: a word of its own, so that no simp writes it out. -/
def rep (n : Nat) (c : Int) : List Int := List.replicate n c
theorem rep_length (n : Nat) (c : Int) : (rep n c).length = n := by simp [rep]
theorem bc_rep (n : Nat) (c : Int) : bc (rep n c) = List.replicate n (.int .u8 c) := by simp [bc, rep]

theorem made_bytes (w : World) : (Instr.makeSlice 46 (.int .i64 512) (.int .i64 512)).run Try.prog w = .ok (.slice (some ⟨w.heap.size, 0, none⟩) 512 512) (w.alloc (.cells (bc (rep 512 0)).toArray 5)) := by
  obtain ⟨i, hi, hz0, hz1, hz2⟩ := info_parts Try.info5
  have h := run_make (P := Try.prog) w 46 5 i (.int .u8 0) Try.underlying46 hi hz0 .i64 .i64 512 512 (by omega) (by omega) (by rw [hz2]; omega) (by omega)
  rw [h, hz1, show Int.toNat 512 * 1 = 512 from rfl, show Int.toNat 512 = 512 from rfl]
  have e : madeCells (Value.int .u8 0).cells 512 = (bc (rep 512 0)).toArray := by
    apply Array.toList_inj.1
    show (madeCells (Array.replicate 1 (Value.int .u8 0)) _).toList = _
    rw [madeCells_same _ _ _ (by omega), bc_rep]
  rw [e]

def ofCells (c : Int) (k : Nat) : List Int := rep k c ++ rep (512 - k) 0
theorem ofCells_set (c : Int) (k : Nat) (h : k < 512) : (bc (ofCells c k)).set k (.int .u8 c) = bc (ofCells c (k + 1)) := by
  have e : 512 - k = (512 - (k + 1)) + 1 := by omega
  simp only [ofCells, bc_append, bc_rep]
  rw [List.set_append_right _ _ (by simp), e, List.replicate_succ' (n := k)]
  simp [List.replicate_succ]
theorem ofCells_zero (c : Int) : ofCells c 0 = rep 512 0 := rfl
theorem ofCells_512 (c : Int) : ofCells c 512 = rep 512 c := by show rep 512 c ++ [] = _; simp
theorem ofCells_len (c : Int) (k : Nat) (h : k ≤ 512) : (bc (ofCells c k)).length = 512 := by
  simp [bc_length, ofCells, rep_length]; omega

end Go.Proofs.Ytambgimfbdecpaa
namespace Go.Proofs.Ytambgimfbdecpaa
/-- What a sector, and a write, that holds nothing yet is: words of their own, so that no simp writes them out. -/
def zSec : Value := .agg (Array.replicate 512 (.int .u8 0))
def zwc : Array Value := #[.int .i64 0] ++ Array.replicate 512 (.int .u8 0)
def zWrite : Value := .agg zwc
theorem zSec_size : zSec.cells.size = 512 := by simp [zSec, Value.cells]
theorem zWrite_size : zWrite.cells.size = 513 := by simp [zWrite, zwc, Value.cells]
theorem Try.info96 : (Try.prog.info? 96).map (fun i => (i.zero, i.size, i.bytes)) = some (some zSec, 512, 512) := by kernel_rfl
theorem Try.info98 : (Try.prog.info? 98).map (fun i => (i.zero, i.size, i.bytes)) = some (some zWrite, 513, 520) := by kernel_rfl
end Go.Proofs.Ytambgimfbdecpaa
namespace Go.Proofs.Ytambgimfbdecpaa
open Go.RowKit
theorem made_secs (n : Nat) (hn : n ≤ 4096) (w : World) : (Instr.makeSlice 77 (.int .i64 n) (.int .i64 n)).run Try.prog w = .ok (.slice (some ⟨w.heap.size, 0, none⟩) n n) (w.alloc (.cells (bc (rep (n * 512) 0)).toArray 96)) := by
  obtain ⟨i, hi, hz0, hz1, hz2⟩ := info_parts Try.info96
  have h := run_make (P := Try.prog) w 77 96 i _ Try.underlying77 hi hz0 .i64 .i64 n n (by omega) (by omega) (by rw [hz2]; omega) (by omega)
  rw [h, hz1, Int.toNat_natCast]
  have e : madeCells zSec.cells (n * 512) = (bc (rep (n * 512) 0)).toArray := by
    apply Array.toList_inj.1
    show (madeCells (Array.replicate 512 (Value.int .u8 0)) _).toList = _
    rw [madeCells_same _ _ _ (by omega), bc_rep]
  rw [e]

set_option maxRecDepth 100000 in
set_option maxHeartbeats 1000000 in
theorem blank_any (n : Nat) (w : World) (hn : n ≤ 4096) :
    Calls Try.prog 40 #[.int .i64 n] w fun e w' => ∃ g, e = .returned (.agg #[.slice (some ⟨g, 0, none⟩) n n]) ∧ w.heap.size ≤ g ∧ w'.heap[g]? = some (.cells (bc (rep (n * 512) 0)).toArray 96 (0, 0)) ∧ Below w.heap.size w w' := by
  have hmk := made_secs n hn
  go_enter Try.func40, Try.ntmps40
  go_wp2
  refine bodyPost_ret (v := .agg #[.slice (some ⟨w.heap.size + 1, 0, none⟩) n n]) (by simp [results, Try.results40, go_sem]) rfl ⟨_, rfl, by omega, ?_, ?_⟩
  · exact heap_alloc2_new _ _ _
  · exact ((Below.refl _ _).alloc (Nat.le_refl _) _).alloc (by simp) _

theorem ownsRow_whole {w : World} {g B n size : Nat} {e : TypeId} {xs : List Value} (h : w.heap[g]? = some (.cells xs.toArray e (0, 0))) (hg : B ≤ g) (hl : xs.length = n * size) (hn : n ≤ maxLen) :
    w.ownsRow B e size (.slice (some ⟨g, 0, none⟩) n n) n xs :=
  ⟨hl, .inr ⟨g, n, xs.toArray, rfl, hg, h, Nat.le_refl _, hn, by simpa using hl, by simp [← hl]⟩⟩

/-- A disk of noughts. -/
def DS.blank (n : Nat) : DS := { n := n, secs := rep (n * 512) 0, waits := [], fuse := -1, gone := false, steps := 0 }
theorem DS.blank_good (n : Nat) (h1 : 1 ≤ n) (h2 : n ≤ 4096) : (DS.blank n).good := by
  refine ⟨h1, h2, ?_, ?_, ?_, ?_, ?_, ?_, ?_⟩ <;> simp [DS.blank, rep_length]

set_option maxRecDepth 100000 in
set_option maxHeartbeats 1000000 in
theorem new_yes (n : Nat) (w : World) (h1 : 1 ≤ n) (h2 : n ≤ 4096) :
    Calls Try.prog 9 #[.int .i64 n] w fun e w' => ∃ b own, e = .returned (.tuple #[.pointer (some ⟨b, 0, none⟩), .int .i64 0]) ∧ Disk w' w.heap.size b own (DS.blank n) ∧ Below w.heap.size w w' := by
  have g1 : ¬ (n : Int) < 1 := by omega
  have g2 : ¬ (4096 : Int) < n := by omega
  go_enter Try.func9, Try.ntmps9
  go_wp2_with (go_at_call 40; refine (blank_any n _ h2).mono ?_; rintro e w1 ⟨g, rfl, hg, hh, hb⟩)
  go_ret2
  have hlt : g < w1.heap.size := (Array.getElem?_eq_some_iff.1 hh).1
  have hr := ownsRow_whole (B := w.heap.size) (n := n) (size := 512) hh hg (by simp [bc_length, rep_length]) (by unfold maxLen; omega)
  refine ⟨w1.heap.size, [w1.heap.size, g], rfl, ⟨g, n, .slice none 0 0, ?_, by simp [Value.ownBlock]⟩, hb.alloc hb.size _⟩
  refine { blk := heap_alloc_new _ _, secs := hr.alloc _, waits := World.ownsRow_nil _ _ _ _, ne1 := by omega, ne2 := by simp [Value.ownBlock], ne3 := by simp [Value.ownBlock], hB := hb.size, good := DS.blank_good n h1 h2 }

set_option maxHeartbeats 1000000 in
theorem new_no (n : Int) (w : World) (h : n < 1 ∨ 4096 < n) :
    Calls Try.prog 9 #[.int .i64 n] w fun e w' => e = .returned (.tuple #[.pointer none, .int .i64 2]) ∧ w' = w := by
  rcases h with h | h
  · go_enter Try.func9, Try.ntmps9
    go_wp2
    go_ret2
    exact ⟨rfl, rfl⟩
  · have h' : ¬ n < 1 := by omega
    go_enter Try.func9, Try.ntmps9
    go_wp2
    go_ret2
    exact ⟨rfl, rfl⟩
end Go.Proofs.Ytambgimfbdecpaa
namespace Go.Proofs.Ytambgimfbdecpaa
open Go.RowKit
set_option linter.unusedVariables false

/-- Sector i. -/
def sec (l : List Int) (i : Nat) : List Int := (l.drop (i * 512)).take 512
theorem sec_length (l : List Int) (i n : Nat) (hl : l.length = n * 512) (hi : i < n) : (sec l i).length = 512 := by
  simp [sec]; omega
/-- Bytes laid over a sector's first ones. -/
def layS (l : List Int) (i : Nat) (b : List Int) : List Int := splice l (i * 512) b

theorem secs_cell {w : World} {B bs n sc : Nat} {l : List Int} (h : w.ownsRow B 96 512 (.slice (some ⟨bs, 0, none⟩) n sc) n (bc l)) (i : Nat) (hi : i < n) :
    ∀ j v, (bc (sec l i))[j]? = some v → w.cell? ((⟨bs, i * 512, none⟩ : Addr).add j) = some v := by
  intro j v hv
  have hl := h.1
  rw [bc_length] at hl
  have hj : j < 512 := by
    have := List.getElem?_eq_some_iff.1 hv
    obtain ⟨h1, _⟩ := this
    rw [bc_length, sec_length l i n hl hi] at h1
    exact h1
  rw [Addr.add_mid, h.cellAt _ (by omega)]
  simp only [bc, List.getElem?_map, sec, List.getElem?_take, List.getElem?_drop, hj, if_true] at hv ⊢
  exact hv

set_option maxRecDepth 100000 in
set_option maxHeartbeats 1000000 in
theorem held_any {w : World} {B b bs n sc : Nat} {l : List Int} (h0 : w.cell? ⟨b, 0, none⟩ = some (.slice (some ⟨bs, 0, none⟩) n sc))
    (h : w.ownsRow B 96 512 (.slice (some ⟨bs, 0, none⟩) n sc) n (bc l)) (i : Nat) (hi : i < n) (hn : n ≤ 4096) :
    Calls Try.prog 94 #[.pointer (some ⟨b, 0, none⟩), .int .i64 i] w fun e w' => ∃ v, e = .returned v ∧ NewBytes w w' v (sec l i) ∧ Below w.heap.size w w' := by
  have hmk := made_bytes
  have H : Hid _ := h
  have h0' : ∀ O : Obj, (w.alloc O).cell? ⟨b, 0, none⟩ = some (.slice (some ⟨bs, 0, none⟩) n sc) := fun O => by rw [World.cell?_alloc_some _ _ _ (by simp [h0]), h0]
  have hlen : (sec l i).length = 512 := sec_length l i n (by rw [← h.1, bc_length]) hi
  have hcs : ∀ O : Obj, ∀ j v, (bc (sec l i))[j]? = some v → (w.alloc O).cell? ((⟨bs, i * 512, none⟩ : Addr).add j) = some v := fun O j v hv => by
    have := secs_cell h i hi j v hv
    rw [World.cell?_alloc_some _ _ _ (by simp [this]), this]
  have hcp : (Builtin.copy_ #[46, 46] 3 #[.slice (some ⟨w.heap.size, 0, none⟩) 512 512, .slice (some ⟨bs, i * 512, none⟩) 512 512]).run Try.prog (w.alloc (.cells (bc (rep 512 0)).toArray 5)) = .ok (goInt 512) (w.alloc (.cells (bc (sec l i)).toArray 5)) := by
    have hr := run_copy_row (P := Try.prog) (w.alloc (.cells (bc (rep 512 0)).toArray 5)) 46 46 3 5 w.heap.size 0 512 512 ⟨bs, i * 512, none⟩ 512 512 (bc (rep 512 0)).toArray 5 (bc (sec l i)) Try.underlying46 (by kernel_rfl) (heap_alloc_new _ _)
      (by rw [bc_length, hlen]; rfl) (hcs _) (by simp [bc_length, hlen, rep_length]) (bc_oneCell _)
    have hdr : List.drop 512 (bc (rep 512 0)) = [] := List.drop_of_length_le (by rw [bc_length, rep_length]; exact Nat.le_refl _)
    rw [hr, bc_length, hlen, World.setRow_alloc_new]
    simp [hdr]
  have HL : Hid _ := hlen
  clear h hcs hlen
  go_enter Try.func94, Try.ntmps94
  go_wp2
  go_ret
  exact ⟨_, rfl, ⟨w.heap.size, by rw [HL.out]; rfl, Nat.le_refl _, heap_alloc_new _ _⟩, (Below.refl _ _).alloc (Nat.le_refl _) _⟩

theorem bc_splice (l : List Int) (o : Nat) (b : List Int) : bc (splice l o b) = splice (bc l) o (bc b) := by
  simp [splice, bc]

theorem take_splice (cur : List Value) (m o : Nat) (cs : List Value) (h : o + cs.length ≤ m) : (cur.take o ++ cs ++ cur.drop (o + cs.length)).take m = splice (cur.take m) o cs := by
  by_cases hm : o ≤ cur.length
  · simp only [splice, List.take_take, List.drop_take, List.append_assoc]
    rw [List.take_append, List.take_append, List.length_take, Nat.min_eq_left hm, List.take_take, Nat.min_eq_right (by omega : o ≤ m), Nat.min_eq_left (by omega : o ≤ m)]
    congr 1
    rw [List.take_of_length_le (show cs.length ≤ m - o by omega)]
    congr 2
    omega
  · have e1 : cur.take o = cur := List.take_of_length_le (by omega)
    have e2 : cur.take m = cur := List.take_of_length_le (by omega)
    have e3 : cur.drop (o + cs.length) = [] := List.drop_of_length_le (by omega)
    simp only [splice, e1, e2, e3, List.append_nil]
    rw [List.take_of_length_le]
    simp; omega

/-- A row that a call owns, some of its cells laid anew. -/
theorem ownsRow_laid {w : World} {B bs n sc size : Nat} {e : TypeId} {xs : List Value} (h : w.ownsRow B e size (.slice (some ⟨bs, 0, none⟩) n sc) n xs) :
    ∃ cur : Array Value, w.heap[bs]? = some (.cells cur e (0, 0)) ∧ n * size ≤ cur.size ∧ cur.toList.take (n * size) = xs ∧ ∀ (o : Nat) (cs : List Value), o + cs.length ≤ n * size →
      (w.setRow bs (cur.toList.take o ++ cs ++ cur.toList.drop (o + cs.length)).toArray).ownsRow B e size (.slice (some ⟨bs, 0, none⟩) n sc) n (splice xs o cs) ∧
      w.grownBy (w.setRow bs (cur.toList.take o ++ cs ++ cur.toList.drop (o + cs.length)).toArray) (some bs) := by
  rcases h.2 with ⟨h', _⟩ | ⟨g', cap', cur, h', hb, hg, hnc, hcm, hcs, htake⟩
  · simp at h'
  · simp only [Value.slice.injEq, Option.some.injEq, Addr.mk.injEq, and_true, true_and] at h'
    obtain ⟨rfl, rfl⟩ := h'
    have hle : n * size ≤ cur.size := by rw [hcs]; exact Nat.mul_le_mul_right _ hnc
    refine ⟨cur, hg, hle, htake, fun o cs ho => ⟨⟨?_, .inr ⟨bs, sc, _, rfl, hb, setRow_heap w bs cur _ e _ hg, hnc, hcm, ?_, ?_⟩⟩, ⟨rfl, rfl, rfl, by simp, fun k _ hk => setRow_other w bs k _ (fun e => hk (by simp [e]))⟩⟩⟩
    · rw [length_splice _ _ _ (by rw [h.1]; exact ho)]; exact h.1
    · simp only [List.size_toArray, List.length_append, List.length_take, List.length_drop, Array.length_toList]
      omega
    · rw [← htake, ← take_splice _ _ _ _ ho]

set_option maxRecDepth 100000 in
set_option maxHeartbeats 1000000 in
theorem lay_any {w : World} {B b bs n sc : Nat} {l : List Int} (h0 : w.cell? ⟨b, 0, none⟩ = some (.slice (some ⟨bs, 0, none⟩) n sc))
    (h : w.ownsRow B 96 512 (.slice (some ⟨bs, 0, none⟩) n sc) n (bc l)) (i : Nat) (hi : i < n) (hn : n ≤ 4096) (a : Addr) (c : Nat) (bytes : List Int) (hl : bytes.length ≤ 512)
    (hsrc : ∀ j v, (bc bytes)[j]? = some v → w.cell? (a.add j) = some v) :
    Calls Try.prog 47 #[.pointer (some ⟨b, 0, none⟩), .int .i64 i, .slice (some a) bytes.length c] w fun e w' => e = .returned (.tuple #[]) ∧
      w'.ownsRow B 96 512 (.slice (some ⟨bs, 0, none⟩) n sc) n (bc (layS l i bytes)) ∧ w.grownBy w' (some bs) := by
  obtain ⟨cur, hg, hle, _, hall⟩ := ownsRow_laid h
  obtain ⟨hw1, hw2⟩ := hall (i * 512) (bc bytes) (by rw [bc_length]; omega)
  have hcp := run_copy_row (P := Try.prog) w 46 46 3 5 bs (i * 512) 512 512 a bytes.length c cur 96 (bc bytes) Try.underlying46 (by kernel_rfl) hg
      (by rw [bc_length]; exact (Nat.min_eq_left hl).symm) hsrc (by rw [bc_length]; omega) (bc_oneCell _)
  rw [← bc_splice] at hw1
  generalize w.setRow bs (cur.toList.take (i * 512) ++ bc bytes ++ cur.toList.drop (i * 512 + (bc bytes).length)).toArray = W at hcp hw1 hw2
  have H1 : Hid _ := hw1
  have H2 : Hid _ := hw2
  clear hall hw1 hw2 hg hle h hsrc
  go_enter Try.func47, Try.ntmps47
  go_wp2
  go_end0
  exact ⟨rfl, H1.out, H2.out⟩
end Go.Proofs.Ytambgimfbdecpaa
