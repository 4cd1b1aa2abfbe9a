/- What this text holds: words for a disk that lies in memory, and what keeps it as it was. -/
import Derived.Test.YtambgimfbdecpaaProg
import Derived.WalkKit
import Derived.WalkSpells
import Derived.WalkLawsBesides
import Derived.Laws.BytesString
import Derived.Laws.CopyOwn
import Derived.Laws.OwnMore
import Derived.Deep.MidRow
import Derived.Deep.RegionHeld3
namespace Go.Proofs.Ytambgimfbdecpaa
open Go.RowKit

/-- Cells of bytes. -/
def bc (l : List Int) : List Value := l.map (Value.int .u8)
theorem bc_length (l : List Int) : (bc l).length = l.length := by simp [bc]
theorem bc_append (l m : List Int) : bc (l ++ m) = bc l ++ bc m := by simp [bc]
theorem bc_oneCell (l : List Int) : ∀ v ∈ bc l, v.oneCell' = true := by
  intro v hv
  simp only [bc, List.mem_map] at hv
  obtain ⟨x, _, rfl⟩ := hv
  rfl

/-- A disk as plain data: sectors, one behind the other; the writes that wait. -/
structure DS where
  n : Nat
  secs : List Int
  waits : List (Int × List Int)
  fuse : Int
  gone : Bool
  steps : Int

/-- Cells of the writes that wait. -/
def wcs (l : List (Int × List Int)) : List Value := l.flatMap fun x => .int .i64 x.1 :: bc x.2

structure DS.good (D : DS) : Prop where
  n1 : 1 ≤ D.n
  n2 : D.n ≤ 4096
  len : D.secs.length = D.n * 512
  wl : D.waits.length ≤ 200
  w : ∀ x ∈ D.waits, 0 ≤ x.1 ∧ x.1 < D.n ∧ x.2.length = 512
  f1 : -1 ≤ D.fuse
  f2 : D.fuse ≤ 9223372036854775807
  s1 : 0 ≤ D.steps
  s2 : D.steps ≤ 1000

/-- Nothing that was there has turned but the blocks of a list. -/
structure Kept (S : List Nat) (w w' : World) : Prop where
  os : w'.os = w.os
  tape : w'.tape = w.tape
  output : w'.output = w.output
  size : w.heap.size ≤ w'.heap.size
  block : ∀ k, k < w.heap.size → k ∉ S → w'.heap[k]? = w.heap[k]?

theorem Kept.refl (S : List Nat) (w : World) : Kept S w w := ⟨rfl, rfl, rfl, Nat.le_refl _, fun _ _ _ => rfl⟩
theorem Kept.trans {S T : List Nat} {a b c : World} (h : Kept S a b) (k : Kept T b c) (hT : ∀ i, i < a.heap.size → i ∈ T → i ∈ S) : Kept S a c :=
  ⟨k.os.trans h.os, k.tape.trans h.tape, k.output.trans h.output, Nat.le_trans h.size k.size,
    fun i hi hn => (k.block i (Nat.lt_of_lt_of_le hi h.size) (fun e => hn (hT i hi e))).trans (h.block i hi hn)⟩
theorem Kept.mono {S T : List Nat} {a b : World} (h : Kept S a b) (hT : ∀ i, i < a.heap.size → i ∈ S → i ∈ T) : Kept T a b :=
  ⟨h.os, h.tape, h.output, h.size, fun i hi hn => h.block i hi (fun e => hn (hT i hi e))⟩
theorem Kept.below {S : List Nat} {a b : World} {B : Nat} (h : Kept S a b) (hS : ∀ i ∈ S, B ≤ i) (hB : B ≤ a.heap.size) : Below B a b :=
  ⟨h.os, h.tape, h.output, h.size, fun i hi => h.block i (by omega) (fun e => by have := hS i e; omega)⟩
theorem Kept.ofBelow {a b : World} (h : Below a.heap.size a b) (S : List Nat) : Kept S a b :=
  ⟨h.os, h.tape, h.output, h.size, fun i hi _ => h.block i hi⟩
theorem Kept.ofGrown {a b : World} {row : Option Nat} (h : a.grownBy b row) (S : List Nat) (hr : ∀ k, row = some k → k ∈ S) : Kept S a b :=
  ⟨h.os, h.tape, h.output, h.size, fun i hi hn => h.block i hi (fun e => hn (hr i e.symm))⟩
theorem Kept.alloc (S : List Nat) (w : World) (o : Obj) : Kept S w (w.alloc o) := Kept.ofGrown (World.grownBy_alloc w o none) S (fun _ h => by cases h)
theorem Kept.setCell (S : List Nat) (w : World) (p : Addr) (v : Value) (h : p.block ∈ S) : Kept S w (w.setCell p v) :=
  ⟨rfl, rfl, rfl, by simp [World.setCell], fun i _ hn => Below.heap_setCell _ _ _ _ (fun e => hn (e ▸ h))⟩
theorem Kept.drew (S : List Nat) (w : World) : Kept S w w.drew := ⟨rfl, rfl, rfl, Nat.le_refl _, fun _ _ _ => rfl⟩

theorem ownsRow_block {w w' : World} {base : Nat} {e : TypeId} {size : Nat} {v : Value} {n : Nat} {xs : List Value} (h : w.ownsRow base e size v n xs)
    (hb : ∀ k, v.ownBlock = some k → w'.heap[k]? = w.heap[k]?) : w'.ownsRow base e size v n xs := by
  refine ⟨h.1, ?_⟩
  rcases h.2 with hn | ⟨g, cap, cur, rfl, hg, hgg, rest⟩
  · exact .inl hn
  · exact .inr ⟨g, cap, cur, rfl, hg, by rw [hb g rfl]; exact hgg, rest⟩

/-- A disk lies at block b; its sectors in block bs; the slice of its waiting writes is wv. -/
structure DiskAt (w : World) (B b bs sc : Nat) (wv : Value) (D : DS) : Prop where
  blk : w.heap[b]? = some (.cells #[.slice (some ⟨bs, 0, none⟩) D.n sc, wv, .int .i64 D.fuse, .bool D.gone, .int .i64 D.steps] 83 (0, 0))
  secs : w.ownsRow B 96 512 (.slice (some ⟨bs, 0, none⟩) D.n sc) D.n (bc D.secs)
  waits : w.ownsRow B 98 513 wv D.waits.length (wcs D.waits)
  ne1 : bs ≠ b
  ne2 : wv.ownBlock ≠ some b
  ne3 : wv.ownBlock ≠ some bs
  hB : B ≤ b
  good : D.good

/-- The same, its blocks in a list. -/
def Disk (w : World) (B b : Nat) (own : List Nat) (D : DS) : Prop := ∃ bs sc wv, DiskAt w B b bs sc wv D ∧ own = b :: bs :: wv.ownBlock.toList

theorem DiskAt.keep {w w' : World} {B b bs sc : Nat} {wv : Value} {D : DS} (h : DiskAt w B b bs sc wv D) {S : List Nat} (k : Kept S w w')
    (hS : ∀ i ∈ b :: bs :: wv.ownBlock.toList, i ∉ S) : DiskAt w' B b bs sc wv D := by
  have hb := h.blk
  refine { h with blk := ?_, secs := ?_, waits := ?_ }
  · rw [k.block b (Array.getElem?_eq_some_iff.1 hb).1 (hS b (by simp))]; exact hb
  · refine ownsRow_block h.secs fun i hi => ?_
    exact k.block i (h.secs.lt i hi).2 (hS i (by simp only [Value.ownBlock, Option.some.injEq] at hi; subst hi; simp))
  · refine ownsRow_block h.waits fun i hi => ?_
    exact k.block i (h.waits.lt i hi).2 (hS i (by simp [hi]))

theorem Disk.keep {w w' : World} {B b : Nat} {own : List Nat} {D : DS} (h : Disk w B b own D) {S : List Nat} (k : Kept S w w') (hS : ∀ i ∈ own, i ∉ S) : Disk w' B b own D := by
  obtain ⟨bs, sc, wv, hd, rfl⟩ := h
  exact ⟨bs, sc, wv, hd.keep k hS, rfl⟩

theorem DiskAt.lt {w : World} {B b bs sc : Nat} {wv : Value} {D : DS} (h : DiskAt w B b bs sc wv D) : ∀ i ∈ b :: bs :: wv.ownBlock.toList, B ≤ i ∧ i < w.heap.size := by
  intro i hi
  simp only [List.mem_cons, Option.mem_toList] at hi
  rcases hi with rfl | rfl | hi
  · exact ⟨h.hB, (Array.getElem?_eq_some_iff.1 h.blk).1⟩
  · exact h.secs.lt i rfl
  · exact h.waits.lt i hi

theorem Disk.lt {w : World} {B b : Nat} {own : List Nat} {D : DS} (h : Disk w B b own D) : ∀ i ∈ own, B ≤ i ∧ i < w.heap.size := by
  obtain ⟨bs, sc, wv, hd, rfl⟩ := h
  exact hd.lt

theorem Disk.good {w : World} {B b : Nat} {own : List Nat} {D : DS} (h : Disk w B b own D) : D.good := by
  obtain ⟨bs, sc, wv, hd, rfl⟩ := h
  exact hd.good

/-- The cells of the disk's own block. -/
theorem DiskAt.cells {w : World} {B b bs sc : Nat} {wv : Value} {D : DS} (h : DiskAt w B b bs sc wv D) :
    w.cell? ⟨b, 0, none⟩ = some (.slice (some ⟨bs, 0, none⟩) D.n sc) ∧ w.cell? ⟨b, 1, none⟩ = some wv ∧ w.cell? ⟨b, 2, none⟩ = some (.int .i64 D.fuse) ∧
    w.cell? ⟨b, 3, none⟩ = some (.bool D.gone) ∧ w.cell? ⟨b, 4, none⟩ = some (.int .i64 D.steps) := by
  simp [World.cell?, h.blk]
theorem DiskAt.free {w : World} {B b bs sc : Nat} {wv : Value} {D : DS} (h : DiskAt w B b bs sc wv D) (k : Nat) : w.frozen? ⟨b, k, none⟩ = false := by
  simp [World.frozen?, h.blk]
theorem DiskAt.wvSlice {w : World} {B b bs sc : Nat} {wv : Value} {D : DS} (h : DiskAt w B b bs sc wv D) : ∃ a c, wv = .slice a D.waits.length c := by
  rcases h.waits.2 with ⟨h1, h2⟩ | ⟨g, cap, cur, h1, _⟩
  · exact ⟨none, 0, by rw [h1, h2]⟩
  · exact ⟨_, _, h1⟩
end Go.Proofs.Ytambgimfbdecpaa
