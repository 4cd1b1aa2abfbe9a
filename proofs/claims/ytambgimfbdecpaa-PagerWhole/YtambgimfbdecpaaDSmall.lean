/- What this text holds: what the small functions of a disk do, each said of every world in which a disk lies. -/
import Derived.Test.YtambgimfbdecpaaDBase
namespace Go.Proofs.Ytambgimfbdecpaa
open Go.RowKit

set_option maxHeartbeats 400000 in
theorem no_any (n : Int) (w : World) :
    Calls Try.prog 11 #[.int .i64 n] w fun e w' => e = .returned (.int .i64 n) ∧ w' = w := by
  go_enter Try.func11, Try.ntmps11
  go_wp2
  go_ret
  exact ⟨rfl, rfl⟩

set_option maxHeartbeats 400000 in
theorem has_yes (b : Nat) (a : Option Addr) (n c : Nat) (at_ : Int) (w : World) (_hn : n ≤ 4096) (h : w.cell? ⟨b, 0, none⟩ = some (.slice a n c)) (h0 : 0 ≤ at_) (h1 : at_ < n) :
    Calls Try.prog 48 #[.pointer (some ⟨b, 0, none⟩), .int .i64 at_] w fun e w' => e = .returned (.bool true) ∧ w' = w := by
  go_enter Try.func48, Try.ntmps48
  go_wp2
  go_ret
  exact ⟨rfl, rfl⟩

set_option maxHeartbeats 400000 in
theorem has_no (b : Nat) (a : Option Addr) (n c : Nat) (at_ : Int) (w : World) (_hn : n ≤ 4096) (h : w.cell? ⟨b, 0, none⟩ = some (.slice a n c)) (h0 : ¬ (0 ≤ at_ ∧ at_ < n)) :
    Calls Try.prog 48 #[.pointer (some ⟨b, 0, none⟩), .int .i64 at_] w fun e w' => e = .returned (.bool false) ∧ w' = w := by
  by_cases h1 : 0 ≤ at_
  · have h2 : ¬ at_ < n := by omega
    clear h0
    go_enter Try.func48, Try.ntmps48
    go_wp2
    go_ret
    exact ⟨rfl, rfl⟩
  · clear h0
    go_enter Try.func48, Try.ntmps48
    go_wp2
    go_ret
    exact ⟨rfl, rfl⟩

set_option maxHeartbeats 400000 in
theorem size_any {w : World} {B b bs sc : Nat} {wv : Value} {D : DS} (h : DiskAt w B b bs sc wv D) :
    Calls Try.prog 74 #[.pointer (some ⟨b, 0, none⟩)] w fun e w' => e = .returned (.int .i64 D.n) ∧ w' = w := by
  obtain ⟨c0, c1, c2, c3, c4⟩ := h.cells
  have hn := h.good.n2
  clear h
  go_enter Try.func74, Try.ntmps74
  go_wp2
  go_ret
  exact ⟨rfl, rfl⟩

/-- The disk with another fuse. -/
def DS.fused (D : DS) (n : Int) : DS := { D with fuse := max n (-1) }

theorem DiskAt.setFuse {w : World} {B b bs sc : Nat} {wv : Value} {D : DS} (h : DiskAt w B b bs sc wv D) (n : Int) (hn : -1 ≤ n) (h2 : n ≤ 9223372036854775807) :
    DiskAt (w.setCell ⟨b, 2, none⟩ (.int .i64 n)) B b bs sc wv { D with fuse := n } := by
  have hk := Kept.setCell [b] w ⟨b, 2, none⟩ (.int .i64 n) (by simp)
  refine { blk := ?_, secs := ?_, waits := ?_, ne1 := h.ne1, ne2 := h.ne2, ne3 := h.ne3, hB := h.hB, good := { h.good with f1 := hn, f2 := h2 } }
  · simp [World.setCell, Array.getElem?_modify, h.blk]
  · exact ownsRow_block h.secs fun i hi => hk.block i (h.secs.lt i hi).2 (by simp only [Value.ownBlock, Option.some.injEq] at hi; subst hi; simpa using h.ne1)
  · exact ownsRow_block h.waits fun i hi => hk.block i (h.waits.lt i hi).2 (by have := h.ne2; rw [hi] at this; simpa using this)

theorem DiskAt.setGone {w : World} {B b bs sc : Nat} {wv : Value} {D : DS} (h : DiskAt w B b bs sc wv D) (g : Bool) :
    DiskAt (w.setCell ⟨b, 3, none⟩ (.bool g)) B b bs sc wv { D with gone := g } := by
  have hk := Kept.setCell [b] w ⟨b, 3, none⟩ (.bool g) (by simp)
  refine { blk := ?_, secs := ?_, waits := ?_, ne1 := h.ne1, ne2 := h.ne2, ne3 := h.ne3, hB := h.hB, good := { h.good with } }
  · simp [World.setCell, Array.getElem?_modify, h.blk]
  · exact ownsRow_block h.secs fun i hi => hk.block i (h.secs.lt i hi).2 (by simp only [Value.ownBlock, Option.some.injEq] at hi; subst hi; simpa using h.ne1)
  · exact ownsRow_block h.waits fun i hi => hk.block i (h.waits.lt i hi).2 (by have := h.ne2; rw [hi] at this; simpa using this)

theorem DiskAt.setSteps {w : World} {B b bs sc : Nat} {wv : Value} {D : DS} (h : DiskAt w B b bs sc wv D) (n : Int) (hn : 0 ≤ n) (h2 : n ≤ 1000) :
    DiskAt (w.setCell ⟨b, 4, none⟩ (.int .i64 n)) B b bs sc wv { D with steps := n } := by
  have hk := Kept.setCell [b] w ⟨b, 4, none⟩ (.int .i64 n) (by simp)
  refine { blk := ?_, secs := ?_, waits := ?_, ne1 := h.ne1, ne2 := h.ne2, ne3 := h.ne3, hB := h.hB, good := { h.good with s1 := hn, s2 := h2 } }
  · simp [World.setCell, Array.getElem?_modify, h.blk]
  · exact ownsRow_block h.secs fun i hi => hk.block i (h.secs.lt i hi).2 (by simp only [Value.ownBlock, Option.some.injEq] at hi; subst hi; simpa using h.ne1)
  · exact ownsRow_block h.waits fun i hi => hk.block i (h.waits.lt i hi).2 (by have := h.ne2; rw [hi] at this; simpa using this)

set_option maxHeartbeats 400000 in
theorem fuse_any {w : World} {B b bs sc : Nat} {wv : Value} {D : DS} (h : DiskAt w B b bs sc wv D) (n : Int) (hn : n ≤ 9223372036854775807) :
    Calls Try.prog 17 #[.pointer (some ⟨b, 0, none⟩), .int .i64 n] w fun e w' => e = .returned (.tuple #[]) ∧ DiskAt w' B b bs sc wv (D.fused n) ∧ Kept [b] w w' := by
  obtain ⟨c0, c1, c2, c3, c4⟩ := h.cells
  have hf := h.free 2
  have fin : DiskAt (w.setCell ⟨b, 2, none⟩ (.int .i64 (max n (-1)))) B b bs sc wv (D.fused n) := h.setFuse _ (by omega) (by omega)
  have HF : Hid _ := fin
  clear fin h
  go_enter Try.func17, Try.ntmps17
  go_wp2
  · go_end0
    have hm := HF.out
    rw [show max n (-1) = -1 by omega] at hm
    exact ⟨rfl, hm, Kept.setCell [b] w _ _ (by simp)⟩
  · go_end0
    have hm := HF.out
    rw [show max n (-1) = n by omega] at hm
    exact ⟨rfl, hm, Kept.setCell [b] w _ _ (by simp)⟩

/-- What a step does: there was power, and the disk behind it. -/
def DS.step (D : DS) : Bool × DS :=
  if D.gone = true ∨ D.fuse = 0 then (false, { D with gone := true })
  else (true, { D with fuse := if 0 < D.fuse then D.fuse - 1 else D.fuse, steps := D.steps + 1 })

set_option maxHeartbeats 1000000 in
theorem step_any {w : World} {B b bs sc : Nat} {wv : Value} {D : DS} (h : DiskAt w B b bs sc wv D) (hs : D.steps < 1000) :
    Calls Try.prog 49 #[.pointer (some ⟨b, 0, none⟩)] w fun e w' => e = .returned (.bool D.step.1) ∧ DiskAt w' B b bs sc wv D.step.2 ∧ Kept [b] w w' := by
  obtain ⟨c0, c1, c2, c3, c4⟩ := h.cells
  have hf := h.free 2
  have hg := h.free 3
  have hh := h.free 4
  have f1 := h.good.f1
  have f2 := h.good.f2
  have s1 := h.good.s1
  go_enter Try.func49, Try.ntmps49
  go_wp2
  · go_ret
    have hz : D.fuse = 0 := by simpa using (by assumption : (D.fuse == 0) = true)
    have e : D.step = (false, { D with gone := true }) := by simp [DS.step, hz]
    rw [e]
    exact ⟨rfl, h.setGone true, Kept.setCell [b] w _ _ (by simp)⟩
  · go_ret
    have hz : D.gone = true := by assumption
    have e : D.step = (false, { D with gone := true }) := by simp [DS.step, hz]
    rw [e]
    refine ⟨rfl, ?_, Kept.refl _ _⟩
    have e2 : ({ D with gone := true } : DS) = D := by rw [← hz]
    rw [e2]; exact h
  · go_ret
    have h1 : (D.fuse == 0) = false := by assumption
    have h2 : D.gone = false := by assumption
    have h3 : 0 < D.fuse := by assumption
    have e : D.step = (true, { D with fuse := D.fuse - 1, steps := D.steps + 1 }) := by
      simp only [beq_eq_false_iff_ne] at h1
      simp [DS.step, h1, h2, h3]
    rw [e]
    exact ⟨rfl, (h.setFuse (D.fuse - 1) (by omega) (by have := h.good.f2; omega)).setSteps (D.steps + 1) (by have := h.good.s1; simp; omega) (by omega), (Kept.setCell [b] w _ _ (by simp)).trans (Kept.setCell [b] _ _ _ (by simp)) (fun _ _ h => h)⟩
  · go_ret
    have h1 : (D.fuse == 0) = false := by assumption
    have h2 : D.gone = false := by assumption
    have h3 : D.fuse ≤ 0 := by assumption
    have e : D.step = (true, { D with steps := D.steps + 1 }) := by
      simp only [beq_eq_false_iff_ne] at h1
      simp [DS.step, h1, h2, Int.not_lt.2 h3]
    rw [e]
    exact ⟨rfl, h.setSteps (D.steps + 1) (by have := h.good.s1; omega) (by omega), Kept.setCell [b] w _ _ (by simp)⟩
end Go.Proofs.Ytambgimfbdecpaa
