/- What this text holds: what the program's reading does when it stops: the closure that recovers. -/
import Derived.Test.YtnjdgbbdjkhpoaaDoorT1
namespace Go.Proofs.YtnjdgbbdjkhpoaaDoor
open Go.RowKit
set_option linter.unusedVariables false
set_option linter.unusedSimpArgs false

/-- A date that is laid in a block. -/
def putD (w : World) (A : Nat) (t : Dt) : World :=
  ((((((w.setCell ⟨A, 0, none⟩ (.int .i64 t.y)).setCell ⟨A, 1, none⟩ (.int .i64 t.mo)).setCell ⟨A, 2, none⟩ (.int .i64 t.d)).setCell ⟨A, 3, none⟩ (.int .i64 t.h)).setCell ⟨A, 4, none⟩ (.int .i64 t.mi)).setCell ⟨A, 5, none⟩ (.int .i64 t.s)).setCell ⟨A, 6, none⟩ (.int .i64 t.z)
theorem putD_is (w : World) (A : Nat) (t t' : Dt) (h : w.heap[A]? = some (.cells (dtL t).toArray 29 (0, 0))) : (putD w A t').heap[A]? = some (.cells (dtL t').toArray 29 (0, 0)) ∧ (putD w A t').heap.size = w.heap.size ∧ Kept [A] w (putD w A t') := by
  have hk : ∀ (w : World) k v, Kept [A] w (w.setCell ⟨A, k, none⟩ v) := fun w k v => Kept.setCell [A] w _ v (by simp)
  have e0 : (w.setCell ⟨A, 0, none⟩ (.int .i64 t'.y)).heap[A]? = some (.cells [.int .i64 t'.y, .int .i64 t.mo, .int .i64 t.d, .int .i64 t.h, .int .i64 t.mi, .int .i64 t.s, .int .i64 t.z].toArray 29 (0, 0)) := by rw [heap_setCell_same _ _ _ _ _ _ h]; rfl
  have e1 : ((w.setCell ⟨A, 0, none⟩ (.int .i64 t'.y)).setCell ⟨A, 1, none⟩ (.int .i64 t'.mo)).heap[A]? = some (.cells [.int .i64 t'.y, .int .i64 t'.mo, .int .i64 t.d, .int .i64 t.h, .int .i64 t.mi, .int .i64 t.s, .int .i64 t.z].toArray 29 (0, 0)) := by rw [heap_setCell_same _ _ _ _ _ _ e0]; rfl
  have e2 : (((w.setCell ⟨A, 0, none⟩ (.int .i64 t'.y)).setCell ⟨A, 1, none⟩ (.int .i64 t'.mo)).setCell ⟨A, 2, none⟩ (.int .i64 t'.d)).heap[A]? = some (.cells [.int .i64 t'.y, .int .i64 t'.mo, .int .i64 t'.d, .int .i64 t.h, .int .i64 t.mi, .int .i64 t.s, .int .i64 t.z].toArray 29 (0, 0)) := by rw [heap_setCell_same _ _ _ _ _ _ e1]; rfl
  have e3 : ((((w.setCell ⟨A, 0, none⟩ (.int .i64 t'.y)).setCell ⟨A, 1, none⟩ (.int .i64 t'.mo)).setCell ⟨A, 2, none⟩ (.int .i64 t'.d)).setCell ⟨A, 3, none⟩ (.int .i64 t'.h)).heap[A]? = some (.cells [.int .i64 t'.y, .int .i64 t'.mo, .int .i64 t'.d, .int .i64 t'.h, .int .i64 t.mi, .int .i64 t.s, .int .i64 t.z].toArray 29 (0, 0)) := by rw [heap_setCell_same _ _ _ _ _ _ e2]; rfl
  have e4 : (((((w.setCell ⟨A, 0, none⟩ (.int .i64 t'.y)).setCell ⟨A, 1, none⟩ (.int .i64 t'.mo)).setCell ⟨A, 2, none⟩ (.int .i64 t'.d)).setCell ⟨A, 3, none⟩ (.int .i64 t'.h)).setCell ⟨A, 4, none⟩ (.int .i64 t'.mi)).heap[A]? = some (.cells [.int .i64 t'.y, .int .i64 t'.mo, .int .i64 t'.d, .int .i64 t'.h, .int .i64 t'.mi, .int .i64 t.s, .int .i64 t.z].toArray 29 (0, 0)) := by rw [heap_setCell_same _ _ _ _ _ _ e3]; rfl
  have e5 : ((((((w.setCell ⟨A, 0, none⟩ (.int .i64 t'.y)).setCell ⟨A, 1, none⟩ (.int .i64 t'.mo)).setCell ⟨A, 2, none⟩ (.int .i64 t'.d)).setCell ⟨A, 3, none⟩ (.int .i64 t'.h)).setCell ⟨A, 4, none⟩ (.int .i64 t'.mi)).setCell ⟨A, 5, none⟩ (.int .i64 t'.s)).heap[A]? = some (.cells [.int .i64 t'.y, .int .i64 t'.mo, .int .i64 t'.d, .int .i64 t'.h, .int .i64 t'.mi, .int .i64 t'.s, .int .i64 t.z].toArray 29 (0, 0)) := by rw [heap_setCell_same _ _ _ _ _ _ e4]; rfl
  have e6 : (((((((w.setCell ⟨A, 0, none⟩ (.int .i64 t'.y)).setCell ⟨A, 1, none⟩ (.int .i64 t'.mo)).setCell ⟨A, 2, none⟩ (.int .i64 t'.d)).setCell ⟨A, 3, none⟩ (.int .i64 t'.h)).setCell ⟨A, 4, none⟩ (.int .i64 t'.mi)).setCell ⟨A, 5, none⟩ (.int .i64 t'.s)).setCell ⟨A, 6, none⟩ (.int .i64 t'.z)).heap[A]? = some (.cells [.int .i64 t'.y, .int .i64 t'.mo, .int .i64 t'.d, .int .i64 t'.h, .int .i64 t'.mi, .int .i64 t'.s, .int .i64 t'.z].toArray 29 (0, 0)) := by rw [heap_setCell_same _ _ _ _ _ _ e5]; rfl
  refine ⟨e6, by simp [putD, World.setCell], ?_⟩
  exact ((((((hk _ _ _).trans1 (hk _ _ _)).trans1 (hk _ _ _)).trans1 (hk _ _ _)).trans1 (hk _ _ _)).trans1 (hk _ _ _)).trans1 (hk _ _ _)
theorem assert_any (v : Value) (w : World) : (Instr.typeAssert (.iface 72 v) 20 72 true).run Tryd.prog w = .ok (.tuple #[v, .bool true]) w := by
  simp [Instr.typeAssert, go_sem]

set_option maxRecDepth 100000 in
set_option maxHeartbeats 1000000 in
theorem catch_idle (p q : Addr) (w : World) :
    CallsD Tryd.prog 58 #[.pointer (some p), .pointer (some q)] .returning w fun e u' w' => e = .returned (.tuple #[]) ∧ u' = .returning ∧ w' = w := by
  refine callsD_of_wpS Tryd.func58 rfl fun c₀ cs hu => ?_
  apply wpS_seq
  apply wpS_region
  simp [wpOpsS, go_sem, recoverD, hu, Tryd.ntmps58, Exit.thenS, Array.replicate, List.replicate]
  refine wpS_of_wp ?_
  go_wp2_with fail
  cases c₀
  simp_all [bodyPostS, results, Tryd.results58]

set_option maxRecDepth 100000 in
set_option maxHeartbeats 1000000 in
theorem catch_fault (A B : Nat) (t : Dt) (x : Int) (w : World) (ha : w.heap[A]? = some (.cells (dtL t).toArray 29 (0, 0))) (hb : w.heap[B]? = some (.cells #[.int .i64 x] 33 (0, 0))) :
    CallsD Tryd.prog 58 #[.pointer (some ⟨A, 0, none⟩), .pointer (some ⟨B, 0, none⟩)] (.panicking faultC) w fun e u' w' => e = .returned (.tuple #[]) ∧ u' = .panicking [{ v := .iface 72 (.agg #[.int .i64 11]), recovered := true }] ∧ 
      w'.heap[A]? = some (.cells (dtL Dt.zero).toArray 29 (0, 0)) ∧ w'.heap[B]? = some (.cells #[.int .i64 11] 33 (0, 0)) ∧ Kept [A, B] w w' := by
  refine callsD_of_wpS Tryd.func58 rfl fun c₀ cs hu => ?_
  unfold faultC at hu
  apply wpS_seq
  apply wpS_region
  simp [wpOpsS, go_sem, recoverD, hu, Tryd.ntmps58, Exit.thenS, Array.replicate, List.replicate]
  refine wpS_of_wp ?_
  have hta := assert_any (.agg #[.int .i64 11])
  have hlA := lt_of_some ha
  have hlB := lt_of_some hb
  have cA0 : w.cell? ⟨A, 0, none⟩ = some (.int .i64 t.y) := by simp [World.cell?, ha, dtL]
  have cA1 : w.cell? ⟨A, 1, none⟩ = some (.int .i64 t.mo) := by simp [World.cell?, ha, dtL]
  have cA2 : w.cell? ⟨A, 2, none⟩ = some (.int .i64 t.d) := by simp [World.cell?, ha, dtL]
  have cA3 : w.cell? ⟨A, 3, none⟩ = some (.int .i64 t.h) := by simp [World.cell?, ha, dtL]
  have cA4 : w.cell? ⟨A, 4, none⟩ = some (.int .i64 t.mi) := by simp [World.cell?, ha, dtL]
  have cA5 : w.cell? ⟨A, 5, none⟩ = some (.int .i64 t.s) := by simp [World.cell?, ha, dtL]
  have cA6 : w.cell? ⟨A, 6, none⟩ = some (.int .i64 t.z) := by simp [World.cell?, ha, dtL]
  have hne : ¬ A = B := fun e => by rw [e, hb] at ha; simp at ha
  have hne' : ¬ B = A := fun e => hne e.symm
  have cB0 : w.cell? ⟨B, 0, none⟩ = some (.int .i64 x) := by simp [World.cell?, hb]
  have fA : ∀ k, w.frozen? ⟨A, k, none⟩ = false := fun k => by simp [World.frozen?, ha]
  have fB : ∀ k, w.frozen? ⟨B, k, none⟩ = false := fun k => by simp [World.frozen?, hb]
  go_wp2_with fail
  go_region
  obtain ⟨k1, k2, k3⟩ := putD_is w A t Dt.zero ha
  have hbB : (putD w A Dt.zero).heap[B]? = some (.cells #[.int .i64 x] 33 (0, 0)) := by rw [k3.block B hlB (by simp; exact hne')]; exact hb
  have k4 : Kept [A, B] w ((putD w A Dt.zero).setCell ⟨B, 0, none⟩ (.int .i64 11)) := (k3.mono (fun i _ h => by simp at h ⊢; exact .inl h)).trans (Kept.setCell [A, B] _ _ _ (by simp)) (fun _ _ h => h)
  refine ⟨rfl, _, rfl, .tuple #[], by simp [results, Tryd.results58], rfl, rfl, ?_, ?_, ?_⟩
  · change (((putD w A Dt.zero).setCell ⟨B, 0, none⟩ (.int .i64 11)).alloc (.cells #[.int .i64 11] 72)).heap[A]? = _
    rw [Below.heap_alloc _ _ _ (by have := k4.size; omega), Below.heap_setCell _ _ _ _ hne, k1]
  · change (((putD w A Dt.zero).setCell ⟨B, 0, none⟩ (.int .i64 11)).alloc (.cells #[.int .i64 11] 72)).heap[B]? = _
    rw [Below.heap_alloc _ _ _ (by have := k4.size; omega), heap_setCell_same _ _ _ _ _ _ hbB]
    rfl
  · exact (k4.trans (Kept.alloc [A, B] _ (.cells #[.int .i64 11] 72)) (fun _ _ h => h)).trans (Kept.drew [A, B] _) (fun _ _ h => h)
end Go.Proofs.YtnjdgbbdjkhpoaaDoor
