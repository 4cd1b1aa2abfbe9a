/- What this text holds: the program's Right, and its reading of a text, with what it stops by. (Written by gent.py.) · What this text holds: what the program's reading does when it stops: the closure that recovers. · What this text holds: the program's reading of a text. · What this text holds: the program's Internal, Mail, Day. -/
import Derived.Test.YtaniljfjmbifnaaGreatDoorZD
namespace Go.Proofs.YtaniljfjmbifnaaGreatDoor.D
open Go.RowKit
set_option linter.unusedVariables false
set_option linter.unusedSimpArgs false

/-- A date as a value. -/
def dtV (t : Dt) : Value := .agg (dtL t).toArray
theorem right_eq (t : Dt) : RightP t ↔ There t.y t.mo t.d ∧ (0 ≤ t.h ∧ t.h ≤ 23) ∧ (0 ≤ t.mi ∧ t.mi ≤ 59) ∧ (0 ≤ t.s ∧ t.s ≤ 59) ∧ (-1439 ≤ t.z ∧ t.z ≤ 1439) := by
  unfold RightP
  constructor
  · rintro ⟨a, b, c, d, e, f, g, h, i⟩
    exact ⟨a, ⟨b, c⟩, ⟨d, e⟩, ⟨f, g⟩, h, i⟩
  · rintro ⟨a, ⟨b, c⟩, ⟨d, e⟩, ⟨f, g⟩, h, i⟩
    exact ⟨a, b, c, d, e, f, g, h, i⟩

set_option maxRecDepth 100000 in
set_option maxHeartbeats 2000000 in
theorem right_any (t : Dt) (w : World) : Calls Tryz.prog 162 #[dtV t] w fun e w' => e = .returned (.bool (decide (RightP t))) ∧ Below w.heap.size w w' := by
  have key : ∀ b : Bool, (b = true ↔ RightP t) → decide (RightP t) = b := by
    intro b hb
    rw [Bool.eq_iff_iff, hb, decide_eq_true_iff]
  have HKEY := hid key
  have HB : Hid (Below w.heap.size w (w.alloc (.cells (dtL t).toArray 31))) := (Below.refl _ _).alloc (Nat.le_refl _) _
  obtain ⟨y, mo, d, h, mi, s, z⟩ := t
  have HRE := hid (right_eq ⟨y, mo, d, h, mi, s, z⟩)
  clear key
  unfold dtV dtL
  simp only
  by_cases c0 : There y mo d
  · have d0 : decide (There y mo d) = true := by simp [c0]
    have C0 := hid c0
    clear c0
    by_cases c1 : 0 ≤ h ∧ h ≤ 23
    · have d1 : (decide (0 ≤ h) && decide (h ≤ 23)) = true := by simp [c1]
      have C1 := hid c1
      clear c1
      by_cases c2 : 0 ≤ mi ∧ mi ≤ 59
      · have d2 : (decide (0 ≤ mi) && decide (mi ≤ 59)) = true := by simp [c2]
        have C2 := hid c2
        clear c2
        by_cases c3 : 0 ≤ s ∧ s ≤ 59
        · have d3 : (decide (0 ≤ s) && decide (s ≤ 59)) = true := by simp [c3]
          have C3 := hid c3
          clear c3
          by_cases c4 : -1439 ≤ z ∧ z ≤ 1439
          · have d4 : (decide (-1439 ≤ z) && decide (z ≤ 1439)) = true := by simp [c4]
            have C4 := hid c4
            clear c4
            go_enter Tryz.func162, Tryz.ntmps162
            go_wp2_with (first | (go_at_call 111; refine (isDay_any _ _ _ _).mono ?_; rintro e w' ⟨rfl, rfl⟩; rw [d0]) | (go_at_call 158; refine (within_any _ _ _ _).mono ?_; rintro e w' ⟨rfl, rfl⟩; try rw [d0]; try rw [d1]; try rw [d2]; try rw [d3]; try rw [d4]))
            go_ret
            refine ⟨?_, HB.out⟩
            refine congrArg (fun b => Ending.returned (Value.bool b)) (HKEY.out _ ?_).symm
            rw [HRE.out]
            simp only [C0.out, C1.out, C2.out, C3.out, C4.out, and_self]
          · have d4 : (decide (-1439 ≤ z) && decide (z ≤ 1439)) = false := by simp; omega
            have C4 := hid c4
            clear c4
            go_enter Tryz.func162, Tryz.ntmps162
            go_wp2_with (first | (go_at_call 111; refine (isDay_any _ _ _ _).mono ?_; rintro e w' ⟨rfl, rfl⟩; rw [d0]) | (go_at_call 158; refine (within_any _ _ _ _).mono ?_; rintro e w' ⟨rfl, rfl⟩; try rw [d0]; try rw [d1]; try rw [d2]; try rw [d3]; try rw [d4]))
            go_ret
            refine ⟨?_, HB.out⟩
            refine congrArg (fun b => Ending.returned (Value.bool b)) (HKEY.out _ ?_).symm
            rw [HRE.out]
            have := C4.out
            simp only [Bool.false_eq_true, false_iff]
            exact fun x => this x.2.2.2.2
        · have d3 : (decide (0 ≤ s) && decide (s ≤ 59)) = false := by simp; omega
          have C3 := hid c3
          clear c3
          go_enter Tryz.func162, Tryz.ntmps162
          go_wp2_with (first | (go_at_call 111; refine (isDay_any _ _ _ _).mono ?_; rintro e w' ⟨rfl, rfl⟩; rw [d0]) | (go_at_call 158; refine (within_any _ _ _ _).mono ?_; rintro e w' ⟨rfl, rfl⟩; try rw [d0]; try rw [d1]; try rw [d2]; try rw [d3]))
          go_ret
          refine ⟨?_, HB.out⟩
          refine congrArg (fun b => Ending.returned (Value.bool b)) (HKEY.out _ ?_).symm
          rw [HRE.out]
          have := C3.out
          simp only [Bool.false_eq_true, false_iff]
          exact fun x => this x.2.2.2.1
      · have d2 : (decide (0 ≤ mi) && decide (mi ≤ 59)) = false := by simp; omega
        have C2 := hid c2
        clear c2
        go_enter Tryz.func162, Tryz.ntmps162
        go_wp2_with (first | (go_at_call 111; refine (isDay_any _ _ _ _).mono ?_; rintro e w' ⟨rfl, rfl⟩; rw [d0]) | (go_at_call 158; refine (within_any _ _ _ _).mono ?_; rintro e w' ⟨rfl, rfl⟩; try rw [d0]; try rw [d1]; try rw [d2]))
        go_ret
        refine ⟨?_, HB.out⟩
        refine congrArg (fun b => Ending.returned (Value.bool b)) (HKEY.out _ ?_).symm
        rw [HRE.out]
        have := C2.out
        simp only [Bool.false_eq_true, false_iff]
        exact fun x => this x.2.2.1
    · have d1 : (decide (0 ≤ h) && decide (h ≤ 23)) = false := by simp; omega
      have C1 := hid c1
      clear c1
      go_enter Tryz.func162, Tryz.ntmps162
      go_wp2_with (first | (go_at_call 111; refine (isDay_any _ _ _ _).mono ?_; rintro e w' ⟨rfl, rfl⟩; rw [d0]) | (go_at_call 158; refine (within_any _ _ _ _).mono ?_; rintro e w' ⟨rfl, rfl⟩; try rw [d0]; try rw [d1]))
      go_ret
      refine ⟨?_, HB.out⟩
      refine congrArg (fun b => Ending.returned (Value.bool b)) (HKEY.out _ ?_).symm
      rw [HRE.out]
      have := C1.out
      simp only [Bool.false_eq_true, false_iff]
      exact fun x => this x.2.1
  · have d0 : decide (There y mo d) = false := by simp [c0]
    have C0 := hid c0
    clear c0
    go_enter Tryz.func162, Tryz.ntmps162
    go_wp2_with (first | (go_at_call 111; refine (isDay_any _ _ _ _).mono ?_; rintro e w' ⟨rfl, rfl⟩; rw [d0]) | (go_at_call 158; refine (within_any _ _ _ _).mono ?_; rintro e w' ⟨rfl, rfl⟩; try rw [d0]))
    go_ret
    refine ⟨?_, HB.out⟩
    refine congrArg (fun b => Ending.returned (Value.bool b)) (HKEY.out _ ?_).symm
    rw [HRE.out]
    have := C0.out
    simp only [Bool.false_eq_true, false_iff]
    exact fun x => this x.1
end Go.Proofs.YtaniljfjmbifnaaGreatDoor.D
namespace Go.Proofs.YtaniljfjmbifnaaGreatDoor.D
open Go.RowKit
set_option linter.unusedVariables false
set_option linter.unusedSimpArgs false

/-- A date that is laid in a block. -/
def putD (w : World) (A : Nat) (t : Dt) : World :=
  ((((((w.setCell ⟨A, 0, none⟩ (.int .i64 t.y)).setCell ⟨A, 1, none⟩ (.int .i64 t.mo)).setCell ⟨A, 2, none⟩ (.int .i64 t.d)).setCell ⟨A, 3, none⟩ (.int .i64 t.h)).setCell ⟨A, 4, none⟩ (.int .i64 t.mi)).setCell ⟨A, 5, none⟩ (.int .i64 t.s)).setCell ⟨A, 6, none⟩ (.int .i64 t.z)
theorem putD_is (w : World) (A : Nat) (t t' : Dt) (h : w.heap[A]? = some (.cells (dtL t).toArray 31 (0, 0))) : (putD w A t').heap[A]? = some (.cells (dtL t').toArray 31 (0, 0)) ∧ (putD w A t').heap.size = w.heap.size ∧ Kept [A] w (putD w A t') := by
  have hk : ∀ (w : World) k v, Kept [A] w (w.setCell ⟨A, k, none⟩ v) := fun w k v => Kept.setCell [A] w _ v (by simp)
  have e0 : (w.setCell ⟨A, 0, none⟩ (.int .i64 t'.y)).heap[A]? = some (.cells [.int .i64 t'.y, .int .i64 t.mo, .int .i64 t.d, .int .i64 t.h, .int .i64 t.mi, .int .i64 t.s, .int .i64 t.z].toArray 31 (0, 0)) := by rw [heap_setCell_same _ _ _ _ _ _ h]; rfl
  have e1 : ((w.setCell ⟨A, 0, none⟩ (.int .i64 t'.y)).setCell ⟨A, 1, none⟩ (.int .i64 t'.mo)).heap[A]? = some (.cells [.int .i64 t'.y, .int .i64 t'.mo, .int .i64 t.d, .int .i64 t.h, .int .i64 t.mi, .int .i64 t.s, .int .i64 t.z].toArray 31 (0, 0)) := by rw [heap_setCell_same _ _ _ _ _ _ e0]; rfl
  have e2 : (((w.setCell ⟨A, 0, none⟩ (.int .i64 t'.y)).setCell ⟨A, 1, none⟩ (.int .i64 t'.mo)).setCell ⟨A, 2, none⟩ (.int .i64 t'.d)).heap[A]? = some (.cells [.int .i64 t'.y, .int .i64 t'.mo, .int .i64 t'.d, .int .i64 t.h, .int .i64 t.mi, .int .i64 t.s, .int .i64 t.z].toArray 31 (0, 0)) := by rw [heap_setCell_same _ _ _ _ _ _ e1]; rfl
  have e3 : ((((w.setCell ⟨A, 0, none⟩ (.int .i64 t'.y)).setCell ⟨A, 1, none⟩ (.int .i64 t'.mo)).setCell ⟨A, 2, none⟩ (.int .i64 t'.d)).setCell ⟨A, 3, none⟩ (.int .i64 t'.h)).heap[A]? = some (.cells [.int .i64 t'.y, .int .i64 t'.mo, .int .i64 t'.d, .int .i64 t'.h, .int .i64 t.mi, .int .i64 t.s, .int .i64 t.z].toArray 31 (0, 0)) := by rw [heap_setCell_same _ _ _ _ _ _ e2]; rfl
  have e4 : (((((w.setCell ⟨A, 0, none⟩ (.int .i64 t'.y)).setCell ⟨A, 1, none⟩ (.int .i64 t'.mo)).setCell ⟨A, 2, none⟩ (.int .i64 t'.d)).setCell ⟨A, 3, none⟩ (.int .i64 t'.h)).setCell ⟨A, 4, none⟩ (.int .i64 t'.mi)).heap[A]? = some (.cells [.int .i64 t'.y, .int .i64 t'.mo, .int .i64 t'.d, .int .i64 t'.h, .int .i64 t'.mi, .int .i64 t.s, .int .i64 t.z].toArray 31 (0, 0)) := by rw [heap_setCell_same _ _ _ _ _ _ e3]; rfl
  have e5 : ((((((w.setCell ⟨A, 0, none⟩ (.int .i64 t'.y)).setCell ⟨A, 1, none⟩ (.int .i64 t'.mo)).setCell ⟨A, 2, none⟩ (.int .i64 t'.d)).setCell ⟨A, 3, none⟩ (.int .i64 t'.h)).setCell ⟨A, 4, none⟩ (.int .i64 t'.mi)).setCell ⟨A, 5, none⟩ (.int .i64 t'.s)).heap[A]? = some (.cells [.int .i64 t'.y, .int .i64 t'.mo, .int .i64 t'.d, .int .i64 t'.h, .int .i64 t'.mi, .int .i64 t'.s, .int .i64 t.z].toArray 31 (0, 0)) := by rw [heap_setCell_same _ _ _ _ _ _ e4]; rfl
  have e6 : (((((((w.setCell ⟨A, 0, none⟩ (.int .i64 t'.y)).setCell ⟨A, 1, none⟩ (.int .i64 t'.mo)).setCell ⟨A, 2, none⟩ (.int .i64 t'.d)).setCell ⟨A, 3, none⟩ (.int .i64 t'.h)).setCell ⟨A, 4, none⟩ (.int .i64 t'.mi)).setCell ⟨A, 5, none⟩ (.int .i64 t'.s)).setCell ⟨A, 6, none⟩ (.int .i64 t'.z)).heap[A]? = some (.cells [.int .i64 t'.y, .int .i64 t'.mo, .int .i64 t'.d, .int .i64 t'.h, .int .i64 t'.mi, .int .i64 t'.s, .int .i64 t'.z].toArray 31 (0, 0)) := by rw [heap_setCell_same _ _ _ _ _ _ e5]; rfl
  refine ⟨e6, by simp [putD, World.setCell], ?_⟩
  exact ((((((hk _ _ _).trans1 (hk _ _ _)).trans1 (hk _ _ _)).trans1 (hk _ _ _)).trans1 (hk _ _ _)).trans1 (hk _ _ _)).trans1 (hk _ _ _)
theorem assert_any (v : Value) (w : World) : (Instr.typeAssert (.iface 169 v) 20 169 true).run Tryz.prog w = .ok (.tuple #[v, .bool true]) w := by
  simp [Instr.typeAssert, go_sem]

set_option maxRecDepth 100000 in
set_option maxHeartbeats 1000000 in
theorem catch_idle (p q : Addr) (w : World) :
    CallsD Tryz.prog 160 #[.pointer (some p), .pointer (some q)] .returning w fun e u' w' => e = .returned (.tuple #[]) ∧ u' = .returning ∧ w' = w := by
  refine callsD_of_wpS Tryz.func160 rfl fun c₀ cs hu => ?_
  apply wpS_seq
  apply wpS_region
  simp [wpOpsS, go_sem, recoverD, hu, Tryz.ntmps160, Exit.thenS, Array.replicate, List.replicate]
  refine wpS_of_wp ?_
  go_wp2_with fail
  cases c₀
  simp_all [bodyPostS, results, Tryz.results160]

set_option maxRecDepth 100000 in
set_option maxHeartbeats 1000000 in
theorem catch_fault (A B : Nat) (t : Dt) (x : Int) (w : World) (ha : w.heap[A]? = some (.cells (dtL t).toArray 31 (0, 0))) (hb : w.heap[B]? = some (.cells #[.int .i64 x] 99 (0, 0))) :
    CallsD Tryz.prog 160 #[.pointer (some ⟨A, 0, none⟩), .pointer (some ⟨B, 0, none⟩)] (.panicking faultC) w fun e u' w' => e = .returned (.tuple #[]) ∧ u' = .panicking [{ v := .iface 169 (.agg #[.int .i64 11]), recovered := true }] ∧ 
      w'.heap[A]? = some (.cells (dtL Dt.zero).toArray 31 (0, 0)) ∧ w'.heap[B]? = some (.cells #[.int .i64 11] 99 (0, 0)) ∧ Kept [A, B] w w' := by
  refine callsD_of_wpS Tryz.func160 rfl fun c₀ cs hu => ?_
  unfold faultC at hu
  apply wpS_seq
  apply wpS_region
  simp [wpOpsS, go_sem, recoverD, hu, Tryz.ntmps160, Exit.thenS, Array.replicate, List.replicate]
  refine wpS_of_wp ?_
  have hta := assert_any (.agg #[.int .i64 11])
  have hlA := lt_of_some ha
  have hlB := lt_of_some hb
  have cA0 : w.cell? ⟨A, 0, none⟩ = some (.int .i64 t.y) := by simp [World.cell?, ha, dtL]
  have cA1 : w.cell? ⟨A, 1, none⟩ = some (.int .i64 t.mo) := by simp [World.cell?, ha, dtL]
  have cA2 : w.cell? ⟨A, 2, none⟩ = some (.int .i64 t.d) := by simp [World.cell?, ha, dtL]
  have cA3 : w.cell? ⟨A, 3, none⟩ = some (.int .i64 t.h) := by simp [World.cell?, ha, dtL]
  have cA4 : w.cell? ⟨A, 4, none⟩ = some (.int .i64 t.mi) := by simp [World.cell?, ha, dtL]
  have cA5 : w.cell? ⟨A, 5, none⟩ = some (.int .i64 t.s) := by simp [World.cell?, ha, dtL]
  have cA6 : w.cell? ⟨A, 6, none⟩ = some (.int .i64 t.z) := by simp [World.cell?, ha, dtL]
  have hne : ¬ A = B := fun e => by rw [e, hb] at ha; simp at ha
  have hne' : ¬ B = A := fun e => hne e.symm
  have cB0 : w.cell? ⟨B, 0, none⟩ = some (.int .i64 x) := by simp [World.cell?, hb]
  have fA : ∀ k, w.frozen? ⟨A, k, none⟩ = false := fun k => by simp [World.frozen?, ha]
  have fB : ∀ k, w.frozen? ⟨B, k, none⟩ = false := fun k => by simp [World.frozen?, hb]
  go_wp2_with fail
  go_region
  obtain ⟨k1, k2, k3⟩ := putD_is w A t Dt.zero ha
  have hbB : (putD w A Dt.zero).heap[B]? = some (.cells #[.int .i64 x] 99 (0, 0)) := by rw [k3.block B hlB (by simp; exact hne')]; exact hb
  have k4 : Kept [A, B] w ((putD w A Dt.zero).setCell ⟨B, 0, none⟩ (.int .i64 11)) := (k3.mono (fun i _ h => by simp at h ⊢; exact .inl h)).trans (Kept.setCell [A, B] _ _ _ (by simp)) (fun _ _ h => h)
  refine ⟨rfl, _, rfl, .tuple #[], by simp [results, Tryz.results160], rfl, rfl, ?_, ?_, ?_⟩
  · change (((putD w A Dt.zero).setCell ⟨B, 0, none⟩ (.int .i64 11)).alloc (.cells #[.int .i64 11] 169)).heap[A]? = _
    rw [Below.heap_alloc _ _ _ (by have := k4.size; omega), Below.heap_setCell _ _ _ _ hne, k1]
  · change (((putD w A Dt.zero).setCell ⟨B, 0, none⟩ (.int .i64 11)).alloc (.cells #[.int .i64 11] 169)).heap[B]? = _
    rw [Below.heap_alloc _ _ _ (by have := k4.size; omega), heap_setCell_same _ _ _ _ _ _ hbB]
    rfl
  · exact (k4.trans (Kept.alloc [A, B] _ (.cells #[.int .i64 11] 169)) (fun _ _ h => h)).trans (Kept.drew [A, B] _) (fun _ _ h => h)
end Go.Proofs.YtaniljfjmbifnaaGreatDoor.D
namespace Go.Proofs.YtaniljfjmbifnaaGreatDoor.D
open Go.RowKit
set_option linter.unusedVariables false
set_option linter.unusedSimpArgs false

def readP (p : Rd → Option Rd) (s : Bs) : Option Dt :=
  match p ⟨s, Dt.zero⟩ with
  | some r => if r.l = [] ∧ RightP r.t then some r.t else none
  | none => none
/-- What a reading answers. -/
def readV (o : Option Dt) : Value := match o with
  | some t => .tuple #[dtV t, .int .i64 0]
  | none => .tuple #[dtV Dt.zero, .int .i64 11]
/-- The world in which a text is read. -/
def rdW (w : World) (s : Bs) : World := ((w.alloc (.cells (dtL Dt.zero).toArray 31)).alloc (.cells #[.int .i64 0] 99)).alloc (.cells (rdL ⟨s, Dt.zero⟩).toArray 174)
theorem rdW_size (w : World) (s : Bs) : (rdW w s).heap.size = w.heap.size + 3 := by simp [rdW]
theorem rdW_at (w : World) (s : Bs) : RAt (rdW w s) (w.heap.size + 1 + 1) ⟨s, Dt.zero⟩ := by
  refine ⟨?_⟩
  have := heap_alloc_new ((w.alloc (.cells (dtL Dt.zero).toArray 31)).alloc (.cells #[.int .i64 0] 99)) (.cells (rdL ⟨s, Dt.zero⟩).toArray 174)
  simpa [rdW] using this
theorem rdW_A (w : World) (s : Bs) : (rdW w s).heap[w.heap.size]? = some (.cells (dtL Dt.zero).toArray 31 (0, 0)) := by
  unfold rdW
  rw [Below.heap_alloc _ _ _ (by simp; omega), Below.heap_alloc _ _ _ (by simp), heap_alloc_new]
theorem rdW_B (w : World) (s : Bs) : (rdW w s).heap[w.heap.size + 1]? = some (.cells #[.int .i64 0] 99 (0, 0)) := by
  unfold rdW
  rw [Below.heap_alloc _ _ _ (by simp)]
  have := heap_alloc_new (w.alloc (.cells (dtL Dt.zero).toArray 31)) (.cells #[.int .i64 0] 99)
  simpa using this
theorem rdW_below (w : World) (s : Bs) : Below w.heap.size w (rdW w s) := (((Below.refl _ w).alloc (Nat.le_refl _) _).alloc (by simp) _).alloc (by simp; omega) _
theorem cA_load {w : World} {A : Nat} {t : Dt} (h : w.heap[A]? = some (.cells (dtL t).toArray 31 (0, 0))) : w.cell? ⟨A, 0, none⟩ = some (.int .i64 t.y) ∧ w.cell? ⟨A, 1, none⟩ = some (.int .i64 t.mo) ∧ w.cell? ⟨A, 2, none⟩ = some (.int .i64 t.d) ∧ w.cell? ⟨A, 3, none⟩ = some (.int .i64 t.h) ∧ w.cell? ⟨A, 4, none⟩ = some (.int .i64 t.mi) ∧ w.cell? ⟨A, 5, none⟩ = some (.int .i64 t.s) ∧ w.cell? ⟨A, 6, none⟩ = some (.int .i64 t.z) := by
  simp [World.cell?, h, dtL]

set_option maxRecDepth 100000 in
theorem results114_run {w : World} {A B : Nat} {t : Dt} {x : Int} (tmps : Array Value) (h4 : tmps[4]? = some (.pointer (some ⟨A, 0, none⟩))) (h5 : tmps[5]? = some (.pointer (some ⟨B, 0, none⟩)))
    (hA : w.heap[A]? = some (.cells (dtL t).toArray 31 (0, 0))) (hB : w.heap[B]? = some (.cells #[.int .i64 x] 99 (0, 0))) : (results Tryz.f114 tmps).run Tryz.prog w = .ok (.tuple #[dtV t, .int .i64 x]) w := by
  obtain ⟨a0, a1, a2, a3, a4, a5, a6⟩ := cA_load hA
  have b0 : w.cell? ⟨B, 0, none⟩ = some (.int .i64 x) := by simp [World.cell?, hB]
  simp [results, Tryz.results114, go_sem, h4, h5, a0, a1, a2, a3, a4, a5, a6, b0, dtV, dtL]

/-- Where a reader stops, or a text is not read whole: the fault. -/
theorem fault_leaves {w : World} {A B : Nat} {t : Dt} {x : Int} {base : Nat} {w0 : World} {o : Option Dt} (tmps : Array Value) (h4 : tmps[4]? = some (.pointer (some ⟨A, 0, none⟩))) (h5 : tmps[5]? = some (.pointer (some ⟨B, 0, none⟩)))
    (hA : w.heap[A]? = some (.cells (dtL t).toArray 31 (0, 0))) (hB : w.heap[B]? = some (.cells #[.int .i64 x] 99 (0, 0))) (hb : Below base w0 w) (hbA : base ≤ A) (hbB : base ≤ B) (ho : o = none) :
    Leaves Tryz.prog Tryz.f114 tmps (fun e w' => e = .returned (readV o) ∧ Below base w0 w') [{ target := .fn (.func 160) #[.pointer (some ⟨A, 0, none⟩), .pointer (some ⟨B, 0, none⟩)], args := #[] }] (.panicking faultC) w := by
  refine leaves_cons (f := 160) (args := #[.pointer (some ⟨A, 0, none⟩), .pointer (some ⟨B, 0, none⟩)]) (by simp) (by simp [go_sem]) ?_
  refine (catch_fault A B t x w hA hB).mono ?_
  rintro e u' w' ⟨rfl, rfl, hA', hB', hk⟩
  subst ho
  refine ⟨_, results114_run tmps h4 h5 hA' hB', rfl, below_kept hb hk (by simp; omega) ?_⟩
  have := lt_of_some hA
  omega
theorem idle_leaves {w : World} {A B : Nat} {t : Dt} {base : Nat} {w0 : World} {o : Option Dt} (tmps : Array Value) (h4 : tmps[4]? = some (.pointer (some ⟨A, 0, none⟩))) (h5 : tmps[5]? = some (.pointer (some ⟨B, 0, none⟩)))
    (hA : w.heap[A]? = some (.cells (dtL t).toArray 31 (0, 0))) (hB : w.heap[B]? = some (.cells #[.int .i64 0] 99 (0, 0))) (hb : Below base w0 w) (ho : o = some t) :
    Leaves Tryz.prog Tryz.f114 tmps (fun e w' => e = .returned (readV o) ∧ Below base w0 w') [{ target := .fn (.func 160) #[.pointer (some ⟨A, 0, none⟩), .pointer (some ⟨B, 0, none⟩)], args := #[] }] .returning w := by
  refine leaves_cons (f := 160) (args := #[.pointer (some ⟨A, 0, none⟩), .pointer (some ⟨B, 0, none⟩)]) (by simp) (by simp [go_sem]) ?_
  refine (catch_idle _ _ w).mono ?_
  rintro e u' w' ⟨rfl, rfl, rfl⟩
  subst ho
  exact ⟨_, results114_run tmps h4 h5 hA hB, rfl, hb⟩

set_option maxRecDepth 100000 in
set_option maxHeartbeats 4000000 in
theorem read_any (f : Nat) (p : Rd → Option Rd) (hc : ∀ args w, (callFunc f args).run Tryz.prog w = .ok (.enter f args) w)
    (hf : ∀ (w : World) (b : Nat) (l : Bs) (t : Dt), RAt w b ⟨l, t⟩ → l.length ≤ 1000000 → Calls Tryz.prog f #[.pointer (some ⟨b, 0, none⟩)] w fun e w' => RdOut (p ⟨l, t⟩) b w e w')
    (s : Bs) (hs : s.length ≤ 1000000) (w : World) :
    Calls Tryz.prog 114 #[.string (str s), .func (.func f) #[] #[]] w fun e w' => e = .returned (readV (readP p s)) ∧ Below w.heap.size w w' := by
  have hmf : ∀ (fn : Fn) (first cap : Array Value) (w : World), (Instr.makeFunc fn first cap).run Tryz.prog w = .ok (.func fn first cap) w := fun _ _ _ _ => rfl
  have HC := hid (hf (rdW w s) (w.heap.size + 1 + 1) s Dt.zero (rdW_at w s) hs)
  have HA := hid (rdW_A w s)
  have HB := hid (rdW_B w s)
  have HBe := hid (rdW_below w s)
  have HS := hid (rdW_size w s)
  have HRP : Hid (∀ o, p ⟨s, Dt.zero⟩ = o → readP p s = match o with | some r => if r.l = [] ∧ RightP r.t then some r.t else none | none => none) := fun o h => by subst h; rfl
  clear hf
  go_enter_defers Tryz.func114, Tryz.ntmps114
  go_wp2_with fail
  refine Calls.mono (P := Tryz.prog) (f := f) (w := rdW w s) HC.out ?_
  rintro e w1 h1
  rcases hq : p ⟨s, Dt.zero⟩ with _ | ⟨l, t⟩
  · rw [hq] at h1
    obtain ⟨rfl, hk⟩ := h1
    have hA1 := (hk.block w.heap.size (by rw [HS.out]; omega) (by simp; omega)).trans HA.out
    have hB1 := (hk.block (w.heap.size + 1) (by rw [HS.out]; omega) (by simp)).trans HB.out
    exact fault_leaves _ rfl rfl hA1 hB1 (below_kept HBe.out hk (by simp; omega) (by rw [HS.out]; omega)) (Nat.le_refl _) (by omega) (HRP.out _ hq)
  · rw [hq] at h1
    obtain ⟨rfl, hr, hk⟩ := h1
    have hA1 := (hk.block w.heap.size (by rw [HS.out]; omega) (by simp; omega)).trans HA.out
    have hB1 := (hk.block (w.heap.size + 1) (by rw [HS.out]; omega) (by simp)).trans HB.out
    have hb1 : Below w.heap.size w w1 := below_kept HBe.out hk (by simp; omega) (by rw [HS.out]; omega)
    have HA1 := hid hA1
    have HB1 := hid hB1
    have HBe1 := hid hb1
    have HR := hid hr
    have HQ := hid (HRP.out _ hq)
    clear hA1 hB1 hb1 hr hk hq
    by_cases hl : l = []
    · subst hl
      obtain ⟨k1, k2, k3, k4, k5, k6, k7⟩ := HR.out.cs
      simp only at k1 k2 k3 k4 k5 k6 k7
      go_wp2_with fail
      refine (end_yes HR.out).mono ?_
      rintro e w2 ⟨rfl, rfl⟩
      go_wp2_with fail
      have C := right_any t w2
      by_cases ht : RightP t
      · rw [decide_eq_true ht] at C
        refine C.mono ?_
        rintro e w3 ⟨rfl, hb3⟩
        have hl2 := HR.out.lt
        have hA3 := (hb3.block w.heap.size (by omega)).trans HA1.out
        have hB3 := (hb3.block (w.heap.size + 1) (by omega)).trans HB1.out
        have HN : Hid (readP p s = some t) := by unfold Hid; rw [HQ.out]; simp [ht]
        have HA3 := hid hA3
        have HB3 := hid hB3
        have HBe3 := hid (HBe1.out.trans (hb3.mono (by omega)))
        have hr3 : RAt w3 (w.heap.size + 1 + 1) ⟨[], t⟩ := ⟨(hb3.block _ hl2).trans HR.out.at_⟩
        clear C k1 k2 k3 k4 k5 k6 k7 hb3
        obtain ⟨k1, k2, k3, k4, k5, k6, k7⟩ := hr3.cs
        obtain ⟨a0, a1, a2, a3, a4, a5, a6⟩ := cA_load hA3
        have b0 : w3.cell? ⟨w.heap.size + 1, 0, none⟩ = some (.int .i64 0) := by simp [World.cell?, hB3]
        have fA : ∀ k, w3.frozen? ⟨w.heap.size, k, none⟩ = false := fun k => by simp [World.frozen?, hA3]
        have fB : w3.frozen? ⟨w.heap.size + 1, 0, none⟩ = false := by simp [World.frozen?, hB3]
        have HL3 := hid (lt_of_some hB3)
        simp only at k1 k2 k3 k4 k5 k6 k7
        clear hr3 hA3 hB3 hl2
        go_wp2_with fail
        obtain ⟨p1, p2, p3⟩ := putD_is w3 w.heap.size Dt.zero t HA3.out
        have q1 : (putD w3 w.heap.size t).heap[w.heap.size + 1]? = some (.cells #[.int .i64 0] 99 (0, 0)) := by rw [p3.block _ HL3.out (by simp)]; exact HB3.out
        refine idle_leaves (t := t) _ rfl rfl (w := (putD w3 w.heap.size t).setCell ⟨w.heap.size + 1, 0, none⟩ (.int .i64 0)) ?_ ?_ ?_ HN.out
        · rw [Below.heap_setCell _ _ _ _ (by simp)]; exact p1
        · rw [heap_setCell_same _ _ _ _ _ _ q1]; rfl
        · exact (below_kept HBe3.out p3 (by simp) (by have := HL3.out; omega)).setCell (by simp) _
      · rw [decide_eq_false ht] at C
        refine C.mono ?_
        rintro e w3 ⟨rfl, hb3⟩
        have HB3 := hid hb3
        have HN : Hid (readP p s = none) := by unfold Hid; rw [HQ.out]; simp [ht]
        clear hb3 C k1 k2 k3 k4 k5 k6 k7
        go_wp2_with fail
        refine (stop_any _).mono ?_
        rintro e w4 ⟨rfl, rfl⟩
        have hl2 := HR.out.lt
        exact fault_leaves _ rfl rfl ((HB3.out.block _ (by omega)).trans HA1.out) ((HB3.out.block _ (by omega)).trans HB1.out) (HBe1.out.trans (HB3.out.mono (by omega))) (Nat.le_refl _) (by omega) HN.out
    · have HN : Hid (readP p s = none) := by unfold Hid; rw [HQ.out]; simp [hl]
      go_wp2_with fail
      refine (end_no HR.out hl).mono ?_
      rintro e w2 ⟨rfl, rfl⟩
      exact fault_leaves _ rfl rfl HA1.out HB1.out HBe1.out (Nat.le_refl _) (by omega) HN.out
end Go.Proofs.YtaniljfjmbifnaaGreatDoor.D
namespace Go.Proofs.YtaniljfjmbifnaaGreatDoor.D
open Go.RowKit
set_option linter.unusedVariables false
set_option linter.unusedSimpArgs false

theorem boxed0 (t : Dt) (w : World) : (w.alloc (.cells (dtL t).toArray 31)).heap[w.heap.size]? = some (.cells (dtL t).toArray 31 (0, 0)) := heap_alloc_new _ _
theorem call50 (args : Array Value) (w : World) : (callFunc 115 args).run Tryz.prog w = .ok (.enter 115 args) w := by simp [go_sem]
theorem read_mail (s : Bs) (hs : s.length ≤ 1000000) (w : World) : Calls Tryz.prog 114 #[.string (str s), .func (.func 115) #[] #[]] w fun e w' => e = .returned (readV (readP mailP s)) ∧ Below w.heap.size w w' :=
  read_any 115 mailP call50 (fun w b l t h h1 => mail_any h h1) s hs w
set_option maxRecDepth 100000 in
theorem results77_run {w : World} {A : Nat} {t : Dt} {v : Value} (tmps : Array Value) (h2 : tmps[2]? = some (.pointer (some ⟨A, 0, none⟩))) (h3 : tmps[3]? = some v)
    (hA : w.heap[A]? = some (.cells (dtL t).toArray 31 (0, 0))) : (results Tryz.f77 tmps).run Tryz.prog w = .ok (.tuple #[dtV t, v]) w := by
  obtain ⟨a0, a1, a2, a3, a4, a5, a6⟩ := cA_load hA
  simp [results, Tryz.results77, go_sem, h2, h3, a0, a1, a2, a3, a4, a5, a6, dtV, dtL]
/-- What is told, as a pair. -/
def ansT (o : Option Dt) : Dt := o.getD Dt.zero
def ansE (o : Option Dt) : Int := if o.isSome then 0 else 11
theorem readV_eq (o : Option Dt) : readV o = .tuple #[.agg (dtL (ansT o)).toArray, .int .i64 (ansE o)] := by cases o <;> rfl

set_option maxRecDepth 100000 in
set_option maxHeartbeats 2000000 in
theorem mails_any (s : Bs) (hs : s.length ≤ 1000000) (w : World) : Calls Tryz.prog 77 #[.string (str s)] w fun e w' => e = .returned (readV (readP mailP s)) ∧ Below w.heap.size w w' := by
  have hA := boxed0 Dt.zero w
  have HA := hid hA
  have HB : Hid (Below w.heap.size w (w.alloc (.cells (dtL Dt.zero).toArray 31))) := (Below.refl _ _).alloc (Nat.le_refl _) _
  have C := read_mail s hs (w.alloc (.cells (dtL Dt.zero).toArray 31))
  have HV := hid (readV_eq (readP mailP s))
  rw [readV_eq] at C
  generalize ansT (readP mailP s) = t at C HV
  generalize ansE (readP mailP s) = x at C HV
  obtain ⟨y, mo, d, h, mi, s', z⟩ := t
  have HC := hid C
  clear C hA
  unfold dtL at HC
  simp only at HC
  go_enter Tryz.func77, Tryz.ntmps77
  go_wp2_with fail
  refine HC.out.mono ?_
  rintro e w1 ⟨rfl, hb1⟩
  have hA1 := (hb1.block w.heap.size (by simp)).trans HA.out
  have HB1 := hid (HB.out.trans (hb1.mono (by simp)))
  obtain ⟨a0, a1, a2, a3, a4, a5, a6⟩ := cA_load hA1
  have fA : ∀ k, w1.frozen? ⟨w.heap.size, k, none⟩ = false := fun k => by simp [World.frozen?, hA1]
  have HA1 := hid hA1
  clear hA1 hb1
  go_wp2_with fail
  obtain ⟨x1, x2, x3⟩ := putD_is w1 w.heap.size Dt.zero ⟨y, mo, d, h, mi, s', z⟩ HA1.out
  refine bodyPost_ret (w := putD w1 w.heap.size ⟨y, mo, d, h, mi, s', z⟩) (results77_run _ rfl rfl x1) rfl ?_
  rw [HV.out]
  exact ⟨rfl, below_kept HB1.out x3 (by simp) HB1.out.size⟩
end Go.Proofs.YtaniljfjmbifnaaGreatDoor.D
