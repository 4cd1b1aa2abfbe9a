/- What this text holds: the program's reading of a text. -/
import Derived.Test.YtnjdgbbdjkhpoaaDoorT2
namespace Go.Proofs.YtnjdgbbdjkhpoaaDoor
open Go.RowKit
set_option linter.unusedVariables false
set_option linter.unusedSimpArgs false

def readP (p : Rd → Option Rd) (s : Bs) : Option Dt :=
  match p ⟨s, Dt.zero⟩ with
  | some r => if r.l = [] ∧ RightP r.t then some r.t else none
  | none => none
/-- What a reading answers. -/
def readV (o : Option Dt) : Value := match o with
  | some t => .tuple #[dtV t, .int .i64 0]
  | none => .tuple #[dtV Dt.zero, .int .i64 11]
/-- The world in which a text is read. -/
def rdW (w : World) (s : Bs) : World := ((w.alloc (.cells (dtL Dt.zero).toArray 29)).alloc (.cells #[.int .i64 0] 33)).alloc (.cells (rdL ⟨s, Dt.zero⟩).toArray 77)
theorem rdW_size (w : World) (s : Bs) : (rdW w s).heap.size = w.heap.size + 3 := by simp [rdW]
theorem rdW_at (w : World) (s : Bs) : RAt (rdW w s) (w.heap.size + 1 + 1) ⟨s, Dt.zero⟩ := by
  refine ⟨?_⟩
  have := heap_alloc_new ((w.alloc (.cells (dtL Dt.zero).toArray 29)).alloc (.cells #[.int .i64 0] 33)) (.cells (rdL ⟨s, Dt.zero⟩).toArray 77)
  simpa [rdW] using this
theorem rdW_A (w : World) (s : Bs) : (rdW w s).heap[w.heap.size]? = some (.cells (dtL Dt.zero).toArray 29 (0, 0)) := by
  unfold rdW
  rw [Below.heap_alloc _ _ _ (by simp; omega), Below.heap_alloc _ _ _ (by simp), heap_alloc_new]
theorem rdW_B (w : World) (s : Bs) : (rdW w s).heap[w.heap.size + 1]? = some (.cells #[.int .i64 0] 33 (0, 0)) := by
  unfold rdW
  rw [Below.heap_alloc _ _ _ (by simp)]
  have := heap_alloc_new (w.alloc (.cells (dtL Dt.zero).toArray 29)) (.cells #[.int .i64 0] 33)
  simpa using this
theorem rdW_below (w : World) (s : Bs) : Below w.heap.size w (rdW w s) := (((Below.refl _ w).alloc (Nat.le_refl _) _).alloc (by simp) _).alloc (by simp; omega) _
theorem cA_load {w : World} {A : Nat} {t : Dt} (h : w.heap[A]? = some (.cells (dtL t).toArray 29 (0, 0))) : w.cell? ⟨A, 0, none⟩ = some (.int .i64 t.y) ∧ w.cell? ⟨A, 1, none⟩ = some (.int .i64 t.mo) ∧ w.cell? ⟨A, 2, none⟩ = some (.int .i64 t.d) ∧ w.cell? ⟨A, 3, none⟩ = some (.int .i64 t.h) ∧ w.cell? ⟨A, 4, none⟩ = some (.int .i64 t.mi) ∧ w.cell? ⟨A, 5, none⟩ = some (.int .i64 t.s) ∧ w.cell? ⟨A, 6, none⟩ = some (.int .i64 t.z) := by
  simp [World.cell?, h, dtL]

set_option maxRecDepth 100000 in
theorem results41_run {w : World} {A B : Nat} {t : Dt} {x : Int} (tmps : Array Value) (h4 : tmps[4]? = some (.pointer (some ⟨A, 0, none⟩))) (h5 : tmps[5]? = some (.pointer (some ⟨B, 0, none⟩)))
    (hA : w.heap[A]? = some (.cells (dtL t).toArray 29 (0, 0))) (hB : w.heap[B]? = some (.cells #[.int .i64 x] 33 (0, 0))) : (results Tryd.f41 tmps).run Tryd.prog w = .ok (.tuple #[dtV t, .int .i64 x]) w := by
  obtain ⟨a0, a1, a2, a3, a4, a5, a6⟩ := cA_load hA
  have b0 : w.cell? ⟨B, 0, none⟩ = some (.int .i64 x) := by simp [World.cell?, hB]
  simp [results, Tryd.results41, go_sem, h4, h5, a0, a1, a2, a3, a4, a5, a6, b0, dtV, dtL]

/-- Where a reader stops, or a text is not read whole: the fault. -/
theorem fault_leaves {w : World} {A B : Nat} {t : Dt} {x : Int} {base : Nat} {w0 : World} {o : Option Dt} (tmps : Array Value) (h4 : tmps[4]? = some (.pointer (some ⟨A, 0, none⟩))) (h5 : tmps[5]? = some (.pointer (some ⟨B, 0, none⟩)))
    (hA : w.heap[A]? = some (.cells (dtL t).toArray 29 (0, 0))) (hB : w.heap[B]? = some (.cells #[.int .i64 x] 33 (0, 0))) (hb : Below base w0 w) (hbA : base ≤ A) (hbB : base ≤ B) (ho : o = none) :
    Leaves Tryd.prog Tryd.f41 tmps (fun e w' => e = .returned (readV o) ∧ Below base w0 w') [{ target := .fn (.func 58) #[.pointer (some ⟨A, 0, none⟩), .pointer (some ⟨B, 0, none⟩)], args := #[] }] (.panicking faultC) w := by
  refine leaves_cons (f := 58) (args := #[.pointer (some ⟨A, 0, none⟩), .pointer (some ⟨B, 0, none⟩)]) (by simp) (by simp [go_sem]) ?_
  refine (catch_fault A B t x w hA hB).mono ?_
  rintro e u' w' ⟨rfl, rfl, hA', hB', hk⟩
  subst ho
  refine ⟨_, results41_run tmps h4 h5 hA' hB', rfl, below_kept hb hk (by simp; omega) ?_⟩
  have := lt_of_some hA
  omega
theorem idle_leaves {w : World} {A B : Nat} {t : Dt} {base : Nat} {w0 : World} {o : Option Dt} (tmps : Array Value) (h4 : tmps[4]? = some (.pointer (some ⟨A, 0, none⟩))) (h5 : tmps[5]? = some (.pointer (some ⟨B, 0, none⟩)))
    (hA : w.heap[A]? = some (.cells (dtL t).toArray 29 (0, 0))) (hB : w.heap[B]? = some (.cells #[.int .i64 0] 33 (0, 0))) (hb : Below base w0 w) (ho : o = some t) :
    Leaves Tryd.prog Tryd.f41 tmps (fun e w' => e = .returned (readV o) ∧ Below base w0 w') [{ target := .fn (.func 58) #[.pointer (some ⟨A, 0, none⟩), .pointer (some ⟨B, 0, none⟩)], args := #[] }] .returning w := by
  refine leaves_cons (f := 58) (args := #[.pointer (some ⟨A, 0, none⟩), .pointer (some ⟨B, 0, none⟩)]) (by simp) (by simp [go_sem]) ?_
  refine (catch_idle _ _ w).mono ?_
  rintro e u' w' ⟨rfl, rfl, rfl⟩
  subst ho
  exact ⟨_, results41_run tmps h4 h5 hA hB, rfl, hb⟩

set_option maxRecDepth 100000 in
set_option maxHeartbeats 4000000 in
theorem read_any (f : Nat) (p : Rd → Option Rd) (hc : ∀ args w, (callFunc f args).run Tryd.prog w = .ok (.enter f args) w)
    (hf : ∀ (w : World) (b : Nat) (l : Bs) (t : Dt), RAt w b ⟨l, t⟩ → l.length ≤ 1000000 → Calls Tryd.prog f #[.pointer (some ⟨b, 0, none⟩)] w fun e w' => RdOut (p ⟨l, t⟩) b w e w')
    (s : Bs) (hs : s.length ≤ 1000000) (w : World) :
    Calls Tryd.prog 41 #[.string (str s), .func (.func f) #[] #[]] w fun e w' => e = .returned (readV (readP p s)) ∧ Below w.heap.size w w' := by
  have hmf : ∀ (fn : Fn) (first cap : Array Value) (w : World), (Instr.makeFunc fn first cap).run Tryd.prog w = .ok (.func fn first cap) w := fun _ _ _ _ => rfl
  have HC := hid (hf (rdW w s) (w.heap.size + 1 + 1) s Dt.zero (rdW_at w s) hs)
  have HA := hid (rdW_A w s)
  have HB := hid (rdW_B w s)
  have HBe := hid (rdW_below w s)
  have HS := hid (rdW_size w s)
  have HRP : Hid (∀ o, p ⟨s, Dt.zero⟩ = o → readP p s = match o with | some r => if r.l = [] ∧ RightP r.t then some r.t else none | none => none) := fun o h => by subst h; rfl
  clear hf
  go_enter_defers Tryd.func41, Tryd.ntmps41
  go_wp2_with fail
  refine Calls.mono (P := Tryd.prog) (f := f) (w := rdW w s) HC.out ?_
  rintro e w1 h1
  rcases hq : p ⟨s, Dt.zero⟩ with _ | ⟨l, t⟩
  · rw [hq] at h1
    obtain ⟨rfl, hk⟩ := h1
    have hA1 := (hk.block w.heap.size (by rw [HS.out]; omega) (by simp; omega)).trans HA.out
    have hB1 := (hk.block (w.heap.size + 1) (by rw [HS.out]; omega) (by simp)).trans HB.out
    exact fault_leaves _ rfl rfl hA1 hB1 (below_kept HBe.out hk (by simp; omega) (by rw [HS.out]; omega)) (Nat.le_refl _) (by omega) (HRP.out _ hq)
  · rw [hq] at h1
    obtain ⟨rfl, hr, hk⟩ := h1
    have hA1 := (hk.block w.heap.size (by rw [HS.out]; omega) (by simp; omega)).trans HA.out
    have hB1 := (hk.block (w.heap.size + 1) (by rw [HS.out]; omega) (by simp)).trans HB.out
    have hb1 : Below w.heap.size w w1 := below_kept HBe.out hk (by simp; omega) (by rw [HS.out]; omega)
    have HA1 := hid hA1
    have HB1 := hid hB1
    have HBe1 := hid hb1
    have HR := hid hr
    have HQ := hid (HRP.out _ hq)
    clear hA1 hB1 hb1 hr hk hq
    by_cases hl : l = []
    · subst hl
      obtain ⟨k1, k2, k3, k4, k5, k6, k7⟩ := HR.out.cs
      simp only at k1 k2 k3 k4 k5 k6 k7
      go_wp2_with fail
      refine (end_yes HR.out).mono ?_
      rintro e w2 ⟨rfl, rfl⟩
      go_wp2_with fail
      have C := right_any t w2
      by_cases ht : RightP t
      · rw [decide_eq_true ht] at C
        refine C.mono ?_
        rintro e w3 ⟨rfl, hb3⟩
        have hl2 := HR.out.lt
        have hA3 := (hb3.block w.heap.size (by omega)).trans HA1.out
        have hB3 := (hb3.block (w.heap.size + 1) (by omega)).trans HB1.out
        have HN : Hid (readP p s = some t) := by unfold Hid; rw [HQ.out]; simp [ht]
        have HA3 := hid hA3
        have HB3 := hid hB3
        have HBe3 := hid (HBe1.out.trans (hb3.mono (by omega)))
        have hr3 : RAt w3 (w.heap.size + 1 + 1) ⟨[], t⟩ := ⟨(hb3.block _ hl2).trans HR.out.at_⟩
        clear C k1 k2 k3 k4 k5 k6 k7 hb3
        obtain ⟨k1, k2, k3, k4, k5, k6, k7⟩ := hr3.cs
        obtain ⟨a0, a1, a2, a3, a4, a5, a6⟩ := cA_load hA3
        have b0 : w3.cell? ⟨w.heap.size + 1, 0, none⟩ = some (.int .i64 0) := by simp [World.cell?, hB3]
        have fA : ∀ k, w3.frozen? ⟨w.heap.size, k, none⟩ = false := fun k => by simp [World.frozen?, hA3]
        have fB : w3.frozen? ⟨w.heap.size + 1, 0, none⟩ = false := by simp [World.frozen?, hB3]
        have HL3 := hid (lt_of_some hB3)
        simp only at k1 k2 k3 k4 k5 k6 k7
        clear hr3 hA3 hB3 hl2
        go_wp2_with fail
        obtain ⟨p1, p2, p3⟩ := putD_is w3 w.heap.size Dt.zero t HA3.out
        have q1 : (putD w3 w.heap.size t).heap[w.heap.size + 1]? = some (.cells #[.int .i64 0] 33 (0, 0)) := by rw [p3.block _ HL3.out (by simp)]; exact HB3.out
        refine idle_leaves (t := t) _ rfl rfl (w := (putD w3 w.heap.size t).setCell ⟨w.heap.size + 1, 0, none⟩ (.int .i64 0)) ?_ ?_ ?_ HN.out
        · rw [Below.heap_setCell _ _ _ _ (by simp)]; exact p1
        · rw [heap_setCell_same _ _ _ _ _ _ q1]; rfl
        · exact (below_kept HBe3.out p3 (by simp) (by have := HL3.out; omega)).setCell (by simp) _
      · rw [decide_eq_false ht] at C
        refine C.mono ?_
        rintro e w3 ⟨rfl, hb3⟩
        have HB3 := hid hb3
        have HN : Hid (readP p s = none) := by unfold Hid; rw [HQ.out]; simp [ht]
        clear hb3 C k1 k2 k3 k4 k5 k6 k7
        go_wp2_with fail
        refine (stop_any _).mono ?_
        rintro e w4 ⟨rfl, rfl⟩
        have hl2 := HR.out.lt
        exact fault_leaves _ rfl rfl ((HB3.out.block _ (by omega)).trans HA1.out) ((HB3.out.block _ (by omega)).trans HB1.out) (HBe1.out.trans (HB3.out.mono (by omega))) (Nat.le_refl _) (by omega) HN.out
    · have HN : Hid (readP p s = none) := by unfold Hid; rw [HQ.out]; simp [hl]
      go_wp2_with fail
      refine (end_no HR.out hl).mono ?_
      rintro e w2 ⟨rfl, rfl⟩
      exact fault_leaves _ rfl rfl HA1.out HB1.out HBe1.out (Nat.le_refl _) (by omega) HN.out
end Go.Proofs.YtnjdgbbdjkhpoaaDoor
