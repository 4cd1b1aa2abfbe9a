/- What this text holds: the program's Internal, Mail, Day. -/
import Derived.Test.YtnjdgbbdjkhpoaaDoorV4
namespace Go.Proofs.YtnjdgbbdjkhpoaaDoor
open Go.RowKit
set_option linter.unusedVariables false
set_option linter.unusedSimpArgs false

theorem call42 (args : Array Value) (w : World) : (callFunc 42 args).run Tryd.prog w = .ok (.enter 42 args) w := by simp [go_sem]
theorem call50 (args : Array Value) (w : World) : (callFunc 50 args).run Tryd.prog w = .ok (.enter 50 args) w := by simp [go_sem]
theorem call55 (args : Array Value) (w : World) : (callFunc 55 args).run Tryd.prog w = .ok (.enter 55 args) w := by simp [go_sem]
theorem read_internal (s : Bs) (hs : s.length ≤ 1000000) (w : World) : Calls Tryd.prog 41 #[.string (str s), .func (.func 42) #[] #[]] w fun e w' => e = .returned (readV (readP internalP s)) ∧ Below w.heap.size w w' :=
  read_any 42 internalP call42 (fun w b l t h h1 => internal_any h h1) s hs w
theorem read_mail (s : Bs) (hs : s.length ≤ 1000000) (w : World) : Calls Tryd.prog 41 #[.string (str s), .func (.func 50) #[] #[]] w fun e w' => e = .returned (readV (readP mailP s)) ∧ Below w.heap.size w w' :=
  read_any 50 mailP call50 (fun w b l t h h1 => mail_any h h1) s hs w
theorem read_day (s : Bs) (hs : s.length ≤ 1000000) (w : World) : Calls Tryd.prog 41 #[.string (str s), .func (.func 55) #[] #[]] w fun e w' => e = .returned (readV (readP dayP s)) ∧ Below w.heap.size w w' :=
  read_any 55 dayP call55 (fun w b l t h h1 => day_any h h1) s hs w

set_option maxRecDepth 100000 in
theorem results26_run {w : World} {A : Nat} {t : Dt} {v : Value} (tmps : Array Value) (h2 : tmps[2]? = some (.pointer (some ⟨A, 0, none⟩))) (h3 : tmps[3]? = some v)
    (hA : w.heap[A]? = some (.cells (dtL t).toArray 29 (0, 0))) : (results Tryd.f26 tmps).run Tryd.prog w = .ok (.tuple #[dtV t, v]) w := by
  obtain ⟨a0, a1, a2, a3, a4, a5, a6⟩ := cA_load hA
  simp [results, Tryd.results26, go_sem, h2, h3, a0, a1, a2, a3, a4, a5, a6, dtV, dtL]
set_option maxRecDepth 100000 in
theorem results21_run {w : World} {A : Nat} {t : Dt} {v : Value} (tmps : Array Value) (h2 : tmps[2]? = some (.pointer (some ⟨A, 0, none⟩))) (h3 : tmps[3]? = some v)
    (hA : w.heap[A]? = some (.cells (dtL t).toArray 29 (0, 0))) : (results Tryd.f21 tmps).run Tryd.prog w = .ok (.tuple #[dtV t, v]) w := by
  obtain ⟨a0, a1, a2, a3, a4, a5, a6⟩ := cA_load hA
  simp [results, Tryd.results21, go_sem, h2, h3, a0, a1, a2, a3, a4, a5, a6, dtV, dtL]

/-- What is told, as a pair. -/
def ansT (o : Option Dt) : Dt := o.getD Dt.zero
def ansE (o : Option Dt) : Int := if o.isSome then 0 else 11
theorem readV_eq (o : Option Dt) : readV o = .tuple #[.agg (dtL (ansT o)).toArray, .int .i64 (ansE o)] := by cases o <;> rfl

set_option maxRecDepth 100000 in
set_option maxHeartbeats 2000000 in
theorem mails_any (s : Bs) (hs : s.length ≤ 1000000) (w : World) : Calls Tryd.prog 26 #[.string (str s)] w fun e w' => e = .returned (readV (readP mailP s)) ∧ Below w.heap.size w w' := by
  have hA := boxed0 Dt.zero w
  have HA := hid hA
  have HB : Hid (Below w.heap.size w (w.alloc (.cells (dtL Dt.zero).toArray 29))) := (Below.refl _ _).alloc (Nat.le_refl _) _
  have C := read_mail s hs (w.alloc (.cells (dtL Dt.zero).toArray 29))
  have HV := hid (readV_eq (readP mailP s))
  rw [readV_eq] at C
  generalize ansT (readP mailP s) = t at C HV
  generalize ansE (readP mailP s) = x at C HV
  obtain ⟨y, mo, d, h, mi, s', z⟩ := t
  have HC := hid C
  clear C hA
  unfold dtL at HC
  simp only at HC
  go_enter Tryd.func26, Tryd.ntmps26
  go_wp2_with fail
  refine HC.out.mono ?_
  rintro e w1 ⟨rfl, hb1⟩
  have hA1 := (hb1.block w.heap.size (by simp)).trans HA.out
  have HB1 := hid (HB.out.trans (hb1.mono (by simp)))
  obtain ⟨a0, a1, a2, a3, a4, a5, a6⟩ := cA_load hA1
  have fA : ∀ k, w1.frozen? ⟨w.heap.size, k, none⟩ = false := fun k => by simp [World.frozen?, hA1]
  have HA1 := hid hA1
  clear hA1 hb1
  go_wp2_with fail
  obtain ⟨x1, x2, x3⟩ := putD_is w1 w.heap.size Dt.zero ⟨y, mo, d, h, mi, s', z⟩ HA1.out
  refine bodyPost_ret (w := putD w1 w.heap.size ⟨y, mo, d, h, mi, s', z⟩) (results26_run _ rfl rfl x1) rfl ?_
  rw [HV.out]
  exact ⟨rfl, below_kept HB1.out x3 (by simp) HB1.out.size⟩
end Go.Proofs.YtnjdgbbdjkhpoaaDoor
