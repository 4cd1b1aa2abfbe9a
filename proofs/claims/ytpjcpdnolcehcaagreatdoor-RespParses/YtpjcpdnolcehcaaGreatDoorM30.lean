/- What this text holds: a text is read: the reading, and what recovers. -/
import Derived.Test.YtpjcpdnolcehcaaGreatDoorM29
namespace Go.Proofs.YtpjcpdnolcehcaaGreatDoor
open Go.RowKit
set_option linter.unusedVariables false
set_option linter.unusedSimpArgs false

theorem assert_any (v : Value) (w : World) : (Instr.typeAssert (.iface 67 v) 20 67 true).run Tryz.prog w = .ok (.tuple #[v, .bool true]) w := by
  simp [Instr.typeAssert, go_sem]
set_option maxRecDepth 100000 in
set_option maxHeartbeats 1000000 in
theorem catch_idle (p q : Addr) (w : World) :
    CallsD Tryz.prog 41 #[.pointer (some p), .pointer (some q)] .returning w fun e u' w' => e = .returned (.tuple #[]) ∧ u' = .returning ∧ w' = w := by
  refine callsD_of_wpS Tryz.func41 rfl fun c₀ cs hu => ?_
  apply wpS_seq
  apply wpS_region
  simp [wpOpsS, go_sem, recoverD, hu, Tryz.ntmps41, Exit.thenS, Array.replicate, List.replicate]
  refine wpS_of_wp ?_
  go_wp2_with fail
  cases c₀
  simp_all [bodyPostS, results, Tryz.results41]
def sA (w : World) (A : Nat) (v : Value) : Prop := w.heap[A]? = some (.cells #[v] 22 (0, 0))
def sB (w : World) (B : Nat) (n : Int) : Prop := w.heap[B]? = some (.cells #[.int .i64 n] 31 (0, 0))
set_option maxRecDepth 100000 in
set_option maxHeartbeats 1000000 in
theorem catch_fault (A B : Nat) (v : Value) (x : Int) (w : World) (ha : sA w A v) (hb : sB w B x) :
    CallsD Tryz.prog 41 #[.pointer (some ⟨A, 0, none⟩), .pointer (some ⟨B, 0, none⟩)] (.panicking faultC) w fun e u' w' => e = .returned (.tuple #[]) ∧ u' = .panicking [{ v := .iface 67 (.agg #[]), recovered := true }] ∧
      sA w' A nilV ∧ sB w' B 11 ∧ Kept [A, B] w w' := by
  refine callsD_of_wpS Tryz.func41 rfl fun c₀ cs hu => ?_
  unfold faultC at hu
  apply wpS_seq
  apply wpS_region
  simp [wpOpsS, go_sem, recoverD, hu, Tryz.ntmps41, Exit.thenS, Array.replicate, List.replicate]
  refine wpS_of_wp ?_
  have hta := assert_any (.agg #[])
  have hlA := lt_of_some ha
  have hlB := lt_of_some hb
  have cA0 : w.cell? ⟨A, 0, none⟩ = some v := by simp [World.cell?, show w.heap[A]? = _ from ha]
  have hne : ¬ A = B := fun e => by rw [e] at ha; unfold sA at ha; unfold sB at hb; rw [hb] at ha; simp at ha
  have hne' : ¬ B = A := fun e => hne e.symm
  have cB0 : w.cell? ⟨B, 0, none⟩ = some (.int .i64 x) := by simp [World.cell?, show w.heap[B]? = _ from hb]
  have fA : ∀ k, w.frozen? ⟨A, k, none⟩ = false := fun k => by simp [World.frozen?, show w.heap[A]? = _ from ha]
  have fB : ∀ k, w.frozen? ⟨B, k, none⟩ = false := fun k => by simp [World.frozen?, show w.heap[B]? = _ from hb]
  unfold sA sB at *
  go_wp2_with fail
  have k3 := Kept.setA w A 0 (.slice none 0 0)
  have hbB : (w.setCell ⟨A, 0, none⟩ (.slice none 0 0)).heap[B]? = some (.cells #[.int .i64 x] 31 (0, 0)) := by rw [Below.heap_setCell _ _ _ _ hne']; exact hb
  have k4 : Kept [A, B] w ((w.setCell ⟨A, 0, none⟩ (.slice none 0 0)).setCell ⟨B, 0, none⟩ (.int .i64 11)) := (Kept.setCell [A, B] _ ⟨A, 0, none⟩ _ (by simp)).trans (Kept.setCell [A, B] _ ⟨B, 0, none⟩ _ (by simp)) (fun _ _ h => h)
  refine ⟨rfl, _, rfl, .tuple #[], by simp [results, Tryz.results41], rfl, rfl, ?_, ?_, ?_⟩
  · rw [Below.heap_alloc _ _ _ (by have := k4.size; omega), Below.heap_setCell _ _ _ _ hne, heap_setCell_same _ _ _ _ _ _ ha]
    rfl
  · rw [Below.heap_alloc _ _ _ (by have := k4.size; omega), heap_setCell_same _ _ _ _ _ _ hbB]
    rfl
  · exact k4.trans (Kept.alloc [A, B] _ (.cells #[] 67)) (fun _ _ h => h)
/-- What a reading of a text answers. -/
def paL (o : Option (List Ln)) : List Ln := o.getD []
def paN (o : Option (List Ln)) : Int := match o with
  | some _ => 0
  | none => 11
def PaIs (o : Option (List Ln)) (w : World) (e : Ending) (w' : World) : Prop := ∃ u, e = .returned (.tuple #[u, .int .i64 (paN o)]) ∧ LsAt w' (w.heap.size ≤ ·) u (paL o) ∧ Below w.heap.size w w'
theorem results15_run {w : World} {A B : Nat} {v : Value} {x : Int} (tmps : Array Value) (h2 : tmps[2]? = some (.pointer (some ⟨A, 0, none⟩))) (h3 : tmps[3]? = some (.pointer (some ⟨B, 0, none⟩)))
    (hA : sA w A v) (hB : sB w B x) : (results Tryz.f15 tmps).run Tryz.prog w = .ok (.tuple #[v, .int .i64 x]) w := by
  have a0 : w.cell? ⟨A, 0, none⟩ = some v := by simp [World.cell?, show w.heap[A]? = _ from hA]
  have b0 : w.cell? ⟨B, 0, none⟩ = some (.int .i64 x) := by simp [World.cell?, show w.heap[B]? = _ from hB]
  simp [results, Tryz.results15, go_sem, h2, h3, a0, b0]
theorem fault_leaves {w w0 : World} {A B : Nat} {v : Value} {x : Int} {o : Option (List Ln)} (tmps : Array Value) (h2 : tmps[2]? = some (.pointer (some ⟨A, 0, none⟩))) (h3 : tmps[3]? = some (.pointer (some ⟨B, 0, none⟩)))
    (hA : sA w A v) (hB : sB w B x) (hb : Below w0.heap.size w0 w) (hbA : w0.heap.size ≤ A) (hbB : w0.heap.size ≤ B) (ho : o = none) :
    Leaves Tryz.prog Tryz.f15 tmps (PaIs o w0) [{ target := .fn (.func 41) #[.pointer (some ⟨A, 0, none⟩), .pointer (some ⟨B, 0, none⟩)], args := #[] }] (.panicking faultC) w := by
  refine leaves_cons (f := 41) (args := #[.pointer (some ⟨A, 0, none⟩), .pointer (some ⟨B, 0, none⟩)]) (by simp) (by simp [go_sem]) ?_
  refine (catch_fault A B v x w hA hB).mono ?_
  rintro e u' w' ⟨rfl, rfl, hA', hB', hk⟩
  subst ho
  refine ⟨_, results15_run tmps h2 h3 hA' hB', nilV, rfl, LsAt.nil _ _, below_kept hb hk (by simp; omega) ?_⟩
  have := lt_of_some hA
  omega
theorem idle_leaves {w w0 : World} {A B : Nat} {v : Value} {ls : List Ln} {o : Option (List Ln)} (tmps : Array Value) (h2 : tmps[2]? = some (.pointer (some ⟨A, 0, none⟩))) (h3 : tmps[3]? = some (.pointer (some ⟨B, 0, none⟩)))
    (hA : sA w A v) (hB : sB w B 0) (hb : Below w0.heap.size w0 w) (hl : LsAt w (w0.heap.size ≤ ·) v ls) (ho : o = some ls) :
    Leaves Tryz.prog Tryz.f15 tmps (PaIs o w0) [{ target := .fn (.func 41) #[.pointer (some ⟨A, 0, none⟩), .pointer (some ⟨B, 0, none⟩)], args := #[] }] .returning w := by
  refine leaves_cons (f := 41) (args := #[.pointer (some ⟨A, 0, none⟩), .pointer (some ⟨B, 0, none⟩)]) (by simp) (by simp [go_sem]) ?_
  refine (catch_idle _ _ w).mono ?_
  rintro e u' w' ⟨rfl, rfl, rfl⟩
  subst ho
  exact ⟨_, results15_run tmps h2 h3 hA hB, v, rfl, hl, hb⟩
def rdW (w : World) (s : Bs) : World := ((w.alloc (.cells #[.slice none 0 0] 22)).alloc (.cells #[.int .i64 0] 31)).alloc (.cells #[.string (str s), .int .i64 0] 73)
theorem rdW_size (w : World) (s : Bs) : (rdW w s).heap.size = w.heap.size + 3 := by simp [rdW]
theorem rdW_at (w : World) (s : Bs) : RAt (rdW w s) (w.heap.size + 1 + 1) s 0 := by
  have := heap_alloc_new ((w.alloc (.cells #[.slice none 0 0] 22)).alloc (.cells #[.int .i64 0] 31)) (.cells #[.string (str s), .int .i64 0] 73)
  simpa [rdW, RAt] using this
theorem rdW_A (w : World) (s : Bs) : sA (rdW w s) w.heap.size nilV := by
  unfold rdW sA
  rw [Below.heap_alloc _ _ _ (by simp; omega), Below.heap_alloc _ _ _ (by simp), heap_alloc_new]
theorem rdW_B (w : World) (s : Bs) : sB (rdW w s) (w.heap.size + 1) 0 := by
  unfold rdW sB
  rw [Below.heap_alloc _ _ _ (by simp)]
  have := heap_alloc_new (w.alloc (.cells #[.slice none 0 0] 22)) (.cells #[.int .i64 0] 31)
  simpa using this
theorem rdW_below (w : World) (s : Bs) : Below w.heap.size w (rdW w s) := (((Below.refl _ w).alloc (Nat.le_refl _) _).alloc (by simp) _).alloc (by simp; omega) _
set_option maxRecDepth 100000 in
set_option maxHeartbeats 2000000 in
theorem parse_any (w : World) (s : Bs) (hE : Env w) (hs : s.length ≤ 100000000) (hpl : ∀ l, linesP (s.length + 1) s = some l → l.length ≤ 1000000000 ∧ (∀ x ∈ l, NumN x) ∧ (l.flatMap lineT).length ≤ 1000000000) :
    Calls Tryz.prog 15 #[.string (str s)] w (PaIs (parseP s) w) := by
  have hmf : ∀ (fn : Fn) (first cap : Array Value) (w : World), (Instr.makeFunc fn first cap).run Tryz.prog w = .ok (.func fn first cap) w := fun _ _ _ _ => rfl
  have hp := hE.pos
  have HA := hid (rdW_A w s)
  have HB := hid (rdW_B w s)
  have HBe := hid (rdW_below w s)
  have HS := hid (rdW_size w s)
  have HE := hid (hE.later (rdW_below w s))
  have HC := hid (lines_any (rdW w s) (w.heap.size + 1 + 1) s (hE.later (rdW_below w s)) (by omega) (rdW_at w s) hs)
  have HX : Hid (∀ o, linesP (s.length + 1) s = o → parseP s = match o with | none => none | some l => if printP l = s then some l else none) := fun o h => by subst h; rfl
  clear hE
  go_enter_defers Tryz.func15, Tryz.ntmps15
  go_wp2_with fail
  refine Calls.mono (P := Tryz.prog) (f := 42) (w := rdW w s) HC.out ?_
  rintro e w1 h1
  rcases hq : linesP (s.length + 1) s with _ | ls
  · rw [hq] at h1
    obtain ⟨rfl, hk⟩ := h1
    have hA1 : sA w1 w.heap.size nilV := (hk.block w.heap.size (by rw [HS.out]; omega) (by simp; omega)).trans HA.out
    have hB1 : sB w1 (w.heap.size + 1) 0 := (hk.block (w.heap.size + 1) (by rw [HS.out]; omega) (by simp)).trans HB.out
    exact fault_leaves _ rfl rfl hA1 hB1 (below_kept HBe.out hk (by simp; omega) (by rw [HS.out]; omega)) (Nat.le_refl _) (by omega) (HX.out _ hq)
  · rw [hq] at h1
    obtain ⟨u, rfl, hls, hk⟩ := h1
    obtain ⟨q1, q2, q3⟩ := hpl _ hq
    have hA1 : sA w1 w.heap.size nilV := (hk.block w.heap.size (by rw [HS.out]; omega) (by simp; omega)).trans HA.out
    have hB1 : sB w1 (w.heap.size + 1) 0 := (hk.block (w.heap.size + 1) (by rw [HS.out]; omega) (by simp)).trans HB.out
    have hb1 : Below w.heap.size w w1 := below_kept HBe.out hk (by simp; omega) (by rw [HS.out]; omega)
    obtain ⟨ua, uc, rfl, _⟩ := hls.slice
    have hA2 : sA (w1.setCell ⟨w.heap.size, 0, none⟩ (.slice ua ls.length uc)) w.heap.size (.slice ua ls.length uc) := by unfold sA; rw [heap_setCell_same _ _ _ _ _ _ hA1]; rfl
    have hB2 : sB (w1.setCell ⟨w.heap.size, 0, none⟩ (.slice ua ls.length uc)) (w.heap.size + 1) 0 := by unfold sB; rw [Below.heap_setCell _ _ _ _ (by simp)]; exact hB1
    have hls2 := hls.kept (Kept.setCell [w.heap.size] w1 ⟨w.heap.size, 0, none⟩ (.slice ua ls.length uc) (by simp)) (by intro i hi; simp at hi; have := HS.out; omega)
    have hb2 : Below w.heap.size w (w1.setCell ⟨w.heap.size, 0, none⟩ (.slice ua ls.length uc)) := hb1.setCell (p := ⟨w.heap.size, 0, none⟩) (Nat.le_refl _) _
    have cA := show w1.cell? ⟨w.heap.size, 0, none⟩ = some (.slice none 0 0) by simp [World.cell?, show w1.heap[w.heap.size]? = _ from hA1]
    have fA := show w1.frozen? ⟨w.heap.size, 0, none⟩ = false by simp [World.frozen?, show w1.heap[w.heap.size]? = _ from hA1]
    have D := print_any (w1.setCell ⟨w.heap.size, 0, none⟩ (.slice ua ls.length uc)) (.slice ua ls.length uc) ls ((HE.out.kept hk (by simp; omega)).kept (Kept.setA w1 w.heap.size 0 _) (by simp; omega)) (hls2.mono (fun q hq _ => hq)) q2 q1 q3
    have HX2 := hid (HX.out _ hq)
    have HA2 := hid hA2
    have HB2 := hid hB2
    have HL2 := hid hls2
    have HBe2 := hid hb2
    clear hA1 hB1 hb1 hls hk hq hA2 hB2 hls2 hb2 HX HC q1 q2 q3 hpl
    go_wp2_with fail
    refine Calls.mono (P := Tryz.prog) (f := 13) (w := w1.setCell ⟨w.heap.size, 0, none⟩ (.slice ua ls.length uc)) D ?_
    rintro e w3 ⟨rfl, hb3⟩
    generalize w1.setCell ⟨w.heap.size, 0, none⟩ (.slice ua ls.length uc) = w2 at *
    have hlA := lt_of_some HA2.out
    have hlB := lt_of_some HB2.out
    have HA3 : Hid (sA w3 w.heap.size (.slice ua ls.length uc)) := (hb3.block _ hlA).trans HA2.out
    have HB3 : Hid (sB w3 (w.heap.size + 1) 0) := (hb3.block _ hlB).trans HB2.out
    have HL3 := hid (HL2.out.later hb3)
    have HBe3 := hid (HBe2.out.trans (hb3.mono (by omega)))
    clear hb3 D hlA hlB
    by_cases heq : printP ls = s
    · have g : ((str (printP ls)).toList == (str s).toList) = true := by rw [toL, toL, beq_iff_eq]; exact heq
      have HO : Hid (parseP s = some ls) := by rw [Hid, HX2.out]; (try simp only); rw [if_pos heq]
      clear heq
      have a0 : w3.cell? ⟨w.heap.size, 0, none⟩ = some (.slice ua ls.length uc) := by simp [World.cell?, show w3.heap[w.heap.size]? = _ from HA3.out]
      have fA3 : w3.frozen? ⟨w.heap.size, 0, none⟩ = false := by simp [World.frozen?, show w3.heap[w.heap.size]? = _ from HA3.out]
      have b0 : w3.cell? ⟨w.heap.size + 1, 0, none⟩ = some (.int .i64 0) := by simp [World.cell?, show w3.heap[w.heap.size + 1]? = _ from HB3.out]
      have fB3 : w3.frozen? ⟨w.heap.size + 1, 0, none⟩ = false := by simp [World.frozen?, show w3.heap[w.heap.size + 1]? = _ from HB3.out]
      go_wp2_with fail
      refine (must_yes _).mono ?_
      rintro e w4 ⟨rfl, rfl⟩
      go_wp2_with fail
      have hA4 : sA (w4.setCell ⟨w.heap.size, 0, none⟩ (.slice ua ls.length uc)) w.heap.size (.slice ua ls.length uc) := by unfold sA; rw [heap_setCell_same _ _ _ _ _ _ HA3.out]; rfl
      have hB4 : sB (w4.setCell ⟨w.heap.size, 0, none⟩ (.slice ua ls.length uc)) (w.heap.size + 1) 0 := by unfold sB; rw [Below.heap_setCell _ _ _ _ (by simp)]; exact HB3.out
      have hL4 := HL3.out.kept ((Kept.setCell [w.heap.size, w.heap.size + 1] w4 ⟨w.heap.size, 0, none⟩ (.slice ua ls.length uc) (by simp)).trans2 (Kept.setCell [w.heap.size, w.heap.size + 1] _ ⟨w.heap.size + 1, 0, none⟩ (.int .i64 0) (by simp))) (by intro i hi; simp at hi; have := HS.out; omega)
      refine idle_leaves _ rfl rfl (w := (w4.setCell ⟨w.heap.size, 0, none⟩ (.slice ua ls.length uc)).setCell ⟨w.heap.size + 1, 0, none⟩ (.int .i64 0)) (v := .slice ua ls.length uc) (ls := ls) ?_ ?_ ?_ (hL4.mono (fun q _ hq => by have := HS.out; omega)) HO.out
      · unfold sA; rw [Below.heap_setCell _ _ _ _ (by simp)]; exact hA4
      · unfold sB; rw [heap_setCell_same _ _ _ _ _ _ hB4]; rfl
      · exact (HBe3.out.setCell (p := ⟨w.heap.size, 0, none⟩) (Nat.le_refl _) _).setCell (p := ⟨w.heap.size + 1, 0, none⟩) (by simp) _
    · have g : ((str (printP ls)).toList == (str s).toList) = false := by rw [toL, toL, beq_eq_false_iff_ne]; exact heq
      have HO : Hid (parseP s = none) := by rw [Hid, HX2.out]; (try simp only); rw [if_neg heq]
      clear heq
      go_wp2_with fail
      refine (must_no _).mono ?_
      rintro e w4 ⟨rfl, rfl⟩
      exact fault_leaves _ rfl rfl HA3.out HB3.out HBe3.out (Nat.le_refl _) (by omega) HO.out
end Go.Proofs.YtpjcpdnolcehcaaGreatDoor
