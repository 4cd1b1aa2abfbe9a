/- Proved here: every date's text, and every text's date, as the server keeps them, is as the document says (DatePrints returns true for every input, and leaves its arguments as they were). No condition beyond what the card says: three tables of the library hold what its text lays. -/
import Derived.Test.YtnjdgbbdjkhpoaaDoorCards
import Derived.Test.YtnjdgbbdjkhpoaaDoorTie
import Derived.Test.YtnjdgbbdjkhpoaaDoorOpen
import Derived.Test.YtnjdgbbdjkhpoaaDoorP1
import Derived.ProofKit
import Derived.OpenShut
import Derived.ShutString
import Derived.Below
namespace Go.Proofs.YtnjdgbbdjkhpoaaDoor.datePrints
open Go.ChangeShapes Go.WideShapes Go.ChangeAt Go.RowKit
open Go.ChangeMaps (open_string shut_string)
set_option linter.unusedVariables false
set_option linter.unusedSimpArgs false

theorem all3 {w : World} {A B C : Nat} {t r : Dt} (hA : w.heap[A]? = some (.cells (dtL t).toArray 29 (0, 0))) (hB : w.heap[B]? = some (.cells (dtL r).toArray 29 (0, 0))) (hC : w.heap[C]? = some (.cells (dtL r).toArray 29 (0, 0))) :
    w.cell? ⟨A, 0, none⟩ = some (.int .i64 t.y) ∧ w.cell? ⟨A, 1, none⟩ = some (.int .i64 t.mo) ∧ w.cell? ⟨A, 2, none⟩ = some (.int .i64 t.d) ∧ w.cell? ⟨A, 3, none⟩ = some (.int .i64 t.h) ∧ w.cell? ⟨A, 4, none⟩ = some (.int .i64 t.mi) ∧ w.cell? ⟨A, 5, none⟩ = some (.int .i64 t.s) ∧ w.cell? ⟨A, 6, none⟩ = some (.int .i64 t.z) ∧ w.cell? ⟨B, 0, none⟩ = some (.int .i64 r.y) ∧ w.cell? ⟨B, 1, none⟩ = some (.int .i64 r.mo) ∧ w.cell? ⟨B, 2, none⟩ = some (.int .i64 r.d) ∧ w.cell? ⟨B, 3, none⟩ = some (.int .i64 r.h) ∧ w.cell? ⟨B, 4, none⟩ = some (.int .i64 r.mi) ∧ w.cell? ⟨B, 5, none⟩ = some (.int .i64 r.s) ∧ w.cell? ⟨B, 6, none⟩ = some (.int .i64 r.z) ∧ w.cell? ⟨C, 0, none⟩ = some (.int .i64 r.y) ∧ w.cell? ⟨C, 1, none⟩ = some (.int .i64 r.mo) ∧ w.cell? ⟨C, 2, none⟩ = some (.int .i64 r.d) ∧ w.cell? ⟨C, 3, none⟩ = some (.int .i64 r.h) ∧ w.cell? ⟨C, 4, none⟩ = some (.int .i64 r.mi) ∧ w.cell? ⟨C, 5, none⟩ = some (.int .i64 r.s) ∧ w.cell? ⟨C, 6, none⟩ = some (.int .i64 r.z) := by
  obtain ⟨a0, a1, a2, a3, a4, a5, a6⟩ := cA_load hA
  obtain ⟨b0, b1, b2, b3, b4, b5, b6⟩ := cA_load hB
  obtain ⟨c0, c1, c2, c3, c4, c5, c6⟩ := cA_load hC
  exact ⟨a0, a1, a2, a3, a4, a5, a6, b0, b1, b2, b3, b4, b5, b6, c0, c1, c2, c3, c4, c5, c6⟩
theorem readV_is (o : Option Dt) : readV o = .tuple #[.agg #[.int .i64 (ansT o).y, .int .i64 (ansT o).mo, .int .i64 (ansT o).d, .int .i64 (ansT o).h, .int .i64 (ansT o).mi, .int .i64 (ansT o).s, .int .i64 (ansT o).z], .int .i64 (ansE o)] := by cases o <;> rfl

set_option maxRecDepth 100000 in
set_option maxHeartbeats 8000000 in
theorem walk (t : Dt) (a : ByteArray) {w : World} (hE : Env w) (ha : a.size ≤ maxLen) :
    Calls Tryd.prog 6 #[dtV t, .string a] w fun e w' => e = .returned (.bool true) ∧ Below w.heap.size w w' := by
  obtain ⟨x, rfl⟩ : ∃ x, a = str x := ⟨a.data.toList, (str_of a).symm⟩
  unfold maxLen at ha
  have hx := str_size x
  rw [hx] at ha
  have HE := hid hE
  have HA := hid (boxed0 t w)
  have HB : Hid (Below w.heap.size w (w.alloc (.cells (dtL t).toArray 29))) := (Below.refl _ _).alloc (Nat.le_refl _) _
  have hk := cA_load HA.out
  have hdt : dtV t = .agg #[.int .i64 t.y, .int .i64 t.mo, .int .i64 t.d, .int .i64 t.h, .int .i64 t.mi, .int .i64 t.s, .int .i64 t.z] := rfl
  have HPR : Hid (∀ w, Env w → Calls Tryd.prog 23 #[dtV t] w fun e w' => e = .returned (.string (str (printV t))) ∧ Below w.heap.size w w') := fun w h => print_any t h
  have HRP := hid (rprint_any t)
  rw [hdt] at HPR HRP ⊢
  obtain ⟨k0, k1, k2, k3, k4, k5, k6⟩ := hk
  clear hE hdt
  by_cases g0 : (2000 : Int) < x.length
  · go_enter Tryd.func6, Tryd.ntmps6
    go_wp2_with fail
    refine (alive_any (HE.out.later HB.out)).mono ?_
    rintro e w1 ⟨rfl, hb⟩
    have HB1 := hid (HB.out.trans (hb.mono HB.out.size))
    clear hb
    go_wp2_with fail
    go_ret
    exact ⟨rfl, HB1.out⟩
  have CI := internals_any x (by omega) (HE.out.later HB.out)
  have CR := rinternal_any x (by omega)
  rw [rint_eq] at CR
  rw [readV_is] at CI CR
  generalize ansT (internalV x) = r at CI CR
  generalize ansE (internalV x) = ev at CI CR
  have HCI := hid CI
  have HCR := hid CR
  have hq : ((str (printV t)).toList == (str (printV t)).toList) = true := by simp
  have hv : (ev == ev) = true := by simp
  clear CI CR
  go_enter Tryd.func6, Tryd.ntmps6
  go_wp2_with fail
  refine HCI.out.mono ?_
  rintro e w1 ⟨rfl, hb⟩
  have HL1 := hid ((hb.block w.heap.size (by simp)).trans HA.out)
  have HB1 := hid ((HB.out.trans (hb.mono HB.out.size)).alloc (by have := HB.out.size; have := hb.size; omega) (.cells (dtL r).toArray 29))
  have HA2 : Hid ((w1.alloc (.cells (dtL r).toArray 29)).heap[w.heap.size]? = some (.cells (dtL t).toArray 29 (0, 0))) := (Below.heap_alloc _ _ _ (lt_of_some HL1.out)).trans HL1.out
  have HX2 := hid (boxed0 r w1)
  clear hb HCI k0 k1 k2 k3 k4 k5 k6
  go_wp2_with fail
  refine (HCR.out _).mono ?_
  rintro e w3 ⟨rfl, hb⟩
  have HL3 := hid ((hb.block w.heap.size (lt_of_some HA2.out)).trans HA2.out)
  have HM3 := hid ((hb.block w1.heap.size (lt_of_some HX2.out)).trans HX2.out)
  have HB3 := hid ((HB1.out.trans (hb.mono HB1.out.size)).alloc (HB1.out.trans (hb.mono HB1.out.size)).size (.cells (dtL r).toArray 29))
  have HA4 : Hid ((w3.alloc (.cells (dtL r).toArray 29)).heap[w.heap.size]? = some (.cells (dtL t).toArray 29 (0, 0))) := (Below.heap_alloc _ _ _ (lt_of_some HL3.out)).trans HL3.out
  have HX4 : Hid ((w3.alloc (.cells (dtL r).toArray 29)).heap[w1.heap.size]? = some (.cells (dtL r).toArray 29 (0, 0))) := (Below.heap_alloc _ _ _ (lt_of_some HM3.out)).trans HM3.out
  have HY4 := hid (boxed0 r w3)
  have hlA := lt_of_some HL3.out
  have hlX := lt_of_some HM3.out
  have q0 := all3 HA4.out HX4.out HY4.out
  have hAc : ((w3.alloc (.cells (dtL r).toArray 29)).drew).heap[w.heap.size]? = some (.cells (dtL t).toArray 29 (0, 0)) := HA4.out
  have hXc : ((w3.alloc (.cells (dtL r).toArray 29)).drew).heap[w1.heap.size]? = some (.cells (dtL r).toArray 29 (0, 0)) := HX4.out
  have hYc : ((w3.alloc (.cells (dtL r).toArray 29)).drew).heap[w3.heap.size]? = some (.cells (dtL r).toArray 29 (0, 0)) := HY4.out
  have HBc : Below w.heap.size w ((w3.alloc (.cells (dtL r).toArray 29)).drew) := HB3.out.drew
  have qc := q0
  clear hb HCR
  go_wp2_with fail
  go_region_held3 (fun w' => w'.cell? ⟨w.heap.size, 0, none⟩ = some (.int .i64 t.y) ∧ w'.cell? ⟨w.heap.size, 1, none⟩ = some (.int .i64 t.mo) ∧ w'.cell? ⟨w.heap.size, 2, none⟩ = some (.int .i64 t.d) ∧ w'.cell? ⟨w.heap.size, 3, none⟩ = some (.int .i64 t.h) ∧ w'.cell? ⟨w.heap.size, 4, none⟩ = some (.int .i64 t.mi) ∧ w'.cell? ⟨w.heap.size, 5, none⟩ = some (.int .i64 t.s) ∧ w'.cell? ⟨w.heap.size, 6, none⟩ = some (.int .i64 t.z) ∧ w'.cell? ⟨w1.heap.size, 0, none⟩ = some (.int .i64 r.y) ∧ w'.cell? ⟨w1.heap.size, 1, none⟩ = some (.int .i64 r.mo) ∧ w'.cell? ⟨w1.heap.size, 2, none⟩ = some (.int .i64 r.d) ∧ w'.cell? ⟨w1.heap.size, 3, none⟩ = some (.int .i64 r.h) ∧ w'.cell? ⟨w1.heap.size, 4, none⟩ = some (.int .i64 r.mi) ∧ w'.cell? ⟨w1.heap.size, 5, none⟩ = some (.int .i64 r.s) ∧ w'.cell? ⟨w1.heap.size, 6, none⟩ = some (.int .i64 r.z) ∧ w'.cell? ⟨w3.heap.size, 0, none⟩ = some (.int .i64 r.y) ∧ w'.cell? ⟨w3.heap.size, 1, none⟩ = some (.int .i64 r.mo) ∧ w'.cell? ⟨w3.heap.size, 2, none⟩ = some (.int .i64 r.d) ∧ w'.cell? ⟨w3.heap.size, 3, none⟩ = some (.int .i64 r.h) ∧ w'.cell? ⟨w3.heap.size, 4, none⟩ = some (.int .i64 r.mi) ∧ w'.cell? ⟨w3.heap.size, 5, none⟩ = some (.int .i64 r.s) ∧ w'.cell? ⟨w3.heap.size, 6, none⟩ = some (.int .i64 r.z)) (first | exact qc | exact q0 | go_keep) (first | (go_at_call 25; refine (no_any _ _).mono ?_; rintro e wn ⟨rfl, rfl⟩) | (go_at_call 23; refine (HPR.out _ (HE.out.later HBc)).mono ?_; rintro e wk ⟨rfl, hb⟩; have hAc := (hb.block w.heap.size (lt_of_some hAc)).trans hAc; have hXc := (hb.block w1.heap.size (lt_of_some hXc)).trans hXc; have hYc := (hb.block w3.heap.size (lt_of_some hYc)).trans hYc; have HBc := HBc.trans (hb.mono HBc.size); have qc := all3 hAc hXc hYc; clear hb) | (go_at_call 24; refine (HRP.out _).mono ?_; rintro e wk ⟨rfl, hb⟩; have hAc := (hb.block w.heap.size (lt_of_some hAc)).trans hAc; have hXc := (hb.block w1.heap.size (lt_of_some hXc)).trans hXc; have hYc := (hb.block w3.heap.size (lt_of_some hYc)).trans hYc; have HBc := HBc.trans (hb.mono HBc.size); have qc := all3 hAc hXc hYc; clear hb) | (go_at_call 14; refine (alive_any (HE.out.later HBc)).mono ?_; rintro e wk ⟨rfl, hb⟩; have hAc := (hb.block w.heap.size (lt_of_some hAc)).trans hAc; have hXc := (hb.block w1.heap.size (lt_of_some hXc)).trans hXc; have hYc := (hb.block w3.heap.size (lt_of_some hYc)).trans hYc; have HBc := HBc.trans (hb.mono HBc.size); have qc := all3 hAc hXc hYc; clear hb))
  go_wp2_with fail
  go_ret
  exact ⟨rfl, HBc⟩

theorem witness (os : Os) {H : Type} (enc : TypeId × Value → H) :
    (OpenSpec.ofChange Rows.datePrintsSpec).preRow enc Tryd.prog Tryd.f6 Rows.datePrintsRow.domain false Rows.datePrintsRow.laid ((laidWorld os).forCall (fun _ _ => 0) ⟨#[], #[.agg #[.int .i64 0, .int .i64 0, .int .i64 0, .int .i64 0, .int .i64 0, .int .i64 0, .int .i64 0], .string ⟨#[]⟩], []⟩).memory #[.agg #[.int .i64 0, .int .i64 0, .int .i64 0, .int .i64 0, .int .i64 0, .int .i64 0, .int .i64 0], .string ⟨#[]⟩] := by
  have hw : (DataW.whole enc Tryd.prog ((laidWorld os).forCall (fun _ _ => 0) ⟨#[], #[.agg #[.int .i64 0, .int .i64 0, .int .i64 0, .int .i64 0, .int .i64 0, .int .i64 0, .int .i64 0], .string ⟨#[]⟩], []⟩).memory Tryd.f6.params.toList Rows.datePrintsSpec.vars false (#[.agg #[.int .i64 0, .int .i64 0, .int .i64 0, .int .i64 0, .int .i64 0, .int .i64 0, .int .i64 0], .string ⟨#[]⟩] : Array Value).toList 8).map (fun x => (x.1, x.2.1)) =
      some ([.agg [.lit (.int .i64 0), .lit (.int .i64 0), .lit (.int .i64 0), .lit (.int .i64 0), .lit (.int .i64 0), .lit (.int .i64 0), .lit (.int .i64 0)], .lit (.string [])], []) := by kernel_rfl
  obtain ⟨⟨x1, x2, x3⟩, hx, hx1⟩ := Option.map_eq_some_iff.1 hw
  simp only [Prod.mk.injEq] at hx1
  obtain ⟨rfl, rfl⟩ := hx1
  exact OpenSpec.preRow_of_cond 8 hx (by kernel_rfl) (fun k hk => by cases hk) (by kernel_rfl) (laid_met os _)

set_option maxRecDepth 100000 in
set_option maxHeartbeats 2000000 in
theorem lifted (os : Os) (started : os.Started) (H : Type) (enc : TypeId × Value → H) (F : Stop.Interp) :
    ReturnsInHanded {} Tryd.checked os 6 .any ((OpenSpec.ofChange Rows.datePrintsSpec).preRow enc Tryd.prog Tryd.f6 Rows.datePrintsRow.domain false Rows.datePrintsRow.laid) (((OpenSpec.ofChange Rows.datePrintsSpec).at F).post enc Tryd.prog Tryd.f6 false true false false) := by
  refine returnsInHanded_of_row (C := Tryd.checked) (s := OpenSpec.ofChange Rows.datePrintsSpec) own started (by kernel_rfl) Tryd.func6
    (witness_row_atRef (enc := enc) (C := Tryd.checked) false (laidWorld os) #[.agg #[.int .i64 0, .int .i64 0, .int .i64 0, .int .i64 0, .int .i64 0, .int .i64 0, .int .i64 0], .string ⟨#[]⟩] rfl (by kernel_rfl) (by kernel_rfl) (by kernel_rfl) (witness os enc)) ?_
  intro W base args ds gs before hval0 hW _ _ _ hL hsh _
  have hval : ∀ (j : Nat) t v, Tryd.f6.params[j]? = some t → args[j]? = some v → Value.okWide Tryd.prog W .any base t v := hval0
  have hW' := hW
  obtain ⟨p, q, hA0, hV, rfl, hfz, hnd⟩ := hW
  have hA : DataW.TrodAll enc Tryd.prog W 0 (fun _ => true) true Tryd.f6.params.toList args.toList ds p := hA0
  rw [Tryd.params6] at hA hval
  obtain ⟨v0, vs0, d0, ds0, p0, q0, hargs, rfl, rfl, h0, r0⟩ := trodAll_cons hA
  obtain ⟨v1, vs1, d1, ds1, p1, q1, rfl, rfl, rfl, h1, r1⟩ := trodAll_cons r0
  obtain ⟨rfl, rfl, rfl⟩ := trodAll_nil r1
  obtain rfl : args = #[v0, v1] := by cases args; simp_all
  obtain ⟨rfl, rfl⟩ := trodVars_none hV
  obtain ⟨cs0, rfl, sz0⟩ := okWide_struct Tryd.underlying29 (hval 0 29 v0 rfl rfl)
  have lt0 : ∀ x ∈ p0, x.block < W.heap.size := by obtain ⟨m, hm⟩ := h0; exact DataW.trod_lt m _ _ _ hm
  obtain ⟨t0, rfl⟩ : ∃ t, cs0 = (dtL t).toArray := by obtain ⟨fuel, hf⟩ := h0; exact open_date (sz0.trans cells29) hf
  obtain ⟨a1, rfl, rfl, rfl, w1⟩ := open_string Tryd.underlying9 (hval 1 9 v1 rfl rfl) h1
  clear hA0 hval0
  refine (walk t0 a1 (env_of hL) w1).mono ?_
  rintro e W' ⟨rfl, bel⟩
  exact ⟨_, rfl, _, _, _, [], _, [], hW', trodAll_mk1 (shut_bool Tryd.underlying4 _), (trodAll_cons_mk (Below.trod laidOut (by kernel_rfl) (of_decide_eq_true (by kernel_rfl)) h0 bel lt0) (trodAll_cons_mk (shut_string Tryd.underlying9 w1) trodAll_mk0)), rfl, bel.frame _, fun h => by cases h⟩

theorem over : Rows.datePrintsRow.holds Tryd.pinned (OpenSpec.ofChange Rows.datePrintsSpec) :=
  OpenClaim.holds_of_cond 6 Tryd.f6 rfl rfl rfl rfl rfl rfl rfl ⟨rfl, rfl, rfl, rfl, rfl⟩ rfl rfl rfl rfl rfl (by kernel_rfl) Tryd.func6 (by kernel_rfl)
    (of_decide_eq_true (by kernel_rfl)) (by unfold Func.isWrapper; first | (rw [if_pos (by decide +kernel)]; kernel_rfl) | (rw [if_neg (by decide +kernel)]; exact ⟨rfl, rfl⟩))
    (fun os started H enc _ F => by rw [OpenClaim.pre_eq_preRow]; exact lifted os started H enc F)

/-- No parameter wants a stand-in. -/
theorem plain (f : FuncId) (fn : Func) (hf : Tryd.pinned.checked.prog.funcNamed Rows.datePrintsRow.func = some f) (hfn : Tryd.pinned.checked.prog.funcs[f]? = some fn) :
    true = Tryd.pinned.checked.prog.looks [] ∧ ∀ (j : Nat) t, fn.params[j]? = some t → Tryd.pinned.checked.prog.wantsStandIn t = false := by
  obtain rfl : f = 6 := Option.some.inj ((show Tryd.prog.funcNamed Rows.datePrintsRow.func = some 6 by kernel_rfl).symm.trans hf) |>.symm
  obtain rfl : fn = Tryd.f6 := (Option.some.inj (Tryd.func6.symm.trans hfn)).symm
  refine ⟨by kernel_rfl, fun j t ht => ?_⟩
  rw [Tryd.params6] at ht
  have hm := Array.mem_of_getElem? ht
  simp only [List.mem_toArray, List.mem_cons, List.not_mem_nil, or_false, or_self] at hm
  rcases hm with rfl | rfl
  · exact (show Tryd.prog.wantsStandIn 29 = false by kernel_rfl)
  · exact (show Tryd.prog.wantsStandIn 9 = false by kernel_rfl)
end Go.Proofs.YtnjdgbbdjkhpoaaDoor.datePrints
namespace Go.Proofs.YtnjdgbbdjkhpoaaDoor
/-- THE STATEMENT. -/
theorem datePrints_holds : Rows.DatePrintsCardSaid :=
  Claim7.holds_tied_plain_at .later [] _ _ _ _ datePrints.over (fun _ h => by cases h) (by kernel_rfl) (fun _ h => by cases h) datePrints_row_tie rfl ⟨rfl, rfl⟩ (by kernel_rfl) rfl datePrints.plain (by kernel_rfl)
#print axioms datePrints_holds
end Go.Proofs.YtnjdgbbdjkhpoaaDoor
