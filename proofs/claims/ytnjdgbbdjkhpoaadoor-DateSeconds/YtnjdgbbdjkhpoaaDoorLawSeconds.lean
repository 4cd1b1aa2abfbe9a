/- Proved here: which dates are right, how many seconds they are behind the beginning of 1970, and which date is so many behind it, is as the document says (DateSeconds returns true for every input, and leaves its arguments as they were). No condition beyond what the card says: three tables of the library hold what its text lays. -/
import Derived.Test.YtnjdgbbdjkhpoaaDoorCards
import Derived.Test.YtnjdgbbdjkhpoaaDoorTie
import Derived.Test.YtnjdgbbdjkhpoaaDoorOpen
import Derived.Test.YtnjdgbbdjkhpoaaDoorR5
import Derived.ProofKit
import Derived.OpenShut
import Derived.ShutString
import Derived.Below
namespace Go.Proofs.YtnjdgbbdjkhpoaaDoor.dateSeconds
open Go.ChangeShapes Go.WideShapes Go.ChangeAt Go.RowKit
open Go.ChangeMaps (open_string shut_string)
set_option linter.unusedVariables false
set_option linter.unusedSimpArgs false

set_option maxRecDepth 100000 in
set_option maxHeartbeats 4000000 in
theorem walk0 (t r : Dt) (u z : Int) {w : World} (hE : Env w) (hp : ∀ w, Calls Tryd.prog 19 #[.int .i64 u, .int .i64 z] w fun e w' => e = .returned (dtV r) ∧ Below w.heap.size w w') (hr : ∀ w, Calls Tryd.prog 20 #[.int .i64 u, .int .i64 z] w fun e w' => e = .returned (dtV r) ∧ Below w.heap.size w w') :
    Calls Tryd.prog 5 #[dtV t, .int .i64 u, .int .i64 z] w fun e w' => e = .returned (.bool true) ∧ Below w.heap.size w w' := by
  have HE := hid hE
  have HP := hid hp
  have HR := hid hr
  have HA := hid (boxed0 t w)
  have HB : Hid (Below w.heap.size w (w.alloc (.cells (dtL t).toArray 29))) := (Below.refl _ _).alloc (Nat.le_refl _) _
  have C1 := right_any t
  have C2 := rright_any t
  have C3 := unix_any t
  have C4 := runix_any t
  have k := cA_load HA.out
  generalize decide (RightP t) = rb at C1 C2
  generalize unixV t = uv at C3 C4
  clear hE hp hr
  obtain ⟨y, mo, d, h, mi, s, zz⟩ := t
  obtain ⟨ry, rmo, rd, rh, rmi, rs, rz⟩ := r
  unfold dtV dtL at C1 C2 C3 C4 HP HR
  simp only at C1 C2 C3 C4 HP HR
  have HC1 := hid C1
  have HC2 := hid C2
  have HC3 := hid C3
  have HC4 := hid C4
  clear C1 C2 C3 C4
  unfold dtV
  unfold dtL at k ⊢
  simp only at k
  have q0 := k
  go_enter Tryd.func5, Tryd.ntmps5
  go_wp2_with fail
  go_region_held3 (fun w' => w'.cell? ⟨w.heap.size, 0, none⟩ = some (.int .i64 y) ∧ w'.cell? ⟨w.heap.size, 1, none⟩ = some (.int .i64 mo) ∧ w'.cell? ⟨w.heap.size, 2, none⟩ = some (.int .i64 d) ∧ w'.cell? ⟨w.heap.size, 3, none⟩ = some (.int .i64 h) ∧ w'.cell? ⟨w.heap.size, 4, none⟩ = some (.int .i64 mi) ∧ w'.cell? ⟨w.heap.size, 5, none⟩ = some (.int .i64 s) ∧ w'.cell? ⟨w.heap.size, 6, none⟩ = some (.int .i64 zz)) (first | exact q7 | exact q6 | exact q5 | exact q4 | exact q3 | exact q2 | exact q1 | exact q0 | go_keep) (first | (go_at_call 15; refine (HC1.out _).mono ?_; rintro e w1 ⟨rfl, hb1⟩; have hA1 := (hb1.block w.heap.size (by simp)).trans HA.out; have HB1 := HB.out.drew.trans (hb1.mono (by simp)); have q1 := cA_load hA1) | (go_at_call 16; refine (HC2.out _).mono ?_; rintro e w2 ⟨rfl, hb2⟩; have hA2 := (hb2.block w.heap.size (lt_of_some hA1)).trans hA1; have HB2 := HB1.trans (hb2.mono HB1.size); have q2 := cA_load hA2) | (go_at_call 17; refine (HC3.out _).mono ?_; rintro e w3 ⟨rfl, hb3⟩; have hA3 := (hb3.block w.heap.size (lt_of_some hA2)).trans hA2; have HB3 := HB2.trans (hb3.mono HB2.size); have q3 := cA_load hA3) | (go_at_call 18; refine (HC4.out _).mono ?_; rintro e w4 ⟨rfl, hb4⟩; have hA4 := (hb4.block w.heap.size (lt_of_some hA3)).trans hA3; have HB4 := HB3.trans (hb4.mono HB3.size); have q4 := cA_load hA4) | (go_at_call 19; refine (HP.out _).mono ?_; rintro e w5 ⟨rfl, hb5⟩; have hA5 := (hb5.block w.heap.size (lt_of_some hA4)).trans hA4; have HB5 := HB4.trans (hb5.mono HB4.size); have q5 := cA_load hA5) | (go_at_call 20; refine (HR.out _).mono ?_; rintro e w6 ⟨rfl, hb6⟩; have hA6 := (hb6.block w.heap.size (lt_of_some hA5)).trans hA5; have HB6 := HB5.trans (hb6.mono HB5.size); have q6 := cA_load hA6) | (go_at_call 14; refine (alive_any (HE.out.later HB6)).mono ?_; rintro e w7 ⟨rfl, hb7⟩; have hA7 := (hb7.block w.heap.size (lt_of_some hA6)).trans hA6; have HB7 := HB6.trans (hb7.mono HB6.size); have q7 := cA_load hA7))
  go_wp2_with fail
  go_ret
  exact ⟨rfl, HB7⟩
theorem walk (t : Dt) (u z : Int) {w : World} (hE : Env w) (hu : -9223372036854775808 ≤ u ∧ u ≤ 9223372036854775807) (hz : -9223372036854775808 ≤ z ∧ z ≤ 9223372036854775807) :
    Calls Tryd.prog 5 #[dtV t, .int .i64 u, .int .i64 z] w fun e w' => e = .returned (.bool true) ∧ Below w.heap.size w w' := by
  by_cases h : -1439 ≤ z ∧ z ≤ 1439
  · rcases at_or u z h.1 h.2 with ⟨r, hr, _⟩ | hf
    · have hd := day_range hr.there
      rw [hr.no] at hd
      exact walk0 t r u z hE (at_yes u z r hr hu.1 hu.2 h.1 h.2) (rat_yes u z r hr (by omega) (by omega) h.1 h.2)
    · by_cases hu2 : -1000000000000 ≤ u ∧ u ≤ 1000000000000
      · exact walk0 t Dt.zero u z hE (at_far u z hf hu.1 hu.2 h.1 h.2) (rat_far u z hf hu2.1 hu2.2 h.1 h.2)
      · exact walk0 t Dt.zero u z hE (at_far u z hf hu.1 hu.2 h.1 h.2) (rat_out u z (by omega) h.1 h.2)
  · exact walk0 t Dt.zero u z hE (at_off u z (by omega)) (rat_off u z (by omega))

theorem witness (os : Os) {H : Type} (enc : TypeId × Value → H) :
    (OpenSpec.ofChange Rows.dateSecondsSpec).preRow enc Tryd.prog Tryd.f5 Rows.dateSecondsRow.domain false Rows.dateSecondsRow.laid ((laidWorld os).forCall (fun _ _ => 0) ⟨#[], #[.agg #[.int .i64 0, .int .i64 0, .int .i64 0, .int .i64 0, .int .i64 0, .int .i64 0, .int .i64 0], .int .i64 0, .int .i64 0], []⟩).memory #[.agg #[.int .i64 0, .int .i64 0, .int .i64 0, .int .i64 0, .int .i64 0, .int .i64 0, .int .i64 0], .int .i64 0, .int .i64 0] := by
  have hw : (DataW.whole enc Tryd.prog ((laidWorld os).forCall (fun _ _ => 0) ⟨#[], #[.agg #[.int .i64 0, .int .i64 0, .int .i64 0, .int .i64 0, .int .i64 0, .int .i64 0, .int .i64 0], .int .i64 0, .int .i64 0], []⟩).memory Tryd.f5.params.toList Rows.dateSecondsSpec.vars false (#[.agg #[.int .i64 0, .int .i64 0, .int .i64 0, .int .i64 0, .int .i64 0, .int .i64 0, .int .i64 0], .int .i64 0, .int .i64 0] : Array Value).toList 8).map (fun x => (x.1, x.2.1)) =
      some ([.agg [.lit (.int .i64 0), .lit (.int .i64 0), .lit (.int .i64 0), .lit (.int .i64 0), .lit (.int .i64 0), .lit (.int .i64 0), .lit (.int .i64 0)], .lit (.int .i64 0), .lit (.int .i64 0)], []) := by kernel_rfl
  obtain ⟨⟨x1, x2, x3⟩, hx, hx1⟩ := Option.map_eq_some_iff.1 hw
  simp only [Prod.mk.injEq] at hx1
  obtain ⟨rfl, rfl⟩ := hx1
  exact OpenSpec.preRow_of_cond 8 hx (by kernel_rfl) (fun k hk => by cases hk) (by kernel_rfl) (laid_met os _)

set_option maxRecDepth 100000 in
set_option maxHeartbeats 2000000 in
theorem lifted (os : Os) (started : os.Started) (H : Type) (enc : TypeId × Value → H) (F : Stop.Interp) :
    ReturnsInHanded {} Tryd.checked os 5 .any ((OpenSpec.ofChange Rows.dateSecondsSpec).preRow enc Tryd.prog Tryd.f5 Rows.dateSecondsRow.domain false Rows.dateSecondsRow.laid) (((OpenSpec.ofChange Rows.dateSecondsSpec).at F).post enc Tryd.prog Tryd.f5 false true false false) := by
  refine returnsInHanded_of_row (C := Tryd.checked) (s := OpenSpec.ofChange Rows.dateSecondsSpec) own started (by kernel_rfl) Tryd.func5
    (witness_row_atRef (enc := enc) (C := Tryd.checked) false (laidWorld os) #[.agg #[.int .i64 0, .int .i64 0, .int .i64 0, .int .i64 0, .int .i64 0, .int .i64 0, .int .i64 0], .int .i64 0, .int .i64 0] rfl (by kernel_rfl) (by kernel_rfl) (by kernel_rfl) (witness os enc)) ?_
  intro W base args ds gs before hval0 hW _ _ _ hL hsh _
  have hval : ∀ (j : Nat) t v, Tryd.f5.params[j]? = some t → args[j]? = some v → Value.okWide Tryd.prog W .any base t v := hval0
  have hW' := hW
  obtain ⟨p, q, hA0, hV, rfl, hfz, hnd⟩ := hW
  have hA : DataW.TrodAll enc Tryd.prog W 0 (fun _ => true) true Tryd.f5.params.toList args.toList ds p := hA0
  rw [Tryd.params5] at hA hval
  obtain ⟨v0, vs0, d0, ds0, p0, q0, hargs, rfl, rfl, h0, r0⟩ := trodAll_cons hA
  obtain ⟨v1, vs1, d1, ds1, p1, q1, rfl, rfl, rfl, h1, r1⟩ := trodAll_cons r0
  obtain ⟨v2, vs2, d2, ds2, p2, q2, rfl, rfl, rfl, h2, r2⟩ := trodAll_cons r1
  obtain ⟨rfl, rfl, rfl⟩ := trodAll_nil r2
  obtain rfl : args = #[v0, v1, v2] := by cases args; simp_all
  obtain ⟨rfl, rfl⟩ := trodVars_none hV
  obtain ⟨cs0, rfl, sz0⟩ := okWide_struct Tryd.underlying29 (hval 0 29 v0 rfl rfl)
  have lt0 : ∀ x ∈ p0, x.block < W.heap.size := by obtain ⟨m, hm⟩ := h0; exact DataW.trod_lt m _ _ _ hm
  obtain ⟨t0, rfl⟩ : ∃ t, cs0 = (dtL t).toArray := by obtain ⟨fuel, hf⟩ := h0; exact open_date (sz0.trans cells29) hf
  obtain ⟨a1, rfl, rfl, rfl, w1⟩ := open_int Tryd.underlying3 (hval 1 3 v1 rfl rfl) h1
  obtain ⟨a2, rfl, rfl, rfl, w2⟩ := open_int Tryd.underlying3 (hval 2 3 v2 rfl rfl) h2
  clear hA0 hval0
  refine (walk t0 a1 a2 (env_of hL) (bounds_i64 w1) (bounds_i64 w2)).mono ?_
  rintro e W' ⟨rfl, bel⟩
  exact ⟨_, rfl, _, _, _, [], _, [], hW', trodAll_mk1 (shut_bool Tryd.underlying4 _), (trodAll_cons_mk (Below.trod laidOut (by kernel_rfl) (of_decide_eq_true (by kernel_rfl)) h0 bel lt0) (trodAll_cons_mk (shut_int Tryd.underlying3 w1) (trodAll_cons_mk (shut_int Tryd.underlying3 w2) trodAll_mk0))), rfl, bel.frame _, fun h => by cases h⟩

theorem over : Rows.dateSecondsRow.holds Tryd.pinned (OpenSpec.ofChange Rows.dateSecondsSpec) :=
  OpenClaim.holds_of_cond 5 Tryd.f5 rfl rfl rfl rfl rfl rfl rfl ⟨rfl, rfl, rfl, rfl, rfl⟩ rfl rfl rfl rfl rfl (by kernel_rfl) Tryd.func5 (by kernel_rfl)
    (of_decide_eq_true (by kernel_rfl)) (by unfold Func.isWrapper; first | (rw [if_pos (by decide +kernel)]; kernel_rfl) | (rw [if_neg (by decide +kernel)]; exact ⟨rfl, rfl⟩))
    (fun os started H enc _ F => by rw [OpenClaim.pre_eq_preRow]; exact lifted os started H enc F)

/-- No parameter wants a stand-in. -/
theorem plain (f : FuncId) (fn : Func) (hf : Tryd.pinned.checked.prog.funcNamed Rows.dateSecondsRow.func = some f) (hfn : Tryd.pinned.checked.prog.funcs[f]? = some fn) :
    true = Tryd.pinned.checked.prog.looks [] ∧ ∀ (j : Nat) t, fn.params[j]? = some t → Tryd.pinned.checked.prog.wantsStandIn t = false := by
  obtain rfl : f = 5 := Option.some.inj ((show Tryd.prog.funcNamed Rows.dateSecondsRow.func = some 5 by kernel_rfl).symm.trans hf) |>.symm
  obtain rfl : fn = Tryd.f5 := (Option.some.inj (Tryd.func5.symm.trans hfn)).symm
  refine ⟨by kernel_rfl, fun j t ht => ?_⟩
  rw [Tryd.params5] at ht
  have hm := Array.mem_of_getElem? ht
  simp only [List.mem_toArray, List.mem_cons, List.not_mem_nil, or_false, or_self] at hm
  rcases hm with rfl | rfl
  · exact (show Tryd.prog.wantsStandIn 29 = false by kernel_rfl)
  · exact (show Tryd.prog.wantsStandIn 3 = false by kernel_rfl)
end Go.Proofs.YtnjdgbbdjkhpoaaDoor.dateSeconds
namespace Go.Proofs.YtnjdgbbdjkhpoaaDoor
/-- THE STATEMENT. -/
theorem dateSeconds_holds : Rows.DateSecondsCardSaid :=
  Claim7.holds_tied_plain_at .later [] _ _ _ _ dateSeconds.over (fun _ h => by cases h) (by kernel_rfl) (fun _ h => by cases h) dateSeconds_row_tie rfl ⟨rfl, rfl⟩ (by kernel_rfl) rfl dateSeconds.plain (by kernel_rfl)
#print axioms dateSeconds_holds
end Go.Proofs.YtnjdgbbdjkhpoaaDoor
