/- Proved here: the bytes of any command are as the document says (WireBytes returns true for every input, and leaves its arguments as they were). No condition beyond what the card says: five tables and two errors of the library hold what its text lays. -/
import Derived.Test.YtikcbgoocljgnaaDoorCards
import Derived.Test.YtikcbgoocljgnaaDoorTie
import Derived.Test.YtikcbgoocljgnaaDoorOpen
import Derived.Test.YtikcbgoocljgnaaDoorD2
import Derived.Test.YtikcbgoocljgnaaDoorL1
import Derived.ProofKit
import Derived.OpenShut
import Derived.ShutString
import Derived.Below
namespace Go.Proofs.YtikcbgoocljgnaaDoor.wireBytes
open Go.ChangeShapes Go.WideShapes Go.ChangeAt Go.RowKit
open Go.ChangeMaps (open_string shut_string)
set_option linter.unusedVariables false
set_option linter.unusedSimpArgs false

set_option maxRecDepth 100000 in
set_option maxHeartbeats 4000000 in
theorem walk {w : World} (vt vl : Value) (T L : List Bs) (h : RawOk w vt vl T L) (hE : Env w) : Calls Tryd.prog 4 #[.agg #[vt, vl]] w fun e w' => e = .returned (.bool true) ∧ Below w.heap.size w w' := by
  obtain ⟨hT, hL, hTs, hLs⟩ := h
  have hal : Below w.heap.size w (w.alloc (.cells #[vt, vl] 36)) := (Below.refl _ _).alloc (Nat.le_refl _) _
  have hrow := heap_alloc_new w (.cells #[vt, vl] 36)
  have r0 := row_at hrow 0 (v := vt) rfl
  have r1 := row_at hrow 1 (v := vl) rfl
  have hmx : maxLen ≤ 9223372036854775807 := by decide
  have CF := few_any (hT.later hal) (hL.later hal) (fun s hs => Nat.le_trans (hTs s hs) hmx) (fun s hs => Nat.le_trans (hLs s hs) hmx)
  have HF := hid CF
  have HB := hid hal
  have HT := hid hT
  have HL := hid hL
  have HE := hid hE
  obtain ⟨a0, c0, hv0, _⟩ := id hT
  obtain ⟨a1, c1, hv1, _⟩ := id hL
  subst hv0 hv1
  clear CF hal hrow hT hL hTs hLs hE
  go_enter Tryd.func4, Tryd.ntmps4
  go_wp2_with fail
  refine HF.out.mono ?_
  rintro e w1 ⟨r, rfl, hr, hb1⟩
  have HB1 := hid (HB.out.trans (hb1.mono HB.out.size))
  have hz : w.heap.size < (w.alloc (.cells #[.slice a0 T.length c0, .slice a1 L.length c1] 36)).heap.size := by simp
  have r0' := Below.cell hb1 r0 (by exact hz)
  have r1' := Below.cell hb1 r1 (by exact hz)
  have hz1 : w.heap.size < w1.heap.size := Nat.lt_of_lt_of_le hz hb1.size
  clear hb1 r0 r1 HF HB
  cases r with
  | false =>
    clear hr
    go_wp2_with fail
    refine (alive_ok w1).mono ?_
    rintro e w2 ⟨rfl, hb2⟩
    have HB2 := hid (HB1.out.trans (hb2.mono HB1.out.size))
    clear hb2
    go_wp2_with fail
    go_ret
    exact ⟨rfl, HB2.out⟩
  | true =>
    obtain ⟨h1, h2, h3⟩ := hr rfl
    have C1 : Hid (∀ W, Below w1.heap.size w1 W → Calls Tryd.prog 16 #[.agg #[.slice a0 T.length c0, .slice a1 L.length c1]] W (TxtIs (cmdB T L) W)) := fun W hW => bytes_any ((HE.out.later HB1.out).later hW) ((HT.out.later HB1.out).later hW) ((HL.out.later HB1.out).later hW) (by omega) (by omega) (by omega) (by omega)
    have C2 : Hid (∀ W, Below w1.heap.size w1 W → Calls Tryd.prog 17 #[.agg #[.slice a0 T.length c0, .slice a1 L.length c1]] W (TxtIs (cmdB T L) W)) := fun W hW => rbytes_any ((HT.out.later HB1.out).later hW) ((HL.out.later HB1.out).later hW) (by omega) (by omega) (by omega) (by omega)
    have q0 : ((str (cmdB T L)).toList == (str (cmdB T L)).toList) = true := by simp
    unfold TxtIs at C1 C2
    generalize cmdB T L = cm at *
    have HDr : Hid (Below w1.heap.size w1 w1.drew) := drewN_below w1 1 _
    clear HE HT HL hr h1 h2 h3
    go_wp2_with fail
    go_region_held3 (fun w' => w'.cell? ⟨w.heap.size, 0, none⟩ = some (.slice a0 T.length c0) ∧ w'.cell? ⟨w.heap.size, 1, none⟩ = some (.slice a1 L.length c1)) (first | exact ⟨r0', r1'⟩ | exact ⟨x5, y5⟩ | exact ⟨x6, y6⟩ | exact ⟨x7, y7⟩ | go_keep) ((first | (go_at_call 16; refine (C1.out _ HDr.out).mono ?_; rintro e w5 ⟨rfl, hb5⟩; have hb5' := HDr.out.trans hb5; have x5 := Below.cell hb5' r0' (by exact hz1); have y5 := Below.cell hb5' r1' (by exact hz1)) | (go_at_call 17; refine (C2.out _ hb5').mono ?_; rintro e w6 ⟨rfl, hb6⟩; have hb6' := hb5'.trans (hb6.mono hb5'.size); have x6 := Below.cell hb6' r0' (by exact hz1); have y6 := Below.cell hb6' r1' (by exact hz1)) | (go_at_call 10; refine (alive_ok _).mono ?_; rintro e w7 ⟨rfl, hb7⟩; have hb7' := hb6'.trans (hb7.mono hb6'.size); have x7 := Below.cell hb7' r0' (by exact hz1); have y7 := Below.cell hb7' r1' (by exact hz1))))
    all_goals
      go_wp2_with fail
      go_ret
      exact ⟨rfl, HB1.out.trans (hb7'.mono HB1.out.size)⟩

theorem witness (os : Os) {H : Type} (enc : TypeId × Value → H) :
    (OpenSpec.ofChange Rows.wireBytesSpec).preRow enc Tryd.prog Tryd.f4 Rows.wireBytesRow.domain false Rows.wireBytesRow.laid ((laidWorld os).forCall (fun _ _ => 0) ⟨#[], #[.agg #[.slice none 0 0, .slice none 0 0]], []⟩).memory #[.agg #[.slice none 0 0, .slice none 0 0]] := by
  have hw : (DataW.whole enc Tryd.prog ((laidWorld os).forCall (fun _ _ => 0) ⟨#[], #[.agg #[.slice none 0 0, .slice none 0 0]], []⟩).memory Tryd.f4.params.toList Rows.wireBytesSpec.vars false (#[.agg #[.slice none 0 0, .slice none 0 0]] : Array Value).toList 8).map (fun x => (x.1, x.2.1)) =
      some ([.agg [.nil, .nil]], []) := by kernel_rfl
  obtain ⟨⟨x1, x2, x3⟩, hx, hx1⟩ := Option.map_eq_some_iff.1 hw
  simp only [Prod.mk.injEq] at hx1
  obtain ⟨rfl, rfl⟩ := hx1
  exact OpenSpec.preRow_of_cond 8 hx (by kernel_rfl) (fun k hk => by cases hk) (by kernel_rfl) (laid_met os _)

set_option maxRecDepth 100000 in
set_option maxHeartbeats 2000000 in
theorem lifted (os : Os) (started : os.Started) (H : Type) (enc : TypeId × Value → H) (F : Stop.Interp) :
    ReturnsInHanded {} Tryd.checked os 4 .any ((OpenSpec.ofChange Rows.wireBytesSpec).preRow enc Tryd.prog Tryd.f4 Rows.wireBytesRow.domain false Rows.wireBytesRow.laid) (((OpenSpec.ofChange Rows.wireBytesSpec).at F).post enc Tryd.prog Tryd.f4 false true false false) := by
  refine returnsInHanded_of_row (C := Tryd.checked) (s := OpenSpec.ofChange Rows.wireBytesSpec) own started (by kernel_rfl) Tryd.func4
    (witness_row_atRef (enc := enc) (C := Tryd.checked) false (laidWorld os) #[.agg #[.slice none 0 0, .slice none 0 0]] rfl (by kernel_rfl) (by kernel_rfl) (by kernel_rfl) (witness os enc)) ?_
  intro W base args ds gs before hval0 hW _ _ _ hL hsh _
  have hval : ∀ (j : Nat) t v, Tryd.f4.params[j]? = some t → args[j]? = some v → Value.okWide Tryd.prog W .any base t v := hval0
  have hW' := hW
  obtain ⟨p, q, hA0, hV, rfl, hfz, hnd⟩ := hW
  have hA : DataW.TrodAll enc Tryd.prog W 0 (fun _ => true) true Tryd.f4.params.toList args.toList ds p := hA0
  rw [Tryd.params4] at hA hval
  obtain ⟨v0, vs0, d0, ds0, p0, q0, hargs, rfl, rfl, h0, r0⟩ := trodAll_cons hA
  obtain ⟨rfl, rfl, rfl⟩ := trodAll_nil r0
  obtain rfl : args = #[v0] := by cases args; simp_all
  obtain ⟨rfl, rfl⟩ := trodVars_none hV
  obtain ⟨cs0, rfl, sz0⟩ := okWide_struct Tryd.underlying36 (hval 0 36 v0 rfl rfl)
  have lt0 : ∀ x ∈ p0, x.block < W.heap.size := by obtain ⟨m, hm⟩ := h0; exact DataW.trod_lt m _ _ _ hm
  obtain ⟨vt0, vl0, T0, L0, rfl, hl0⟩ : ∃ vt vl T L, cs0 = #[vt, vl] ∧ RawOk W vt vl T L := by obtain ⟨fuel, hf⟩ := h0; exact open_raw (sz0.trans cells36) hf
  clear hA0 hval0
  refine (walk vt0 vl0 T0 L0 hl0 (env_of hL) ).mono ?_
  rintro e W' ⟨rfl, bel⟩
  exact ⟨_, rfl, _, _, _, [], _, [], hW', trodAll_mk1 (shut_bool Tryd.underlying4 _), (trodAll_cons_mk (Below.trod laidOut (by kernel_rfl) (of_decide_eq_true (by kernel_rfl)) h0 bel lt0) trodAll_mk0), rfl, bel.frame _, fun h => by cases h⟩

theorem over : Rows.wireBytesRow.holds Tryd.pinned (OpenSpec.ofChange Rows.wireBytesSpec) :=
  OpenClaim.holds_of_cond 4 Tryd.f4 rfl rfl rfl rfl rfl rfl rfl ⟨rfl, rfl, rfl, rfl, rfl⟩ rfl rfl rfl rfl rfl (by kernel_rfl) Tryd.func4 (by kernel_rfl)
    (of_decide_eq_true (by kernel_rfl)) (by unfold Func.isWrapper; first | (rw [if_pos (by decide +kernel)]; kernel_rfl) | (rw [if_neg (by decide +kernel)]; exact ⟨rfl, rfl⟩))
    (fun os started H enc _ F => by rw [OpenClaim.pre_eq_preRow]; exact lifted os started H enc F)

/-- No parameter wants a stand-in. -/
theorem plain (f : FuncId) (fn : Func) (hf : Tryd.pinned.checked.prog.funcNamed Rows.wireBytesRow.func = some f) (hfn : Tryd.pinned.checked.prog.funcs[f]? = some fn) :
    true = Tryd.pinned.checked.prog.looks [] ∧ ∀ (j : Nat) t, fn.params[j]? = some t → Tryd.pinned.checked.prog.wantsStandIn t = false := by
  obtain rfl : f = 4 := Option.some.inj ((show Tryd.prog.funcNamed Rows.wireBytesRow.func = some 4 by kernel_rfl).symm.trans hf) |>.symm
  obtain rfl : fn = Tryd.f4 := (Option.some.inj (Tryd.func4.symm.trans hfn)).symm
  refine ⟨by kernel_rfl, fun j t ht => ?_⟩
  rw [Tryd.params4] at ht
  have hm := Array.mem_of_getElem? ht
  simp only [List.mem_toArray, List.mem_cons, List.not_mem_nil, or_false, or_self] at hm
  rcases hm with rfl
  · exact (show Tryd.prog.wantsStandIn 36 = false by kernel_rfl)
end Go.Proofs.YtikcbgoocljgnaaDoor.wireBytes
namespace Go.Proofs.YtikcbgoocljgnaaDoor
/-- THE STATEMENT. -/
theorem wireBytes_holds : Rows.WireBytesCardSaid :=
  Claim7.holds_tied_plain_at .later [] _ _ _ _ wireBytes.over (fun _ h => by cases h) (by kernel_rfl) (fun _ h => by cases h) wireBytes_row_tie rfl ⟨rfl, rfl⟩ (by kernel_rfl) rfl wireBytes.plain (by kernel_rfl)
#print axioms wireBytes_holds
end Go.Proofs.YtikcbgoocljgnaaDoor
