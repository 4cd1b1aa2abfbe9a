/- Proved here: the text of any set, and whether it is right, is as the document says (SeqsetPrints returns true for every input, and leaves its arguments as they were). No condition beyond what the card says: three tables and two errors of the library hold what its text lays. -/
import Derived.Test.YtiiegjdclpkeeaaGreatDoorCards
import Derived.Test.YtiiegjdclpkeeaaGreatDoorTie
import Derived.Test.YtiiegjdclpkeeaaGreatDoorOpen
import Derived.Test.YtiiegjdclpkeeaaGreatDoorM23
import Derived.Test.YtiiegjdclpkeeaaGreatDoorM24
import Derived.Test.YtiiegjdclpkeeaaGreatDoorD9
import Derived.ProofKit
import Derived.OpenShut
import Derived.ShutString
import Derived.Below
namespace Go.Proofs.YtiiegjdclpkeeaaGreatDoor.seqsetPrints
open Go.ChangeShapes Go.WideShapes Go.ChangeAt Go.RowKit
open Go.ChangeMaps (open_string shut_string)
set_option linter.unusedVariables false
set_option linter.unusedSimpArgs false

set_option maxRecDepth 100000 in
set_option maxHeartbeats 8000000 in
theorem walk {w : World} (a0 : Option Addr) (len0 cap0 : Nat) (l : List Sp) (h0 : SpansOk w a0 len0 cap0 l) (hE : Env w) :
    Calls Tryz.prog 4 #[.slice a0 len0 cap0] w fun e w' => e = .returned (.bool true) ∧ Below w.heap.size w w' := by
  obtain ⟨hg0, hn0, hw0⟩ := h0
  subst hn0
  have HE := hid hE
  clear hE hw0
  by_cases g0 : (1200 : Int) < l.length
  · go_enter Tryz.func4, Tryz.ntmps4
    go_wp2_with fail
    refine (alive_any HE.out).mono ?_
    rintro e wz ⟨rfl, hb⟩
    have HBz := hid (hb)
    clear hb
    go_wp2_with fail
    go_ret
    exact ⟨rfl, HBz.out⟩
  · obtain ⟨v1, w1, hr1, ho1, hb1⟩ := copy_any hg0 (by omega)
    have HG := hid hg0
    have HR1 := hid hr1
    have HO1 := hid ho1
    have HB1 := hid hb1
    clear hg0 hr1 ho1 hb1
    obtain ⟨a5, c5, hv5⟩ := HO1.out.slice (n := l.length) rfl
    subst hv5
    have C1 := print_any (HE.out.later HB1.out) HO1.out.gl (by omega)
    unfold TxtIs at C1
    go_enter Tryz.func4, Tryz.ntmps4
    go_wp2_with (at_builtin; refine wpList_append_run rfl rfl HR1.out ?_)
    refine C1.mono ?_
    clear C1
    rintro e w2 ⟨rfl, hb2⟩
    have HB2 := hid (HB1.out.trans (hb2.mono HB1.out.size))
    have HO2 := hid (HO1.out.gl.later hb2)
    clear hb2
    have C2 := rprint_any (HG.out.later HB2.out) (by omega)
    unfold TxtIs at C2
    go_wp2_with fail
    refine C2.mono ?_
    clear C2
    rintro e w3 ⟨rfl, hb3⟩
    have HB3 := hid (HB2.out.trans (hb3.mono HB2.out.size))
    have HO3 := hid (HO2.out.later hb3)
    clear hb3
    have C3 := right_any HO3.out (by omega)
    unfold SameIs at C3
    have htt : ((str (printV l)).toList == (str (printV l)).toList) = true := by simp
    generalize printV l = pv at *
    go_wp2_with fail
    refine C3.mono ?_
    clear C3
    rintro e w4 ⟨rfl, hb4⟩
    have HB4 := hid (HB3.out.trans (hb4.mono HB3.out.size))
    have HO4 := hid (HO3.out.later hb4)
    clear hb4
    have C4 := rright_any (HG.out.later HB4.out) (by omega)
    unfold SameIs at C4
    generalize rightB l = rb at *
    go_wp2_with fail
    refine C4.mono ?_
    clear C4
    rintro e w5 ⟨rfl, hb5⟩
    have HB5 := hid (HB4.out.trans (hb5.mono HB4.out.size))
    have HO5 := hid (HO4.out.later hb5)
    clear hb5
    have hbb : (rb == rb) = true := by simp
    have C5 := same_any HO5.out (HG.out.later HB5.out) (by omega)
    unfold SameIs at C5
    go_wp2_with fail
    refine C5.mono ?_
    clear C5
    rintro e w6 ⟨rfl, hb6⟩
    have HB6 := hid (HB5.out.trans (hb6.mono HB5.out.size))
    clear hb6
    go_wp2_with fail
    refine (alive_any (HE.out.later HB6.out)).mono ?_
    rintro e wz ⟨rfl, hb⟩
    have HBz := hid (HB6.out.trans (hb.mono HB6.out.size))
    clear hb
    go_wp2_with fail
    go_ret
    exact ⟨rfl, HBz.out⟩

theorem witness (os : Os) {H : Type} (enc : TypeId × Value → H) :
    (OpenSpec.ofChange Rows.seqsetPrintsSpec).preRow enc Tryz.prog Tryz.f4 Rows.seqsetPrintsRow.domain false Rows.seqsetPrintsRow.laid ((laidWorld os).forCall (fun _ _ => 0) ⟨#[], #[.slice none 0 0], []⟩).memory #[.slice none 0 0] := by
  have hw : (DataW.whole enc Tryz.prog ((laidWorld os).forCall (fun _ _ => 0) ⟨#[], #[.slice none 0 0], []⟩).memory Tryz.f4.params.toList Rows.seqsetPrintsSpec.vars false (#[.slice none 0 0] : Array Value).toList 8).map (fun x => (x.1, x.2.1)) =
      some ([.nil], []) := by kernel_rfl
  obtain ⟨⟨x1, x2, x3⟩, hx, hx1⟩ := Option.map_eq_some_iff.1 hw
  simp only [Prod.mk.injEq] at hx1
  obtain ⟨rfl, rfl⟩ := hx1
  exact OpenSpec.preRow_of_cond 8 hx (by kernel_rfl) (fun k hk => by cases hk) (by kernel_rfl) (laid_met os _)

set_option maxRecDepth 100000 in
set_option maxHeartbeats 2000000 in
theorem lifted (os : Os) (started : os.Started) (H : Type) (enc : TypeId × Value → H) (F : Stop.Interp) :
    ReturnsInHanded {} Tryz.checked os 4 .any ((OpenSpec.ofChange Rows.seqsetPrintsSpec).preRow enc Tryz.prog Tryz.f4 Rows.seqsetPrintsRow.domain false Rows.seqsetPrintsRow.laid) (((OpenSpec.ofChange Rows.seqsetPrintsSpec).at F).post enc Tryz.prog Tryz.f4 false true false false) := by
  refine returnsInHanded_of_row (C := Tryz.checked) (s := OpenSpec.ofChange Rows.seqsetPrintsSpec) own started (by kernel_rfl) Tryz.func4
    (witness_row_atRef (enc := enc) (C := Tryz.checked) false (laidWorld os) #[.slice none 0 0] rfl (by kernel_rfl) (by kernel_rfl) (by kernel_rfl) (witness os enc)) ?_
  intro W base args ds gs before hval0 hW _ _ _ hL hsh _
  have hval : ∀ (j : Nat) t v, Tryz.f4.params[j]? = some t → args[j]? = some v → Value.okWide Tryz.prog W .any base t v := hval0
  have hW' := hW
  obtain ⟨p, q, hA0, hV, rfl, hfz, hnd⟩ := hW
  have hA : DataW.TrodAll enc Tryz.prog W 0 (fun _ => true) true Tryz.f4.params.toList args.toList ds p := hA0
  rw [Tryz.params4] at hA hval
  obtain ⟨v0, vs0, d0, ds0, p0, q0, hargs, rfl, rfl, h0, r0⟩ := trodAll_cons hA
  obtain ⟨rfl, rfl, rfl⟩ := trodAll_nil r0
  obtain rfl : args = #[v0] := by cases args; simp_all
  obtain ⟨rfl, rfl⟩ := trodVars_none hV
  obtain ⟨a0, len0, cap0, rfl⟩ := okWide_slice Tryz.underlying23 (hval 0 23 v0 rfl rfl)
  have lt0 : ∀ x ∈ p0, x.block < W.heap.size := by obtain ⟨m, hm⟩ := h0; exact DataW.trod_lt m _ _ _ hm
  obtain ⟨l0, hl0⟩ : ∃ l, SpansOk W a0 len0 cap0 l := by obtain ⟨fuel, hf⟩ := h0; exact open_spans hf
  clear hA0 hval0
  refine (walk a0 len0 cap0 l0 hl0 (env_of hL) ).mono ?_
  rintro e W' ⟨rfl, bel⟩
  exact ⟨_, rfl, _, _, _, [], _, [], hW', trodAll_mk1 (shut_bool Tryz.underlying4 _), (trodAll_cons_mk (Below.trod laidOut (by kernel_rfl) (of_decide_eq_true (by kernel_rfl)) h0 bel lt0) trodAll_mk0), rfl, bel.frame _, fun h => by cases h⟩

theorem over : Rows.seqsetPrintsRow.holds Tryz.pinned (OpenSpec.ofChange Rows.seqsetPrintsSpec) :=
  OpenClaim.holds_of_cond 4 Tryz.f4 rfl rfl rfl rfl rfl rfl rfl ⟨rfl, rfl, rfl, rfl, rfl⟩ rfl rfl rfl rfl rfl (by kernel_rfl) Tryz.func4 (by kernel_rfl)
    (of_decide_eq_true (by kernel_rfl)) (by unfold Func.isWrapper; first | (rw [if_pos (by decide +kernel)]; kernel_rfl) | (rw [if_neg (by decide +kernel)]; exact ⟨rfl, rfl⟩))
    (fun os started H enc _ F => by rw [OpenClaim.pre_eq_preRow]; exact lifted os started H enc F)

/-- No parameter wants a stand-in. -/
theorem plain (f : FuncId) (fn : Func) (hf : Tryz.pinned.checked.prog.funcNamed Rows.seqsetPrintsRow.func = some f) (hfn : Tryz.pinned.checked.prog.funcs[f]? = some fn) :
    true = Tryz.pinned.checked.prog.looks [] ∧ ∀ (j : Nat) t, fn.params[j]? = some t → Tryz.pinned.checked.prog.wantsStandIn t = false := by
  obtain rfl : f = 4 := Option.some.inj ((show Tryz.prog.funcNamed Rows.seqsetPrintsRow.func = some 4 by kernel_rfl).symm.trans hf) |>.symm
  obtain rfl : fn = Tryz.f4 := (Option.some.inj (Tryz.func4.symm.trans hfn)).symm
  refine ⟨by kernel_rfl, fun j t ht => ?_⟩
  rw [Tryz.params4] at ht
  have hm := Array.mem_of_getElem? ht
  simp only [List.mem_toArray, List.mem_cons, List.not_mem_nil, or_false, or_self] at hm
  rcases hm with rfl
  · exact (show Tryz.prog.wantsStandIn 23 = false by kernel_rfl)
end Go.Proofs.YtiiegjdclpkeeaaGreatDoor.seqsetPrints
namespace Go.Proofs.YtiiegjdclpkeeaaGreatDoor
/-- THE STATEMENT. -/
theorem seqsetPrints_holds : Rows.SeqsetPrintsCardSaid :=
  Claim7.holds_tied_plain_at .later [] _ _ _ _ seqsetPrints.over (fun _ h => by cases h) (by kernel_rfl) (fun _ h => by cases h) seqsetPrints_row_tie rfl ⟨rfl, rfl⟩ (by kernel_rfl) rfl seqsetPrints.plain (by kernel_rfl)
#print axioms seqsetPrints_holds
end Go.Proofs.YtiiegjdclpkeeaaGreatDoor
