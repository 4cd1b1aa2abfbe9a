/- Proved here: which set any text is, or why it is none, is as the document says (SeqsetParses returns true for every input, and leaves its arguments as they were). No condition beyond what the card says: three tables and two errors of the library hold what its text lays. -/
import Derived.Test.YtiiegjdclpkeeaaGreatDoorCards
import Derived.Test.YtiiegjdclpkeeaaGreatDoorTie
import Derived.Test.YtiiegjdclpkeeaaGreatDoorOpen
import Derived.Test.YtiiegjdclpkeeaaGreatDoorD4
import Derived.ProofKit
import Derived.OpenShut
import Derived.ShutString
import Derived.Below
namespace Go.Proofs.YtiiegjdclpkeeaaGreatDoor.seqsetParses
open Go.ChangeShapes Go.WideShapes Go.ChangeAt Go.RowKit
open Go.ChangeMaps (open_string shut_string)
set_option linter.unusedVariables false
set_option linter.unusedSimpArgs false

set_option maxRecDepth 100000 in
set_option maxHeartbeats 4000000 in
theorem walk {w : World} (a0 : ByteArray) (hE : Env w) (h0 : a0.size ≤ maxLen) :
    Calls Tryz.prog 3 #[.string a0] w fun e w' => e = .returned (.bool true) ∧ Below w.heap.size w w' := by
  obtain ⟨s, rfl⟩ : ∃ x, a0 = str x := ⟨a0.data.toList, (str_of a0).symm⟩
  have HE := hid hE
  clear hE
  unfold maxLen at h0
  have hsz := str_size s
  rw [hsz] at h0
  by_cases g0 : (20000 : Int) < s.length
  · go_enter Tryz.func3, Tryz.ntmps3
    go_wp2_with fail
    refine (alive_any HE.out).mono ?_
    rintro e wz ⟨rfl, hb⟩
    have HBz := hid (hb)
    clear hb
    go_wp2_with fail
    go_ret
    exact ⟨rfl, HBz.out⟩
  · have C1 := parse_any HE.out s (by omega)
    have HLn : Hid ((parV s).1.length ≤ 1000000) := by
      unfold parV
      rw [Hid]
      split
      · simp
      · split
        · simp
        · split <;> simp <;> omega
    unfold ParseIs at C1
    go_enter Tryz.func3, Tryz.ntmps3
    go_wp2_with fail
    refine C1.mono ?_
    clear C1
    rintro e w1 ⟨⟨v1, rfl, ho1⟩, hb1⟩
    have HB1 := hid hb1
    have HO1 := hid ho1.gl
    clear ho1 hb1
    have C2 := rparse_any s w1 (by omega)
    unfold RParseIs at C2
    rw [par_is s] at C2
    generalize parV s = pv at *
    obtain ⟨l, n⟩ := pv
    simp only at C2 HO1 HLn
    go_wp2_with fail
    refine C2.mono ?_
    clear C2
    rintro e w2 ⟨⟨v2, rfl, ho2⟩, hb2⟩
    have HB2 := hid (HB1.out.trans (hb2.mono HB1.out.size))
    have HO1' := hid (HO1.out.later hb2)
    have HO2 := hid ho2.gl
    clear ho2 hb2
    have C3 := same_any HO1'.out HO2.out HLn.out
    unfold SameIs at C3
    go_wp2_with fail
    refine C3.mono ?_
    clear C3
    rintro e w3 ⟨rfl, hb3⟩
    have HB3 := hid (HB2.out.trans (hb3.mono HB2.out.size))
    clear hb3
    have hnn : (n == n) = true := by simp
    go_wp2_with fail
    refine (no_any n w3).mono ?_
    rintro e w4 ⟨rfl, rfl⟩
    go_wp2_with fail
    refine (alive_any (HE.out.later HB3.out)).mono ?_
    rintro e wz ⟨rfl, hb⟩
    have HBz := hid (HB3.out.trans (hb.mono HB3.out.size))
    clear hb
    go_wp2_with fail
    go_ret
    exact ⟨rfl, HBz.out⟩

theorem witness (os : Os) {H : Type} (enc : TypeId × Value → H) :
    (OpenSpec.ofChange Rows.seqsetParsesSpec).preRow enc Tryz.prog Tryz.f3 Rows.seqsetParsesRow.domain false Rows.seqsetParsesRow.laid ((laidWorld os).forCall (fun _ _ => 0) ⟨#[], #[.string ⟨#[]⟩], []⟩).memory #[.string ⟨#[]⟩] := by
  have hw : (DataW.whole enc Tryz.prog ((laidWorld os).forCall (fun _ _ => 0) ⟨#[], #[.string ⟨#[]⟩], []⟩).memory Tryz.f3.params.toList Rows.seqsetParsesSpec.vars false (#[.string ⟨#[]⟩] : Array Value).toList 8).map (fun x => (x.1, x.2.1)) =
      some ([.lit (.string [])], []) := by kernel_rfl
  obtain ⟨⟨x1, x2, x3⟩, hx, hx1⟩ := Option.map_eq_some_iff.1 hw
  simp only [Prod.mk.injEq] at hx1
  obtain ⟨rfl, rfl⟩ := hx1
  exact OpenSpec.preRow_of_cond 8 hx (by kernel_rfl) (fun k hk => by cases hk) (by kernel_rfl) (laid_met os _)

set_option maxRecDepth 100000 in
set_option maxHeartbeats 2000000 in
theorem lifted (os : Os) (started : os.Started) (H : Type) (enc : TypeId × Value → H) (F : Stop.Interp) :
    ReturnsInHanded {} Tryz.checked os 3 .any ((OpenSpec.ofChange Rows.seqsetParsesSpec).preRow enc Tryz.prog Tryz.f3 Rows.seqsetParsesRow.domain false Rows.seqsetParsesRow.laid) (((OpenSpec.ofChange Rows.seqsetParsesSpec).at F).post enc Tryz.prog Tryz.f3 false true false false) := by
  refine returnsInHanded_of_row (C := Tryz.checked) (s := OpenSpec.ofChange Rows.seqsetParsesSpec) own started (by kernel_rfl) Tryz.func3
    (witness_row_atRef (enc := enc) (C := Tryz.checked) false (laidWorld os) #[.string ⟨#[]⟩] rfl (by kernel_rfl) (by kernel_rfl) (by kernel_rfl) (witness os enc)) ?_
  intro W base args ds gs before hval0 hW _ _ _ hL hsh _
  have hval : ∀ (j : Nat) t v, Tryz.f3.params[j]? = some t → args[j]? = some v → Value.okWide Tryz.prog W .any base t v := hval0
  have hW' := hW
  obtain ⟨p, q, hA0, hV, rfl, hfz, hnd⟩ := hW
  have hA : DataW.TrodAll enc Tryz.prog W 0 (fun _ => true) true Tryz.f3.params.toList args.toList ds p := hA0
  rw [Tryz.params3] at hA hval
  obtain ⟨v0, vs0, d0, ds0, p0, q0, hargs, rfl, rfl, h0, r0⟩ := trodAll_cons hA
  obtain ⟨rfl, rfl, rfl⟩ := trodAll_nil r0
  obtain rfl : args = #[v0] := by cases args; simp_all
  obtain ⟨rfl, rfl⟩ := trodVars_none hV
  obtain ⟨a0, rfl, rfl, rfl, w0⟩ := open_string Tryz.underlying9 (hval 0 9 v0 rfl rfl) h0
  clear hA0 hval0
  refine (walk a0 (env_of hL) w0).mono ?_
  rintro e W' ⟨rfl, bel⟩
  exact ⟨_, rfl, _, _, _, [], _, [], hW', trodAll_mk1 (shut_bool Tryz.underlying4 _), (trodAll_cons_mk (shut_string Tryz.underlying9 w0) trodAll_mk0), rfl, bel.frame _, fun h => by cases h⟩

theorem over : Rows.seqsetParsesRow.holds Tryz.pinned (OpenSpec.ofChange Rows.seqsetParsesSpec) :=
  OpenClaim.holds_of_cond 3 Tryz.f3 rfl rfl rfl rfl rfl rfl rfl ⟨rfl, rfl, rfl, rfl, rfl⟩ rfl rfl rfl rfl rfl (by kernel_rfl) Tryz.func3 (by kernel_rfl)
    (of_decide_eq_true (by kernel_rfl)) (by unfold Func.isWrapper; first | (rw [if_pos (by decide +kernel)]; kernel_rfl) | (rw [if_neg (by decide +kernel)]; exact ⟨rfl, rfl⟩))
    (fun os started H enc _ F => by rw [OpenClaim.pre_eq_preRow]; exact lifted os started H enc F)

/-- No parameter wants a stand-in. -/
theorem plain (f : FuncId) (fn : Func) (hf : Tryz.pinned.checked.prog.funcNamed Rows.seqsetParsesRow.func = some f) (hfn : Tryz.pinned.checked.prog.funcs[f]? = some fn) :
    true = Tryz.pinned.checked.prog.looks [] ∧ ∀ (j : Nat) t, fn.params[j]? = some t → Tryz.pinned.checked.prog.wantsStandIn t = false := by
  obtain rfl : f = 3 := Option.some.inj ((show Tryz.prog.funcNamed Rows.seqsetParsesRow.func = some 3 by kernel_rfl).symm.trans hf) |>.symm
  obtain rfl : fn = Tryz.f3 := (Option.some.inj (Tryz.func3.symm.trans hfn)).symm
  refine ⟨by kernel_rfl, fun j t ht => ?_⟩
  rw [Tryz.params3] at ht
  have hm := Array.mem_of_getElem? ht
  simp only [List.mem_toArray, List.mem_cons, List.not_mem_nil, or_false, or_self] at hm
  rcases hm with rfl
  · exact (show Tryz.prog.wantsStandIn 9 = false by kernel_rfl)
end Go.Proofs.YtiiegjdclpkeeaaGreatDoor.seqsetParses
namespace Go.Proofs.YtiiegjdclpkeeaaGreatDoor
/-- THE STATEMENT. -/
theorem seqsetParses_holds : Rows.SeqsetParsesCardSaid :=
  Claim7.holds_tied_plain_at .later [] _ _ _ _ seqsetParses.over (fun _ h => by cases h) (by kernel_rfl) (fun _ h => by cases h) seqsetParses_row_tie rfl ⟨rfl, rfl⟩ (by kernel_rfl) rfl seqsetParses.plain (by kernel_rfl)
#print axioms seqsetParses_holds
end Go.Proofs.YtiiegjdclpkeeaaGreatDoor
