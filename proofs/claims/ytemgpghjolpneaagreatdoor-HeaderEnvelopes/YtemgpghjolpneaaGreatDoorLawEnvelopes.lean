/- Proved here: what is told of the fields of any text is as the document says (HeaderEnvelopes returns true for every input, and leaves its arguments as they were). No condition beyond what the card says: two tables of the library hold what its text lays. -/
import Derived.Test.YtemgpghjolpneaaGreatDoorCards
import Derived.Test.YtemgpghjolpneaaGreatDoorTie
import Derived.Test.YtemgpghjolpneaaGreatDoorFrame
import Derived.Test.YtemgpghjolpneaaGreatDoorE5
import Derived.Test.YtemgpghjolpneaaGreatDoorR5
import Derived.ProofKit
import Derived.OpenShut
import Derived.ShutString
import Derived.Below
namespace Go.Proofs.YtemgpghjolpneaaGreatDoor.headerEnvelopes
open Go.ChangeShapes Go.WideShapes Go.ChangeAt Go.RowKit
open Go.ChangeMaps (open_string shut_string)
set_option linter.unusedVariables false
set_option linter.unusedSimpArgs false

theorem fields_in (s : Bs) : ∀ f ∈ fieldsP s, f.1.length ≤ s.length ∧ f.2.length ≤ s.length := by
  intro f hf
  unfold fieldsP at hf
  obtain ⟨e, he, rfl⟩ := List.mem_map.1 hf
  obtain ⟨h1, h2⟩ := ents_in _ s (Nat.le_refl _) e he
  refine ⟨h1, Nat.le_trans (bare_len _) ?_⟩
  rw [List.length_drop]
  omega
theorem fl_b (s : Bs) (h : s.length ≤ 1000000) : (fieldsP s).length ≤ 1000000 := by unfold fieldsP; rw [List.length_map]; exact Nat.le_trans (ents_len s) h
set_option maxRecDepth 100000 in
set_option maxHeartbeats 8000000 in
theorem walk (a0 : ByteArray) {w : World} (he : Env w) (h0 : a0.size ≤ maxLen) :
    Calls Tryz.prog 3 #[.string a0] w fun e w' => e = .returned (.bool true) ∧ Below w.heap.size w w' := by
  obtain ⟨s, rfl⟩ : ∃ s, a0 = str s := ⟨a0.data.toList, (str_of a0).symm⟩
  unfold maxLen at h0
  have hx := str_size s
  rw [hx] at h0
  have HE := hid he
  clear he
  by_cases g0 : (4000 : Int) < s.length
  · go_enter Tryz.func3, Tryz.ntmps3
    go_wp2_with fail
    refine (alive_any HE.out).mono ?_
    rintro e wz ⟨rfl, hb⟩
    have HBz := hid (hb)
    clear hb
    go_wp2_with fail
    go_ret
    exact ⟨rfl, HBz.out⟩
  · have HFi : Hid (∀ f ∈ fieldsP s, f.1.length ≤ 10000000 ∧ f.2.length ≤ 10000) := fun f hf => by
      have := fields_in s f hf
      omega
    have hfl := fl_b s (by omega)
    go_enter Tryz.func3, Tryz.ntmps3
    go_wp2_with fail
    refine (fields_any s HE.out (by omega)).mono ?_
    rintro e w1 ⟨⟨v1, rfl, ho1⟩, hb⟩
    have HO1 := hid ho1.rl
    have HB1 := hid hb
    clear hb ho1
    go_wp2_with fail
    refine (envelope_any (HE.out.later HB1.out) HO1.out hfl HFi.out).mono ?_
    rintro e w2 ⟨⟨v2, rfl, he2⟩, hb⟩
    have HV2 := hid he2
    have HB2 := hid (HB1.out.trans (hb.mono HB1.out.size))
    clear hb he2
    go_wp2_with fail
    refine (rfields_any s _ (by omega)).mono ?_
    rintro e w3 ⟨⟨v3, rfl, ho3⟩, hb⟩
    have HO3 := hid ho3.rl
    have HV3 := hid (HV2.out.later hb)
    have HB3 := hid (HB2.out.trans (hb.mono HB2.out.size))
    clear hb ho3
    go_wp2_with fail
    refine (renvelope_any HO3.out hfl HFi.out).mono ?_
    rintro e w4 ⟨⟨v4, rfl, he4⟩, hb⟩
    have HV4 := hid (HV3.out.later hb)
    have HV5 := hid he4
    have HB4 := hid (HB3.out.trans (hb.mono HB3.out.size))
    clear hb he4
    go_wp2_with fail
    refine (same_any HV4.out HV5.out (fun f hf => (HFi.out f hf).2)).mono ?_
    rintro e w5 ⟨rfl, hb⟩
    have HB5 := hid (HB4.out.trans (hb.mono HB4.out.size))
    clear hb
    go_wp2_with fail
    refine (alive_any (HE.out.later HB5.out)).mono ?_
    rintro e wz ⟨rfl, hb⟩
    have HBz := hid (HB5.out.trans (hb.mono HB5.out.size))
    clear hb
    go_wp2_with fail
    go_ret
    exact ⟨rfl, HBz.out⟩

theorem witness (os : Os) {H : Type} (enc : TypeId × Value → H) :
    (OpenSpec.ofChange Rows.headerEnvelopesSpec).preRow enc Tryz.prog Tryz.f3 Rows.headerEnvelopesRow.domain false Rows.headerEnvelopesRow.laid ((laidWorld os).forCall (fun _ _ => 0) ⟨#[], #[.string ⟨#[]⟩], []⟩).memory #[.string ⟨#[]⟩] := by
  have hw : (DataW.whole enc Tryz.prog ((laidWorld os).forCall (fun _ _ => 0) ⟨#[], #[.string ⟨#[]⟩], []⟩).memory Tryz.f3.params.toList Rows.headerEnvelopesSpec.vars false (#[.string ⟨#[]⟩] : Array Value).toList 8).map (fun x => (x.1, x.2.1)) =
      some ([.lit (.string [])], []) := by kernel_rfl
  obtain ⟨⟨x1, x2, x3⟩, hx, hx1⟩ := Option.map_eq_some_iff.1 hw
  simp only [Prod.mk.injEq] at hx1
  obtain ⟨rfl, rfl⟩ := hx1
  exact OpenSpec.preRow_of_cond 8 hx (by kernel_rfl) (fun k hk => by cases hk) (by kernel_rfl) (laid_met os _)

set_option maxRecDepth 100000 in
set_option maxHeartbeats 2000000 in
theorem lifted (os : Os) (started : os.Started) (H : Type) (enc : TypeId × Value → H) (F : Stop.Interp) :
    ReturnsInHanded {} Tryz.checked os 3 .any ((OpenSpec.ofChange Rows.headerEnvelopesSpec).preRow enc Tryz.prog Tryz.f3 Rows.headerEnvelopesRow.domain false Rows.headerEnvelopesRow.laid) (((OpenSpec.ofChange Rows.headerEnvelopesSpec).at F).post enc Tryz.prog Tryz.f3 false true false false) := by
  refine returnsInHanded_of_row (C := Tryz.checked) (s := OpenSpec.ofChange Rows.headerEnvelopesSpec) own started (by kernel_rfl) Tryz.func3
    (witness_row_atRef (enc := enc) (C := Tryz.checked) false (laidWorld os) #[.string ⟨#[]⟩] rfl (by kernel_rfl) (by kernel_rfl) (by kernel_rfl) (witness os enc)) ?_
  intro W base args ds gs before hval0 hW _ _ _ hL hsh _
  have hval : ∀ (j : Nat) t v, Tryz.f3.params[j]? = some t → args[j]? = some v → Value.okWide Tryz.prog W .any base t v := hval0
  have hW' := hW
  obtain ⟨p, q, hA0, hV, rfl, hfz, hnd⟩ := hW
  have hA : DataW.TrodAll enc Tryz.prog W 0 (fun _ => true) true Tryz.f3.params.toList args.toList ds p := hA0
  rw [Tryz.params3] at hA hval
  obtain ⟨v0, vs0, d0, ds0, p0, q0, hargs, rfl, rfl, h0, r0⟩ := trodAll_cons hA
  obtain ⟨rfl, rfl, rfl⟩ := trodAll_nil r0
  obtain rfl : args = #[v0] := by cases args; simp_all
  obtain ⟨rfl, rfl⟩ := trodVars_none hV
  obtain ⟨a0, rfl, rfl, rfl, w0⟩ := open_string Tryz.underlying9 (hval 0 9 v0 rfl rfl) h0
  clear hA0 hval0
  refine (walk a0 (env_of hsh) w0).mono ?_
  rintro e W' ⟨rfl, bel⟩
  exact ⟨_, rfl, _, _, _, [], _, [], hW', trodAll_mk1 (shut_bool Tryz.underlying4 _), (trodAll_cons_mk (shut_string Tryz.underlying9 w0) trodAll_mk0), rfl, bel.frame _, fun h => by cases h⟩

theorem over : Rows.headerEnvelopesRow.holds Tryz.pinned (OpenSpec.ofChange Rows.headerEnvelopesSpec) :=
  OpenClaim.holds_of_cond 3 Tryz.f3 rfl rfl rfl rfl rfl rfl rfl ⟨rfl, rfl, rfl, rfl, rfl⟩ rfl rfl rfl rfl rfl (by kernel_rfl) Tryz.func3 (by kernel_rfl)
    (of_decide_eq_true (by kernel_rfl)) (by unfold Func.isWrapper; first | (rw [if_pos (by decide +kernel)]; kernel_rfl) | (rw [if_neg (by decide +kernel)]; exact ⟨rfl, rfl⟩))
    (fun os started H enc _ F => by rw [OpenClaim.pre_eq_preRow]; exact lifted os started H enc F)

/-- No parameter wants a stand-in. -/
theorem plain (f : FuncId) (fn : Func) (hf : Tryz.pinned.checked.prog.funcNamed Rows.headerEnvelopesRow.func = some f) (hfn : Tryz.pinned.checked.prog.funcs[f]? = some fn) :
    false = Tryz.pinned.checked.prog.looks [] ∧ ∀ (j : Nat) t, fn.params[j]? = some t → Tryz.pinned.checked.prog.wantsStandIn t = false := by
  obtain rfl : f = 3 := Option.some.inj ((show Tryz.prog.funcNamed Rows.headerEnvelopesRow.func = some 3 by kernel_rfl).symm.trans hf) |>.symm
  obtain rfl : fn = Tryz.f3 := (Option.some.inj (Tryz.func3.symm.trans hfn)).symm
  refine ⟨by kernel_rfl, fun j t ht => ?_⟩
  rw [Tryz.params3] at ht
  have hm := Array.mem_of_getElem? ht
  simp only [List.mem_toArray, List.mem_cons, List.not_mem_nil, or_false, or_self] at hm
  rcases hm with rfl
  · exact (show Tryz.prog.wantsStandIn 9 = false by kernel_rfl)
end Go.Proofs.YtemgpghjolpneaaGreatDoor.headerEnvelopes
namespace Go.Proofs.YtemgpghjolpneaaGreatDoor
/-- THE STATEMENT. -/
theorem headerEnvelopes_holds : Rows.HeaderEnvelopesCardSaid :=
  Claim7.holds_tied_plain_at .later [] _ _ _ _ headerEnvelopes.over (fun _ h => by cases h) (by kernel_rfl) (fun _ h => by cases h) headerEnvelopes_row_tie rfl ⟨rfl, rfl⟩ (by kernel_rfl) rfl headerEnvelopes.plain (by kernel_rfl)
#print axioms headerEnvelopes_holds
end Go.Proofs.YtemgpghjolpneaaGreatDoor
