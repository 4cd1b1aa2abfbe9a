/- Proved here: quoted-printable text, small letters, and bytes as letters, are as the document says (WordsQuoted returns true for every input, and leaves its arguments as they were). No condition beyond what the card says: two tables of the library hold what its text lays. -/
import Derived.Test.YtjmjeiegbkfdbaaDoorCards
import Derived.Test.YtjmjeiegbkfdbaaDoorTie
import Derived.Test.YtjmjeiegbkfdbaaDoorFrame
import Derived.Test.YtjmjeiegbkfdbaaDoorR2
import Derived.ProofKit
import Derived.OpenShut
import Derived.ShutString
import Derived.Below
namespace Go.Proofs.YtjmjeiegbkfdbaaDoor.wordsQuoted
open Go.ChangeShapes Go.WideShapes Go.ChangeAt Go.RowKit
open Go.ChangeMaps (open_string shut_string)
set_option linter.unusedVariables false
set_option linter.unusedSimpArgs false

set_option maxRecDepth 100000 in
set_option maxHeartbeats 4000000 in
theorem walk (a0 : ByteArray) (w : World) (h0 : a0.size ≤ maxLen) :
    Calls Tryd.prog 5 #[.string a0] w fun e w' => e = .returned (.bool true) ∧ Below w.heap.size w w' := by
  obtain ⟨x, rfl⟩ : ∃ x, a0 = str x := ⟨a0.data.toList, (str_of a0).symm⟩
  unfold maxLen at h0
  have hx := str_size x
  rw [hx] at h0
  by_cases g0 : (2000 : Int) < x.length
  · go_enter Tryd.func5, Tryd.ntmps5
    go_wp2_with fail
    refine (alive_any w).mono ?_
    rintro e w1 ⟨rfl, hb⟩
    have HB := hid hb
    clear hb
    go_wp2_with fail
    go_ret
    exact ⟨rfl, HB.out⟩
  have q1 : ((str (unq x)).toList == (str (unq x)).toList) = true := by simp
  have q2 : ((str (low x)).toList == (str (low x)).toList) = true := by simp
  have q3 : ((str (latin x)).toList == (str (latin x)).toList) = true := by simp
  go_enter Tryd.func5, Tryd.ntmps5
  go_wp2_with fail
  have C := unquote_any x w (by omega)
  refine C.mono ?_
  clear C
  rintro e u1 ⟨rfl, hb⟩
  have HBu1 := hid hb
  clear hb
  go_wp2_with fail
  have C := runquote_any x u1 (by omega)
  refine C.mono ?_
  clear C
  rintro e u2 ⟨rfl, hb⟩
  have HBu2 := hid (HBu1.out.trans (hb.mono HBu1.out.size))
  clear hb
  go_wp2_with fail
  have C := lower_any x u2 (by omega)
  refine C.mono ?_
  clear C
  rintro e u3 ⟨rfl, hb⟩
  have HBu3 := hid (HBu2.out.trans (hb.mono HBu2.out.size))
  clear hb
  go_wp2_with fail
  have C := rlower_any x u3 (by omega)
  refine C.mono ?_
  clear C
  rintro e u4 ⟨rfl, hb⟩
  have HBu4 := hid (HBu3.out.trans (hb.mono HBu3.out.size))
  clear hb
  go_wp2_with fail
  have C := latin_any x u4 (by omega)
  refine C.mono ?_
  clear C
  rintro e u5 ⟨rfl, hb⟩
  have HBu5 := hid (HBu4.out.trans (hb.mono HBu4.out.size))
  clear hb
  go_wp2_with fail
  refine (rlatin_any x u5 (by omega)).mono ?_
  rintro e u6 ⟨rfl, rfl⟩
  go_wp2_with fail
  have C := alive_any u6
  refine C.mono ?_
  clear C
  rintro e z ⟨rfl, hb⟩
  have HBz := hid (HBu5.out.trans (hb.mono HBu5.out.size))
  clear hb
  go_wp2_with fail
  go_ret
  exact ⟨rfl, HBz.out⟩

theorem witness (os : Os) {H : Type} (enc : TypeId × Value → H) :
    (OpenSpec.ofChange Rows.wordsQuotedSpec).preRow enc Tryd.prog Tryd.f5 Rows.wordsQuotedRow.domain false Rows.wordsQuotedRow.laid ((laidWorld os).forCall (fun _ _ => 0) ⟨#[], #[.string ⟨#[]⟩], []⟩).memory #[.string ⟨#[]⟩] := by
  have hw : (DataW.whole enc Tryd.prog ((laidWorld os).forCall (fun _ _ => 0) ⟨#[], #[.string ⟨#[]⟩], []⟩).memory Tryd.f5.params.toList Rows.wordsQuotedSpec.vars false (#[.string ⟨#[]⟩] : Array Value).toList 8).map (fun x => (x.1, x.2.1)) =
      some ([.lit (.string [])], []) := by kernel_rfl
  obtain ⟨⟨x1, x2, x3⟩, hx, hx1⟩ := Option.map_eq_some_iff.1 hw
  simp only [Prod.mk.injEq] at hx1
  obtain ⟨rfl, rfl⟩ := hx1
  exact OpenSpec.preRow_of_cond 8 hx (by kernel_rfl) (fun k hk => by cases hk) (by kernel_rfl) (laid_met os _)

set_option maxRecDepth 100000 in
set_option maxHeartbeats 2000000 in
theorem lifted (os : Os) (started : os.Started) (H : Type) (enc : TypeId × Value → H) (F : Stop.Interp) :
    ReturnsInHanded {} Tryd.checked os 5 .any ((OpenSpec.ofChange Rows.wordsQuotedSpec).preRow enc Tryd.prog Tryd.f5 Rows.wordsQuotedRow.domain false Rows.wordsQuotedRow.laid) (((OpenSpec.ofChange Rows.wordsQuotedSpec).at F).post enc Tryd.prog Tryd.f5 false true false false) := by
  refine returnsInHanded_of_row (C := Tryd.checked) (s := OpenSpec.ofChange Rows.wordsQuotedSpec) own started (by kernel_rfl) Tryd.func5
    (witness_row_atRef (enc := enc) (C := Tryd.checked) false (laidWorld os) #[.string ⟨#[]⟩] rfl (by kernel_rfl) (by kernel_rfl) (by kernel_rfl) (witness os enc)) ?_
  intro W base args ds gs before hval0 hW _ _ _ hL hsh _
  have hval : ∀ (j : Nat) t v, Tryd.f5.params[j]? = some t → args[j]? = some v → Value.okWide Tryd.prog W .any base t v := hval0
  have hW' := hW
  obtain ⟨p, q, hA0, hV, rfl, hfz, hnd⟩ := hW
  have hA : DataW.TrodAll enc Tryd.prog W 0 (fun _ => true) true Tryd.f5.params.toList args.toList ds p := hA0
  rw [Tryd.params5] at hA hval
  obtain ⟨v0, vs0, d0, ds0, p0, q0, hargs, rfl, rfl, h0, r0⟩ := trodAll_cons hA
  obtain ⟨rfl, rfl, rfl⟩ := trodAll_nil r0
  obtain rfl : args = #[v0] := by cases args; simp_all
  obtain ⟨rfl, rfl⟩ := trodVars_none hV
  obtain ⟨a0, rfl, rfl, rfl, w0⟩ := open_string Tryd.underlying9 (hval 0 9 v0 rfl rfl) h0
  clear hA0 hval0
  refine (walk a0 W w0).mono ?_
  rintro e W' ⟨rfl, bel⟩
  exact ⟨_, rfl, _, _, _, [], _, [], hW', trodAll_mk1 (shut_bool Tryd.underlying4 _), (trodAll_cons_mk (shut_string Tryd.underlying9 w0) trodAll_mk0), rfl, bel.frame _, fun h => by cases h⟩

theorem over : Rows.wordsQuotedRow.holds Tryd.pinned (OpenSpec.ofChange Rows.wordsQuotedSpec) :=
  OpenClaim.holds_of_cond 5 Tryd.f5 rfl rfl rfl rfl rfl rfl rfl ⟨rfl, rfl, rfl, rfl, rfl⟩ rfl rfl rfl rfl rfl (by kernel_rfl) Tryd.func5 (by kernel_rfl)
    (of_decide_eq_true (by kernel_rfl)) (by unfold Func.isWrapper; first | (rw [if_pos (by decide +kernel)]; kernel_rfl) | (rw [if_neg (by decide +kernel)]; exact ⟨rfl, rfl⟩))
    (fun os started H enc _ F => by rw [OpenClaim.pre_eq_preRow]; exact lifted os started H enc F)

/-- No parameter wants a stand-in. -/
theorem plain (f : FuncId) (fn : Func) (hf : Tryd.pinned.checked.prog.funcNamed Rows.wordsQuotedRow.func = some f) (hfn : Tryd.pinned.checked.prog.funcs[f]? = some fn) :
    false = Tryd.pinned.checked.prog.looks [] ∧ ∀ (j : Nat) t, fn.params[j]? = some t → Tryd.pinned.checked.prog.wantsStandIn t = false := by
  obtain rfl : f = 5 := Option.some.inj ((show Tryd.prog.funcNamed Rows.wordsQuotedRow.func = some 5 by kernel_rfl).symm.trans hf) |>.symm
  obtain rfl : fn = Tryd.f5 := (Option.some.inj (Tryd.func5.symm.trans hfn)).symm
  refine ⟨by kernel_rfl, fun j t ht => ?_⟩
  rw [Tryd.params5] at ht
  have hm := Array.mem_of_getElem? ht
  simp only [List.mem_toArray, List.mem_cons, List.not_mem_nil, or_false] at hm
  rcases hm with rfl
  · exact (show Tryd.prog.wantsStandIn 9 = false by kernel_rfl)
end Go.Proofs.YtjmjeiegbkfdbaaDoor.wordsQuoted
namespace Go.Proofs.YtjmjeiegbkfdbaaDoor
/-- THE STATEMENT. -/
theorem wordsQuoted_holds : Rows.WordsQuotedCardSaid :=
  Claim7.holds_tied_plain_at .later [] _ _ _ _ wordsQuoted.over (fun _ h => by cases h) (by kernel_rfl) (fun _ h => by cases h) wordsQuoted_row_tie rfl ⟨rfl, rfl⟩ (by kernel_rfl) rfl wordsQuoted.plain (by kernel_rfl)
#print axioms wordsQuoted_holds
end Go.Proofs.YtjmjeiegbkfdbaaDoor
