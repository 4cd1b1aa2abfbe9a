/- Proved here: bytes as letters of base 64, and letters as bytes, are as the document says (WordsBase returns true for every input, and leaves its arguments as they were). No condition beyond what the card says: two tables of the library hold what its text lays. -/
import Derived.Test.YtjmjeiegbkfdbaaDoorCards
import Derived.Test.YtjmjeiegbkfdbaaDoorTie
import Derived.Test.YtjmjeiegbkfdbaaDoorFrame
import Derived.Test.YtjmjeiegbkfdbaaDoorR5
import Derived.ProofKit
import Derived.OpenShut
import Derived.ShutString
import Derived.Below
namespace Go.Proofs.YtjmjeiegbkfdbaaDoor.wordsBase
open Go.ChangeShapes Go.WideShapes Go.ChangeAt Go.RowKit
open Go.ChangeMaps (open_string shut_string)
set_option linter.unusedVariables false
set_option linter.unusedSimpArgs false

set_option maxRecDepth 100000 in
set_option maxHeartbeats 4000000 in
theorem walk (a0 a1 : ByteArray) (w : World) (h0 : a0.size ≤ maxLen) (h1 : a1.size ≤ maxLen) :
    Calls Tryd.prog 3 #[.string a0, .string a1] w fun e w' => e = .returned (.bool true) ∧ Below w.heap.size w w' := by
  obtain ⟨x, rfl⟩ : ∃ x, a0 = str x := ⟨a0.data.toList, (str_of a0).symm⟩
  obtain ⟨y, rfl⟩ : ∃ y, a1 = str y := ⟨a1.data.toList, (str_of a1).symm⟩
  unfold maxLen at h0 h1
  have hx := str_size x
  have hy := str_size y
  rw [hx] at h0
  rw [hy] at h1
  by_cases g0 : (2000 : Int) < x.length
  · go_enter Tryd.func3, Tryd.ntmps3
    go_wp2_with fail
    refine (alive_any w).mono ?_
    rintro e w1 ⟨rfl, hb⟩
    have HB := hid hb
    clear hb
    go_wp2_with fail
    go_ret
    exact ⟨rfl, HB.out⟩
  by_cases g1 : (2000 : Int) < y.length
  · go_enter Tryd.func3, Tryd.ntmps3
    go_wp2_with fail
    refine (alive_any w).mono ?_
    rintro e w1 ⟨rfl, hb⟩
    have HB := hid hb
    clear hb
    go_wp2_with fail
    go_ret
    exact ⟨rfl, HB.out⟩
  have q1 : ((str (b64 x)).toList == (str (b64 x)).toList) = true := by simp
  rcases hu : un y with _ | z
  · have HV := hid (unV_no hu)
    clear hu
    have q2 : ((⟨#[]⟩ : ByteArray).toList == (⟨#[]⟩ : ByteArray).toList) = true := by simp
    go_enter Tryd.func3, Tryd.ntmps3
    go_wp2_with fail
    have C := unbase64_any y w (by omega)
    rw [HV.out] at C
    refine C.mono ?_
    clear C
    rintro e u1 ⟨rfl, hb⟩
    have HBu1 := hid hb
    clear hb
    go_wp2_with fail
    have C := runbase64_any y u1 (by omega)
    rw [HV.out] at C
    refine C.mono ?_
    clear C
    rintro e u2 ⟨rfl, hb⟩
    have HBu2 := hid (HBu1.out.trans (hb.mono HBu1.out.size))
    clear hb
    go_wp2_with fail
    have C := base64_any x u2 (by omega)
    refine C.mono ?_
    clear C
    rintro e u3 ⟨rfl, hb⟩
    have HBu3 := hid (HBu2.out.trans (hb.mono HBu2.out.size))
    clear hb
    go_wp2_with fail
    refine (rbase64_any x u3 (by omega)).mono ?_
    rintro e u4 ⟨rfl, rfl⟩
    go_wp2_with fail
    refine (no_any _ _).mono ?_
    rintro e wn ⟨rfl, rfl⟩
    go_wp2_with fail
    have C := alive_any wn
    refine C.mono ?_
    clear C
    rintro e z ⟨rfl, hb⟩
    have HBz := hid (HBu3.out.trans (hb.mono HBu3.out.size))
    clear hb
    go_wp2_with fail
    go_ret
    exact ⟨rfl, HBz.out⟩
  · have HV := hid (unV_ok hu)
    clear hu
    have q2 : ((str z).toList == (str z).toList) = true := by simp
    go_enter Tryd.func3, Tryd.ntmps3
    go_wp2_with fail
    have C := unbase64_any y w (by omega)
    rw [HV.out] at C
    refine C.mono ?_
    clear C
    rintro e u1 ⟨rfl, hb⟩
    have HBu1 := hid hb
    clear hb
    go_wp2_with fail
    have C := runbase64_any y u1 (by omega)
    rw [HV.out] at C
    refine C.mono ?_
    clear C
    rintro e u2 ⟨rfl, hb⟩
    have HBu2 := hid (HBu1.out.trans (hb.mono HBu1.out.size))
    clear hb
    go_wp2_with fail
    have C := base64_any x u2 (by omega)
    refine C.mono ?_
    clear C
    rintro e u3 ⟨rfl, hb⟩
    have HBu3 := hid (HBu2.out.trans (hb.mono HBu2.out.size))
    clear hb
    go_wp2_with fail
    refine (rbase64_any x u3 (by omega)).mono ?_
    rintro e u4 ⟨rfl, rfl⟩
    go_wp2_with fail
    refine (no_any _ _).mono ?_
    rintro e wn ⟨rfl, rfl⟩
    go_wp2_with fail
    have C := alive_any wn
    refine C.mono ?_
    clear C
    rintro e z ⟨rfl, hb⟩
    have HBz := hid (HBu3.out.trans (hb.mono HBu3.out.size))
    clear hb
    go_wp2_with fail
    go_ret
    exact ⟨rfl, HBz.out⟩

theorem witness (os : Os) {H : Type} (enc : TypeId × Value → H) :
    (OpenSpec.ofChange Rows.wordsBaseSpec).preRow enc Tryd.prog Tryd.f3 Rows.wordsBaseRow.domain false Rows.wordsBaseRow.laid ((laidWorld os).forCall (fun _ _ => 0) ⟨#[], #[.string ⟨#[]⟩, .string ⟨#[]⟩], []⟩).memory #[.string ⟨#[]⟩, .string ⟨#[]⟩] := by
  have hw : (DataW.whole enc Tryd.prog ((laidWorld os).forCall (fun _ _ => 0) ⟨#[], #[.string ⟨#[]⟩, .string ⟨#[]⟩], []⟩).memory Tryd.f3.params.toList Rows.wordsBaseSpec.vars false (#[.string ⟨#[]⟩, .string ⟨#[]⟩] : Array Value).toList 8).map (fun x => (x.1, x.2.1)) =
      some ([.lit (.string []), .lit (.string [])], []) := by kernel_rfl
  obtain ⟨⟨x1, x2, x3⟩, hx, hx1⟩ := Option.map_eq_some_iff.1 hw
  simp only [Prod.mk.injEq] at hx1
  obtain ⟨rfl, rfl⟩ := hx1
  exact OpenSpec.preRow_of_cond 8 hx (by kernel_rfl) (fun k hk => by cases hk) (by kernel_rfl) (laid_met os _)

set_option maxRecDepth 100000 in
set_option maxHeartbeats 2000000 in
theorem lifted (os : Os) (started : os.Started) (H : Type) (enc : TypeId × Value → H) (F : Stop.Interp) :
    ReturnsInHanded {} Tryd.checked os 3 .any ((OpenSpec.ofChange Rows.wordsBaseSpec).preRow enc Tryd.prog Tryd.f3 Rows.wordsBaseRow.domain false Rows.wordsBaseRow.laid) (((OpenSpec.ofChange Rows.wordsBaseSpec).at F).post enc Tryd.prog Tryd.f3 false true false false) := by
  refine returnsInHanded_of_row (C := Tryd.checked) (s := OpenSpec.ofChange Rows.wordsBaseSpec) own started (by kernel_rfl) Tryd.func3
    (witness_row_atRef (enc := enc) (C := Tryd.checked) false (laidWorld os) #[.string ⟨#[]⟩, .string ⟨#[]⟩] rfl (by kernel_rfl) (by kernel_rfl) (by kernel_rfl) (witness os enc)) ?_
  intro W base args ds gs before hval0 hW _ _ _ hL hsh _
  have hval : ∀ (j : Nat) t v, Tryd.f3.params[j]? = some t → args[j]? = some v → Value.okWide Tryd.prog W .any base t v := hval0
  have hW' := hW
  obtain ⟨p, q, hA0, hV, rfl, hfz, hnd⟩ := hW
  have hA : DataW.TrodAll enc Tryd.prog W 0 (fun _ => true) true Tryd.f3.params.toList args.toList ds p := hA0
  rw [Tryd.params3] at hA hval
  obtain ⟨v0, vs0, d0, ds0, p0, q0, hargs, rfl, rfl, h0, r0⟩ := trodAll_cons hA
  obtain ⟨v1, vs1, d1, ds1, p1, q1, rfl, rfl, rfl, h1, r1⟩ := trodAll_cons r0
  obtain ⟨rfl, rfl, rfl⟩ := trodAll_nil r1
  obtain rfl : args = #[v0, v1] := by cases args; simp_all
  obtain ⟨rfl, rfl⟩ := trodVars_none hV
  obtain ⟨a0, rfl, rfl, rfl, w0⟩ := open_string Tryd.underlying9 (hval 0 9 v0 rfl rfl) h0
  obtain ⟨a1, rfl, rfl, rfl, w1⟩ := open_string Tryd.underlying9 (hval 1 9 v1 rfl rfl) h1
  clear hA0 hval0
  refine (walk a0 a1 W w0 w1).mono ?_
  rintro e W' ⟨rfl, bel⟩
  exact ⟨_, rfl, _, _, _, [], _, [], hW', trodAll_mk1 (shut_bool Tryd.underlying4 _), (trodAll_cons_mk (shut_string Tryd.underlying9 w0) (trodAll_cons_mk (shut_string Tryd.underlying9 w1) trodAll_mk0)), rfl, bel.frame _, fun h => by cases h⟩

theorem over : Rows.wordsBaseRow.holds Tryd.pinned (OpenSpec.ofChange Rows.wordsBaseSpec) :=
  OpenClaim.holds_of_cond 3 Tryd.f3 rfl rfl rfl rfl rfl rfl rfl ⟨rfl, rfl, rfl, rfl, rfl⟩ rfl rfl rfl rfl rfl (by kernel_rfl) Tryd.func3 (by kernel_rfl)
    (of_decide_eq_true (by kernel_rfl)) (by unfold Func.isWrapper; first | (rw [if_pos (by decide +kernel)]; kernel_rfl) | (rw [if_neg (by decide +kernel)]; exact ⟨rfl, rfl⟩))
    (fun os started H enc _ F => by rw [OpenClaim.pre_eq_preRow]; exact lifted os started H enc F)

/-- No parameter wants a stand-in. -/
theorem plain (f : FuncId) (fn : Func) (hf : Tryd.pinned.checked.prog.funcNamed Rows.wordsBaseRow.func = some f) (hfn : Tryd.pinned.checked.prog.funcs[f]? = some fn) :
    false = Tryd.pinned.checked.prog.looks [] ∧ ∀ (j : Nat) t, fn.params[j]? = some t → Tryd.pinned.checked.prog.wantsStandIn t = false := by
  obtain rfl : f = 3 := Option.some.inj ((show Tryd.prog.funcNamed Rows.wordsBaseRow.func = some 3 by kernel_rfl).symm.trans hf) |>.symm
  obtain rfl : fn = Tryd.f3 := (Option.some.inj (Tryd.func3.symm.trans hfn)).symm
  refine ⟨by kernel_rfl, fun j t ht => ?_⟩
  rw [Tryd.params3] at ht
  have hm := Array.mem_of_getElem? ht
  simp only [List.mem_toArray, List.mem_cons, List.not_mem_nil, or_false] at hm
  rcases hm with rfl | rfl
  · exact (show Tryd.prog.wantsStandIn 9 = false by kernel_rfl)
  · exact (show Tryd.prog.wantsStandIn 9 = false by kernel_rfl)
end Go.Proofs.YtjmjeiegbkfdbaaDoor.wordsBase
namespace Go.Proofs.YtjmjeiegbkfdbaaDoor
/-- THE STATEMENT. -/
theorem wordsBase_holds : Rows.WordsBaseCardSaid :=
  Claim7.holds_tied_plain_at .later [] _ _ _ _ wordsBase.over (fun _ h => by cases h) (by kernel_rfl) (fun _ h => by cases h) wordsBase_row_tie rfl ⟨rfl, rfl⟩ (by kernel_rfl) rfl wordsBase.plain (by kernel_rfl)
#print axioms wordsBase_holds
end Go.Proofs.YtjmjeiegbkfdbaaDoor
