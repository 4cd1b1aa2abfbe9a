/- Proved here: bytes are read from their letters as they were, what is read is so written, and three bytes are four letters (WordsBack returns true for every input, and leaves its arguments as they were). No condition beyond what the card says: two tables of the library hold what its text lays. -/
import Derived.Test.YtjmjeiegbkfdbaaDoorCards
import Derived.Test.YtjmjeiegbkfdbaaDoorTie
import Derived.Test.YtjmjeiegbkfdbaaDoorFrame
import Derived.ProofKit
import Derived.OpenShut
import Derived.ShutString
import Derived.Below
namespace Go.Proofs.YtjmjeiegbkfdbaaDoor.wordsBack
open Go.ChangeShapes Go.WideShapes Go.ChangeAt Go.RowKit
open Go.ChangeMaps (open_string shut_string)
set_option linter.unusedVariables false
set_option linter.unusedSimpArgs false

set_option maxRecDepth 100000 in
set_option maxHeartbeats 4000000 in
theorem walk (a0 a1 : ByteArray) (w : World) (h0 : a0.size ≤ maxLen) (h1 : a1.size ≤ maxLen) :
    Calls Tryd.prog 4 #[.string a0, .string a1] w fun e w' => e = .returned (.bool true) ∧ Below w.heap.size w w' := by
  obtain ⟨x, rfl⟩ : ∃ x, a0 = str x := ⟨a0.data.toList, (str_of a0).symm⟩
  obtain ⟨y, rfl⟩ : ∃ y, a1 = str y := ⟨a1.data.toList, (str_of a1).symm⟩
  unfold maxLen at h0 h1
  have hx := str_size x
  have hy := str_size y
  rw [hx] at h0
  rw [hy] at h1
  by_cases g0 : (5000 : Int) < x.length
  · go_enter Tryd.func4, Tryd.ntmps4
    go_wp2_with fail
    refine (alive_any w).mono ?_
    rintro e w1 ⟨rfl, hb⟩
    have HB := hid hb
    clear hb
    go_wp2_with fail
    go_ret
    exact ⟨rfl, HB.out⟩
  by_cases g1 : (5000 : Int) < y.length
  · go_enter Tryd.func4, Tryd.ntmps4
    go_wp2_with fail
    refine (alive_any w).mono ?_
    rintro e w1 ⟨rfl, hb⟩
    have HB := hid hb
    clear hb
    go_wp2_with fail
    go_ret
    exact ⟨rfl, HB.out⟩
  have hbl := b64_len x
  have hbs := str_size (b64 x)
  have HBL := hid hbl
  have q1 : ((str x).toList == (str x).toList) = true := by simp
  have hlen : ((b64 x).length : Int) = ((x.length : Int) + 2) / 3 * 4 := by rw [hbl]; omega
  have q2 : ((((x.length : Int) + 2) / 3 * 4) == (((x.length : Int) + 2) / 3 * 4)) = true := by simp
  clear hbl
  go_enter Tryd.func4, Tryd.ntmps4
  go_wp2_with fail
  have C := base64_any x w (by omega)
  refine C.mono ?_
  clear C
  rintro e u1 ⟨rfl, hb⟩
  have HBu1 := hid hb
  clear hb
  go_wp2_with fail
  have C := unbase64_any (b64 x) u1 (by rw [HBL.out]; omega)
  rw [unV_ok (un_back x)] at C
  refine C.mono ?_
  clear C
  rintro e u2 ⟨rfl, hb⟩
  have HBu2 := hid (HBu1.out.trans (hb.mono HBu1.out.size))
  clear hb
  go_wp2_with fail
  refine (no_any _ _).mono ?_
  rintro e wn ⟨rfl, rfl⟩
  go_wp2_with fail
  rcases hu : un y with _ | z
  · have HV := hid (unV_no hu)
    clear hu
    have q3 : ((⟨#[]⟩ : ByteArray).toList == []) = true := by rw [show (⟨#[]⟩ : ByteArray) = str [] from rfl, eq_lit]; simp
    have C := unbase64_any y wn (by omega)
    rw [HV.out] at C
    refine C.mono ?_
    clear C
    rintro e u4 ⟨rfl, hb⟩
    have HBu4 := hid (HBu2.out.trans (hb.mono HBu2.out.size))
    clear hb
    go_wp2_with fail
    refine (no_any _ _).mono ?_
    rintro e wn2 ⟨rfl, rfl⟩
    go_wp2_with fail
    refine (no_any _ _).mono ?_
    rintro e wn3 ⟨rfl, rfl⟩
    go_wp2_with fail
    have C := alive_any wn3
    refine C.mono ?_
    clear C
    rintro e z ⟨rfl, hb⟩
    have HBz := hid (HBu4.out.trans (hb.mono HBu4.out.size))
    clear hb
    go_wp2_with fail
    go_ret
    exact ⟨rfl, HBz.out⟩
  · have HV := hid (unV_ok hu)
    have hz := (un_iff y z).1 hu
    have HZ := hid hz
    have HZL := hid (un_len hu)
    have q4 : ((str y).toList == (str y).toList) = true := by simp
    clear hu hz
    have C := unbase64_any y wn (by omega)
    rw [HV.out] at C
    refine C.mono ?_
    clear C
    rintro e u4 ⟨rfl, hb⟩
    have HBu4 := hid (HBu2.out.trans (hb.mono HBu2.out.size))
    clear hb
    go_wp2_with fail
    refine (no_any _ _).mono ?_
    rintro e wn2 ⟨rfl, rfl⟩
    go_wp2_with fail
    have C := base64_any z wn2 (by have := HZL.out; omega)
    rw [HZ.out] at C
    refine C.mono ?_
    clear C
    rintro e u5 ⟨rfl, hb⟩
    have HBu5 := hid (HBu4.out.trans (hb.mono HBu4.out.size))
    clear hb
    go_wp2_with fail
    have C := alive_any u5
    refine C.mono ?_
    clear C
    rintro e z ⟨rfl, hb⟩
    have HBz := hid (HBu5.out.trans (hb.mono HBu5.out.size))
    clear hb
    go_wp2_with fail
    go_ret
    exact ⟨rfl, HBz.out⟩

theorem witness (os : Os) {H : Type} (enc : TypeId × Value → H) :
    (OpenSpec.ofChange Rows.wordsBackSpec).preRow enc Tryd.prog Tryd.f4 Rows.wordsBackRow.domain false Rows.wordsBackRow.laid ((laidWorld os).forCall (fun _ _ => 0) ⟨#[], #[.string ⟨#[]⟩, .string ⟨#[]⟩], []⟩).memory #[.string ⟨#[]⟩, .string ⟨#[]⟩] := by
  have hw : (DataW.whole enc Tryd.prog ((laidWorld os).forCall (fun _ _ => 0) ⟨#[], #[.string ⟨#[]⟩, .string ⟨#[]⟩], []⟩).memory Tryd.f4.params.toList Rows.wordsBackSpec.vars false (#[.string ⟨#[]⟩, .string ⟨#[]⟩] : Array Value).toList 8).map (fun x => (x.1, x.2.1)) =
      some ([.lit (.string []), .lit (.string [])], []) := by kernel_rfl
  obtain ⟨⟨x1, x2, x3⟩, hx, hx1⟩ := Option.map_eq_some_iff.1 hw
  simp only [Prod.mk.injEq] at hx1
  obtain ⟨rfl, rfl⟩ := hx1
  exact OpenSpec.preRow_of_cond 8 hx (by kernel_rfl) (fun k hk => by cases hk) (by kernel_rfl) (laid_met os _)

set_option maxRecDepth 100000 in
set_option maxHeartbeats 2000000 in
theorem lifted (os : Os) (started : os.Started) (H : Type) (enc : TypeId × Value → H) (F : Stop.Interp) :
    ReturnsInHanded {} Tryd.checked os 4 .any ((OpenSpec.ofChange Rows.wordsBackSpec).preRow enc Tryd.prog Tryd.f4 Rows.wordsBackRow.domain false Rows.wordsBackRow.laid) (((OpenSpec.ofChange Rows.wordsBackSpec).at F).post enc Tryd.prog Tryd.f4 false true false false) := by
  refine returnsInHanded_of_row (C := Tryd.checked) (s := OpenSpec.ofChange Rows.wordsBackSpec) own started (by kernel_rfl) Tryd.func4
    (witness_row_atRef (enc := enc) (C := Tryd.checked) false (laidWorld os) #[.string ⟨#[]⟩, .string ⟨#[]⟩] rfl (by kernel_rfl) (by kernel_rfl) (by kernel_rfl) (witness os enc)) ?_
  intro W base args ds gs before hval0 hW _ _ _ hL hsh _
  have hval : ∀ (j : Nat) t v, Tryd.f4.params[j]? = some t → args[j]? = some v → Value.okWide Tryd.prog W .any base t v := hval0
  have hW' := hW
  obtain ⟨p, q, hA0, hV, rfl, hfz, hnd⟩ := hW
  have hA : DataW.TrodAll enc Tryd.prog W 0 (fun _ => true) true Tryd.f4.params.toList args.toList ds p := hA0
  rw [Tryd.params4] at hA hval
  obtain ⟨v0, vs0, d0, ds0, p0, q0, hargs, rfl, rfl, h0, r0⟩ := trodAll_cons hA
  obtain ⟨v1, vs1, d1, ds1, p1, q1, rfl, rfl, rfl, h1, r1⟩ := trodAll_cons r0
  obtain ⟨rfl, rfl, rfl⟩ := trodAll_nil r1
  obtain rfl : args = #[v0, v1] := by cases args; simp_all
  obtain ⟨rfl, rfl⟩ := trodVars_none hV
  obtain ⟨a0, rfl, rfl, rfl, w0⟩ := open_string Tryd.underlying9 (hval 0 9 v0 rfl rfl) h0
  obtain ⟨a1, rfl, rfl, rfl, w1⟩ := open_string Tryd.underlying9 (hval 1 9 v1 rfl rfl) h1
  clear hA0 hval0
  refine (walk a0 a1 W w0 w1).mono ?_
  rintro e W' ⟨rfl, bel⟩
  exact ⟨_, rfl, _, _, _, [], _, [], hW', trodAll_mk1 (shut_bool Tryd.underlying4 _), (trodAll_cons_mk (shut_string Tryd.underlying9 w0) (trodAll_cons_mk (shut_string Tryd.underlying9 w1) trodAll_mk0)), rfl, bel.frame _, fun h => by cases h⟩

theorem over : Rows.wordsBackRow.holds Tryd.pinned (OpenSpec.ofChange Rows.wordsBackSpec) :=
  OpenClaim.holds_of_cond 4 Tryd.f4 rfl rfl rfl rfl rfl rfl rfl ⟨rfl, rfl, rfl, rfl, rfl⟩ rfl rfl rfl rfl rfl (by kernel_rfl) Tryd.func4 (by kernel_rfl)
    (of_decide_eq_true (by kernel_rfl)) (by unfold Func.isWrapper; first | (rw [if_pos (by decide +kernel)]; kernel_rfl) | (rw [if_neg (by decide +kernel)]; exact ⟨rfl, rfl⟩))
    (fun os started H enc _ F => by rw [OpenClaim.pre_eq_preRow]; exact lifted os started H enc F)

/-- No parameter wants a stand-in. -/
theorem plain (f : FuncId) (fn : Func) (hf : Tryd.pinned.checked.prog.funcNamed Rows.wordsBackRow.func = some f) (hfn : Tryd.pinned.checked.prog.funcs[f]? = some fn) :
    false = Tryd.pinned.checked.prog.looks [] ∧ ∀ (j : Nat) t, fn.params[j]? = some t → Tryd.pinned.checked.prog.wantsStandIn t = false := by
  obtain rfl : f = 4 := Option.some.inj ((show Tryd.prog.funcNamed Rows.wordsBackRow.func = some 4 by kernel_rfl).symm.trans hf) |>.symm
  obtain rfl : fn = Tryd.f4 := (Option.some.inj (Tryd.func4.symm.trans hfn)).symm
  refine ⟨by kernel_rfl, fun j t ht => ?_⟩
  rw [Tryd.params4] at ht
  have hm := Array.mem_of_getElem? ht
  simp only [List.mem_toArray, List.mem_cons, List.not_mem_nil, or_false] at hm
  rcases hm with rfl | rfl
  · exact (show Tryd.prog.wantsStandIn 9 = false by kernel_rfl)
  · exact (show Tryd.prog.wantsStandIn 9 = false by kernel_rfl)
end Go.Proofs.YtjmjeiegbkfdbaaDoor.wordsBack
namespace Go.Proofs.YtjmjeiegbkfdbaaDoor
/-- THE STATEMENT. -/
theorem wordsBack_holds : Rows.WordsBackCardSaid :=
  Claim7.holds_tied_plain_at .later [] _ _ _ _ wordsBack.over (fun _ h => by cases h) (by kernel_rfl) (fun _ h => by cases h) wordsBack_row_tie rfl ⟨rfl, rfl⟩ (by kernel_rfl) rfl wordsBack.plain (by kernel_rfl)
#print axioms wordsBack_holds
end Go.Proofs.YtjmjeiegbkfdbaaDoor
