/- Proved here: which names may be, how they are kept, their parts, the names above, what is under and what is moved are the document's (NamesJudges returns true for every input, and leaves its arguments as they were). No condition beyond what the card says: two tables of the library hold what its text lays. -/
import Derived.Test.YtkmggkcipgfhdaaDoorCards
import Derived.Test.YtkmggkcipgfhdaaDoorTie
import Derived.Test.YtkmggkcipgfhdaaDoorFrame
import Derived.Test.YtkmggkcipgfhdaaDoorJ7
import Derived.ProofKit
import Derived.OpenShut
import Derived.ShutString
import Derived.Below
namespace Go.Proofs.YtkmggkcipgfhdaaDoor.namesJudges
open Go.ChangeShapes Go.WideShapes Go.ChangeAt Go.RowKit
open Go.ChangeMaps (open_string shut_string)
set_option linter.unusedVariables false
set_option linter.unusedSimpArgs false

theorem parts_le (l : List UInt8) : (parts l).length ≤ l.length + 1 := by
  rw [parts_len]
  have := List.count_le_length (a := (47 : UInt8)) (l := l)
  omega

set_option maxRecDepth 100000 in
set_option maxHeartbeats 4000000 in
theorem walk (a0 a1 a2 : ByteArray) {w : World} (h : Env w) (h0 : a0.size ≤ maxLen) (h1 : a1.size ≤ maxLen) (h2 : a2.size ≤ maxLen) :
    Calls Tryd.prog 5 #[.string a0, .string a1, .string a2] w fun e w' => e = .returned (.bool true) ∧ Below w.heap.size w w' := by
  have HE := hid h
  clear h
  unfold maxLen at h0 h1 h2
  by_cases g0 : (600 : Int) < a0.size
  · go_enter Tryd.func5, Tryd.ntmps5
    go_wp2_with fail
    refine (alive_any HE.out).mono ?_
    rintro e w1 ⟨rfl, hb⟩
    have HB := hid hb
    clear hb
    go_wp2_with fail
    go_ret
    exact ⟨rfl, HB.out⟩
  by_cases g1 : (600 : Int) < a1.size
  · go_enter Tryd.func5, Tryd.ntmps5
    go_wp2_with fail
    refine (alive_any HE.out).mono ?_
    rintro e w1 ⟨rfl, hb⟩
    have HB := hid hb
    clear hb
    go_wp2_with fail
    go_ret
    exact ⟨rfl, HB.out⟩
  by_cases g2 : (600 : Int) < a2.size
  · go_enter Tryd.func5, Tryd.ntmps5
    go_wp2_with fail
    refine (alive_any HE.out).mono ?_
    rintro e w1 ⟨rfl, hb⟩
    have HB := hid hb
    clear hb
    go_wp2_with fail
    go_ret
    exact ⟨rfl, HB.out⟩
  have hp0 := parts_le a0.data.toList
  rw [← Go.Lib.size_eq] at hp0
  have HU := hid (upK_len a0.data.toList a0.size)
  have HJ : Hid ((joinP (parts a0.data.toList)).length ≤ 1000000) := by rw [Hid, join_parts, ← Go.Lib.size_eq]; omega
  have HP0 : Hid ((parts a0.data.toList).length ≤ 100000) := by unfold Hid; omega
  have HU0 : Hid ((upK a0.data.toList a0.size).length ≤ 100000) := by unfold Hid; have := HU.out; omega
  clear hp0
  have CM := hid (moved_any a0 a1 a2 w (by omega) (by omega) (by omega))
  have CR := hid (rmoved_any a0 a1 a2 w (by omega) (by omega) (by omega))
  generalize movedP a0.data.toList a1.data.toList a2.data.toList = mv at CM CR
  obtain ⟨ms, mb⟩ := mv
  go_enter Tryd.func5, Tryd.ntmps5
  go_wp2_with fail
  refine CM.out.mono ?_
  rintro e w0 ⟨rfl, rfl⟩
  go_wp2_with fail
  refine CR.out.mono ?_
  rintro e w0 ⟨rfl, rfl⟩
  clear CM CR
  go_wp2_with fail
  refine (parts_any a0 HE.out (by omega)).mono ?_
  rintro e w1 ⟨rfl, hw1⟩
  have HB1 : Hid (Below w0.heap.size w0 w1) := by rw [hw1]; exact (Below.refl _ _).alloc (Nat.le_refl _) _
  have HS1 : Hid (SL w1 (.slice (some ⟨w0.heap.size, 0, none⟩) (parts a0.data.toList).length (parts a0.data.toList).length) (parts a0.data.toList)) := by rw [hw1]; exact sl_parts w0 _
  clear hw1
  generalize (Value.slice (some ⟨w0.heap.size, 0, none⟩) (parts a0.data.toList).length (parts a0.data.toList).length) = pv at HS1 ⊢
  go_wp2_with fail
  have C := right_any a0 (HE.out.later HB1.out) (by omega)
  generalize hrb : rightP a0.data.toList = rb at C
  have HRB := hid hrb
  clear hrb
  refine C.mono ?_
  clear C
  rintro e w2 ⟨rfl, hb⟩
  have HB2 := hid (HB1.out.trans (hb.mono HB1.out.size))
  have HS2 := hid (HS1.out.later hb)
  clear hb HS1
  go_wp2_with fail
  have C := rright_any a0 (HE.out.later HB2.out) (by omega)
  rw [HRB.out] at C
  refine C.mono ?_
  clear C
  rintro e w3 ⟨rfl, hb⟩
  have HB3 := hid (HB2.out.trans (hb.mono HB2.out.size))
  have HS3 := hid (HS2.out.later hb)
  clear hb HS2
  go_wp2_with fail
  have C := norm_any a0 (HE.out.later HB3.out) (by omega)
  generalize hns : normP a0.data.toList = ns at C
  have HNS := hid hns
  clear hns
  refine C.mono ?_
  clear C
  rintro e w4 ⟨rfl, hb⟩
  have HB4 := hid (HB3.out.trans (hb.mono HB3.out.size))
  have HS4 := hid (HS3.out.later hb)
  clear hb HS3
  go_wp2_with fail
  have C := rnorm_any a0 w4 (by omega)
  rw [HNS.out] at C
  refine C.mono ?_
  clear C
  rintro e w5 ⟨rfl, hb⟩
  have HB5 := hid (HB4.out.trans (hb.mono HB4.out.size))
  have HS5 := hid (HS4.out.later hb)
  clear hb HS4
  go_wp2_with fail
  refine (rparts_fn a0 w5 (by omega)).mono ?_
  rintro e w6 ⟨⟨v6, rfl, ho6⟩, hb⟩
  have HB6 := hid (HB5.out.trans (hb.mono HB5.out.size))
  have HS6 := hid (HS5.out.later hb)
  have HO6 := hid ho6.sl
  clear hb HS5 ho6
  go_wp2_with fail
  have C := same_any HS6.out HO6.out HP0.out HP0.out
  rw [decide_eq_true rfl] at C
  refine C.mono ?_
  clear C
  rintro e w7 ⟨rfl, hb⟩
  have HB7 := hid (HB6.out.trans (hb.mono HB6.out.size))
  have HS7 := hid (HS6.out.later hb)
  clear hb HS6 HO6
  go_wp2_with fail
  have C := join_any HS7.out HJ.out HP0.out
  refine C.mono ?_
  clear C
  rintro e w8 ⟨rfl, hb⟩
  have HB8 := hid (HB7.out.trans (hb.mono HB7.out.size))
  have HS8 := hid (HS7.out.later hb)
  clear hb HS7
  go_wp2_with fail
  have C := rjoin_any HS8.out HJ.out HP0.out
  refine C.mono ?_
  clear C
  rintro e w9 ⟨rfl, rfl⟩
  go_wp2_with fail
  refine (up_any a0 w9 (by omega)).mono ?_
  rintro e w10 ⟨⟨v10, rfl, ho⟩, hb⟩
  have HB10 := hid (HB8.out.trans (hb.mono HB8.out.size))
  have HO10 := hid ho.sl
  clear hb ho HS8
  go_wp2_with fail
  refine (rup_any a0 w10 (by omega)).mono ?_
  rintro e w11 ⟨⟨v11, rfl, ho⟩, hb⟩
  have HB11 := hid (HB10.out.trans (hb.mono HB10.out.size))
  have HO11 := hid ho.sl
  have HO10b := hid (HO10.out.later hb)
  clear hb ho HO10
  go_wp2_with fail
  have C := same_any HO10b.out HO11.out HU0.out HU0.out
  rw [decide_eq_true rfl] at C
  refine C.mono ?_
  clear C
  rintro e w12 ⟨rfl, hb⟩
  have HB12 := hid (HB11.out.trans (hb.mono HB11.out.size))
  clear hb HO10b HO11
  go_wp2_with fail
  have C := under_any a0 a1 w12 (by omega)
  have C2 := runder_any a0 a1 w12 (by omega) (by omega)
  generalize underB a0.data.toList a1.data.toList = ub at C C2
  have HC2 := hid C2
  refine C.mono ?_
  clear C C2
  rintro e w13 ⟨rfl, rfl⟩
  go_wp2_with fail
  refine HC2.out.mono ?_
  clear HC2
  rintro e w14 ⟨rfl, rfl⟩
  go_wp2_with fail
  refine (alive_any (HE.out.later HB12.out)).mono ?_
  rintro e w15 ⟨rfl, hb⟩
  have HB15 := hid (HB12.out.trans (hb.mono HB12.out.size))
  clear hb
  go_wp2_with fail
  go_ret
  exact ⟨rfl, HB15.out⟩

theorem witness (os : Os) {H : Type} (enc : TypeId × Value → H) :
    (OpenSpec.ofChange Rows.namesJudgesSpec).preRow enc Tryd.prog Tryd.f5 Rows.namesJudgesRow.domain false Rows.namesJudgesRow.laid ((laidWorld os).forCall (fun _ _ => 0) ⟨#[], #[.string ⟨#[]⟩, .string ⟨#[]⟩, .string ⟨#[]⟩], []⟩).memory #[.string ⟨#[]⟩, .string ⟨#[]⟩, .string ⟨#[]⟩] := by
  have hw : (DataW.whole enc Tryd.prog ((laidWorld os).forCall (fun _ _ => 0) ⟨#[], #[.string ⟨#[]⟩, .string ⟨#[]⟩, .string ⟨#[]⟩], []⟩).memory Tryd.f5.params.toList Rows.namesJudgesSpec.vars false (#[.string ⟨#[]⟩, .string ⟨#[]⟩, .string ⟨#[]⟩] : Array Value).toList 8).map (fun x => (x.1, x.2.1)) =
      some ([.lit (.string []), .lit (.string []), .lit (.string [])], []) := by kernel_rfl
  obtain ⟨⟨x1, x2, x3⟩, hx, hx1⟩ := Option.map_eq_some_iff.1 hw
  simp only [Prod.mk.injEq] at hx1
  obtain ⟨rfl, rfl⟩ := hx1
  exact OpenSpec.preRow_of_cond 8 hx (by kernel_rfl) (fun k hk => by cases hk) (by kernel_rfl) (laid_met os _)

set_option maxRecDepth 100000 in
set_option maxHeartbeats 2000000 in
theorem lifted (os : Os) (started : os.Started) (H : Type) (enc : TypeId × Value → H) (F : Stop.Interp) :
    ReturnsInHanded {} Tryd.checked os 5 .any ((OpenSpec.ofChange Rows.namesJudgesSpec).preRow enc Tryd.prog Tryd.f5 Rows.namesJudgesRow.domain false Rows.namesJudgesRow.laid) (((OpenSpec.ofChange Rows.namesJudgesSpec).at F).post enc Tryd.prog Tryd.f5 false true false false) := by
  refine returnsInHanded_of_row (C := Tryd.checked) (s := OpenSpec.ofChange Rows.namesJudgesSpec) own started (by kernel_rfl) Tryd.func5
    (witness_row_atRef (enc := enc) (C := Tryd.checked) false (laidWorld os) #[.string ⟨#[]⟩, .string ⟨#[]⟩, .string ⟨#[]⟩] rfl (by kernel_rfl) (by kernel_rfl) (by kernel_rfl) (witness os enc)) ?_
  intro W base args ds gs before hval0 hW _ _ _ hL hsh _
  have hval : ∀ (j : Nat) t v, Tryd.f5.params[j]? = some t → args[j]? = some v → Value.okWide Tryd.prog W .any base t v := hval0
  have hW' := hW
  obtain ⟨p, q, hA0, hV, rfl, hfz, hnd⟩ := hW
  have hA : DataW.TrodAll enc Tryd.prog W 0 (fun _ => true) true Tryd.f5.params.toList args.toList ds p := hA0
  rw [Tryd.params5] at hA hval
  obtain ⟨v0, vs0, d0, ds0, p0, q0, hargs, rfl, rfl, h0, r0⟩ := trodAll_cons hA
  obtain ⟨v1, vs1, d1, ds1, p1, q1, rfl, rfl, rfl, h1, r1⟩ := trodAll_cons r0
  obtain ⟨v2, vs2, d2, ds2, p2, q2, rfl, rfl, rfl, h2, r2⟩ := trodAll_cons r1
  obtain ⟨rfl, rfl, rfl⟩ := trodAll_nil r2
  obtain rfl : args = #[v0, v1, v2] := by cases args; simp_all
  obtain ⟨rfl, rfl⟩ := trodVars_none hV
  obtain ⟨a0, rfl, rfl, rfl, w0⟩ := open_string Tryd.underlying9 (hval 0 9 v0 rfl rfl) h0
  obtain ⟨a1, rfl, rfl, rfl, w1⟩ := open_string Tryd.underlying9 (hval 1 9 v1 rfl rfl) h1
  obtain ⟨a2, rfl, rfl, rfl, w2⟩ := open_string Tryd.underlying9 (hval 2 9 v2 rfl rfl) h2
  clear hA0 hval0
  refine (walk a0 a1 a2 (env_of hL hsh) w0 w1 w2).mono ?_
  rintro e W' ⟨rfl, bel⟩
  exact ⟨_, rfl, _, _, _, [], _, [], hW', trodAll_mk1 (shut_bool Tryd.underlying4 _), (trodAll_cons_mk (shut_string Tryd.underlying9 w0) (trodAll_cons_mk (shut_string Tryd.underlying9 w1) (trodAll_cons_mk (shut_string Tryd.underlying9 w2) trodAll_mk0))), rfl, bel.frame _, fun h => by cases h⟩

theorem over : Rows.namesJudgesRow.holds Tryd.pinned (OpenSpec.ofChange Rows.namesJudgesSpec) :=
  OpenClaim.holds_of_cond 5 Tryd.f5 rfl rfl rfl rfl rfl rfl rfl ⟨rfl, rfl, rfl, rfl, rfl⟩ rfl rfl rfl rfl rfl (by kernel_rfl) Tryd.func5 (by kernel_rfl)
    (of_decide_eq_true (by kernel_rfl)) (by unfold Func.isWrapper; first | (rw [if_pos (by decide +kernel)]; kernel_rfl) | (rw [if_neg (by decide +kernel)]; exact ⟨rfl, rfl⟩))
    (fun os started H enc _ F => by rw [OpenClaim.pre_eq_preRow]; exact lifted os started H enc F)

/-- No parameter wants a stand-in. -/
theorem plain (f : FuncId) (fn : Func) (hf : Tryd.pinned.checked.prog.funcNamed Rows.namesJudgesRow.func = some f) (hfn : Tryd.pinned.checked.prog.funcs[f]? = some fn) :
    false = Tryd.pinned.checked.prog.looks [] ∧ ∀ (j : Nat) t, fn.params[j]? = some t → Tryd.pinned.checked.prog.wantsStandIn t = false := by
  obtain rfl : f = 5 := Option.some.inj ((show Tryd.prog.funcNamed Rows.namesJudgesRow.func = some 5 by kernel_rfl).symm.trans hf) |>.symm
  obtain rfl : fn = Tryd.f5 := (Option.some.inj (Tryd.func5.symm.trans hfn)).symm
  refine ⟨by kernel_rfl, fun j t ht => ?_⟩
  rw [Tryd.params5] at ht
  obtain rfl : t = 9 := by simpa using Array.mem_of_getElem? ht
  exact (show Tryd.prog.wantsStandIn 9 = false by kernel_rfl)
end Go.Proofs.YtkmggkcipgfhdaaDoor.namesJudges
namespace Go.Proofs.YtkmggkcipgfhdaaDoor
/-- THE STATEMENT. -/
theorem namesJudges_holds : Rows.NamesJudgesCardSaid :=
  Claim7.holds_tied_plain_at .later [] _ _ _ _ namesJudges.over (fun _ h => by cases h) (by kernel_rfl) (fun _ h => by cases h) namesJudges_row_tie rfl ⟨rfl, rfl⟩ (by kernel_rfl) rfl namesJudges.plain (by kernel_rfl)
#print axioms namesJudges_holds
end Go.Proofs.YtkmggkcipgfhdaaDoor
