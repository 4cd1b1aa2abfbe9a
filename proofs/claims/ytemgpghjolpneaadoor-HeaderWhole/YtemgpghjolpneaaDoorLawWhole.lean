/- Proved here: a message is its header and the rest; the header ends with the first empty line; its fields are those that it has without that line (HeaderWhole returns true for every input, and leaves its arguments as they were). No condition beyond what the card says: two tables of the library hold what its text lays. -/
import Derived.Test.YtemgpghjolpneaaDoorCards
import Derived.Test.YtemgpghjolpneaaDoorTie
import Derived.Test.YtemgpghjolpneaaDoorFrame
import Derived.Test.YtemgpghjolpneaaDoorP4
import Derived.ProofKit
import Derived.OpenShut
import Derived.ShutString
import Derived.Below
namespace Go.Proofs.YtemgpghjolpneaaDoor.headerWhole
open Go.ChangeShapes Go.WideShapes Go.ChangeAt Go.RowKit
open Go.ChangeMaps (open_string shut_string)
set_option linter.unusedVariables false
set_option linter.unusedSimpArgs false

theorem addS (l m s : Bs) (h : l ++ m = s) : str l ++ str m = str s := by rw [app_str, h]
theorem fl_b (s : Bs) (h : s.length ≤ 1000000) : (fieldsP s).length ≤ 1000000 := by unfold fieldsP; rw [List.length_map]; exact Nat.le_trans (ents_len s) h
theorem lastC {l : Bs} (h : l.getLast? = some 10) : ∃ (h0 : 0 < l.length), l[l.length - 1]'(by omega) = 10 := by
  have hn : l ≠ [] := by rintro rfl; simp at h
  refine ⟨List.length_pos_iff.2 hn, ?_⟩
  rw [List.getLast?_eq_some_getLast hn, List.getLast_eq_getElem hn] at h
  exact Option.some.inj h

set_option maxRecDepth 100000 in
set_option maxHeartbeats 8000000 in
theorem walk (a0 : ByteArray) {w : World} (he : Env w) (h0 : a0.size ≤ maxLen) :
    Calls Tryd.prog 6 #[.string a0] w fun e w' => e = .returned (.bool true) ∧ Below w.heap.size w w' := by
  obtain ⟨s, rfl⟩ : ∃ s, a0 = str s := ⟨a0.data.toList, (str_of a0).symm⟩
  unfold maxLen at h0
  have hx := str_size s
  rw [hx] at h0
  have HE := hid he
  clear he
  by_cases g0 : (20000 : Int) < s.length
  · go_enter Tryd.func6, Tryd.ntmps6
    go_wp2_with fail
    refine (alive_any HE.out).mono ?_
    rintro e wz ⟨rfl, hb⟩
    have HBz := hid (hb)
    clear hb
    go_wp2_with fail
    go_ret
    exact ⟨rfl, HBz.out⟩
  · have hle := hdr_le _ s (Nat.le_refl _)
    have hag := hdr_again _ s (Nat.le_refl _)
    have hcat : s.take (hdr s) ++ s.drop (hdr s) = s := List.take_append_drop _ _
    have hpos := hdr_pos s
    have hen := hdr_ends _ s (Nat.le_refl _)
    have C1 := cut_any s w (by omega)
    unfold CutIs at C1
    have hhl : (s.take (hdr s)).length = hdr s := by rw [List.length_take]; omega
    have hbl : (s.drop (hdr s)).length = s.length - hdr s := List.length_drop
    have C2 := fun W => cut_any (s.take (hdr s)) W (by omega)
    unfold CutIs at C2
    rw [hag, List.take_take, Nat.min_self, List.drop_take, Nat.sub_self, List.take_zero] at C2
    have hbe : s.drop (hdr s) = [] ↔ ¬ hdr s < s.length := by
      rw [List.drop_eq_nil_iff]; omega
    generalize hH : s.take (hdr s) = H at *
    generalize hBq : s.drop (hdr s) = Bq at *
    generalize hdr s = n at *
    have HC1 := hid C1
    have HC2 := hid C2
    have hHs := str_size H
    have hBs := str_size Bq
    have HA := hid (addS H Bq s hcat)
    have qa : ((str s).toList == (str s).toList) = true := by simp
    have qb : ((str H).toList == (str H).toList) = true := by simp
    have qc : ((str ([] : Bs)).toList == []) = true := by rw [eqL]; simp
    have qd : ((str H).toList == []) = decide (H = []) := eqL H []
    have qe : ((str s).toList == []) = decide (s = []) := eqL s []
    have qf : ((str Bq).toList == []) = decide (Bq = []) := eqL Bq []
    have hHe : H = [] → s = [] := by
      intro e
      by_cases hs : s = []
      · exact hs
      · have := hpos hs
        rw [e] at hhl
        simp at hhl
        omega
    have hHl : (H.length : Int) ≤ 20000 := by omega
    have hBl : (Bq.length : Int) ≤ 20000 := by omega
    have hlt : ¬ Bq = [] → n < s.length := fun h => by
      rcases Nat.lt_or_ge n s.length with h1 | h1
      · exact h1
      · exact absurd (hbe.2 (by omega)) h
    have hA := HA.out
    have HT := hid (take_str H (H.length - 2))
    have HD : Hid ((str H).extract (H.length - 2) H.length = str (H.drop (H.length - 2))) := by rw [Hid, ← str_size]; exact drop_str H _
    clear C1 C2 hag hcat hpos hH hBq HA hbe hhl hbl hle
    by_cases hB : Bq = []
    · have dB : decide (Bq = []) = true := by simp [hB]
      rw [dB] at qf
      clear hen dB hB hlt
      by_cases hH0 : H = []
      · have dH : decide (H = []) = true := by simp [hH0]
        have dS : decide (s = []) = true := by simp [hHe hH0]
        have h2 : ¬ (2 : Int) ≤ H.length := by rw [hH0]; simp
        rw [dH] at qd
        rw [dS] at qe
        clear dH dS hHe hH0
        go_enter Tryd.func6, Tryd.ntmps6
        go_wp2_with fail
        refine HC1.out.mono ?_
        rintro e w1 ⟨rfl, hb⟩
        have HB1 := hid hb
        clear hb
        go_wp2_with fail
        refine (HC2.out _).mono ?_
        rintro e w2 ⟨rfl, hb⟩
        have HB2 := hid (HB1.out.trans (hb.mono HB1.out.size))
        clear hb
        go_wp2_with fail
        refine (alive_any (HE.out.later HB2.out)).mono ?_
        rintro e wz ⟨rfl, hb⟩
        have HBz := hid (HB2.out.trans (hb.mono HB2.out.size))
        clear hb
        go_wp2_with fail
        go_ret
        exact ⟨rfl, HBz.out⟩
      · have dH : decide (H = []) = false := by simp [hH0]
        rw [dH] at qd
        clear dH hHe hH0
        by_cases h2 : (2 : Int) ≤ H.length
        · rcases hq : (((str H).extract (H.length - 2) H.length).toList == [13, 10])
          · skip
            go_enter Tryd.func6, Tryd.ntmps6
            go_wp2_with fail
            refine HC1.out.mono ?_
            rintro e w1 ⟨rfl, hb⟩
            have HB1 := hid hb
            clear hb
            go_wp2_with fail
            refine (HC2.out _).mono ?_
            rintro e w2 ⟨rfl, hb⟩
            have HB2 := hid (HB1.out.trans (hb.mono HB1.out.size))
            clear hb
            go_wp2_with fail
            refine (alive_any (HE.out.later HB2.out)).mono ?_
            rintro e wz ⟨rfl, hb⟩
            have HBz := hid (HB2.out.trans (hb.mono HB2.out.size))
            clear hb
            go_wp2_with fail
            go_ret
            exact ⟨rfl, HBz.out⟩
          · skip
            go_enter Tryd.func6, Tryd.ntmps6
            go_wp2_with fail
            refine HC1.out.mono ?_
            rintro e w1 ⟨rfl, hb⟩
            have HB1 := hid hb
            clear hb
            go_wp2_with fail
            refine (HC2.out _).mono ?_
            rintro e w2 ⟨rfl, hb⟩
            have HB2 := hid (HB1.out.trans (hb.mono HB1.out.size))
            clear hb
            go_wp2_with fail
            refine (alive_any (HE.out.later HB2.out)).mono ?_
            rintro e wz ⟨rfl, hb⟩
            have HBz := hid (HB2.out.trans (hb.mono HB2.out.size))
            clear hb
            go_wp2_with fail
            go_ret
            exact ⟨rfl, HBz.out⟩
        · skip
          go_enter Tryd.func6, Tryd.ntmps6
          go_wp2_with fail
          refine HC1.out.mono ?_
          rintro e w1 ⟨rfl, hb⟩
          have HB1 := hid hb
          clear hb
          go_wp2_with fail
          refine (HC2.out _).mono ?_
          rintro e w2 ⟨rfl, hb⟩
          have HB2 := hid (HB1.out.trans (hb.mono HB1.out.size))
          clear hb
          go_wp2_with fail
          refine (alive_any (HE.out.later HB2.out)).mono ?_
          rintro e wz ⟨rfl, hb⟩
          have HBz := hid (HB2.out.trans (hb.mono HB2.out.size))
          clear hb
          go_wp2_with fail
          go_ret
          exact ⟨rfl, HBz.out⟩
    · have dB : decide (Bq = []) = false := by simp [hB]
      rw [dB] at qf
      obtain ⟨p, e, hp, hc, hem⟩ := hen (hlt hB)
      obtain ⟨hl0, hlast⟩ := lastC (emp_last hp hem)
      have HFb := hid (fields_bare hp hc hem)
      have hH0 : decide (H = []) = false := by simp; intro e; subst e; simp at hl0
      rw [hH0] at qd
      have hls : H.length - 1 < (str H).size := by omega
      have gl : ((str H)[H.length - 1]'hls) = 10 := hlast
      clear dB hB hp hc hem hen hlt hH0 hHe
      by_cases h2 : (2 : Int) ≤ H.length
      · rcases hq : (((str H).extract (H.length - 2) H.length).toList == [13, 10])
        · skip
          go_enter Tryd.func6, Tryd.ntmps6
          go_wp2_with fail
          refine HC1.out.mono ?_
          rintro e w1 ⟨rfl, hb⟩
          have HB1 := hid hb
          clear hb
          go_wp2_with fail
          refine (HC2.out _).mono ?_
          rintro e w2 ⟨rfl, hb⟩
          have HB2 := hid (HB1.out.trans (hb.mono HB1.out.size))
          clear hb
          go_wp2_with fail
          refine (fields_any H (HE.out.later HB2.out) (by omega)).mono ?_
          rintro e w3 ⟨⟨v3, rfl, ho3⟩, hb⟩
          have HO3 := hid ho3.rl
          have HB3 := hid (HB2.out.trans (hb.mono HB2.out.size))
          clear hb ho3
          go_wp2_with fail
          refine (fields_any H (HE.out.later HB3.out) (by first | omega | (rw [List.length_take]; omega))).mono ?_
          rintro e w4 ⟨⟨v4, rfl, ho4⟩, hb⟩
          have HO4 := hid ho4.rl
          have HO5 := hid (HO3.out.later hb)
          have HB4 := hid (HB3.out.trans (hb.mono HB3.out.size))
          clear hb ho4
          have C5 := sameF_any HO5.out HO4.out (fl_b H (by omega)) (fl_b H (by first | omega | (rw [List.length_take]; omega)))
          rw [show decide (fieldsP H = fieldsP H) = true by simp] at C5
          go_wp2_with fail
          refine C5.mono ?_
          rintro e w5 ⟨rfl, hb⟩
          have HB5 := hid (HB4.out.trans (hb.mono HB4.out.size))
          clear hb C5
          go_wp2_with fail
          refine (alive_any (HE.out.later HB5.out)).mono ?_
          rintro e wz ⟨rfl, hb⟩
          have HBz := hid (HB5.out.trans (hb.mono HB5.out.size))
          clear hb
          go_wp2_with fail
          go_ret
          exact ⟨rfl, HBz.out⟩
        · have HFx : Hid (fieldsP H = fieldsP (H.take (H.length - 2))) := HFb.out (by have := hq; rw [HD.out, eqL] at this; simpa using this) (by omega)
          go_enter Tryd.func6, Tryd.ntmps6
          go_wp2_with fail
          refine HC1.out.mono ?_
          rintro e w1 ⟨rfl, hb⟩
          have HB1 := hid hb
          clear hb
          go_wp2_with fail
          refine (HC2.out _).mono ?_
          rintro e w2 ⟨rfl, hb⟩
          have HB2 := hid (HB1.out.trans (hb.mono HB1.out.size))
          clear hb
          go_wp2_with fail
          refine (fields_any H (HE.out.later HB2.out) (by omega)).mono ?_
          rintro e w3 ⟨⟨v3, rfl, ho3⟩, hb⟩
          have HO3 := hid ho3.rl
          have HB3 := hid (HB2.out.trans (hb.mono HB2.out.size))
          clear hb ho3
          go_wp2_with fail
          rw [HT.out]
          refine (fields_any (H.take (H.length - 2)) (HE.out.later HB3.out) (by first | omega | (rw [List.length_take]; omega))).mono ?_
          rintro e w4 ⟨⟨v4, rfl, ho4⟩, hb⟩
          have HO4 := hid ho4.rl
          have HO5 := hid (HO3.out.later hb)
          have HB4 := hid (HB3.out.trans (hb.mono HB3.out.size))
          clear hb ho4
          have C5 := sameF_any HO5.out HO4.out (fl_b H (by omega)) (fl_b (H.take (H.length - 2)) (by first | omega | (rw [List.length_take]; omega)))
          rw [show decide (fieldsP H = fieldsP (H.take (H.length - 2))) = true by simp [← HFx.out]] at C5
          go_wp2_with fail
          refine C5.mono ?_
          rintro e w5 ⟨rfl, hb⟩
          have HB5 := hid (HB4.out.trans (hb.mono HB4.out.size))
          clear hb C5
          go_wp2_with fail
          refine (alive_any (HE.out.later HB5.out)).mono ?_
          rintro e wz ⟨rfl, hb⟩
          have HBz := hid (HB5.out.trans (hb.mono HB5.out.size))
          clear hb
          go_wp2_with fail
          go_ret
          exact ⟨rfl, HBz.out⟩
      · skip
        go_enter Tryd.func6, Tryd.ntmps6
        go_wp2_with fail
        refine HC1.out.mono ?_
        rintro e w1 ⟨rfl, hb⟩
        have HB1 := hid hb
        clear hb
        go_wp2_with fail
        refine (HC2.out _).mono ?_
        rintro e w2 ⟨rfl, hb⟩
        have HB2 := hid (HB1.out.trans (hb.mono HB1.out.size))
        clear hb
        go_wp2_with fail
        refine (fields_any H (HE.out.later HB2.out) (by omega)).mono ?_
        rintro e w3 ⟨⟨v3, rfl, ho3⟩, hb⟩
        have HO3 := hid ho3.rl
        have HB3 := hid (HB2.out.trans (hb.mono HB2.out.size))
        clear hb ho3
        go_wp2_with fail
        refine (fields_any H (HE.out.later HB3.out) (by first | omega | (rw [List.length_take]; omega))).mono ?_
        rintro e w4 ⟨⟨v4, rfl, ho4⟩, hb⟩
        have HO4 := hid ho4.rl
        have HO5 := hid (HO3.out.later hb)
        have HB4 := hid (HB3.out.trans (hb.mono HB3.out.size))
        clear hb ho4
        have C5 := sameF_any HO5.out HO4.out (fl_b H (by omega)) (fl_b H (by first | omega | (rw [List.length_take]; omega)))
        rw [show decide (fieldsP H = fieldsP H) = true by simp] at C5
        go_wp2_with fail
        refine C5.mono ?_
        rintro e w5 ⟨rfl, hb⟩
        have HB5 := hid (HB4.out.trans (hb.mono HB4.out.size))
        clear hb C5
        go_wp2_with fail
        refine (alive_any (HE.out.later HB5.out)).mono ?_
        rintro e wz ⟨rfl, hb⟩
        have HBz := hid (HB5.out.trans (hb.mono HB5.out.size))
        clear hb
        go_wp2_with fail
        go_ret
        exact ⟨rfl, HBz.out⟩

theorem witness (os : Os) {H : Type} (enc : TypeId × Value → H) :
    (OpenSpec.ofChange Rows.headerWholeSpec).preRow enc Tryd.prog Tryd.f6 Rows.headerWholeRow.domain false Rows.headerWholeRow.laid ((laidWorld os).forCall (fun _ _ => 0) ⟨#[], #[.string ⟨#[]⟩], []⟩).memory #[.string ⟨#[]⟩] := by
  have hw : (DataW.whole enc Tryd.prog ((laidWorld os).forCall (fun _ _ => 0) ⟨#[], #[.string ⟨#[]⟩], []⟩).memory Tryd.f6.params.toList Rows.headerWholeSpec.vars false (#[.string ⟨#[]⟩] : Array Value).toList 8).map (fun x => (x.1, x.2.1)) =
      some ([.lit (.string [])], []) := by kernel_rfl
  obtain ⟨⟨x1, x2, x3⟩, hx, hx1⟩ := Option.map_eq_some_iff.1 hw
  simp only [Prod.mk.injEq] at hx1
  obtain ⟨rfl, rfl⟩ := hx1
  exact OpenSpec.preRow_of_cond 8 hx (by kernel_rfl) (fun k hk => by cases hk) (by kernel_rfl) (laid_met os _)

set_option maxRecDepth 100000 in
set_option maxHeartbeats 2000000 in
theorem lifted (os : Os) (started : os.Started) (H : Type) (enc : TypeId × Value → H) (F : Stop.Interp) :
    ReturnsInHanded {} Tryd.checked os 6 .any ((OpenSpec.ofChange Rows.headerWholeSpec).preRow enc Tryd.prog Tryd.f6 Rows.headerWholeRow.domain false Rows.headerWholeRow.laid) (((OpenSpec.ofChange Rows.headerWholeSpec).at F).post enc Tryd.prog Tryd.f6 false true false false) := by
  refine returnsInHanded_of_row (C := Tryd.checked) (s := OpenSpec.ofChange Rows.headerWholeSpec) own started (by kernel_rfl) Tryd.func6
    (witness_row_atRef (enc := enc) (C := Tryd.checked) false (laidWorld os) #[.string ⟨#[]⟩] rfl (by kernel_rfl) (by kernel_rfl) (by kernel_rfl) (witness os enc)) ?_
  intro W base args ds gs before hval0 hW _ _ _ hL hsh _
  have hval : ∀ (j : Nat) t v, Tryd.f6.params[j]? = some t → args[j]? = some v → Value.okWide Tryd.prog W .any base t v := hval0
  have hW' := hW
  obtain ⟨p, q, hA0, hV, rfl, hfz, hnd⟩ := hW
  have hA : DataW.TrodAll enc Tryd.prog W 0 (fun _ => true) true Tryd.f6.params.toList args.toList ds p := hA0
  rw [Tryd.params6] at hA hval
  obtain ⟨v0, vs0, d0, ds0, p0, q0, hargs, rfl, rfl, h0, r0⟩ := trodAll_cons hA
  obtain ⟨rfl, rfl, rfl⟩ := trodAll_nil r0
  obtain rfl : args = #[v0] := by cases args; simp_all
  obtain ⟨rfl, rfl⟩ := trodVars_none hV
  obtain ⟨a0, rfl, rfl, rfl, w0⟩ := open_string Tryd.underlying9 (hval 0 9 v0 rfl rfl) h0
  clear hA0 hval0
  refine (walk a0 (env_of hsh) w0).mono ?_
  rintro e W' ⟨rfl, bel⟩
  exact ⟨_, rfl, _, _, _, [], _, [], hW', trodAll_mk1 (shut_bool Tryd.underlying4 _), (trodAll_cons_mk (shut_string Tryd.underlying9 w0) trodAll_mk0), rfl, bel.frame _, fun h => by cases h⟩

theorem over : Rows.headerWholeRow.holds Tryd.pinned (OpenSpec.ofChange Rows.headerWholeSpec) :=
  OpenClaim.holds_of_cond 6 Tryd.f6 rfl rfl rfl rfl rfl rfl rfl ⟨rfl, rfl, rfl, rfl, rfl⟩ rfl rfl rfl rfl rfl (by kernel_rfl) Tryd.func6 (by kernel_rfl)
    (of_decide_eq_true (by kernel_rfl)) (by unfold Func.isWrapper; first | (rw [if_pos (by decide +kernel)]; kernel_rfl) | (rw [if_neg (by decide +kernel)]; exact ⟨rfl, rfl⟩))
    (fun os started H enc _ F => by rw [OpenClaim.pre_eq_preRow]; exact lifted os started H enc F)

/-- No parameter wants a stand-in. -/
theorem plain (f : FuncId) (fn : Func) (hf : Tryd.pinned.checked.prog.funcNamed Rows.headerWholeRow.func = some f) (hfn : Tryd.pinned.checked.prog.funcs[f]? = some fn) :
    false = Tryd.pinned.checked.prog.looks [] ∧ ∀ (j : Nat) t, fn.params[j]? = some t → Tryd.pinned.checked.prog.wantsStandIn t = false := by
  obtain rfl : f = 6 := Option.some.inj ((show Tryd.prog.funcNamed Rows.headerWholeRow.func = some 6 by kernel_rfl).symm.trans hf) |>.symm
  obtain rfl : fn = Tryd.f6 := (Option.some.inj (Tryd.func6.symm.trans hfn)).symm
  refine ⟨by kernel_rfl, fun j t ht => ?_⟩
  rw [Tryd.params6] at ht
  have hm := Array.mem_of_getElem? ht
  simp only [List.mem_toArray, List.mem_cons, List.not_mem_nil, or_false, or_self] at hm
  rcases hm with rfl
  · exact (show Tryd.prog.wantsStandIn 9 = false by kernel_rfl)
end Go.Proofs.YtemgpghjolpneaaDoor.headerWhole
namespace Go.Proofs.YtemgpghjolpneaaDoor
/-- THE STATEMENT. -/
theorem headerWhole_holds : Rows.HeaderWholeCardSaid :=
  Claim7.holds_tied_plain_at .later [] _ _ _ _ headerWhole.over (fun _ h => by cases h) (by kernel_rfl) (fun _ h => by cases h) headerWhole_row_tie rfl ⟨rfl, rfl⟩ (by kernel_rfl) rfl headerWhole.plain (by kernel_rfl)
#print axioms headerWhole_holds
end Go.Proofs.YtemgpghjolpneaaDoor
