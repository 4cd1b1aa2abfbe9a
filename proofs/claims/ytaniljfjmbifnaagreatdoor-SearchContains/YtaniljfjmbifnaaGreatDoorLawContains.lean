/- Proved here: which texts stand in which is as the document says, and what contains a text contains each part of it (SearchContains returns true for every input, and leaves its arguments as they were). No condition beyond what the card says: two tables of the library hold what its text lays. -/
import Derived.Test.YtaniljfjmbifnaaGreatDoorCards
import Derived.Test.YtaniljfjmbifnaaGreatDoorTie
import Derived.Test.YtaniljfjmbifnaaGreatDoorK13
import Derived.Test.YtaniljfjmbifnaaGreatDoorHFrame
import Derived.ProofKit
import Derived.OpenShut
import Derived.ShutString
import Derived.Below
namespace Go.Proofs.YtaniljfjmbifnaaGreatDoor.searchContains
open Go.Proofs.YtaniljfjmbifnaaGreatDoor.H
open Go.ChangeShapes Go.WideShapes Go.ChangeAt Go.RowKit
open Go.ChangeMaps (open_string shut_string)
set_option linter.unusedVariables false
set_option linter.unusedSimpArgs false

theorem alive_w (w : World) (he : Env w) : Calls Tryz.prog 7 #[] w fun e w' => e = .returned (.bool true) ∧ Below w.heap.size w w' := alive_any he he.pos
theorem rem_in (x : Int) (n : Nat) : -(n : Int) ≤ x.tmod ((n : Int) + 1) ∧ x.tmod ((n : Int) + 1) ≤ n := by
  have h1 := Int.tmod_lt_of_pos x (show (0 : Int) < (n : Int) + 1 by omega)
  have h2 := Int.lt_tmod_of_pos x (show (0 : Int) < (n : Int) + 1 by omega)
  omega
theorem rem_pos {y : Int} (hy : 0 ≤ y) (n : Nat) : ∃ k : Nat, y.tmod ((n : Int) + 1) = k ∧ k ≤ n := by
  have h1 := Int.tmod_lt_of_pos y (show (0 : Int) < (n : Int) + 1 by omega)
  have h2 := Int.tmod_nonneg ((n : Int) + 1) hy
  exact ⟨(y.tmod ((n : Int) + 1)).toNat, by omega, by omega⟩
set_option maxRecDepth 100000 in
set_option maxHeartbeats 4000000 in
theorem walkC (w : World) (s t : Bs) (fr to : Int) (he : Env w) (hs : s.length ≤ maxLen) (ht : t.length ≤ maxLen) (hf1 : -9223372036854775808 ≤ fr) (hf2 : fr ≤ 9223372036854775807) (hg1 : -9223372036854775808 ≤ to) (hg2 : to ≤ 9223372036854775807) :
    Calls Tryz.prog 3 #[.string (str s), .string (str t), .int .i64 fr, .int .i64 to] w fun e w' => e = .returned (.bool true) ∧ Below w.heap.size w w' := by
  have hsz := str_size s
  have htz := str_size t
  unfold maxLen at hs ht
  by_cases h1 : s.length ≤ 1500
  · have h1' : ¬ (1500 : Int) < s.length := by omega
    by_cases h2 : t.length ≤ 1500
    · have h2' : ¬ (1500 : Int) < t.length := by omega
      have HE := hid he
      have C1 := con_any s t he (by omega) (by omega)
      have r1 := rem_in fr t.length
      have r2 := rem_in to t.length
      obtain ⟨k, hk, hkn⟩ := rem_pos (y := fr.tmod ((t.length : Int) + 1) + t.length + 1) (by omega) t.length
      obtain ⟨m, hm, hmn⟩ := rem_pos (y := to.tmod ((t.length : Int) + 1) + t.length + 1) (by omega) t.length
      have ht0 : ¬ ((t.length : Int) + 1 = 0) := by omega
      have htb : (t.length : Int) ≤ 1500 := by omega
      rcases hcon : conB s t with _ | _
      · by_cases hkm : m < k
        · have hkm' : (m : Int) < k := by omega
          have HM : Hid ((str t).extract m k = str ((t.drop m).take (k - m))) := by rw [Hid, mid_str]
          have HA : Hid (str s ++ str t = str (s ++ t)) := app_str s t
          have CR := hid (fun w0 => rcon_any s t w0 (by omega) (by omega))
          have CP := hid (fun (w0 : World) (h0 : Env w0) => con_any s ((t.drop m).take (k - m)) h0 (by omega) (by rw [List.length_take, List.length_drop]; omega))
          have CE := hid (fun (w0 : World) (h0 : Env w0) => con_any (s ++ t) t h0 (by rw [List.length_append]; omega) (by omega))
          have CA := hid (fun (w0 : World) (h0 : Env w0) => alive_w w0 h0)
          rw [hcon] at C1 CR
          rw [conB_end] at CE
          rw [← HM.out] at CP
          rw [← HA.out] at CE
          have HCP := hid CP
          have HCE := hid CE
          clear CP CE he hcon
          go_enter Tryz.func3, Tryz.ntmps3
          go_wp2_with fail
          refine C1.mono ?_
          rintro e w1 ⟨rfl, b1⟩
          have B1 := hid b1
          clear b1 C1
          go_wp2_with fail
          refine (CR.out _).mono ?_
          rintro e w2 ⟨rfl, b2⟩
          have B2 := hid (B1.out.trans (b2.mono B1.out.size))
          clear b2
          go_wp2_with fail
          have B3 := B2
          refine (HCE.out.out _ (HE.out.later B3.out)).mono ?_
          rintro e w4 ⟨rfl, b4⟩
          have B4 := hid (B3.out.trans (b4.mono B3.out.size))
          clear b4
          go_wp2_with fail
          refine (CA.out _ (HE.out.later B4.out)).mono ?_
          rintro e w5 ⟨rfl, b5⟩
          have B5 := hid (B4.out.trans (b5.mono B4.out.size))
          clear b5
          go_wp2_with fail
          go_ret
          exact ⟨rfl, B5.out⟩
        · have hkm' : ¬ (m : Int) < k := by omega
          have hkm2 : (k : Int) ≤ m := by omega
          have HM : Hid ((str t).extract k m = str ((t.drop k).take (m - k))) := by rw [Hid, mid_str]
          have HA : Hid (str s ++ str t = str (s ++ t)) := app_str s t
          have CR := hid (fun w0 => rcon_any s t w0 (by omega) (by omega))
          have CP := hid (fun (w0 : World) (h0 : Env w0) => con_any s ((t.drop k).take (m - k)) h0 (by omega) (by rw [List.length_take, List.length_drop]; omega))
          have CE := hid (fun (w0 : World) (h0 : Env w0) => con_any (s ++ t) t h0 (by rw [List.length_append]; omega) (by omega))
          have CA := hid (fun (w0 : World) (h0 : Env w0) => alive_w w0 h0)
          rw [hcon] at C1 CR
          rw [conB_end] at CE
          rw [← HM.out] at CP
          rw [← HA.out] at CE
          have HCP := hid CP
          have HCE := hid CE
          clear CP CE he hcon
          go_enter Tryz.func3, Tryz.ntmps3
          go_wp2_with fail
          refine C1.mono ?_
          rintro e w1 ⟨rfl, b1⟩
          have B1 := hid b1
          clear b1 C1
          go_wp2_with fail
          refine (CR.out _).mono ?_
          rintro e w2 ⟨rfl, b2⟩
          have B2 := hid (B1.out.trans (b2.mono B1.out.size))
          clear b2
          go_wp2_with fail
          have B3 := B2
          refine (HCE.out.out _ (HE.out.later B3.out)).mono ?_
          rintro e w4 ⟨rfl, b4⟩
          have B4 := hid (B3.out.trans (b4.mono B3.out.size))
          clear b4
          go_wp2_with fail
          refine (CA.out _ (HE.out.later B4.out)).mono ?_
          rintro e w5 ⟨rfl, b5⟩
          have B5 := hid (B4.out.trans (b5.mono B4.out.size))
          clear b5
          go_wp2_with fail
          go_ret
          exact ⟨rfl, B5.out⟩
      · by_cases hkm : m < k
        · have hkm' : (m : Int) < k := by omega
          have HM : Hid ((str t).extract m k = str ((t.drop m).take (k - m))) := by rw [Hid, mid_str]
          have HA : Hid (str s ++ str t = str (s ++ t)) := app_str s t
          have CR := hid (fun w0 => rcon_any s t w0 (by omega) (by omega))
          have CP := hid (fun (w0 : World) (h0 : Env w0) => con_any s ((t.drop m).take (k - m)) h0 (by omega) (by rw [List.length_take, List.length_drop]; omega))
          have CE := hid (fun (w0 : World) (h0 : Env w0) => con_any (s ++ t) t h0 (by rw [List.length_append]; omega) (by omega))
          have CA := hid (fun (w0 : World) (h0 : Env w0) => alive_w w0 h0)
          have hp := conB_part hcon m (k - m)
          rw [hcon] at C1 CR
          rw [hp] at CP
          rw [conB_end] at CE
          rw [← HM.out] at CP
          rw [← HA.out] at CE
          have HCP := hid CP
          have HCE := hid CE
          clear CP CE he hcon
          go_enter Tryz.func3, Tryz.ntmps3
          go_wp2_with fail
          refine C1.mono ?_
          rintro e w1 ⟨rfl, b1⟩
          have B1 := hid b1
          clear b1 C1
          go_wp2_with fail
          refine (CR.out _).mono ?_
          rintro e w2 ⟨rfl, b2⟩
          have B2 := hid (B1.out.trans (b2.mono B1.out.size))
          clear b2
          go_wp2_with fail
          refine (HCP.out.out _ (HE.out.later B2.out)).mono ?_
          rintro e w3 ⟨rfl, b3⟩
          have B3 := hid (B2.out.trans (b3.mono B2.out.size))
          clear b3
          go_wp2_with fail
          refine (HCE.out.out _ (HE.out.later B3.out)).mono ?_
          rintro e w4 ⟨rfl, b4⟩
          have B4 := hid (B3.out.trans (b4.mono B3.out.size))
          clear b4
          go_wp2_with fail
          refine (CA.out _ (HE.out.later B4.out)).mono ?_
          rintro e w5 ⟨rfl, b5⟩
          have B5 := hid (B4.out.trans (b5.mono B4.out.size))
          clear b5
          go_wp2_with fail
          go_ret
          exact ⟨rfl, B5.out⟩
        · have hkm' : ¬ (m : Int) < k := by omega
          have hkm2 : (k : Int) ≤ m := by omega
          have HM : Hid ((str t).extract k m = str ((t.drop k).take (m - k))) := by rw [Hid, mid_str]
          have HA : Hid (str s ++ str t = str (s ++ t)) := app_str s t
          have CR := hid (fun w0 => rcon_any s t w0 (by omega) (by omega))
          have CP := hid (fun (w0 : World) (h0 : Env w0) => con_any s ((t.drop k).take (m - k)) h0 (by omega) (by rw [List.length_take, List.length_drop]; omega))
          have CE := hid (fun (w0 : World) (h0 : Env w0) => con_any (s ++ t) t h0 (by rw [List.length_append]; omega) (by omega))
          have CA := hid (fun (w0 : World) (h0 : Env w0) => alive_w w0 h0)
          have hp := conB_part hcon k (m - k)
          rw [hcon] at C1 CR
          rw [hp] at CP
          rw [conB_end] at CE
          rw [← HM.out] at CP
          rw [← HA.out] at CE
          have HCP := hid CP
          have HCE := hid CE
          clear CP CE he hcon
          go_enter Tryz.func3, Tryz.ntmps3
          go_wp2_with fail
          refine C1.mono ?_
          rintro e w1 ⟨rfl, b1⟩
          have B1 := hid b1
          clear b1 C1
          go_wp2_with fail
          refine (CR.out _).mono ?_
          rintro e w2 ⟨rfl, b2⟩
          have B2 := hid (B1.out.trans (b2.mono B1.out.size))
          clear b2
          go_wp2_with fail
          refine (HCP.out.out _ (HE.out.later B2.out)).mono ?_
          rintro e w3 ⟨rfl, b3⟩
          have B3 := hid (B2.out.trans (b3.mono B2.out.size))
          clear b3
          go_wp2_with fail
          refine (HCE.out.out _ (HE.out.later B3.out)).mono ?_
          rintro e w4 ⟨rfl, b4⟩
          have B4 := hid (B3.out.trans (b4.mono B3.out.size))
          clear b4
          go_wp2_with fail
          refine (CA.out _ (HE.out.later B4.out)).mono ?_
          rintro e w5 ⟨rfl, b5⟩
          have B5 := hid (B4.out.trans (b5.mono B4.out.size))
          clear b5
          go_wp2_with fail
          go_ret
          exact ⟨rfl, B5.out⟩
    · have h2' : (1500 : Int) < t.length := by omega
      have C := alive_w w he
      clear he
      go_enter Tryz.func3, Tryz.ntmps3
      go_wp2_with fail
      refine C.mono ?_
      rintro e w1 ⟨rfl, b1⟩
      go_wp2_with fail
      go_ret
      exact ⟨rfl, b1⟩
  · have h1' : (1500 : Int) < s.length := by omega
    have C := alive_w w he
    clear he
    go_enter Tryz.func3, Tryz.ntmps3
    go_wp2_with fail
    refine C.mono ?_
    rintro e w1 ⟨rfl, b1⟩
    go_wp2_with fail
    go_ret
    exact ⟨rfl, b1⟩
theorem walk {w : World} (s t : ByteArray) (fr to : Int) (hE : Env w) (hs : s.size ≤ maxLen) (ht : t.size ≤ maxLen) (hf : -9223372036854775808 ≤ fr ∧ fr ≤ 9223372036854775807) (hg : -9223372036854775808 ≤ to ∧ to ≤ 9223372036854775807) : Calls Tryz.prog 3 #[.string s, .string t, .int .i64 fr, .int .i64 to] w fun e w' => e = .returned (.bool true) ∧ Below w.heap.size w w' := by
  have h := walkC w s.data.toList t.data.toList fr to hE (by
    have : s.size = s.data.toList.length := Go.Lib.size_eq s
    omega) (by
    have : t.size = t.data.toList.length := Go.Lib.size_eq t
    omega) hf.1 hf.2 hg.1 hg.2
  rw [str_of, str_of] at h
  exact h

theorem witness (os : Os) {H : Type} (enc : TypeId × Value → H) :
    (OpenSpec.ofChange Rows.searchContainsSpec).preRow enc Tryz.prog Tryz.f3 Rows.searchContainsRow.domain false Rows.searchContainsRow.laid ((laidWorld os).forCall (fun _ _ => 0) ⟨#[], #[.string ⟨#[]⟩, .string ⟨#[]⟩, .int .i64 0, .int .i64 0], []⟩).memory #[.string ⟨#[]⟩, .string ⟨#[]⟩, .int .i64 0, .int .i64 0] := by
  have hw : (DataW.whole enc Tryz.prog ((laidWorld os).forCall (fun _ _ => 0) ⟨#[], #[.string ⟨#[]⟩, .string ⟨#[]⟩, .int .i64 0, .int .i64 0], []⟩).memory Tryz.f3.params.toList Rows.searchContainsSpec.vars false (#[.string ⟨#[]⟩, .string ⟨#[]⟩, .int .i64 0, .int .i64 0] : Array Value).toList 8).map (fun x => (x.1, x.2.1)) =
      some ([.lit (.string []), .lit (.string []), .lit (.int .i64 0), .lit (.int .i64 0)], []) := by kernel_rfl
  obtain ⟨⟨x1, x2, x3⟩, hx, hx1⟩ := Option.map_eq_some_iff.1 hw
  simp only [Prod.mk.injEq] at hx1
  obtain ⟨rfl, rfl⟩ := hx1
  exact OpenSpec.preRow_of_cond 8 hx (by kernel_rfl) (fun k hk => by cases hk) (by kernel_rfl) (laid_met os _)

set_option maxRecDepth 100000 in
set_option maxHeartbeats 2000000 in
theorem lifted (os : Os) (started : os.Started) (H : Type) (enc : TypeId × Value → H) (F : Stop.Interp) :
    ReturnsInHanded {} Tryz.checked os 3 .any ((OpenSpec.ofChange Rows.searchContainsSpec).preRow enc Tryz.prog Tryz.f3 Rows.searchContainsRow.domain false Rows.searchContainsRow.laid) (((OpenSpec.ofChange Rows.searchContainsSpec).at F).post enc Tryz.prog Tryz.f3 false true false false) := by
  refine returnsInHanded_of_row (C := Tryz.checked) (s := OpenSpec.ofChange Rows.searchContainsSpec) own started (by kernel_rfl) Tryz.func3
    (witness_row_atRef (enc := enc) (C := Tryz.checked) false (laidWorld os) #[.string ⟨#[]⟩, .string ⟨#[]⟩, .int .i64 0, .int .i64 0] rfl (by kernel_rfl) (by kernel_rfl) (by kernel_rfl) (witness os enc)) ?_
  intro W base args ds gs before hval0 hW _ _ _ hL hsh _
  have hval : ∀ (j : Nat) t v, Tryz.f3.params[j]? = some t → args[j]? = some v → Value.okWide Tryz.prog W .any base t v := hval0
  have hW' := hW
  obtain ⟨p, q, hA0, hV, rfl, hfz, hnd⟩ := hW
  have hA : DataW.TrodAll enc Tryz.prog W 0 (fun _ => true) true Tryz.f3.params.toList args.toList ds p := hA0
  rw [Tryz.params3] at hA hval
  obtain ⟨v0, vs0, d0, ds0, p0, q0, hargs, rfl, rfl, h0, r0⟩ := trodAll_cons hA
  obtain ⟨v1, vs1, d1, ds1, p1, q1, rfl, rfl, rfl, h1, r1⟩ := trodAll_cons r0
  obtain ⟨v2, vs2, d2, ds2, p2, q2, rfl, rfl, rfl, h2, r2⟩ := trodAll_cons r1
  obtain ⟨v3, vs3, d3, ds3, p3, q3, rfl, rfl, rfl, h3, r3⟩ := trodAll_cons r2
  obtain ⟨rfl, rfl, rfl⟩ := trodAll_nil r3
  obtain rfl : args = #[v0, v1, v2, v3] := by cases args; simp_all
  obtain ⟨rfl, rfl⟩ := trodVars_none hV
  obtain ⟨a0, rfl, rfl, rfl, w0⟩ := open_string Tryz.underlying9 (hval 0 9 v0 rfl rfl) h0
  obtain ⟨a1, rfl, rfl, rfl, w1⟩ := open_string Tryz.underlying9 (hval 1 9 v1 rfl rfl) h1
  obtain ⟨a2, rfl, rfl, rfl, w2⟩ := open_int Tryz.underlying3 (hval 2 3 v2 rfl rfl) h2
  obtain ⟨a3, rfl, rfl, rfl, w3⟩ := open_int Tryz.underlying3 (hval 3 3 v3 rfl rfl) h3
  clear hA0 hval0
  refine (walk a0 a1 a2 a3 (env_of hsh) w0 w1 (bounds_i64 w2) (bounds_i64 w3)).mono ?_
  rintro e W' ⟨rfl, bel⟩
  exact ⟨_, rfl, _, _, _, [], _, [], hW', trodAll_mk1 (shut_bool Tryz.underlying4 _), (trodAll_cons_mk (shut_string Tryz.underlying9 w0) (trodAll_cons_mk (shut_string Tryz.underlying9 w1) (trodAll_cons_mk (shut_int Tryz.underlying3 w2) (trodAll_cons_mk (shut_int Tryz.underlying3 w3) trodAll_mk0)))), rfl, bel.frame _, fun h => by cases h⟩

theorem over : Rows.searchContainsRow.holds Tryz.pinned (OpenSpec.ofChange Rows.searchContainsSpec) :=
  OpenClaim.holds_of_cond 3 Tryz.f3 rfl rfl rfl rfl rfl rfl rfl ⟨rfl, rfl, rfl, rfl, rfl⟩ rfl rfl rfl rfl rfl (by kernel_rfl) Tryz.func3 (by kernel_rfl)
    (of_decide_eq_true (by kernel_rfl)) (by unfold Func.isWrapper; first | (rw [if_pos (by decide +kernel)]; kernel_rfl) | (rw [if_neg (by decide +kernel)]; exact ⟨rfl, rfl⟩))
    (fun os started H enc _ F => by rw [OpenClaim.pre_eq_preRow]; exact lifted os started H enc F)

/-- No parameter wants a stand-in. -/
theorem plain (f : FuncId) (fn : Func) (hf : Tryz.pinned.checked.prog.funcNamed Rows.searchContainsRow.func = some f) (hfn : Tryz.pinned.checked.prog.funcs[f]? = some fn) :
    true = Tryz.pinned.checked.prog.looks [] ∧ ∀ (j : Nat) t, fn.params[j]? = some t → Tryz.pinned.checked.prog.wantsStandIn t = false := by
  obtain rfl : f = 3 := Option.some.inj ((show Tryz.prog.funcNamed Rows.searchContainsRow.func = some 3 by kernel_rfl).symm.trans hf) |>.symm
  obtain rfl : fn = Tryz.f3 := (Option.some.inj (Tryz.func3.symm.trans hfn)).symm
  refine ⟨by kernel_rfl, fun j t ht => ?_⟩
  rw [Tryz.params3] at ht
  have hm := Array.mem_of_getElem? ht
  simp only [List.mem_toArray, List.mem_cons, List.not_mem_nil, or_false, or_self] at hm
  rcases hm with rfl | rfl | rfl
  · exact (show Tryz.prog.wantsStandIn 9 = false by kernel_rfl)
  · exact (show Tryz.prog.wantsStandIn 9 = false by kernel_rfl)
  · exact (show Tryz.prog.wantsStandIn 3 = false by kernel_rfl)
end Go.Proofs.YtaniljfjmbifnaaGreatDoor.searchContains
namespace Go.Proofs.YtaniljfjmbifnaaGreatDoor
/-- THE STATEMENT. -/
theorem searchContains_holds : Rows.SearchContainsCardSaid :=
  Claim7.holds_tied_plain_at .later [] _ _ _ _ searchContains.over (fun _ h => by cases h) (by kernel_rfl) (fun _ h => by cases h) searchContains_row_tie rfl ⟨rfl, rfl⟩ (by kernel_rfl) rfl searchContains.plain (by kernel_rfl)
#print axioms searchContains_holds
end Go.Proofs.YtaniljfjmbifnaaGreatDoor
