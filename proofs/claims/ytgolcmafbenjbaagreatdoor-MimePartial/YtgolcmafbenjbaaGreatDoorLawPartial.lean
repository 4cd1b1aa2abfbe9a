/- Proved here: some bytes of a text are as the document says; two runs behind one another are one (MimePartial returns true for every input, and leaves its arguments as they were). No condition beyond what the card says: two tables of the library hold what its text lays. -/
import Derived.Test.YtgolcmafbenjbaaGreatDoorCards
import Derived.Test.YtgolcmafbenjbaaGreatDoorTie
import Derived.Test.YtgolcmafbenjbaaGreatDoorFrame
import Derived.Test.YtgolcmafbenjbaaGreatDoorN28
import Derived.ProofKit
import Derived.OpenShut
import Derived.ShutString
import Derived.Below
namespace Go.Proofs.YtgolcmafbenjbaaGreatDoor.mimePartial
open Go.ChangeShapes Go.WideShapes Go.ChangeAt Go.RowKit
open Go.ChangeMaps (open_string shut_string)
set_option linter.unusedVariables false
set_option linter.unusedSimpArgs false

/-- Two runs behind one another are one. -/
theorem runs (s : Bs) (f n m : Nat) : prt s f n ++ prt s ((f : Int) + n) m = prt s f ((n : Int) + m) := by
  rw [show (f : Int) + n = ((f + n : Nat) : Int) by omega, show (n : Int) + m = ((n + m : Nat) : Int) by omega]
  by_cases h : f ≤ s.length
  · rw [prt_yes s f n h, prt_yes s f (n + m) h]
    by_cases h2 : f + n ≤ s.length
    · rw [prt_yes s (f + n) m h2, List.take_add, List.drop_drop]
    · rw [prt_no (.inr (.inr (by omega))), List.append_nil, List.take_of_length_le (by simp; omega), List.take_of_length_le (by simp; omega)]
  · rw [prt_no (.inr (.inr (by omega))), prt_no (.inr (.inr (by omega))), prt_no (.inr (.inr (by omega)))]
    rfl
theorem prt_len (s : Bs) (f n : Int) : (prt s f n).length ≤ s.length := by
  unfold prt
  split
  · simp
  · simp; omega
/-- A number in its bounds. -/
theorem rem_nat (x : Int) : ∃ k : Nat, (x.tmod 20000 + 20000).tmod 20000 = (k : Int) ∧ k < 20000 := by
  have h1 : -20000 < x.tmod 20000 ∧ x.tmod 20000 < 20000 := ⟨Int.lt_tmod_of_pos x (by omega), Int.tmod_lt_of_pos x (by omega)⟩
  have h2 : 0 ≤ (x.tmod 20000 + 20000).tmod 20000 := Int.tmod_nonneg _ (by omega)
  have h3 : (x.tmod 20000 + 20000).tmod 20000 < 20000 := Int.tmod_lt_of_pos _ (by omega)
  exact ⟨((x.tmod 20000 + 20000).tmod 20000).toNat, by omega, by omega⟩

set_option maxRecDepth 100000 in
set_option maxHeartbeats 8000000 in
theorem walk (a0 : ByteArray) (a1 a2 a3 : Int) {w : World} (he : Env w) (h0 : a0.size ≤ maxLen) (b1 : -9223372036854775808 ≤ a1 ∧ a1 ≤ 9223372036854775807) (b2 : -9223372036854775808 ≤ a2 ∧ a2 ≤ 9223372036854775807) (b3 : -9223372036854775808 ≤ a3 ∧ a3 ≤ 9223372036854775807) :
    Calls Tryz.prog 4 #[.string a0, .int .i64 a1, .int .i64 a2, .int .i64 a3] w fun e w' => e = .returned (.bool true) ∧ Below w.heap.size w w' := by
  obtain ⟨s, rfl⟩ : ∃ s, a0 = str s := ⟨a0.data.toList, (str_of a0).symm⟩
  unfold maxLen at h0
  have hx := str_size s
  rw [hx] at h0
  have HE := hid he
  clear he
  by_cases g0 : (20000 : Int) < s.length
  · go_enter Tryz.func4, Tryz.ntmps4
    go_wp2_with fail
    refine (alive_any HE.out).mono ?_
    rintro e wz ⟨rfl, hb⟩
    have HBz := hid (hb)
    clear hb
    go_wp2_with fail
    go_ret
    exact ⟨rfl, HBz.out⟩
  · have C1 := hid (bytes_any s a1 a2 w (by omega))
    have C2 := hid (rbytes_any s a1 a2 w (by omega) b1.2 b2.2)
    have q0 : ((str (prt s a1 a2)).toList == (str (prt s a1 a2)).toList) = true := by simp
    have q0' : ((str (prt s a1 a2)).toList != (str (prt s a1 a2)).toList) = false := by simp [bne]
    generalize prt s a1 a2 = y at *
    obtain ⟨k1, e1, l1⟩ := rem_nat a1
    obtain ⟨k2, e2, l2⟩ := rem_nat a2
    obtain ⟨k3, e3, l3⟩ := rem_nat a3
    have t1 : -20000 < a1.tmod 20000 ∧ a1.tmod 20000 < 20000 := ⟨Int.lt_tmod_of_pos a1 (by omega), Int.tmod_lt_of_pos a1 (by omega)⟩
    have t2 : -20000 < a2.tmod 20000 ∧ a2.tmod 20000 < 20000 := ⟨Int.lt_tmod_of_pos a2 (by omega), Int.tmod_lt_of_pos a2 (by omega)⟩
    have t3 : -20000 < a3.tmod 20000 ∧ a3.tmod 20000 < 20000 := ⟨Int.lt_tmod_of_pos a3 (by omega), Int.tmod_lt_of_pos a3 (by omega)⟩
    have D1 := hid (bytes_any s k1 k2 w (by omega))
    have D2 := hid (bytes_any s ((k1 : Int) + k2) k3 w (by omega))
    have D3 := hid (bytes_any s k1 ((k2 : Int) + k3) w (by omega))
    have HRn := hid (runs s k1 k2 k3)
    have hy1 := str_size (prt s k1 k2)
    have hy2 := str_size (prt s ((k1 : Int) + k2) k3)
    have hz1 := prt_len s k1 k2
    have hz2 := prt_len s ((k1 : Int) + k2) k3
    have happ := app_str (prt s k1 k2) (prt s ((k1 : Int) + k2) k3)
    rw [HRn.out] at happ
    have q1 : ((str (prt s k1 ((k2 : Int) + k3))).toList == (str (prt s k1 ((k2 : Int) + k3))).toList) = true := by simp
    generalize prt s k1 k2 = z1 at *
    generalize prt s ((k1 : Int) + k2) k3 = z2 at *
    generalize prt s k1 ((k2 : Int) + k3) = z3 at *
    clear HRn h0
    go_enter Tryz.func4, Tryz.ntmps4
    go_wp2_with fail
    refine C1.out.mono ?_
    rintro e w1 ⟨rfl, rfl⟩
    go_wp2_with fail
    refine C2.out.mono ?_
    rintro e w1 ⟨rfl, rfl⟩
    go_wp2_with fail
    refine D1.out.mono ?_
    rintro e w1 ⟨rfl, rfl⟩
    go_wp2_with fail
    refine D2.out.mono ?_
    rintro e w1 ⟨rfl, rfl⟩
    go_wp2_with fail
    refine D3.out.mono ?_
    rintro e w1 ⟨rfl, rfl⟩
    go_wp2_with fail
    refine (alive_any HE.out).mono ?_
    rintro e wz ⟨rfl, hb⟩
    have HBz := hid (hb)
    clear hb
    go_wp2_with fail
    go_ret
    exact ⟨rfl, HBz.out⟩

theorem witness (os : Os) {H : Type} (enc : TypeId × Value → H) :
    (OpenSpec.ofChange Rows.mimePartialSpec).preRow enc Tryz.prog Tryz.f4 Rows.mimePartialRow.domain false Rows.mimePartialRow.laid ((laidWorld os).forCall (fun _ _ => 0) ⟨#[], #[.string ⟨#[]⟩, .int .i64 0, .int .i64 0, .int .i64 0], []⟩).memory #[.string ⟨#[]⟩, .int .i64 0, .int .i64 0, .int .i64 0] := by
  have hw : (DataW.whole enc Tryz.prog ((laidWorld os).forCall (fun _ _ => 0) ⟨#[], #[.string ⟨#[]⟩, .int .i64 0, .int .i64 0, .int .i64 0], []⟩).memory Tryz.f4.params.toList Rows.mimePartialSpec.vars false (#[.string ⟨#[]⟩, .int .i64 0, .int .i64 0, .int .i64 0] : Array Value).toList 8).map (fun x => (x.1, x.2.1)) =
      some ([.lit (.string []), .lit (.int .i64 0), .lit (.int .i64 0), .lit (.int .i64 0)], []) := by kernel_rfl
  obtain ⟨⟨x1, x2, x3⟩, hx, hx1⟩ := Option.map_eq_some_iff.1 hw
  simp only [Prod.mk.injEq] at hx1
  obtain ⟨rfl, rfl⟩ := hx1
  exact OpenSpec.preRow_of_cond 8 hx (by kernel_rfl) (fun k hk => by cases hk) (by kernel_rfl) (laid_met os _)

set_option maxRecDepth 100000 in
set_option maxHeartbeats 2000000 in
theorem lifted (os : Os) (started : os.Started) (H : Type) (enc : TypeId × Value → H) (F : Stop.Interp) :
    ReturnsInHanded {} Tryz.checked os 4 .any ((OpenSpec.ofChange Rows.mimePartialSpec).preRow enc Tryz.prog Tryz.f4 Rows.mimePartialRow.domain false Rows.mimePartialRow.laid) (((OpenSpec.ofChange Rows.mimePartialSpec).at F).post enc Tryz.prog Tryz.f4 false true false false) := by
  refine returnsInHanded_of_row (C := Tryz.checked) (s := OpenSpec.ofChange Rows.mimePartialSpec) own started (by kernel_rfl) Tryz.func4
    (witness_row_atRef (enc := enc) (C := Tryz.checked) false (laidWorld os) #[.string ⟨#[]⟩, .int .i64 0, .int .i64 0, .int .i64 0] rfl (by kernel_rfl) (by kernel_rfl) (by kernel_rfl) (witness os enc)) ?_
  intro W base args ds gs before hval0 hW _ _ _ hL hsh _
  have hval : ∀ (j : Nat) t v, Tryz.f4.params[j]? = some t → args[j]? = some v → Value.okWide Tryz.prog W .any base t v := hval0
  have hW' := hW
  obtain ⟨p, q, hA0, hV, rfl, hfz, hnd⟩ := hW
  have hA : DataW.TrodAll enc Tryz.prog W 0 (fun _ => true) true Tryz.f4.params.toList args.toList ds p := hA0
  rw [Tryz.params4] at hA hval
  obtain ⟨v0, vs0, d0, ds0, p0, q0, hargs, rfl, rfl, h0, r0⟩ := trodAll_cons hA
  obtain ⟨v1, vs1, d1, ds1, p1, q1, rfl, rfl, rfl, h1, r1⟩ := trodAll_cons r0
  obtain ⟨v2, vs2, d2, ds2, p2, q2, rfl, rfl, rfl, h2, r2⟩ := trodAll_cons r1
  obtain ⟨v3, vs3, d3, ds3, p3, q3, rfl, rfl, rfl, h3, r3⟩ := trodAll_cons r2
  obtain ⟨rfl, rfl, rfl⟩ := trodAll_nil r3
  obtain rfl : args = #[v0, v1, v2, v3] := by cases args; simp_all
  obtain ⟨rfl, rfl⟩ := trodVars_none hV
  obtain ⟨a0, rfl, rfl, rfl, w0⟩ := open_string Tryz.underlying9 (hval 0 9 v0 rfl rfl) h0
  obtain ⟨a1, rfl, rfl, rfl, w1⟩ := open_int Tryz.underlying3 (hval 1 3 v1 rfl rfl) h1
  obtain ⟨a2, rfl, rfl, rfl, w2⟩ := open_int Tryz.underlying3 (hval 2 3 v2 rfl rfl) h2
  obtain ⟨a3, rfl, rfl, rfl, w3⟩ := open_int Tryz.underlying3 (hval 3 3 v3 rfl rfl) h3
  clear hA0 hval0
  refine (walk a0 a1 a2 a3 (env_of hsh) w0 (bounds_i64 w1) (bounds_i64 w2) (bounds_i64 w3)).mono ?_
  rintro e W' ⟨rfl, bel⟩
  exact ⟨_, rfl, _, _, _, [], _, [], hW', trodAll_mk1 (shut_bool Tryz.underlying4 _), (trodAll_cons_mk (shut_string Tryz.underlying9 w0) (trodAll_cons_mk (shut_int Tryz.underlying3 w1) (trodAll_cons_mk (shut_int Tryz.underlying3 w2) (trodAll_cons_mk (shut_int Tryz.underlying3 w3) trodAll_mk0)))), rfl, bel.frame _, fun h => by cases h⟩

theorem over : Rows.mimePartialRow.holds Tryz.pinned (OpenSpec.ofChange Rows.mimePartialSpec) :=
  OpenClaim.holds_of_cond 4 Tryz.f4 rfl rfl rfl rfl rfl rfl rfl ⟨rfl, rfl, rfl, rfl, rfl⟩ rfl rfl rfl rfl rfl (by kernel_rfl) Tryz.func4 (by kernel_rfl)
    (of_decide_eq_true (by kernel_rfl)) (by unfold Func.isWrapper; first | (rw [if_pos (by decide +kernel)]; kernel_rfl) | (rw [if_neg (by decide +kernel)]; exact ⟨rfl, rfl⟩))
    (fun os started H enc _ F => by rw [OpenClaim.pre_eq_preRow]; exact lifted os started H enc F)

/-- No parameter wants a stand-in. -/
theorem plain (f : FuncId) (fn : Func) (hf : Tryz.pinned.checked.prog.funcNamed Rows.mimePartialRow.func = some f) (hfn : Tryz.pinned.checked.prog.funcs[f]? = some fn) :
    false = Tryz.pinned.checked.prog.looks [] ∧ ∀ (j : Nat) t, fn.params[j]? = some t → Tryz.pinned.checked.prog.wantsStandIn t = false := by
  obtain rfl : f = 4 := Option.some.inj ((show Tryz.prog.funcNamed Rows.mimePartialRow.func = some 4 by kernel_rfl).symm.trans hf) |>.symm
  obtain rfl : fn = Tryz.f4 := (Option.some.inj (Tryz.func4.symm.trans hfn)).symm
  refine ⟨by kernel_rfl, fun j t ht => ?_⟩
  rw [Tryz.params4] at ht
  have hm := Array.mem_of_getElem? ht
  simp only [List.mem_toArray, List.mem_cons, List.not_mem_nil, or_false, or_self] at hm
  rcases hm with rfl | rfl
  · exact (show Tryz.prog.wantsStandIn 9 = false by kernel_rfl)
  · exact (show Tryz.prog.wantsStandIn 3 = false by kernel_rfl)
end Go.Proofs.YtgolcmafbenjbaaGreatDoor.mimePartial
namespace Go.Proofs.YtgolcmafbenjbaaGreatDoor
/-- THE STATEMENT. -/
theorem mimePartial_holds : Rows.MimePartialCardSaid :=
  Claim7.holds_tied_plain_at .later [] _ _ _ _ mimePartial.over (fun _ h => by cases h) (by kernel_rfl) (fun _ h => by cases h) mimePartial_row_tie rfl ⟨rfl, rfl⟩ (by kernel_rfl) rfl mimePartial.plain (by kernel_rfl)
#print axioms mimePartial_holds
end Go.Proofs.YtgolcmafbenjbaaGreatDoor
