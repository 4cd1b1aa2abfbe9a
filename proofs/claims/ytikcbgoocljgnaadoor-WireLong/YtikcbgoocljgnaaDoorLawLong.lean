/- Proved here: a line of more than MaxLine bytes is told as too long, once, and let go with its end, one of MaxLine bytes is a command; likewise a mark for more than MaxLiteral bytes, and for MaxLiteral (WireLong returns true for every input, and leaves its arguments as they were). No condition beyond what the card says: five tables and two errors of the library hold what its text lays. -/
import Derived.Test.YtikcbgoocljgnaaDoorCards
import Derived.Test.YtikcbgoocljgnaaDoorTie
import Derived.Test.YtikcbgoocljgnaaDoorOpen
import Derived.Test.YtikcbgoocljgnaaDoorM29
import Derived.Test.YtikcbgoocljgnaaDoorP3
import Derived.ProofKit
import Derived.OpenShut
import Derived.ShutString
import Derived.Below
namespace Go.Proofs.YtikcbgoocljgnaaDoor.wireLong
open Go.ChangeShapes Go.WideShapes Go.ChangeAt Go.RowKit
open Go.ChangeMaps (open_string shut_string)
set_option linter.unusedVariables false
set_option linter.unusedSimpArgs false

theorem tmod_500 (n : Int) : ∃ m : Nat, m < 500 ∧ n.tmod 500 % 500 = (m : Int) ∧ -500 < n.tmod 500 ∧ n.tmod 500 < 500 := by
  have h1 := Int.tmod_lt_of_pos n (show (0 : Int) < 500 by omega)
  have h2 := Int.lt_tmod_of_pos n (show (0 : Int) < 500 by omega)
  generalize n.tmod 500 = q at *
  exact ⟨(q % 500).toNat, by omega, by omega, by omega, by omega⟩
set_option maxRecDepth 100000 in
theorem bool_any (b : Bool) (w : World) : Calls Tryd.prog 21 #[.bool b] w fun e w' => e = .returned (.int .i64 (if b then 1 else 0)) ∧ w' = w := by
  cases b <;>
  · go_enter Tryd.func21, Tryd.ntmps21
    go_wp2_with fail
    go_ret
    exact ⟨rfl, rfl⟩
set_option maxRecDepth 100000 in
set_option maxHeartbeats 8000000 in
theorem walk {w : World} (n : Int) (on : Bool) (hE : Env w) (hn : -9223372036854775808 ≤ n ∧ n ≤ 9223372036854775807) : Calls Tryd.prog 7 #[.int .i64 n, .bool on] w fun e w' => e = .returned (.bool true) ∧ Below w.heap.size w w' := by
  obtain ⟨m, hm, hq, hr1, hr2⟩ := tmod_500 n
  have HX := hid hq
  clear hq
  have hA := take_a 4000 (by omega)
  have hL := take_long m
  have h3 := take_a 3 (by omega)
  have HA := hid hA
  have HL := hid hL
  have H3 := hid h3
  clear hA hL h3
  have HC0 := hid (fs_new w)
  go_enter Tryd.func7, Tryd.ntmps7
  go_wp2_with fail
  refine HC0.out.mono ?_
  rintro e w1 ⟨rfl, hf1⟩
  have HF1 := hid hf1
  have HC1 := hid (line_at 4000 4002 (by omega) rfl w1 4000 rfl)
  clear hf1 HC0
  go_wp2_with fail
  refine HC1.out.mono ?_
  rintro e w2 ⟨g2, c2, rfl, hcc, hga, hg1, hg2, hb2⟩
  have CT := take_at (HF1.out.later hb2) g2 0 c2 4002 _ (by rw [List.length_append, many_len]; first | rfl | (simp; omega)) hcc hga (fun e => by have := HF1.out.f.lt _ e; omega) hg2 (by omega) HA.out
  have HCT := hid CT
  clear CT hga hcc hg1 hg2 hb2 HF1 HC1
  go_wp2_with fail
  refine HCT.out.mono ?_
  rintro e w3 ⟨va, own3, rfl, hf3, he3, hu3, _, _⟩
  have HF3 := hid hf3
  have HE3 := hid he3
  have HC1 := hid (line_at (4000 + (m + 1)) (4003 + m) (by omega) (by omega) w3 (4000 + (1 + n.tmod 500 % 500)) (by rw [HX.out]; omega))
  clear hf3 he3 hu3 HCT
  go_wp2_with fail
  refine HC1.out.mono ?_
  rintro e w4 ⟨g4, c4, rfl, hcc, hga, hg1, hg2, hb4⟩
  have CT := take_at (HF3.out.later hb4) g4 0 c4 (4003 + m) _ (by rw [List.length_append, many_len]; first | rfl | (simp; omega)) hcc hga (fun e => by have := HF3.out.f.lt _ e; omega) hg2 (by omega) HL.out
  have HCT := hid CT
  have HE4 := hid (HE3.out.later hb4)
  clear CT hga hcc hg1 hg2 hb4 HF3 HC1 HE3
  go_wp2_with fail
  refine HCT.out.mono ?_
  rintro e w5 ⟨vb, own5, rfl, hf5, he5, hu5, _, _⟩
  have HF5 := hid hf5
  have HE5 := hid he5
  have HA5 := hid (hu5 _ _ HE4.out)
  have HC1 := hid (line_at 3 5 (by omega) rfl w5 3 rfl)
  clear hf5 he5 hu5 HCT HE4
  go_wp2_with fail
  refine HC1.out.mono ?_
  rintro e w6 ⟨g6, c6, rfl, hcc, hga, hg1, hg2, hb6⟩
  have CT := take_at (HF5.out.later hb6) g6 0 c6 5 _ (by rw [List.length_append, many_len]; first | rfl | (simp; omega)) hcc hga (fun e => by have := HF5.out.f.lt _ e; omega) hg2 (by omega) H3.out
  have HCT := hid CT
  have HE6 := hid (HE5.out.later hb6)
  have HA6 := hid (HA5.out.later hb6)
  clear CT hga hcc hg1 hg2 hb6 HF5 HC1 HE5 HA5
  go_wp2_with fail
  refine HCT.out.mono ?_
  rintro e w7 ⟨vc, own7, rfl, hf7, he7, hu7, _, _⟩
  obtain ⟨ga, ca, rfl, ka⟩ := ev_one (hu7 _ _ HA6.out)
  obtain ⟨gb, cb, rfl, kb⟩ := ev_one (hu7 _ _ HE6.out)
  obtain ⟨gc, cc, rfl, kc⟩ := ev_one he7
  have HI := hid (idle_any hf7.f)
  have HF7' := hid hf7
  clear hf7 he7 hu7 HCT HA6 HE6 HA HL H3
  simp only [Fd.zero] at HI
  go_wp2_with fail
  refine HI.out.mono ?_
  rintro e w8 ⟨rfl, hb8⟩
  have HF7 := hid (HF7'.out.later hb8)
  clear hb8 HI HF7' ka kb kc
  cases on with
  | true =>
    have eT : (⟨#[116, 32, 123, 53, 48, 48, 48, 48]⟩ : ByteArray) ++ ⟨#[43, 125, 13, 10]⟩ = str (tS true) := by rw [show (⟨#[116, 32, 123, 53, 48, 48, 48, 48]⟩ : ByteArray) = str [116, 32, 123, 53, 48, 48, 48, 48] from rfl, show (⟨#[43, 125, 13, 10]⟩ : ByteArray) = str [43, 125, 13, 10] from rfl, app_str]; rfl
    have eU : (⟨#[117, 32, 123, 53, 48, 48, 48, 49]⟩ : ByteArray) ++ ⟨#[43, 125, 13, 10]⟩ = str (uS true) := by rw [show (⟨#[117, 32, 123, 53, 48, 48, 48, 49]⟩ : ByteArray) = str [117, 32, 123, 53, 48, 48, 48, 49] from rfl, show (⟨#[43, 125, 13, 10]⟩ : ByteArray) = str [43, 125, 13, 10] from rfl, app_str]; rfl
    have HTt := hid (take_t true)
    have HTu := hid (take_u true)
    have HTl := hid (take_tl true)
    have htl : (tS true).length ≤ 1000 := by decide
    have hul : (uS true).length ≤ 1000 := by decide
    generalize hts : tS true = ts at *
    generalize hus : uS true = us at *
    have zt := str_size ts
    have zu := str_size us
    clear hts hus
    have hcv := strW_conv w8 ts
    have CT := take_text HF7.out ts (by omega)
    rw [HTt.out] at CT
    have HCT := hid CT
    clear CT
    go_wp2_with fail
    refine HCT.out.mono ?_
    rintro e w9 ⟨vd, own9, rfl, hf9, he9, hu9, _, _⟩
    have HF9 := hid hf9
    have HE9 := hid he9
    have HCL := hid (line_at 50000 50002 (by omega) rfl w9 50000 rfl)
    clear hf9 he9 hu9 hcv HCT
    go_wp2_with fail
    refine HCL.out.mono ?_
    rintro e w10 ⟨g10, c10, rfl, hcc, hga, hg1, hg2, hb10⟩
    have CT := take_at (HF9.out.later hb10) g10 0 c10 50002 _ (by rw [List.length_append, many_len]; rfl) hcc hga (fun e => by have := HF9.out.f.lt _ e; omega) hg2 (by omega) HTl.out
    have HE10 := hid (HE9.out.later hb10)
    have HCT := hid CT
    clear CT hga hcc hg1 hg2 hb10 HF9 HE9 HCL
    go_wp2_with fail
    refine HCT.out.mono ?_
    rintro e w11 ⟨ve, own11, rfl, hf11, he11, hu11, _, _⟩
    have HF11 := hid hf11
    have HE11 := hid he11
    have HD11 := hid (hu11 _ _ HE10.out)
    have hcv := strW_conv w11 us
    have CT := take_text hf11 us (by omega)
    rw [HTu.out] at CT
    have HCT := hid CT
    clear CT hf11 he11 hu11 HE10
    go_wp2_with fail
    refine HCT.out.mono ?_
    rintro e w12 ⟨vg, own12, rfl, hf12, he12, hu12, _, _⟩
    have hd12 := hu12 _ _ HD11.out
    have hx12 := hu12 _ _ HE11.out
    have HCI := hid (idle_any hf12.f)
    have HD := hid hd12
    have HX := hid hx12
    have HG := hid he12
    have HK := hid hf12.k
    clear hf12 he12 hu12 hcv HCT HF11 HE11 HD11 hd12 hx12
    go_wp2_with fail
    refine HCI.out.mono ?_
    rintro e w13 ⟨rfl, hb13⟩
    have hdd := HD.out.later hb13
    have hxx := HX.out.later hb13
    have hgg := HG.out.later hb13
    have HK13 := hid (HK.out.trans (hb13.mono HK.out.size))
    obtain ⟨ad, cd, rfl⟩ := ev_len hdd
    obtain ⟨gx, cx, rfl, kx⟩ := ev_one hxx
    obtain ⟨gg, cg, rfl, kg⟩ := ev_one hgg
    clear hdd hxx hgg hb13 HD HX HG HK HCI
    simp only [if_true, List.length_nil] at *
    go_wp2_with fail
    refine (bool_any false _).mono ?_
    rintro e w14 ⟨rfl, hw14⟩
    subst w14
    go_wp2_with fail
    refine (alive_ok w13).mono ?_
    rintro e w15 ⟨rfl, hb15⟩
    have HB15 := hid (HK13.out.trans (hb15.mono HK13.out.size))
    clear hb15
    go_wp2_with fail
    go_ret
    exact ⟨rfl, HB15.out⟩
  | false =>
    have eT : (⟨#[116, 32, 123, 53, 48, 48, 48, 48]⟩ : ByteArray) ++ ⟨#[125, 13, 10]⟩ = str (tS false) := by rw [show (⟨#[116, 32, 123, 53, 48, 48, 48, 48]⟩ : ByteArray) = str [116, 32, 123, 53, 48, 48, 48, 48] from rfl, show (⟨#[125, 13, 10]⟩ : ByteArray) = str [125, 13, 10] from rfl, app_str]; rfl
    have eU : (⟨#[117, 32, 123, 53, 48, 48, 48, 49]⟩ : ByteArray) ++ ⟨#[125, 13, 10]⟩ = str (uS false) := by rw [show (⟨#[117, 32, 123, 53, 48, 48, 48, 49]⟩ : ByteArray) = str [117, 32, 123, 53, 48, 48, 48, 49] from rfl, show (⟨#[125, 13, 10]⟩ : ByteArray) = str [125, 13, 10] from rfl, app_str]; rfl
    have HTt := hid (take_t false)
    have HTu := hid (take_u false)
    have HTl := hid (take_tl false)
    have htl : (tS false).length ≤ 1000 := by decide
    have hul : (uS false).length ≤ 1000 := by decide
    generalize hts : tS false = ts at *
    generalize hus : uS false = us at *
    have zt := str_size ts
    have zu := str_size us
    clear hts hus
    have hcv := strW_conv w8 ts
    have CT := take_text HF7.out ts (by omega)
    rw [HTt.out] at CT
    have HCT := hid CT
    clear CT
    go_wp2_with fail
    refine HCT.out.mono ?_
    rintro e w9 ⟨vd, own9, rfl, hf9, he9, hu9, _, _⟩
    have HF9 := hid hf9
    have HE9 := hid he9
    have HCL := hid (line_at 50000 50002 (by omega) rfl w9 50000 rfl)
    clear hf9 he9 hu9 hcv HCT
    go_wp2_with fail
    refine HCL.out.mono ?_
    rintro e w10 ⟨g10, c10, rfl, hcc, hga, hg1, hg2, hb10⟩
    have CT := take_at (HF9.out.later hb10) g10 0 c10 50002 _ (by rw [List.length_append, many_len]; rfl) hcc hga (fun e => by have := HF9.out.f.lt _ e; omega) hg2 (by omega) HTl.out
    have HE10 := hid (HE9.out.later hb10)
    have HCT := hid CT
    clear CT hga hcc hg1 hg2 hb10 HF9 HE9 HCL
    go_wp2_with fail
    refine HCT.out.mono ?_
    rintro e w11 ⟨ve, own11, rfl, hf11, he11, hu11, _, _⟩
    have HF11 := hid hf11
    have HE11 := hid he11
    have HD11 := hid (hu11 _ _ HE10.out)
    have hcv := strW_conv w11 us
    have CT := take_text hf11 us (by omega)
    rw [HTu.out] at CT
    have HCT := hid CT
    clear CT hf11 he11 hu11 HE10
    go_wp2_with fail
    refine HCT.out.mono ?_
    rintro e w12 ⟨vg, own12, rfl, hf12, he12, hu12, _, _⟩
    have hd12 := hu12 _ _ HD11.out
    have hx12 := hu12 _ _ HE11.out
    have HCI := hid (idle_any hf12.f)
    have HD := hid hd12
    have HX := hid hx12
    have HG := hid he12
    have HK := hid hf12.k
    clear hf12 he12 hu12 hcv HCT HF11 HE11 HD11 hd12 hx12
    go_wp2_with fail
    refine HCI.out.mono ?_
    rintro e w13 ⟨rfl, hb13⟩
    have hdd := HD.out.later hb13
    have hxx := HX.out.later hb13
    have hgg := HG.out.later hb13
    have HK13 := hid (HK.out.trans (hb13.mono HK.out.size))
    obtain ⟨ad, cd, rfl⟩ := ev_len hdd
    obtain ⟨gx, cx, rfl, kx⟩ := ev_one hxx
    obtain ⟨gg, cg, rfl, kg⟩ := ev_one hgg
    clear hdd hxx hgg hb13 HD HX HG HK HCI
    simp only [Bool.false_eq_true, if_false, List.length_cons, List.length_nil, Nat.zero_add] at *
    go_wp2_with fail
    refine (bool_any true _).mono ?_
    rintro e w14 ⟨rfl, hw14⟩
    subst w14
    go_wp2_with fail
    refine (alive_ok w13).mono ?_
    rintro e w15 ⟨rfl, hb15⟩
    have HB15 := hid (HK13.out.trans (hb15.mono HK13.out.size))
    clear hb15
    go_wp2_with fail
    go_ret
    exact ⟨rfl, HB15.out⟩

theorem witness (os : Os) {H : Type} (enc : TypeId × Value → H) :
    (OpenSpec.ofChange Rows.wireLongSpec).preRow enc Tryd.prog Tryd.f7 Rows.wireLongRow.domain false Rows.wireLongRow.laid ((laidWorld os).forCall (fun _ _ => 0) ⟨#[], #[.int .i64 0, .bool false], []⟩).memory #[.int .i64 0, .bool false] := by
  have hw : (DataW.whole enc Tryd.prog ((laidWorld os).forCall (fun _ _ => 0) ⟨#[], #[.int .i64 0, .bool false], []⟩).memory Tryd.f7.params.toList Rows.wireLongSpec.vars false (#[.int .i64 0, .bool false] : Array Value).toList 8).map (fun x => (x.1, x.2.1)) =
      some ([.lit (.int .i64 0), .lit (.bool false)], []) := by kernel_rfl
  obtain ⟨⟨x1, x2, x3⟩, hx, hx1⟩ := Option.map_eq_some_iff.1 hw
  simp only [Prod.mk.injEq] at hx1
  obtain ⟨rfl, rfl⟩ := hx1
  exact OpenSpec.preRow_of_cond 8 hx (by kernel_rfl) (fun k hk => by cases hk) (by kernel_rfl) (laid_met os _)

set_option maxRecDepth 100000 in
set_option maxHeartbeats 2000000 in
theorem lifted (os : Os) (started : os.Started) (H : Type) (enc : TypeId × Value → H) (F : Stop.Interp) :
    ReturnsInHanded {} Tryd.checked os 7 .any ((OpenSpec.ofChange Rows.wireLongSpec).preRow enc Tryd.prog Tryd.f7 Rows.wireLongRow.domain false Rows.wireLongRow.laid) (((OpenSpec.ofChange Rows.wireLongSpec).at F).post enc Tryd.prog Tryd.f7 false true false false) := by
  refine returnsInHanded_of_row (C := Tryd.checked) (s := OpenSpec.ofChange Rows.wireLongSpec) own started (by kernel_rfl) Tryd.func7
    (witness_row_atRef (enc := enc) (C := Tryd.checked) false (laidWorld os) #[.int .i64 0, .bool false] rfl (by kernel_rfl) (by kernel_rfl) (by kernel_rfl) (witness os enc)) ?_
  intro W base args ds gs before hval0 hW _ _ _ hL hsh _
  have hval : ∀ (j : Nat) t v, Tryd.f7.params[j]? = some t → args[j]? = some v → Value.okWide Tryd.prog W .any base t v := hval0
  have hW' := hW
  obtain ⟨p, q, hA0, hV, rfl, hfz, hnd⟩ := hW
  have hA : DataW.TrodAll enc Tryd.prog W 0 (fun _ => true) true Tryd.f7.params.toList args.toList ds p := hA0
  rw [Tryd.params7] at hA hval
  obtain ⟨v0, vs0, d0, ds0, p0, q0, hargs, rfl, rfl, h0, r0⟩ := trodAll_cons hA
  obtain ⟨v1, vs1, d1, ds1, p1, q1, rfl, rfl, rfl, h1, r1⟩ := trodAll_cons r0
  obtain ⟨rfl, rfl, rfl⟩ := trodAll_nil r1
  obtain rfl : args = #[v0, v1] := by cases args; simp_all
  obtain ⟨rfl, rfl⟩ := trodVars_none hV
  obtain ⟨a0, rfl, rfl, rfl, w0⟩ := open_int Tryd.underlying3 (hval 0 3 v0 rfl rfl) h0
  obtain ⟨a1, rfl, rfl, rfl⟩ := open_bool Tryd.underlying4 (hval 1 4 v1 rfl rfl) h1
  clear hA0 hval0
  refine (walk a0 a1 (env_of hL) (bounds_i64 w0)).mono ?_
  rintro e W' ⟨rfl, bel⟩
  exact ⟨_, rfl, _, _, _, [], _, [], hW', trodAll_mk1 (shut_bool Tryd.underlying4 _), (trodAll_cons_mk (shut_int Tryd.underlying3 w0) (trodAll_cons_mk (shut_bool Tryd.underlying4 a1) trodAll_mk0)), rfl, bel.frame _, fun h => by cases h⟩

theorem over : Rows.wireLongRow.holds Tryd.pinned (OpenSpec.ofChange Rows.wireLongSpec) :=
  OpenClaim.holds_of_cond 7 Tryd.f7 rfl rfl rfl rfl rfl rfl rfl ⟨rfl, rfl, rfl, rfl, rfl⟩ rfl rfl rfl rfl rfl (by kernel_rfl) Tryd.func7 (by kernel_rfl)
    (of_decide_eq_true (by kernel_rfl)) (by unfold Func.isWrapper; first | (rw [if_pos (by decide +kernel)]; kernel_rfl) | (rw [if_neg (by decide +kernel)]; exact ⟨rfl, rfl⟩))
    (fun os started H enc _ F => by rw [OpenClaim.pre_eq_preRow]; exact lifted os started H enc F)

/-- No parameter wants a stand-in. -/
theorem plain (f : FuncId) (fn : Func) (hf : Tryd.pinned.checked.prog.funcNamed Rows.wireLongRow.func = some f) (hfn : Tryd.pinned.checked.prog.funcs[f]? = some fn) :
    true = Tryd.pinned.checked.prog.looks [] ∧ ∀ (j : Nat) t, fn.params[j]? = some t → Tryd.pinned.checked.prog.wantsStandIn t = false := by
  obtain rfl : f = 7 := Option.some.inj ((show Tryd.prog.funcNamed Rows.wireLongRow.func = some 7 by kernel_rfl).symm.trans hf) |>.symm
  obtain rfl : fn = Tryd.f7 := (Option.some.inj (Tryd.func7.symm.trans hfn)).symm
  refine ⟨by kernel_rfl, fun j t ht => ?_⟩
  rw [Tryd.params7] at ht
  have hm := Array.mem_of_getElem? ht
  simp only [List.mem_toArray, List.mem_cons, List.not_mem_nil, or_false, or_self] at hm
  rcases hm with rfl | rfl
  · exact (show Tryd.prog.wantsStandIn 3 = false by kernel_rfl)
  · exact (show Tryd.prog.wantsStandIn 4 = false by kernel_rfl)
end Go.Proofs.YtikcbgoocljgnaaDoor.wireLong
namespace Go.Proofs.YtikcbgoocljgnaaDoor
/-- THE STATEMENT. -/
theorem wireLong_holds : Rows.WireLongCardSaid :=
  Claim7.holds_tied_plain_at .later [] _ _ _ _ wireLong.over (fun _ h => by cases h) (by kernel_rfl) (fun _ h => by cases h) wireLong_row_tie rfl ⟨rfl, rfl⟩ (by kernel_rfl) rfl wireLong.plain (by kernel_rfl)
#print axioms wireLong_holds
end Go.Proofs.YtikcbgoocljgnaaDoor
