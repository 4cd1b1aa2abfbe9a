/- Proved here: what the makers make is of its kind, and has what it was made of (RespMade returns true for every input, and leaves its arguments as they were). No condition beyond what the card says: five tables and two errors of the library hold what its text lays. -/
import Derived.Test.YtpjcpdnolcehcaaGreatDoorCards
import Derived.Test.YtpjcpdnolcehcaaGreatDoorTie
import Derived.Test.YtpjcpdnolcehcaaGreatDoorM35
import Derived.Test.YtpjcpdnolcehcaaGreatDoorM36
import Derived.Test.YtpjcpdnolcehcaaGreatDoorFrame2
import Derived.ProofKit
import Derived.OpenShut
import Derived.ShutString
import Derived.Below
namespace Go.Proofs.YtpjcpdnolcehcaaGreatDoor.respMade
open Go.ChangeShapes Go.WideShapes Go.ChangeAt Go.RowKit
open Go.ChangeMaps (open_string shut_string)
set_option linter.unusedVariables false
set_option linter.unusedSimpArgs false

set_option maxRecDepth 100000 in
set_option maxHeartbeats 4000000 in
theorem walkM (w : World) (n : Int) (s : Bs) (f u : Value) (fs : List Int) (ks : List Vl) (hE : Env w) (hn : I64 n) (hs : s.length ≤ maxLen) (hf : LAt eI w (· < w.heap.size) f fs) (hfi : ∀ m ∈ fs, I64 m) (hu : VsAt w (· < w.heap.size) u ks) (hfk : FitL ks) (hl : ks.length ≤ maxLen) (hfl : fs.length ≤ maxLen) :
    Calls Tryz.prog 7 #[.int .i64 n, .string (str s), f, u] w (Bo true w) := by
  have hsz := str_size s
  have CW := wt_all 41 w _ u ks 0 hu hfk hl rfl
  rw [show ((0 : Nat) : Int) = 0 from rfl] at CW
  obtain ⟨fa, fc, rfl, hfc⟩ := hf.slice
  have HE := hid hE
  have HF := hid hf
  have HU := hid hu
  obtain ⟨m, hm⟩ : ∃ m, wtL 41 ks = m := ⟨_, rfl⟩
  have HM := hid hm
  rw [hm] at CW
  have hm2 : (m : Int) ≤ 100000 := by have := wtL_le 41 ks; omega
  clear hE hf hu hm
  by_cases hb1 : (5000 : Int) < m
  · clear hfi hfk hl hfl hfc
    go_enter Tryz.func7, Tryz.ntmps7
    go_wp2_with fail
    refine CW.mono ?_
    rintro e w1 ⟨rfl, b1⟩
    have B1 := hid b1
    clear b1 CW
    go_wp2_with fail
    refine (alive_any _ (HE.out.later B1.out)).mono ?_
    rintro e w2 ⟨rfl, b2⟩
    have B2 := hid (B1.out.trans (b2.mono B1.out.size))
    clear b2
    go_wp2_with fail
    go_ret
    exact ⟨rfl, B2.out⟩
  by_cases hb2 : (100 : Int) < fs.length
  · clear hfi hfk hl hfl hfc
    go_enter Tryz.func7, Tryz.ntmps7
    go_wp2_with fail
    refine CW.mono ?_
    rintro e w1 ⟨rfl, b1⟩
    have B1 := hid b1
    clear b1 CW
    go_wp2_with fail
    refine (alive_any _ (HE.out.later B1.out)).mono ?_
    rintro e w2 ⟨rfl, b2⟩
    have B2 := hid (B1.out.trans (b2.mono B1.out.size))
    clear b2
    go_wp2_with fail
    go_ret
    exact ⟨rfl, B2.out⟩
  by_cases hb3 : (5000 : Int) < s.length
  · clear hfi hfk hl hfl hfc
    go_enter Tryz.func7, Tryz.ntmps7
    go_wp2_with fail
    refine CW.mono ?_
    rintro e w1 ⟨rfl, b1⟩
    have B1 := hid b1
    clear b1 CW
    go_wp2_with fail
    refine (alive_any _ (HE.out.later B1.out)).mono ?_
    rintro e w2 ⟨rfl, b2⟩
    have B2 := hid (B1.out.trans (b2.mono B1.out.size))
    clear b2
    go_wp2_with fail
    go_ret
    exact ⟨rfl, B2.out⟩
  have hma : masL ks ≤ 5000 := by
    have := HM.out
    have h2 := wt_mas 41 ks (by omega)
    omega
  have hNL := num_masL ks hfk (by omega)
  have hht := ht_masL ks
  have hsz2 := sz_masL ks
  have hlen := len_mas ks
  have HNL := hid hNL
  obtain ⟨ua, uc, rfl, huc⟩ := HU.out.slice
  have CS := hid (fun (w' : World) (hW : Below w.heap.size w w') => sect_any w' s _ _ fs ks (HF.out.up hW) (HU.out.up hW) hNL (by omega) (by omega) (by omega))
  have CV := hid (fun (w' : World) (hW : Below w.heap.size w w') (N : Nat → Prop) (v : Value) (hv : VsAt w' N v ks) => svals_all (szL ks) w' N (· < w'.heap.size) v _ ks hv (HU.out.up hW) hNL (by omega) (Nat.le_refl _))
  have CL := hid (fun (w' : World) (hW : Below w.heap.size w w') => list_any w' _ ks (HU.out.up hW) hNL (by omega) (by omega))
  have num0 : ∀ (k : Int) (x : Bs) (q : Int), I64 q → x.length ≤ 1000000000 → NumV (.mk k x q [] []) := fun k x q h1 h2 => ⟨h1, h2, by simp, trivial, by simp, by simp⟩
  have CP := hid (fun (w' : World) (k : Int) (x : Bs) (q : Int) (h1 : I64 q) (h2 : x.length ≤ 1000000000) => sval_all 1 w' (fun _ => True) (fun _ => True) _ _ _ (VAt.plain _ _ k x q) (VAt.plain _ _ k x q) (num0 k x q h1 h2) (by simp [szV, szL]))
  have hs9 : s.length ≤ 1000000000 := by omega
  have CK := hid (fun (w' : World) (hW : Below w.heap.size w w') (N : Nat → Prop) (r : Rw) (hr : VAt w' N r (.mk 4 [] 0 ks [])) => sval_all (szL ks + 1) w' N (· < w'.heap.size) r ⟨4, [], 0, (ua, ks.length, uc), (none, 0, 0)⟩ (.mk 4 [] 0 ks []) hr ⟨⟨rfl, rfl, rfl, LAt.nil _ _ _⟩, HU.out.up hW⟩ ⟨⟨by omega, by omega⟩, by simp, by simp, hNL, by omega, by simp⟩ (by simp [szV]))
  have Z0 : I64 0 := ⟨by omega, by omega⟩
  clear hfi hfk hl hfl hfc hma hNL hht hsz2 hlen num0
  go_enter Tryz.func7, Tryz.ntmps7
  go_wp2_with fail
  refine CW.mono ?_
  rintro e w1 ⟨rfl, b1⟩
  have B1 := hid b1
  clear b1 CW
  go_wp2_with fail
  refine (CS.out _ B1.out).mono ?_
  rintro e w2 ⟨⟨k2, x2, n2, ⟨ka2, kb2, kc2⟩, ⟨fa2, fb2, fc2⟩⟩, rfl, v2, b2⟩
  obtain ⟨⟨ek, ex, en, hfr⟩, hkd⟩ := v2
  simp only [Vl.k, Vl.x, Vl.n] at ek ex en
  have ex := ex.symm
  subst ek ex en
  obtain ⟨_, _, he, _⟩ := hfr.slice
  simp only [Sl.v, Value.slice.injEq, Vl.frm] at he
  obtain ⟨rfl, rfl, rfl⟩ := he
  simp only [Vl.k, Vl.x, Vl.n, Vl.kids, Sl.v] at *
  rw [vV_mk]
  have V5' := V5.new w2 ⟨5, s, 0, (ka2, kb2, kc2), (fa2, fs.length, fc2)⟩
  obtain ⟨y0, y1, y2, y3, y4⟩ := V5'.cs
  simp only [Sl.v] at y0 y1 y2 y3 y4
  have B2 := hid (B1.out.trans (b2.mono B1.out.size))
  have B3 := hid (B2.out.trans ((al w2 (.cells #[.int .i64 5, .string (str s), .int .i64 0, .slice ka2 kb2 kc2, .slice fa2 fs.length fc2] 43)).mono B2.out.size))
  have HK := hid (hkd.later (al w2 (.cells #[.int .i64 5, .string (str s), .int .i64 0, .slice ka2 kb2 kc2, .slice fa2 fs.length fc2] 43)))
  have CV2 := CV.out _ B3.out _ _ HK.out
  have hq1 := fld43
  have hf1 := fun A => fld43k A 0 (by omega)
  have hf3 := fun A => fld43k A 2 (by omega)
  have hf4 := fun A => fld43k A 3 (by omega)
  clear hfr hkd b2 V5' B1 B2 CS
  go_wp2_with fail
  refine CV2.mono ?_
  rintro e w3 ⟨rfl, b3⟩
  have B4 := hid (B3.out.trans (b3.mono B3.out.size))
  clear b3 CV2 B3 CV HK
  go_wp2_with fail
  refine (nilv_any _).mono ?_
  rintro e w4 ⟨rfl, b4⟩
  rw [vV_mk]
  have B5 := hid (B4.out.trans (b4.mono B4.out.size))
  have C5 := CP.out w4 0 [] 0 Z0 (by simp)
  rw [vV_mk] at C5
  clear b4 B4
  go_wp2_with fail
  refine C5.mono ?_
  rintro e w5 ⟨rfl, b5⟩
  have B6 := hid (B5.out.trans (b5.mono B5.out.size))
  clear b5 B5 C5
  go_wp2_with fail
  refine (numv_any n _).mono ?_
  rintro e w6 ⟨rfl, b6⟩
  rw [vV_mk]
  have B7 := hid (B6.out.trans (b6.mono B6.out.size))
  have C7 := CP.out w6 1 [] n hn (by simp)
  rw [vV_mk] at C7
  clear b6 B6
  go_wp2_with fail
  refine C7.mono ?_
  rintro e w7 ⟨rfl, b7⟩
  have B8 := hid (B7.out.trans (b7.mono B7.out.size))
  clear b7 B7 C7
  go_wp2_with fail
  refine (atomv_any s _).mono ?_
  rintro e w8 ⟨rfl, b8⟩
  rw [vV_mk]
  have B9 := hid (B8.out.trans (b8.mono B8.out.size))
  have C9 := CP.out w8 2 s 0 Z0 hs9
  rw [vV_mk] at C9
  clear b8 B8
  go_wp2_with fail
  refine C9.mono ?_
  rintro e w9 ⟨rfl, b9⟩
  have B10 := hid (B9.out.trans (b9.mono B9.out.size))
  clear b9 B9 C9
  go_wp2_with fail
  refine (textv_any s _).mono ?_
  rintro e w10 ⟨rfl, b10⟩
  rw [vV_mk]
  have B11 := hid (B10.out.trans (b10.mono B10.out.size))
  have C11 := CP.out w10 3 s 0 Z0 hs9
  rw [vV_mk] at C11
  clear b10 B10
  go_wp2_with fail
  refine C11.mono ?_
  rintro e w11 ⟨rfl, b11⟩
  have B12 := hid (B11.out.trans (b11.mono B11.out.size))
  clear b11 B11 C11
  go_wp2_with fail
  refine (CL.out _ B12.out).mono ?_
  rintro e w12 ⟨⟨k9, x9, n9, ⟨ka9, kb9, kc9⟩, ⟨fa9, fb9, fc9⟩⟩, rfl, v9, b12⟩
  have B13 := hid (B12.out.trans (b12.mono B12.out.size))
  have C13 := CK.out w12 B13.out _ _ v9
  rw [vV_mk, vV_mk] at C13
  rw [vV_mk]
  clear b12 B12 v9
  go_wp2_with fail
  refine C13.mono ?_
  rintro e w13 ⟨rfl, b13⟩
  have B14 := hid (B13.out.trans (b13.mono B13.out.size))
  clear b13 B13 C13
  go_wp2_with fail
  refine (alive_any _ (HE.out.later B14.out)).mono ?_
  rintro e w14 ⟨rfl, b14⟩
  have B15 := hid (B14.out.trans (b14.mono B14.out.size))
  clear b14 B14
  go_wp2_with fail
  go_ret
  exact ⟨rfl, B15.out⟩
theorem walk {w : World} (n : Int) (s : ByteArray) (fa : Option Addr) (fl fc : Nat) (fs : List Int) (hf : IsOk w fa fl fc fs) (ua : Option Addr) (ul uc : Nat) (ks : List Vl) (hu : ValsOk' w ua ul uc ks) (hE : Env w) (hn : I64 n) (hs : s.size ≤ maxLen) :
    Calls Tryz.prog 7 #[.int .i64 n, .string s, .slice fa fl fc, .slice ua ul uc] w fun e w' => e = .returned (.bool true) ∧ Below w.heap.size w w' := by
  obtain ⟨f1, f2, f3, f4⟩ := hf
  obtain ⟨u1, u2, u3, u4⟩ := hu
  have h := walkM w n s.data.toList _ _ fs ks hE hn (by
    have : s.size = s.data.toList.length := Go.Lib.size_eq s
    omega) f1 f4 u1 u4 (by omega) (by omega)
  rw [str_of] at h
  exact h

theorem witness (os : Os) {H : Type} (enc : TypeId × Value → H) :
    (OpenSpec.ofChange Rows.respMadeSpec).preRow enc Tryz.prog Tryz.f7 Rows.respMadeRow.domain false Rows.respMadeRow.laid ((laidWorld os).forCall (fun _ _ => 0) ⟨#[], #[.int .i64 0, .string ⟨#[]⟩, .slice none 0 0, .slice none 0 0], []⟩).memory #[.int .i64 0, .string ⟨#[]⟩, .slice none 0 0, .slice none 0 0] := by
  have hw : (DataW.whole enc Tryz.prog ((laidWorld os).forCall (fun _ _ => 0) ⟨#[], #[.int .i64 0, .string ⟨#[]⟩, .slice none 0 0, .slice none 0 0], []⟩).memory Tryz.f7.params.toList Rows.respMadeSpec.vars false (#[.int .i64 0, .string ⟨#[]⟩, .slice none 0 0, .slice none 0 0] : Array Value).toList 8).map (fun x => (x.1, x.2.1)) =
      some ([.lit (.int .i64 0), .lit (.string []), .nil, .nil], []) := by kernel_rfl
  obtain ⟨⟨x1, x2, x3⟩, hx, hx1⟩ := Option.map_eq_some_iff.1 hw
  simp only [Prod.mk.injEq] at hx1
  obtain ⟨rfl, rfl⟩ := hx1
  exact OpenSpec.preRow_of_cond 8 hx (by kernel_rfl) (fun k hk => by cases hk) (by kernel_rfl) (laid_met os _)

set_option maxRecDepth 100000 in
set_option maxHeartbeats 2000000 in
theorem lifted (os : Os) (started : os.Started) (H : Type) (enc : TypeId × Value → H) (F : Stop.Interp) :
    ReturnsInHanded {} Tryz.checked os 7 .any ((OpenSpec.ofChange Rows.respMadeSpec).preRow enc Tryz.prog Tryz.f7 Rows.respMadeRow.domain false Rows.respMadeRow.laid) (((OpenSpec.ofChange Rows.respMadeSpec).at F).post enc Tryz.prog Tryz.f7 false true false false) := by
  refine returnsInHanded_of_row (C := Tryz.checked) (s := OpenSpec.ofChange Rows.respMadeSpec) own started (by kernel_rfl) Tryz.func7
    (witness_row_atRef (enc := enc) (C := Tryz.checked) false (laidWorld os) #[.int .i64 0, .string ⟨#[]⟩, .slice none 0 0, .slice none 0 0] rfl (by kernel_rfl) (by kernel_rfl) (by kernel_rfl) (witness os enc)) ?_
  intro W base args ds gs before hval0 hW _ _ _ hL hsh _
  have hval : ∀ (j : Nat) t v, Tryz.f7.params[j]? = some t → args[j]? = some v → Value.okWide Tryz.prog W .any base t v := hval0
  have hW' := hW
  obtain ⟨p, q, hA0, hV, rfl, hfz, hnd⟩ := hW
  have hA : DataW.TrodAll enc Tryz.prog W 0 (fun _ => true) true Tryz.f7.params.toList args.toList ds p := hA0
  rw [Tryz.params7] at hA hval
  obtain ⟨v0, vs0, d0, ds0, p0, q0, hargs, rfl, rfl, h0, r0⟩ := trodAll_cons hA
  obtain ⟨v1, vs1, d1, ds1, p1, q1, rfl, rfl, rfl, h1, r1⟩ := trodAll_cons r0
  obtain ⟨v2, vs2, d2, ds2, p2, q2, rfl, rfl, rfl, h2, r2⟩ := trodAll_cons r1
  obtain ⟨v3, vs3, d3, ds3, p3, q3, rfl, rfl, rfl, h3, r3⟩ := trodAll_cons r2
  obtain ⟨rfl, rfl, rfl⟩ := trodAll_nil r3
  obtain rfl : args = #[v0, v1, v2, v3] := by cases args; simp_all
  obtain ⟨rfl, rfl⟩ := trodVars_none hV
  obtain ⟨a0, rfl, rfl, rfl, w0⟩ := open_int Tryz.underlying3 (hval 0 3 v0 rfl rfl) h0
  obtain ⟨a1, rfl, rfl, rfl, w1⟩ := open_string Tryz.underlying9 (hval 1 9 v1 rfl rfl) h1
  obtain ⟨a2, len2, cap2, rfl⟩ := okWide_slice Tryz.underlying40 (hval 2 40 v2 rfl rfl)
  have lt2 : ∀ x ∈ p2, x.block < W.heap.size := by obtain ⟨m, hm⟩ := h2; exact DataW.trod_lt m _ _ _ hm
  obtain ⟨l2, hl2⟩ : ∃ l, IsOk W a2 len2 cap2 l := by obtain ⟨fuel, hf⟩ := h2; exact open_is hf
  obtain ⟨a3, len3, cap3, rfl⟩ := okWide_slice Tryz.underlying26 (hval 3 26 v3 rfl rfl)
  have lt3 : ∀ x ∈ p3, x.block < W.heap.size := by obtain ⟨m, hm⟩ := h3; exact DataW.trod_lt m _ _ _ hm
  obtain ⟨l3, hl3⟩ : ∃ l, ValsOk' W a3 len3 cap3 l := by obtain ⟨fuel, hf⟩ := h3; exact open_vals hf
  clear hA0 hval0
  refine (walk a0 a1 a2 len2 cap2 l2 hl2 a3 len3 cap3 l3 hl3 (env_of hL) (bounds_i64 w0) w1).mono ?_
  rintro e W' ⟨rfl, bel⟩
  exact ⟨_, rfl, _, _, _, [], _, [], hW', trodAll_mk1 (shut_bool Tryz.underlying4 _), (trodAll_cons_mk (shut_int Tryz.underlying3 w0) (trodAll_cons_mk (shut_string Tryz.underlying9 w1) (trodAll_cons_mk (Below.trod laidOut (by kernel_rfl) (of_decide_eq_true (by kernel_rfl)) h2 bel lt2) (trodAll_cons_mk (Below.trod laidOut (by kernel_rfl) (of_decide_eq_true (by kernel_rfl)) h3 bel lt3) trodAll_mk0)))), rfl, bel.frame _, fun h => by cases h⟩

theorem over : Rows.respMadeRow.holds Tryz.pinned (OpenSpec.ofChange Rows.respMadeSpec) :=
  OpenClaim.holds_of_cond 7 Tryz.f7 rfl rfl rfl rfl rfl rfl rfl ⟨rfl, rfl, rfl, rfl, rfl⟩ rfl rfl rfl rfl rfl (by kernel_rfl) Tryz.func7 (by kernel_rfl)
    (of_decide_eq_true (by kernel_rfl)) (by unfold Func.isWrapper; first | (rw [if_pos (by decide +kernel)]; kernel_rfl) | (rw [if_neg (by decide +kernel)]; exact ⟨rfl, rfl⟩))
    (fun os started H enc _ F => by rw [OpenClaim.pre_eq_preRow]; exact lifted os started H enc F)

/-- No parameter wants a stand-in. -/
theorem plain (f : FuncId) (fn : Func) (hf : Tryz.pinned.checked.prog.funcNamed Rows.respMadeRow.func = some f) (hfn : Tryz.pinned.checked.prog.funcs[f]? = some fn) :
    true = Tryz.pinned.checked.prog.looks [] ∧ ∀ (j : Nat) t, fn.params[j]? = some t → Tryz.pinned.checked.prog.wantsStandIn t = false := by
  obtain rfl : f = 7 := Option.some.inj ((show Tryz.prog.funcNamed Rows.respMadeRow.func = some 7 by kernel_rfl).symm.trans hf) |>.symm
  obtain rfl : fn = Tryz.f7 := (Option.some.inj (Tryz.func7.symm.trans hfn)).symm
  refine ⟨by kernel_rfl, fun j t ht => ?_⟩
  rw [Tryz.params7] at ht
  have hm := Array.mem_of_getElem? ht
  simp only [List.mem_toArray, List.mem_cons, List.not_mem_nil, or_false, or_self] at hm
  rcases hm with rfl | rfl | rfl | rfl
  · exact (show Tryz.prog.wantsStandIn 3 = false by kernel_rfl)
  · exact (show Tryz.prog.wantsStandIn 9 = false by kernel_rfl)
  · exact (show Tryz.prog.wantsStandIn 40 = false by kernel_rfl)
  · exact (show Tryz.prog.wantsStandIn 26 = false by kernel_rfl)
end Go.Proofs.YtpjcpdnolcehcaaGreatDoor.respMade
namespace Go.Proofs.YtpjcpdnolcehcaaGreatDoor
/-- THE STATEMENT. -/
theorem respMade_holds : Rows.RespMadeCardSaid :=
  Claim7.holds_tied_plain_at .later [] _ _ _ _ respMade.over (fun _ h => by cases h) (by kernel_rfl) (fun _ h => by cases h) respMade_row_tie rfl ⟨rfl, rfl⟩ (by kernel_rfl) rfl respMade.plain (by kernel_rfl)
#print axioms respMade_holds
end Go.Proofs.YtpjcpdnolcehcaaGreatDoor
