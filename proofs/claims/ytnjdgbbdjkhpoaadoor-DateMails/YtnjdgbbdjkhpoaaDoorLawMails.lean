/- Proved here: which date any text is, as a header line has it, and which day, is as the document says (DateMails returns true for every input, and leaves its arguments as they were). No condition beyond what the card says: three tables of the library hold what its text lays. -/
import Derived.Test.YtnjdgbbdjkhpoaaDoorCards
import Derived.Test.YtnjdgbbdjkhpoaaDoorTie
import Derived.Test.YtnjdgbbdjkhpoaaDoorOpen
import Derived.Test.YtnjdgbbdjkhpoaaDoorM14
import Derived.ProofKit
import Derived.OpenShut
import Derived.ShutString
import Derived.Below
namespace Go.Proofs.YtnjdgbbdjkhpoaaDoor.dateMails
open Go.ChangeShapes Go.WideShapes Go.ChangeAt Go.RowKit
open Go.ChangeMaps (open_string shut_string)
set_option linter.unusedVariables false
set_option linter.unusedSimpArgs false

theorem readV_is (o : Option Dt) : readV o = .tuple #[.agg #[.int .i64 (ansT o).y, .int .i64 (ansT o).mo, .int .i64 (ansT o).d, .int .i64 (ansT o).h, .int .i64 (ansT o).mi, .int .i64 (ansT o).s, .int .i64 (ansT o).z], .int .i64 (ansE o)] := by cases o <;> rfl
theorem dayV_is (s : Bs) : dayV (readP dayP s) = dayRV (dayT (dayS s)) := by
  rw [pm.day_eq]
  unfold pm.dayQ dayRV
  cases dayT (dayS s) with
  | none => rfl
  | some p =>
    obtain ⟨y, m, d⟩ := p
    simp only
    by_cases h : There y m d
    · rw [if_pos h, if_pos h]; rfl
    · rw [if_neg h, if_neg h]; rfl
theorem dayV_at (o : Option Dt) : ∃ n e : Int, dayV o = .tuple #[.int .i64 n, .int .i64 e] := ⟨_, _, rfl⟩

set_option maxRecDepth 100000 in
set_option maxHeartbeats 8000000 in
theorem walk (a b : ByteArray) {w : World} (hE : Env w) (ha : a.size ≤ maxLen) (hb0 : b.size ≤ maxLen) :
    Calls Tryd.prog 8 #[.string a, .string b] w fun e w' => e = .returned (.bool true) ∧ Below w.heap.size w w' := by
  obtain ⟨x, rfl⟩ : ∃ x, a = str x := ⟨a.data.toList, (str_of a).symm⟩
  obtain ⟨y, rfl⟩ : ∃ x, b = str x := ⟨b.data.toList, (str_of b).symm⟩
  unfold maxLen at ha hb0
  have hx := str_size x
  have hy := str_size y
  rw [hx] at ha
  rw [hy] at hb0
  have HE := hid hE
  clear hE
  by_cases g0 : (2000 : Int) < x.length
  · go_enter Tryd.func8, Tryd.ntmps8
    go_wp2_with fail
    refine (alive_any HE.out).mono ?_
    rintro e w1 ⟨rfl, hb⟩
    have HB1 := hid hb
    clear hb
    go_wp2_with fail
    go_ret
    exact ⟨rfl, HB1.out⟩
  by_cases g1 : (2000 : Int) < y.length
  · go_enter Tryd.func8, Tryd.ntmps8
    go_wp2_with fail
    refine (alive_any HE.out).mono ?_
    rintro e w1 ⟨rfl, hb⟩
    have HB1 := hid hb
    clear hb
    go_wp2_with fail
    go_ret
    exact ⟨rfl, HB1.out⟩
  have CM := mails_any x (by omega) w
  have CR := fun W => rmail_any x (by omega) W
  have CD := fun W => dayn_any y (by omega) W
  have CE := fun W => rday_any y (by omega) W
  rw [dayV_is] at CD
  rw [← dayV_is] at CD
  have hde := dayV_is y
  rw [← hde] at CE
  obtain ⟨n, dv, hn⟩ := dayV_at (readP dayP y)
  rw [hn] at CD CE
  rw [← pm.mail_eq] at CR
  rw [readV_is] at CM CR
  generalize ansT (readP mailP x) = r at CM CR
  generalize ansE (readP mailP x) = ev at CM CR
  have HCM := hid CM
  have HCR := hid CR
  have HCD := hid CD
  have HCE := hid CE
  have q1 : (ev == ev) = true := by simp
  have q2 : (dv == dv) = true := by simp
  have q3 : (n == n) = true := by simp
  clear CM CR CD CE hde hn ha hb0
  go_enter Tryd.func8, Tryd.ntmps8
  go_wp2_with fail
  refine HCM.out.mono ?_
  rintro e w1 ⟨rfl, hb⟩
  have hal1 : Below w1.heap.size w1 (w1.alloc (.cells (dtL r).toArray 29)) := (Below.refl _ _).alloc (Nat.le_refl _) _
  have HA1 := hid (boxed0 r w1)
  have HB1 := hid (hb.trans (hal1.mono hb.size))
  clear hb hal1 HCM
  go_wp2_with fail
  refine (HCR.out _).mono ?_
  rintro e w2 ⟨rfl, hb⟩
  have hal2 : Below w2.heap.size w2 (w2.alloc (.cells (dtL r).toArray 29)) := (Below.refl _ _).alloc (Nat.le_refl _) _
  have HA2 := hid ((hal2.block _ (lt_of_some ((hb.block w1.heap.size (lt_of_some HA1.out)).trans HA1.out))).trans ((hb.block w1.heap.size (lt_of_some HA1.out)).trans HA1.out))
  have HX2 := hid (boxed0 r w2)
  have hb2 := HB1.out.trans (hb.mono HB1.out.size)
  have HB2 := hid (hb2.trans (hal2.mono hb2.size))
  clear hb hal2 hb2 HCR HA1 HB1
  go_wp2_with fail
  refine (HCD.out _).mono ?_
  rintro e w3 ⟨rfl, hb⟩
  have HA3 := hid ((hb.block w1.heap.size (lt_of_some HA2.out)).trans HA2.out)
  have HX3 := hid ((hb.block w2.heap.size (lt_of_some HX2.out)).trans HX2.out)
  have HB3 := hid (HB2.out.trans (hb.mono HB2.out.size))
  clear hb HCD HA2 HX2 HB2
  go_wp2_with fail
  refine (HCE.out _).mono ?_
  rintro e w4 ⟨rfl, hb⟩
  have hA4 := (hb.block w1.heap.size (lt_of_some HA3.out)).trans HA3.out
  have hX4 := (hb.block w2.heap.size (lt_of_some HX3.out)).trans HX3.out
  have HB4 := hid (HB3.out.trans (hb.mono HB3.out.size))
  obtain ⟨a0, a1, a2, a3, a4, a5, a6⟩ := cA_load hA4
  obtain ⟨b0, b1, b2, b3, b4, b5, b6⟩ := cA_load hX4
  clear hb HCE HA3 HX3 HB3 hA4 hX4
  go_wp2_with fail
  refine (no_any _ _).mono ?_
  rintro e wn ⟨rfl, hwn⟩
  subst hwn
  go_wp2_with fail
  refine (no_any _ _).mono ?_
  rintro e wn ⟨rfl, hwn⟩
  subst hwn
  go_wp2_with fail
  refine (alive_any (HE.out.later HB4.out)).mono ?_
  rintro e w5 ⟨rfl, hb⟩
  have HB5 := hid (HB4.out.trans (hb.mono HB4.out.size))
  clear hb
  go_wp2_with fail
  go_ret
  exact ⟨rfl, HB5.out⟩

theorem witness (os : Os) {H : Type} (enc : TypeId × Value → H) :
    (OpenSpec.ofChange Rows.dateMailsSpec).preRow enc Tryd.prog Tryd.f8 Rows.dateMailsRow.domain false Rows.dateMailsRow.laid ((laidWorld os).forCall (fun _ _ => 0) ⟨#[], #[.string ⟨#[]⟩, .string ⟨#[]⟩], []⟩).memory #[.string ⟨#[]⟩, .string ⟨#[]⟩] := by
  have hw : (DataW.whole enc Tryd.prog ((laidWorld os).forCall (fun _ _ => 0) ⟨#[], #[.string ⟨#[]⟩, .string ⟨#[]⟩], []⟩).memory Tryd.f8.params.toList Rows.dateMailsSpec.vars false (#[.string ⟨#[]⟩, .string ⟨#[]⟩] : Array Value).toList 8).map (fun x => (x.1, x.2.1)) =
      some ([.lit (.string []), .lit (.string [])], []) := by kernel_rfl
  obtain ⟨⟨x1, x2, x3⟩, hx, hx1⟩ := Option.map_eq_some_iff.1 hw
  simp only [Prod.mk.injEq] at hx1
  obtain ⟨rfl, rfl⟩ := hx1
  exact OpenSpec.preRow_of_cond 8 hx (by kernel_rfl) (fun k hk => by cases hk) (by kernel_rfl) (laid_met os _)

set_option maxRecDepth 100000 in
set_option maxHeartbeats 2000000 in
theorem lifted (os : Os) (started : os.Started) (H : Type) (enc : TypeId × Value → H) (F : Stop.Interp) :
    ReturnsInHanded {} Tryd.checked os 8 .any ((OpenSpec.ofChange Rows.dateMailsSpec).preRow enc Tryd.prog Tryd.f8 Rows.dateMailsRow.domain false Rows.dateMailsRow.laid) (((OpenSpec.ofChange Rows.dateMailsSpec).at F).post enc Tryd.prog Tryd.f8 false true false false) := by
  refine returnsInHanded_of_row (C := Tryd.checked) (s := OpenSpec.ofChange Rows.dateMailsSpec) own started (by kernel_rfl) Tryd.func8
    (witness_row_atRef (enc := enc) (C := Tryd.checked) false (laidWorld os) #[.string ⟨#[]⟩, .string ⟨#[]⟩] rfl (by kernel_rfl) (by kernel_rfl) (by kernel_rfl) (witness os enc)) ?_
  intro W base args ds gs before hval0 hW _ _ _ hL hsh _
  have hval : ∀ (j : Nat) t v, Tryd.f8.params[j]? = some t → args[j]? = some v → Value.okWide Tryd.prog W .any base t v := hval0
  have hW' := hW
  obtain ⟨p, q, hA0, hV, rfl, hfz, hnd⟩ := hW
  have hA : DataW.TrodAll enc Tryd.prog W 0 (fun _ => true) true Tryd.f8.params.toList args.toList ds p := hA0
  rw [Tryd.params8] at hA hval
  obtain ⟨v0, vs0, d0, ds0, p0, q0, hargs, rfl, rfl, h0, r0⟩ := trodAll_cons hA
  obtain ⟨v1, vs1, d1, ds1, p1, q1, rfl, rfl, rfl, h1, r1⟩ := trodAll_cons r0
  obtain ⟨rfl, rfl, rfl⟩ := trodAll_nil r1
  obtain rfl : args = #[v0, v1] := by cases args; simp_all
  obtain ⟨rfl, rfl⟩ := trodVars_none hV
  obtain ⟨a0, rfl, rfl, rfl, w0⟩ := open_string Tryd.underlying9 (hval 0 9 v0 rfl rfl) h0
  obtain ⟨a1, rfl, rfl, rfl, w1⟩ := open_string Tryd.underlying9 (hval 1 9 v1 rfl rfl) h1
  clear hA0 hval0
  refine (walk a0 a1 (env_of hL) w0 w1).mono ?_
  rintro e W' ⟨rfl, bel⟩
  exact ⟨_, rfl, _, _, _, [], _, [], hW', trodAll_mk1 (shut_bool Tryd.underlying4 _), (trodAll_cons_mk (shut_string Tryd.underlying9 w0) (trodAll_cons_mk (shut_string Tryd.underlying9 w1) trodAll_mk0)), rfl, bel.frame _, fun h => by cases h⟩

theorem over : Rows.dateMailsRow.holds Tryd.pinned (OpenSpec.ofChange Rows.dateMailsSpec) :=
  OpenClaim.holds_of_cond 8 Tryd.f8 rfl rfl rfl rfl rfl rfl rfl ⟨rfl, rfl, rfl, rfl, rfl⟩ rfl rfl rfl rfl rfl (by kernel_rfl) Tryd.func8 (by kernel_rfl)
    (of_decide_eq_true (by kernel_rfl)) (by unfold Func.isWrapper; first | (rw [if_pos (by decide +kernel)]; kernel_rfl) | (rw [if_neg (by decide +kernel)]; exact ⟨rfl, rfl⟩))
    (fun os started H enc _ F => by rw [OpenClaim.pre_eq_preRow]; exact lifted os started H enc F)

/-- No parameter wants a stand-in. -/
theorem plain (f : FuncId) (fn : Func) (hf : Tryd.pinned.checked.prog.funcNamed Rows.dateMailsRow.func = some f) (hfn : Tryd.pinned.checked.prog.funcs[f]? = some fn) :
    true = Tryd.pinned.checked.prog.looks [] ∧ ∀ (j : Nat) t, fn.params[j]? = some t → Tryd.pinned.checked.prog.wantsStandIn t = false := by
  obtain rfl : f = 8 := Option.some.inj ((show Tryd.prog.funcNamed Rows.dateMailsRow.func = some 8 by kernel_rfl).symm.trans hf) |>.symm
  obtain rfl : fn = Tryd.f8 := (Option.some.inj (Tryd.func8.symm.trans hfn)).symm
  refine ⟨by kernel_rfl, fun j t ht => ?_⟩
  rw [Tryd.params8] at ht
  have hm := Array.mem_of_getElem? ht
  simp only [List.mem_toArray, List.mem_cons, List.not_mem_nil, or_false, or_self] at hm
  rcases hm with rfl
  · exact (show Tryd.prog.wantsStandIn 9 = false by kernel_rfl)
end Go.Proofs.YtnjdgbbdjkhpoaaDoor.dateMails
namespace Go.Proofs.YtnjdgbbdjkhpoaaDoor
/-- THE STATEMENT. -/
theorem dateMails_holds : Rows.DateMailsCardSaid :=
  Claim7.holds_tied_plain_at .later [] _ _ _ _ dateMails.over (fun _ h => by cases h) (by kernel_rfl) (fun _ h => by cases h) dateMails_row_tie rfl ⟨rfl, rfl⟩ (by kernel_rfl) rfl dateMails.plain (by kernel_rfl)
#print axioms dateMails_holds
end Go.Proofs.YtnjdgbbdjkhpoaaDoor
