/- Proved here: which lines are right, and how they are told, is as the document says (RespPrints returns true for every input, and leaves its arguments as they were). No condition beyond what the card says: five tables and two errors of the library hold what its text lays. -/
import Derived.Test.YtpjcpdnolcehcaaGreatDoorM4
import Derived.Test.YtpjcpdnolcehcaaGreatDoorRows
import Derived.Lib.LaidTab
import Derived.Lib.LaidIn
import Derived.LaidSub
import Derived.Stop.LaidErr
import Derived.Deep.DeepHandedRow
import Derived.Deep.DeepWitnessRowRef
import Derived.MakeChecks
import Derived.LaidLaws
import Derived.Lay
import Derived.Test.YtpjcpdnolcehcaaGreatDoorCards
import Derived.Test.YtpjcpdnolcehcaaGreatDoorTie
import Derived.Test.YtpjcpdnolcehcaaGreatDoorM35
import Derived.Test.YtpjcpdnolcehcaaGreatDoorZ4
import Derived.ProofKit
import Derived.OpenShut
import Derived.ShutString
import Derived.Below
namespace Go.Proofs.YtpjcpdnolcehcaaGreatDoor
open Go.RowKit
set_option linter.unusedVariables false

theorem own : ownKnob Tryz.prog.godebug = none := by kernel_rfl
/-- The rows' list. -/
def laidL : List (String × DataW Unit) := [("math/bits.deBruijn32tab", Rows.laid_math_bits_deBruijn32tab), ("math/bits.deBruijn64tab", Rows.laid_math_bits_deBruijn64tab), ("internal/strconv.uint64pow10", Rows.laid_internal_strconv_uint64pow10), ("unicode/utf8.acceptRanges", Rows.laid_unicode_utf8_acceptRanges), ("strconv.ErrRange", Rows.laid_strconv_ErrRange), ("strconv.ErrSyntax", Rows.laid_strconv_ErrSyntax), ("unicode.asciiFold", Rows.laid_unicode_asciiFold), ("unicode.caseOrbit", Rows.laid_unicode_caseOrbit), ("unicode.CaseRanges", Rows.laid_unicode_CaseRanges), ("unicode/utf8.first", Rows.laid_unicode_utf8_first)]
theorem pow_is : (Rows.laid_internal_strconv_uint64pow10 : DataW Unit) = Go.Lib.tabData .u64 Go.Lib.pow10Tab := by kernel_rfl
theorem only_is : laidL.filter (fun x => x.1 == "internal/strconv.uint64pow10") = [("internal/strconv.uint64pow10", Rows.laid_internal_strconv_uint64pow10)] := by kernel_rfl
noncomputable def laidWorld (os : Os) : World := World.laidAll Tryz.prog os laidL
theorem laid_met (os : Os) (args : Array Value) : laidMet Tryz.prog laidL ((laidWorld os).forCall (fun _ _ => 0) ⟨#[], args, []⟩).memory := laidMet_laidAll args (by kernel_rfl) (by kernel_rfl)
end Go.Proofs.YtpjcpdnolcehcaaGreatDoor
namespace Go.Proofs.YtpjcpdnolcehcaaGreatDoor
open Go.RowKit
set_option linter.unusedVariables false

theorem only_ran : laidL.filter (fun x => x.1 == "strconv.ErrRange") = [("strconv.ErrRange", Rows.laid_strconv_ErrRange)] := by kernel_rfl
theorem only_syn : laidL.filter (fun x => x.1 == "strconv.ErrSyntax") = [("strconv.ErrSyntax", Rows.laid_strconv_ErrSyntax)] := by kernel_rfl
theorem g_ran : Tryz.prog.globalNamed "strconv.ErrRange" = some 10 := by kernel_rfl
theorem g_syn : Tryz.prog.globalNamed "strconv.ErrSyntax" = some 9 := by kernel_rfl
theorem g_ranT : (Tryz.prog.globals[10]?).map (·.type) = some 106 := by kernel_rfl
theorem g_synT : (Tryz.prog.globals[9]?).map (·.type) = some 106 := by kernel_rfl
theorem star : ("*errors.errorString" : String) = "*" ++ "errors.errorString" := by decide +kernel
theorem row188 (u : TypeId) (h : Tryz.prog.typeName? 3 u = some "*errors.errorString") : u = 188 :=
  typeName_ptr_named (nm := "errors.errorString") (by rw [← star]; kernel_rfl) (by kernel_rfl) (by decide) u (by rw [← star]; exact h)
theorem cells190 : Tryz.prog.cellsOf 190 = 1 := by kernel_rfl
theorem cells9 : Tryz.prog.cellsOf 9 = 1 := by kernel_rfl
theorem cell_var {W : World} {nm : String} {g : Nat} {v : Value} (hg : Tryz.prog.globalNamed nm = some g) (h : W.var? Tryz.prog nm = some #[v]) : W.cell? ⟨g, 0, none⟩ = some v := by
  unfold World.var? at h
  rw [hg] at h
  simp only [Option.bind_some] at h
  simp only [World.cell?]
  rcases hh : W.heap[g]? with _ | o
  · rw [hh] at h; simp at h
  · rw [hh] at h
    cases o <;> simp at h
    subst h
    rfl
theorem env_of {W : World} (hL : laidMetH Tryz.prog laidL W) : Env W := by
  rw [MakeChecks.laidMetH_plain _ _ _ (by kernel_rfl)] at hL
  have h := laidMet.filter (fun x => x.1 == "internal/strconv.uint64pow10") hL
  rw [only_is, pow_is] at h
  have h1 := laidMet.filter (fun x => x.1 == "strconv.ErrRange") hL
  rw [only_ran] at h1
  obtain ⟨a1, s1, hv1, _⟩ := laid_sentinel h1 g_ran g_ranT Tryz.underlying106 row188 Tryz.underlying188 Tryz.underlying190 rfl rfl Tryz.underlying9 cells190 cells9
  have h2 := laidMet.filter (fun x => x.1 == "strconv.ErrSyntax") hL
  rw [only_syn] at h2
  obtain ⟨a2, s2, hv2, _⟩ := laid_sentinel h2 g_syn g_synT Tryz.underlying106 row188 Tryz.underlying188 Tryz.underlying190 rfl rfl Tryz.underlying9 cells190 cells9
  exact ⟨Go.Lib.tabIs_of_head (g := 6) (t := 168) (e := 162) (n := 20) (by kernel_rfl) (by kernel_rfl) Tryz.underlying168 Tryz.underlying162 (by kernel_rfl) (by kernel_rfl) h, ⟨_, _, cell_var g_syn hv2⟩, ⟨_, _, cell_var g_ran hv1⟩⟩
end Go.Proofs.YtpjcpdnolcehcaaGreatDoor
namespace Go.Proofs.YtpjcpdnolcehcaaGreatDoor.respPrints
open Go.ChangeShapes Go.WideShapes Go.ChangeAt Go.RowKit
open Go.ChangeMaps (open_string shut_string)
set_option linter.unusedVariables false
set_option linter.unusedSimpArgs false

set_option maxRecDepth 100000 in
set_option maxHeartbeats 8000000 in
theorem walkP (w : World) (u : Value) (ls : List Ln) (hE : Env w) (hu : LsAt w (· < w.heap.size) u ls) (hf : ∀ l ∈ ls, FitN l) (hl : ls.length ≤ maxLen) :
    Calls Tryz.prog 3 #[u] w (Bo true w) := by
  have CW := few_any w _ u ls hu hf hl
  have HE := hid hE
  rcases hfb : fewB ls with _ | _
  · rw [hfb] at CW
    clear hu hf hl hfb hE
    go_enter Tryz.func3, Tryz.ntmps3
    go_wp2_with fail
    refine CW.mono ?_
    rintro e w1 ⟨rfl, b1⟩
    have B1 := hid b1
    clear b1 CW
    go_wp2_with fail
    refine (alive_any _ (HE.out.later B1.out)).mono ?_
    rintro e w2 ⟨rfl, b2⟩
    have B2 := hid (B1.out.trans (b2.mono B1.out.size))
    clear b2
    go_wp2_with fail
    go_ret
    exact ⟨rfl, B2.out⟩
  rw [hfb] at CW
  obtain ⟨hlen, hmas, hnum, hflat⟩ := few_use hfb hf
  obtain ⟨rows, hv, rfl, hrow⟩ := id hu
  obtain ⟨a, c, rfl, hc⟩ := hv.slice
  have HV := hid hv
  have HR := hid hrow
  have HN := hid hnum
  have CP := hid (fun (w' : World) (hW : Below w.heap.size w w') => print_any w' _ (rows.map (·.2)) (hE.later hW) (hu.up hW) hnum (by omega) (by omega))
  have CQ := hid (fun (w' : World) (hW : Below w.heap.size w w') => print_r w' _ _ (rows.map (·.2)) (hu.up hW) hnum (by omega) (by omega))
  have CA := hid (fun (w' : World) (hW : Below w.heap.size w w') => alive_any w' (hE.later hW))
  simp only [List.length_map] at hc hlen CW CP CQ ⊢
  obtain ⟨Z, hZ⟩ : ∃ Z, printP (rows.map (·.2)) = Z := ⟨_, rfl⟩
  rw [hZ] at CP CQ
  clear hE hu hf hl hfb hmas hnum hflat hv hrow hZ
  go_enter Tryz.func3, Tryz.ntmps3
  go_wp2_with fail
  refine CW.mono ?_
  rintro e w1 ⟨rfl, b1⟩
  have B1 := hid b1
  clear b1 CW
  go_wp2_with fail
  go_loopw [10] (fun i wr => ∃ k : Nat, k ≤ rows.length ∧ i = .int .i64 k ∧ Below w.heap.size w wr) (fun i _ => rows.length - (intOf i).toNat)
  case atStart => exact ⟨0, by omega, rfl, B1.out⟩
  case round =>
    obtain ⟨k, hk, rfl, h2⟩ := hrel
    have H2 := hid h2
    clear h2
    by_cases hlt : k < rows.length
    · have hlt' : (k : Int) < rows.length := by omega
      have hne : rows.map (·.1) ≠ [] := by intro e; have := congrArg List.length e; simp at this; subst this; simp at hlt
      obtain ⟨g, o, c', he, hc', hga, hN, hg⟩ := (HV.out.low H2.out).at_ hne
      simp only [Value.slice.injEq] at he
      obtain ⟨rfl, hlen2, rfl⟩ := he
      obtain ⟨p, hpk⟩ : ∃ p, rows[k] = p := ⟨_, rfl⟩
      have hp := HR.out rows[k] (List.getElem_mem hlt)
      have hc5 := hga.l k rows[k].1 (by rw [List.getElem?_map, List.getElem?_eq_getElem hlt]; rfl)
      rw [hpk] at hp hc5
      have hxm : p.2 ∈ rows.map (·.2) := by rw [← hpk]; exact List.mem_map_of_mem (List.getElem_mem hlt)
      have hpr := hp.low H2.out
      obtain ⟨⟨rt, ⟨va, vb, vc⟩, rs, ⟨ca, cb, cc⟩, rx⟩, x⟩ := p
      obtain ⟨c0, c1, c2, c3, c4⟩ := hc5
      simp only [Sl.v] at c1 c3 hxm
      have HD0 : Hid (Below wr.heap.size wr wr.drew) := (Below.refl _ _).drew
      have C1 := hid (fun (w' : World) (hW : Below wr.heap.size wr w') => right_any w' _ ⟨rt, (va, vb, vc), rs, (ca, cb, cc), rx⟩ x (hpr.later hW) (HN.out x hxm))
      have C2 := hid (fun (w' : World) (hW : Below wr.heap.size wr w') => right_r w' _ ⟨rt, (va, vb, vc), rs, (ca, cb, cc), rx⟩ x (hpr.later hW) (HN.out x hxm))
      rw [lV_mk] at C1 C2
      obtain ⟨z, hz⟩ : ∃ z, lineB x = z := ⟨_, rfl⟩
      rw [hz] at C1 C2
      have hgz : g < wr.heap.size := hg
      clear hga hp hxm hpk hpr hlen2 hc' hz
      go_wp2_with fail
      go_region_held3 (fun w' => w'.cell? ⟨g, o + k * 5, none⟩ = some (.string (str rt)) ∧ w'.cell? ⟨g, o + k * 5 + 1, none⟩ = some (.slice va vb vc) ∧ w'.cell? ⟨g, o + k * 5 + 2, none⟩ = some (.string (str rs)) ∧ w'.cell? ⟨g, o + k * 5 + 3, none⟩ = some (.slice ca cb cc) ∧ w'.cell? ⟨g, o + k * 5 + 4, none⟩ = some (.string (str rx))) (first | exact ⟨q0, q1, q2, q3, q4⟩ | exact ⟨b0, b1, b2, b3, b4⟩ | exact ⟨c0, c1, c2, c3, c4⟩ | go_keep) (first | (go_at_call 12; refine (C2.out _ HB1.out).mono ?_; rintro e w2 ⟨rfl, hb2⟩; have HB2 := hid (HB1.out.trans (hb2.mono HB1.out.size)); have q0 := (HB2.out.cell hgz).trans c0; have q1 := (HB2.out.cell hgz).trans c1; have q2 := (HB2.out.cell hgz).trans c2; have q3 := (HB2.out.cell hgz).trans c3; have q4 := (HB2.out.cell hgz).trans c4; clear hb2) | (go_at_call 11; refine (C1.out _ HD0.out).mono ?_; rintro e w2 ⟨rfl, hb1⟩; have HB1 := hid (HD0.out.trans (hb1.mono HD0.out.size)); have b0 := (HB1.out.cell hgz).trans c0; have b1 := (HB1.out.cell hgz).trans c1; have b2 := (HB1.out.cell hgz).trans c2; have b3 := (HB1.out.cell hgz).trans c3; have b4 := (HB1.out.cell hgz).trans c4; clear hb1))
      all_goals
        cases z
        all_goals
          go_wp2_with fail
          go_round
          case rel => exact ⟨k + 1, by omega, by go_num, H2.out.trans (HB2.out.mono H2.out.size)⟩
          case measure => simp [intOf]; omega
    · have hlt' : ¬ (k : Int) < rows.length := by omega
      have D1 := CP.out wr H2.out
      go_wp2_with fail
      refine D1.mono ?_
      rintro e w2 ⟨rfl, b2⟩
      have B2 := hid (H2.out.trans (b2.mono H2.out.size))
      have D2 := CQ.out w2 B2.out
      clear b2 D1
      go_wp2_with fail
      refine D2.mono ?_
      rintro e w3 ⟨rfl, b3⟩
      have B3 := hid (B2.out.trans (b3.mono B2.out.size))
      clear b3 D2
      go_wp2_with fail
      refine (CA.out _ B3.out).mono ?_
      rintro e w4 ⟨rfl, b4⟩
      have B4 := hid (B3.out.trans (b4.mono B3.out.size))
      clear b4
      go_wp2_with fail
      go_ret
      exact ⟨rfl, B4.out⟩
theorem walk {w : World} (ua : Option Addr) (ul uc : Nat) (ls : List Ln) (hu : LinesOk' w ua ul uc ls) (hE : Env w) :
    Calls Tryz.prog 3 #[.slice ua ul uc] w fun e w' => e = .returned (.bool true) ∧ Below w.heap.size w w' := by
  obtain ⟨u1, u2, u3, u4⟩ := hu
  exact walkP w _ ls hE u1 u4 (by omega)

theorem witness (os : Os) {H : Type} (enc : TypeId × Value → H) :
    (OpenSpec.ofChange Rows.respPrintsSpec).preRow enc Tryz.prog Tryz.f3 Rows.respPrintsRow.domain false Rows.respPrintsRow.laid ((laidWorld os).forCall (fun _ _ => 0) ⟨#[], #[.slice none 0 0], []⟩).memory #[.slice none 0 0] := by
  have hw : (DataW.whole enc Tryz.prog ((laidWorld os).forCall (fun _ _ => 0) ⟨#[], #[.slice none 0 0], []⟩).memory Tryz.f3.params.toList Rows.respPrintsSpec.vars false (#[.slice none 0 0] : Array Value).toList 8).map (fun x => (x.1, x.2.1)) =
      some ([.nil], []) := by kernel_rfl
  obtain ⟨⟨x1, x2, x3⟩, hx, hx1⟩ := Option.map_eq_some_iff.1 hw
  simp only [Prod.mk.injEq] at hx1
  obtain ⟨rfl, rfl⟩ := hx1
  exact OpenSpec.preRow_of_cond 8 hx (by kernel_rfl) (fun k hk => by cases hk) (by kernel_rfl) (laid_met os _)

set_option maxRecDepth 100000 in
set_option maxHeartbeats 2000000 in
theorem lifted (os : Os) (started : os.Started) (H : Type) (enc : TypeId × Value → H) (F : Stop.Interp) :
    ReturnsInHanded {} Tryz.checked os 3 .any ((OpenSpec.ofChange Rows.respPrintsSpec).preRow enc Tryz.prog Tryz.f3 Rows.respPrintsRow.domain false Rows.respPrintsRow.laid) (((OpenSpec.ofChange Rows.respPrintsSpec).at F).post enc Tryz.prog Tryz.f3 false true false false) := by
  refine returnsInHanded_of_row (C := Tryz.checked) (s := OpenSpec.ofChange Rows.respPrintsSpec) own started (by kernel_rfl) Tryz.func3
    (witness_row_atRef (enc := enc) (C := Tryz.checked) false (laidWorld os) #[.slice none 0 0] rfl (by kernel_rfl) (by kernel_rfl) (by kernel_rfl) (witness os enc)) ?_
  intro W base args ds gs before hval0 hW _ _ _ hL hsh _
  have hval : ∀ (j : Nat) t v, Tryz.f3.params[j]? = some t → args[j]? = some v → Value.okWide Tryz.prog W .any base t v := hval0
  have hW' := hW
  obtain ⟨p, q, hA0, hV, rfl, hfz, hnd⟩ := hW
  have hA : DataW.TrodAll enc Tryz.prog W 0 (fun _ => true) true Tryz.f3.params.toList args.toList ds p := hA0
  rw [Tryz.params3] at hA hval
  obtain ⟨v0, vs0, d0, ds0, p0, q0, hargs, rfl, rfl, h0, r0⟩ := trodAll_cons hA
  obtain ⟨rfl, rfl, rfl⟩ := trodAll_nil r0
  obtain rfl : args = #[v0] := by cases args; simp_all
  obtain ⟨rfl, rfl⟩ := trodVars_none hV
  obtain ⟨a0, len0, cap0, rfl⟩ := okWide_slice Tryz.underlying22 (hval 0 22 v0 rfl rfl)
  have lt0 : ∀ x ∈ p0, x.block < W.heap.size := by obtain ⟨m, hm⟩ := h0; exact DataW.trod_lt m _ _ _ hm
  obtain ⟨l0, hl0⟩ : ∃ l, LinesOk' W a0 len0 cap0 l := by obtain ⟨fuel, hf⟩ := h0; exact open_lines hf
  clear hA0 hval0
  refine (walk a0 len0 cap0 l0 hl0 (env_of hL) ).mono ?_
  rintro e W' ⟨rfl, bel⟩
  exact ⟨_, rfl, _, _, _, [], _, [], hW', trodAll_mk1 (shut_bool Tryz.underlying4 _), (trodAll_cons_mk (Below.trod laidOut (by kernel_rfl) (of_decide_eq_true (by kernel_rfl)) h0 bel lt0) trodAll_mk0), rfl, bel.frame _, fun h => by cases h⟩

theorem over : Rows.respPrintsRow.holds Tryz.pinned (OpenSpec.ofChange Rows.respPrintsSpec) :=
  OpenClaim.holds_of_cond 3 Tryz.f3 rfl rfl rfl rfl rfl rfl rfl ⟨rfl, rfl, rfl, rfl, rfl⟩ rfl rfl rfl rfl rfl (by kernel_rfl) Tryz.func3 (by kernel_rfl)
    (of_decide_eq_true (by kernel_rfl)) (by unfold Func.isWrapper; first | (rw [if_pos (by decide +kernel)]; kernel_rfl) | (rw [if_neg (by decide +kernel)]; exact ⟨rfl, rfl⟩))
    (fun os started H enc _ F => by rw [OpenClaim.pre_eq_preRow]; exact lifted os started H enc F)

/-- No parameter wants a stand-in. -/
theorem plain (f : FuncId) (fn : Func) (hf : Tryz.pinned.checked.prog.funcNamed Rows.respPrintsRow.func = some f) (hfn : Tryz.pinned.checked.prog.funcs[f]? = some fn) :
    true = Tryz.pinned.checked.prog.looks [] ∧ ∀ (j : Nat) t, fn.params[j]? = some t → Tryz.pinned.checked.prog.wantsStandIn t = false := by
  obtain rfl : f = 3 := Option.some.inj ((show Tryz.prog.funcNamed Rows.respPrintsRow.func = some 3 by kernel_rfl).symm.trans hf) |>.symm
  obtain rfl : fn = Tryz.f3 := (Option.some.inj (Tryz.func3.symm.trans hfn)).symm
  refine ⟨by kernel_rfl, fun j t ht => ?_⟩
  rw [Tryz.params3] at ht
  have hm := Array.mem_of_getElem? ht
  simp only [List.mem_toArray, List.mem_cons, List.not_mem_nil, or_false, or_self] at hm
  rcases hm with rfl
  · exact (show Tryz.prog.wantsStandIn 22 = false by kernel_rfl)
end Go.Proofs.YtpjcpdnolcehcaaGreatDoor.respPrints
namespace Go.Proofs.YtpjcpdnolcehcaaGreatDoor
/-- THE STATEMENT. -/
theorem respPrints_holds : Rows.RespPrintsCardSaid :=
  Claim7.holds_tied_plain_at .later [] _ _ _ _ respPrints.over (fun _ h => by cases h) (by kernel_rfl) (fun _ h => by cases h) respPrints_row_tie rfl ⟨rfl, rfl⟩ (by kernel_rfl) rfl respPrints.plain (by kernel_rfl)
#print axioms respPrints_holds
end Go.Proofs.YtpjcpdnolcehcaaGreatDoor
