/- Proved here: what comes of bytes does not hang on how they are cut (WirePieces returns true for every input, and leaves its arguments as they were). No condition beyond what the card says: five tables and two errors of the library hold what its text lays. -/
import Derived.Test.YtikcbgoocljgnaaDoorCards
import Derived.Test.YtikcbgoocljgnaaDoorTie
import Derived.Test.YtikcbgoocljgnaaDoorW1
import Derived.Test.YtikcbgoocljgnaaDoorM27
import Derived.ProofKit
import Derived.OpenShut
import Derived.ShutString
import Derived.Below
namespace Go.Proofs.YtikcbgoocljgnaaDoor.wirePieces
open Go.ChangeShapes Go.WideShapes Go.ChangeAt Go.RowKit
open Go.ChangeMaps (open_string shut_string)
set_option linter.unusedVariables false
set_option linter.unusedSimpArgs false

theorem fs_base {w w5 w6 : World} {b : Nat} {own : List Nat} {F : Fd} (hb : Below w.heap.size w w5) (h : FS w5 w6 b own F) : FS w w6 b own F :=
  ⟨h.f, fun g hg => Nat.le_trans hb.size (h.n g hg), hb.trans (h.k.mono hb.size), h.s⟩
set_option maxRecDepth 100000 in
set_option maxHeartbeats 8000000 in
theorem walk {w : World} (a : Option Addr) (len cap : Nat) (T : List Tl) (h : TailsOk w a len cap T) (a1 : Option Addr) (len1 cap1 : Nat) (C : List Int) (hC : NumsOk w a1 len1 cap1 C) (hE : Env w) : Calls Tryd.prog 3 #[.slice a len cap, .slice a1 len1 cap1] w fun e w' => e = .returned (.bool true) ∧ Below w.heap.size w w' := by
  have HX := hid (text_any h)
  obtain ⟨hgl, rfl, hI⟩ := hC
  have HI := hid hI
  clear h hE hI
  obtain ⟨a', c', hv', hcc, hr'⟩ := hgl
  simp only [Value.slice.injEq] at hv'
  obtain ⟨rfl, _, rfl⟩ := hv'
  rcases hr' with hC0 | ⟨g, o, rfl, hga, hgl'⟩
  · clear hcc
    subst hC0
    go_enter Tryd.func3, Tryd.ntmps3
    go_wp2_with fail
    refine HX.out.mono ?_
    rintro e w1 ⟨s, ok, rfl, hs, hb1⟩
    have HB1 := hid hb1
    clear hb1 HX
    cases ok with
    | false =>
      clear hs
      go_wp2_with fail
      refine (alive_ok w1).mono ?_
      rintro e wz ⟨rfl, hbz⟩
      have HBz := hid (HB1.out.trans (hbz.mono HB1.out.size))
      clear hbz
      go_wp2_with fail
      go_ret
      exact ⟨rfl, HBz.out⟩
    | true =>
      have hsl := hs rfl
      clear hs
      skip
      · skip
        have HN := hid (fs_new w1)
        go_wp2_with fail
        refine HN.out.mono ?_
        rintro e w2 ⟨rfl, hf2⟩
        have HF2 := hid (fs_base HB1.out hf2)
        clear hf2 HN
        have HN := hid (fs_new w2)
        go_wp2_with fail
        refine HN.out.mono ?_
        rintro e w3 ⟨rfl, hf3⟩
        have hfb : w1.heap.size < w2.heap.size := HF2.out.f.lt _ (by simp)
        have hfF := HF2.out.later hf3.k
        have hfG := fs_base HF2.out.k hf3
        have hcv := strW_conv w3 s
        have HCT := hid (take_text hfF s (by omega))
        have HFG := hid hfG
        have hgb : w2.heap.size < w3.heap.size := hfG.f.lt _ (by simp)
        have HWs := hid (Nat.le_trans HB1.out.size (Nat.le_refl _))
        have hzs := str_size s
        clear hf3 hfF hfG HN
        go_wp2_with fail
        refine HCT.out.mono ?_
        rintro e w4 ⟨va, ownF, rfl, hf4, hv4, _, hk4, ho4⟩
        have hg4 := HFG.out.kept hk4 (fun g hg hm => by rw [List.mem_singleton] at hg hm; omega) (fun g hg => by rw [List.mem_singleton] at hg; have := HB1.out.size; omega)
        have HGR := hid hg4.row
        have HPV0 := hid (PV.begin hg4)
        have HnF : Hid (w2.heap.size ∉ ownF) := fun hm => by
          rcases ho4 _ hm with q | q
          · rw [List.mem_singleton] at q; omega
          · omega
        have HF4 := hid hf4.f
        have HV4 := hid hv4
        have HW4 := hid hf4.k.size
        clear hf4 hv4 hk4 ho4 hg4 HCT hcv HFG HF2
        go_wp2_with fail
        go_loopw [5, 10, 34] (fun sv vb i wr => ∃ (k : Nat) (P R : Bs), k ≤ ([] : List Int).length ∧ i = .int .i64 k ∧ sv = .string (str R) ∧ P ++ R = s ∧ PV w w4 wr w2.heap.size vb P) (fun _ _ i _ => ([] : List Int).length - (intOf i).toNat)
        case atStart => exact ⟨0, [], s, by omega, rfl, rfl, by simp, HPV0.out⟩
        case round =>
          obtain ⟨k, P, R, hk, rfl, rfl, hPR, hpv⟩ := hrel
          have hbw : Below w.heap.size w wr := by obtain ⟨own, hf, _⟩ := hpv.x; exact hf.k
          have HPR := hid hPR
          have HPV := hid hpv
          have hlen : P.length + R.length ≤ 180000 := by rw [← List.length_append, hPR]; exact hsl
          have hzR := str_size R
          clear hPR hpv HPV0 hzs
          have hlt' : ¬ (k : Int) < 0 := by omega
          have hcv := strW_conv wr R
          have HT := hid (HPV.out.take HW4.out R (by omega))
          rw [HPR.out] at HT
          clear hbw HPV HPR
          go_wp2_with fail
          refine HT.out.mono ?_
          rintro e w5 ⟨vr, rfl, v', w6, hr, hp⟩
          have HR := hid hr
          have hP := hp.same HF4.out HnF.out HV4.out HGR.out (by omega)
          obtain ⟨hS, hfe, ⟨ownG, hge⟩, hbe⟩ := hP
          have HS := hid hS
          have HFe := hid hfe
          have HGe := hid hge
          have HBe := hid hbe
          clear hr hp HT hcv hS hfe hge hbe HF4 HV4 HGR
          generalize (takeP Fd.zero s).1 = FZ at *
          go_wp2_with (at_builtin; refine wpList_append_run rfl rfl HR.out ?_)
          refine HS.out.mono ?_
          rintro e w7 ⟨rfl, n7, hw7⟩
          have hd7 : Below w6.heap.size w6 w7 := by rw [hw7]; exact drewN_below _ _ _
          have HI1 := hid (idle2 (HFe.out.below hd7))
          have HG7 := hid (HGe.out.below hd7)
          have HB7 := hid (HBe.out.trans (hd7.mono HBe.out.size))
          clear hw7 hd7 HS HFe HGe HBe HR
          go_wp2_with fail
          refine HI1.out.mono ?_
          rintro e w8 ⟨rfl, hb8⟩
          have HI2 := hid (idle2 (HG7.out.below hb8))
          have HB8 := hid (HB7.out.trans (hb8.mono HB7.out.size))
          clear hb8 HI1 HG7
          go_wp2_with fail
          refine HI2.out.mono ?_
          rintro e w9 ⟨rfl, hb9⟩
          have HB9 := hid (HB8.out.trans (hb9.mono HB8.out.size))
          clear hb9 HI2
          generalize idleB FZ = ib at *
          have hib : (ib == ib) = true := by simp
          go_wp2_with fail
          refine (alive_ok w9).mono ?_
          rintro e wz ⟨rfl, hbz⟩
          have HBz := hid (HB9.out.trans (hbz.mono HB9.out.size))
          clear hbz
          go_wp2_with fail
          go_ret
          exact ⟨rfl, HBz.out⟩
  · clear hcc
    have HGA := hid hga
    clear hga
    go_enter Tryd.func3, Tryd.ntmps3
    go_wp2_with fail
    refine HX.out.mono ?_
    rintro e w1 ⟨s, ok, rfl, hs, hb1⟩
    have HB1 := hid hb1
    clear hb1 HX
    cases ok with
    | false =>
      clear hs
      go_wp2_with fail
      refine (alive_ok w1).mono ?_
      rintro e wz ⟨rfl, hbz⟩
      have HBz := hid (HB1.out.trans (hbz.mono HB1.out.size))
      clear hbz
      go_wp2_with fail
      go_ret
      exact ⟨rfl, HBz.out⟩
    | true =>
      have hsl := hs rfl
      clear hs
      by_cases h40 : 40 < C.length
      · have h40' : (40 : Int) < C.length := by omega
        go_wp2_with fail
        refine (alive_ok w1).mono ?_
        rintro e wz ⟨rfl, hbz⟩
        have HBz := hid (HB1.out.trans (hbz.mono HB1.out.size))
        clear hbz
        go_wp2_with fail
        go_ret
        exact ⟨rfl, HBz.out⟩
      · have h40' : ¬ (40 : Int) < C.length := by omega
        have HN := hid (fs_new w1)
        go_wp2_with fail
        refine HN.out.mono ?_
        rintro e w2 ⟨rfl, hf2⟩
        have HF2 := hid (fs_base HB1.out hf2)
        clear hf2 HN
        have HN := hid (fs_new w2)
        go_wp2_with fail
        refine HN.out.mono ?_
        rintro e w3 ⟨rfl, hf3⟩
        have hfb : w1.heap.size < w2.heap.size := HF2.out.f.lt _ (by simp)
        have hfF := HF2.out.later hf3.k
        have hfG := fs_base HF2.out.k hf3
        have hcv := strW_conv w3 s
        have HCT := hid (take_text hfF s (by omega))
        have HFG := hid hfG
        have hgb : w2.heap.size < w3.heap.size := hfG.f.lt _ (by simp)
        have HWs := hid (Nat.le_trans HB1.out.size (Nat.le_refl _))
        have hzs := str_size s
        clear hf3 hfF hfG HN
        go_wp2_with fail
        refine HCT.out.mono ?_
        rintro e w4 ⟨va, ownF, rfl, hf4, hv4, _, hk4, ho4⟩
        have hg4 := HFG.out.kept hk4 (fun g hg hm => by rw [List.mem_singleton] at hg hm; omega) (fun g hg => by rw [List.mem_singleton] at hg; have := HB1.out.size; omega)
        have HGR := hid hg4.row
        have HPV0 := hid (PV.begin hg4)
        have HnF : Hid (w2.heap.size ∉ ownF) := fun hm => by
          rcases ho4 _ hm with q | q
          · rw [List.mem_singleton] at q; omega
          · omega
        have HF4 := hid hf4.f
        have HV4 := hid hv4
        have HW4 := hid hf4.k.size
        clear hf4 hv4 hk4 ho4 hg4 HCT hcv HFG HF2
        go_wp2_with fail
        go_loopw [5, 10, 34] (fun sv vb i wr => ∃ (k : Nat) (P R : Bs), k ≤ C.length ∧ i = .int .i64 k ∧ sv = .string (str R) ∧ P ++ R = s ∧ PV w w4 wr w2.heap.size vb P) (fun _ _ i _ => C.length - (intOf i).toNat)
        case atStart => exact ⟨0, [], s, by omega, rfl, rfl, by simp, HPV0.out⟩
        case round =>
          obtain ⟨k, P, R, hk, rfl, rfl, hPR, hpv⟩ := hrel
          have hbw : Below w.heap.size w wr := by obtain ⟨own, hf, _⟩ := hpv.x; exact hf.k
          have HPR := hid hPR
          have HPV := hid hpv
          have hlen : P.length + R.length ≤ 180000 := by rw [← List.length_append, hPR]; exact hsl
          have hzR := str_size R
          clear hPR hpv HPV0 hzs
          by_cases hlt : k < C.length
          · have hlt' : (k : Int) < C.length := by omega
            obtain ⟨c, hc⟩ : ∃ c, C[k]? = some c := ⟨C[k], List.getElem?_eq_getElem hlt⟩
            have hci : I64 c := HI.out c (List.mem_of_getElem? hc)
            have hcell : w.cell? ⟨g, o + k, none⟩ = some (.int .i64 c) := by
              have := HGA.out k 0 c _ hc rfl
              simpa [eI] using this
            have hcell2 := (World.cell?_of_block (hbw.block g hgl')).trans hcell
            obtain ⟨b1, b2, j, hj, hjc⟩ := cut_at c R.length
            obtain ⟨t, ht⟩ : ∃ t, R.take j = t := ⟨_, rfl⟩
            obtain ⟨u, hu⟩ : ∃ u, R.drop j = u := ⟨_, rfl⟩
            have htu : t ++ u = R := by rw [← ht, ← hu]; exact List.take_append_drop j R
            have htl : t.length ≤ R.length := by rw [← htu]; simp
            have hts : (str R).extract 0 j = str t := by rw [← ht]; exact take_str R j
            have hds : (str R).extract j R.length = str u := by rw [← hu]; exact drop_from R j
            have hcv := strW_conv wr t
            have HT := hid (HPV.out.take HW4.out t (by omega))
            have HPu : Hid (P ++ t ++ u = s) := by rw [Hid, List.append_assoc, htu]; exact HPR.out
            obtain ⟨hi1, hi2⟩ := hci
            have hj' : (j : Int) ≤ R.length := by omega
            clear hc hcell ht hu htu
            go_wp2_with fail
            refine HT.out.mono ?_
            rintro e w5 ⟨vr, rfl, v', w6, hr, hp⟩
            have HR := hid hr
            have HP := hid hp
            clear hr hp HT HPV
            go_wp2_with (at_builtin; refine wpList_append_run rfl rfl HR.out ?_)
            go_roundw
            case rel => exact ⟨k + 1, P ++ t, u, by omega, by go_num, rfl, HPu.out, HP.out⟩
            case measure => simp [intOf]; omega
          · have hlt' : ¬ (k : Int) < C.length := by omega
            have hcv := strW_conv wr R
            have HT := hid (HPV.out.take HW4.out R (by omega))
            rw [HPR.out] at HT
            clear hbw HPV HPR
            go_wp2_with fail
            refine HT.out.mono ?_
            rintro e w5 ⟨vr, rfl, v', w6, hr, hp⟩
            have HR := hid hr
            have hP := hp.same HF4.out HnF.out HV4.out HGR.out (by omega)
            obtain ⟨hS, hfe, ⟨ownG, hge⟩, hbe⟩ := hP
            have HS := hid hS
            have HFe := hid hfe
            have HGe := hid hge
            have HBe := hid hbe
            clear hr hp HT hcv hS hfe hge hbe HF4 HV4 HGR
            generalize (takeP Fd.zero s).1 = FZ at *
            go_wp2_with (at_builtin; refine wpList_append_run rfl rfl HR.out ?_)
            refine HS.out.mono ?_
            rintro e w7 ⟨rfl, n7, hw7⟩
            have hd7 : Below w6.heap.size w6 w7 := by rw [hw7]; exact drewN_below _ _ _
            have HI1 := hid (idle2 (HFe.out.below hd7))
            have HG7 := hid (HGe.out.below hd7)
            have HB7 := hid (HBe.out.trans (hd7.mono HBe.out.size))
            clear hw7 hd7 HS HFe HGe HBe HR
            go_wp2_with fail
            refine HI1.out.mono ?_
            rintro e w8 ⟨rfl, hb8⟩
            have HI2 := hid (idle2 (HG7.out.below hb8))
            have HB8 := hid (HB7.out.trans (hb8.mono HB7.out.size))
            clear hb8 HI1 HG7
            go_wp2_with fail
            refine HI2.out.mono ?_
            rintro e w9 ⟨rfl, hb9⟩
            have HB9 := hid (HB8.out.trans (hb9.mono HB8.out.size))
            clear hb9 HI2
            generalize idleB FZ = ib at *
            have hib : (ib == ib) = true := by simp
            go_wp2_with fail
            refine (alive_ok w9).mono ?_
            rintro e wz ⟨rfl, hbz⟩
            have HBz := hid (HB9.out.trans (hbz.mono HB9.out.size))
            clear hbz
            go_wp2_with fail
            go_ret
            exact ⟨rfl, HBz.out⟩

theorem witness (os : Os) {H : Type} (enc : TypeId × Value → H) :
    (OpenSpec.ofChange Rows.wirePiecesSpec).preRow enc Tryd.prog Tryd.f3 Rows.wirePiecesRow.domain false Rows.wirePiecesRow.laid ((laidWorld os).forCall (fun _ _ => 0) ⟨#[], #[.slice none 0 0, .slice none 0 0], []⟩).memory #[.slice none 0 0, .slice none 0 0] := by
  have hw : (DataW.whole enc Tryd.prog ((laidWorld os).forCall (fun _ _ => 0) ⟨#[], #[.slice none 0 0, .slice none 0 0], []⟩).memory Tryd.f3.params.toList Rows.wirePiecesSpec.vars false (#[.slice none 0 0, .slice none 0 0] : Array Value).toList 8).map (fun x => (x.1, x.2.1)) =
      some ([.nil, .nil], []) := by kernel_rfl
  obtain ⟨⟨x1, x2, x3⟩, hx, hx1⟩ := Option.map_eq_some_iff.1 hw
  simp only [Prod.mk.injEq] at hx1
  obtain ⟨rfl, rfl⟩ := hx1
  exact OpenSpec.preRow_of_cond 8 hx (by kernel_rfl) (fun k hk => by cases hk) (by kernel_rfl) (laid_met os _)

set_option maxRecDepth 100000 in
set_option maxHeartbeats 2000000 in
theorem lifted (os : Os) (started : os.Started) (H : Type) (enc : TypeId × Value → H) (F : Stop.Interp) :
    ReturnsInHanded {} Tryd.checked os 3 .any ((OpenSpec.ofChange Rows.wirePiecesSpec).preRow enc Tryd.prog Tryd.f3 Rows.wirePiecesRow.domain false Rows.wirePiecesRow.laid) (((OpenSpec.ofChange Rows.wirePiecesSpec).at F).post enc Tryd.prog Tryd.f3 false true false false) := by
  refine returnsInHanded_of_row (C := Tryd.checked) (s := OpenSpec.ofChange Rows.wirePiecesSpec) own started (by kernel_rfl) Tryd.func3
    (witness_row_atRef (enc := enc) (C := Tryd.checked) false (laidWorld os) #[.slice none 0 0, .slice none 0 0] rfl (by kernel_rfl) (by kernel_rfl) (by kernel_rfl) (witness os enc)) ?_
  intro W base args ds gs before hval0 hW _ _ _ hL hsh _
  have hval : ∀ (j : Nat) t v, Tryd.f3.params[j]? = some t → args[j]? = some v → Value.okWide Tryd.prog W .any base t v := hval0
  have hW' := hW
  obtain ⟨p, q, hA0, hV, rfl, hfz, hnd⟩ := hW
  have hA : DataW.TrodAll enc Tryd.prog W 0 (fun _ => true) true Tryd.f3.params.toList args.toList ds p := hA0
  rw [Tryd.params3] at hA hval
  obtain ⟨v0, vs0, d0, ds0, p0, q0, hargs, rfl, rfl, h0, r0⟩ := trodAll_cons hA
  obtain ⟨v1, vs1, d1, ds1, p1, q1, rfl, rfl, rfl, h1, r1⟩ := trodAll_cons r0
  obtain ⟨rfl, rfl, rfl⟩ := trodAll_nil r1
  obtain rfl : args = #[v0, v1] := by cases args; simp_all
  obtain ⟨rfl, rfl⟩ := trodVars_none hV
  obtain ⟨a0, len0, cap0, rfl⟩ := okWide_slice Tryd.underlying22 (hval 0 22 v0 rfl rfl)
  have lt0 : ∀ x ∈ p0, x.block < W.heap.size := by obtain ⟨m, hm⟩ := h0; exact DataW.trod_lt m _ _ _ hm
  obtain ⟨l0, hl0⟩ : ∃ l, TailsOk W a0 len0 cap0 l := by obtain ⟨fuel, hf⟩ := h0; exact open_tails hf
  obtain ⟨a1, len1, cap1, rfl⟩ := okWide_slice Tryd.underlying23 (hval 1 23 v1 rfl rfl)
  have lt1 : ∀ x ∈ p1, x.block < W.heap.size := by obtain ⟨m, hm⟩ := h1; exact DataW.trod_lt m _ _ _ hm
  obtain ⟨l1, hl1⟩ : ∃ l, NumsOk W a1 len1 cap1 l := by obtain ⟨fuel, hf⟩ := h1; exact open_nums hf
  clear hA0 hval0
  refine (walk a0 len0 cap0 l0 hl0 a1 len1 cap1 l1 hl1 (env_of hL) ).mono ?_
  rintro e W' ⟨rfl, bel⟩
  exact ⟨_, rfl, _, _, _, [], _, [], hW', trodAll_mk1 (shut_bool Tryd.underlying4 _), (trodAll_cons_mk (Below.trod laidOut (by kernel_rfl) (of_decide_eq_true (by kernel_rfl)) h0 bel lt0) (trodAll_cons_mk (Below.trod laidOut (by kernel_rfl) (of_decide_eq_true (by kernel_rfl)) h1 bel lt1) trodAll_mk0)), rfl, bel.frame _, fun h => by cases h⟩

theorem over : Rows.wirePiecesRow.holds Tryd.pinned (OpenSpec.ofChange Rows.wirePiecesSpec) :=
  OpenClaim.holds_of_cond 3 Tryd.f3 rfl rfl rfl rfl rfl rfl rfl ⟨rfl, rfl, rfl, rfl, rfl⟩ rfl rfl rfl rfl rfl (by kernel_rfl) Tryd.func3 (by kernel_rfl)
    (of_decide_eq_true (by kernel_rfl)) (by unfold Func.isWrapper; first | (rw [if_pos (by decide +kernel)]; kernel_rfl) | (rw [if_neg (by decide +kernel)]; exact ⟨rfl, rfl⟩))
    (fun os started H enc _ F => by rw [OpenClaim.pre_eq_preRow]; exact lifted os started H enc F)

/-- No parameter wants a stand-in. -/
theorem plain (f : FuncId) (fn : Func) (hf : Tryd.pinned.checked.prog.funcNamed Rows.wirePiecesRow.func = some f) (hfn : Tryd.pinned.checked.prog.funcs[f]? = some fn) :
    true = Tryd.pinned.checked.prog.looks [] ∧ ∀ (j : Nat) t, fn.params[j]? = some t → Tryd.pinned.checked.prog.wantsStandIn t = false := by
  obtain rfl : f = 3 := Option.some.inj ((show Tryd.prog.funcNamed Rows.wirePiecesRow.func = some 3 by kernel_rfl).symm.trans hf) |>.symm
  obtain rfl : fn = Tryd.f3 := (Option.some.inj (Tryd.func3.symm.trans hfn)).symm
  refine ⟨by kernel_rfl, fun j t ht => ?_⟩
  rw [Tryd.params3] at ht
  have hm := Array.mem_of_getElem? ht
  simp only [List.mem_toArray, List.mem_cons, List.not_mem_nil, or_false, or_self] at hm
  rcases hm with rfl | rfl
  · exact (show Tryd.prog.wantsStandIn 22 = false by kernel_rfl)
  · exact (show Tryd.prog.wantsStandIn 23 = false by kernel_rfl)
end Go.Proofs.YtikcbgoocljgnaaDoor.wirePieces
namespace Go.Proofs.YtikcbgoocljgnaaDoor
/-- THE STATEMENT. -/
theorem wirePieces_holds : Rows.WirePiecesCardSaid :=
  Claim7.holds_tied_plain_at .later [] _ _ _ _ wirePieces.over (fun _ h => by cases h) (by kernel_rfl) (fun _ h => by cases h) wirePieces_row_tie rfl ⟨rfl, rfl⟩ (by kernel_rfl) rfl wirePieces.plain (by kernel_rfl)
#print axioms wirePieces_holds
end Go.Proofs.YtikcbgoocljgnaaDoor
