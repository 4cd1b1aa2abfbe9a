/- Proved here: what was sealed is opened as it was, and what is opened is sealed so again (PageBack returns true for every input, and leaves its arguments as they were). No condition. -/
import Derived.Test.YtjbkmgeomnmddaaRows
import Derived.Test.YtjbkmgeomnmddaaOwn
import Derived.ProofKit
import Derived.ShutString
import Derived.ChangeOld
import Derived.Below
namespace Go.Proofs.Ytjbkmgeomnmddaa.pageBack
open Go.ChangeShapes Go.WideShapes Go.ChangeAt Go.RowKit
set_option linter.unusedVariables false

set_option maxRecDepth 100000 in
set_option maxHeartbeats 8000000 in
theorem walk {w : World} {kind gen : Int} {s : ByteArray} (hms : s.size ≤ maxLen) {a : Option Addr} {len cap : Nat} {l : List Int} (h : BArg w a len cap l) :
    Calls Try.prog 6 #[.int .i64 kind, .int .i64 gen, .string s, .slice a len cap] w fun e w' => e = .returned (.bool true) ∧ Below w.heap.size w w' := by
  have hm := h.max
  have hle := h.le
  have HMS := hid hms
  unfold maxLen at hm hms
  by_cases hlt : s.size ≤ 5000 ∧ len ≤ 5000
  · obtain ⟨hlt1, hlt2⟩ := hlt
    have hlt1' : (s.size : Int) ≤ 5000 := by omega
    have hlt2' : (len : Int) ≤ 5000 := by omega
    have HB := hid (Below.refl w.heap.size w)
    have H := hid h
    have hL := hid h.len_
    have HY := hid h.byt
    clear h
    go_enter Try.func6, Try.ntmps6
    by_cases h1 : sealE kind gen s.size = 0
    case' pos =>
      obtain ⟨hp1, hp2⟩ := sealE_zero h1
      have HS := hid (seal_yes kind gen s · hp1.1.1.1 hp1.1.1.2 hp1.1.2 hp1.2 hp2)
      have HO := hid (openV_seal kind gen s hp1.1.1.1 hp1.1.1.2 hp1.1.2 hp1.2 hp2)
      have HLn := hid (sealL_length kind gen (bOf s) (by rw [bOf_length]; exact hp2))
      clear h1 hp1 hp2
      go_wp2_with fail
      refine (HS.out _).mono ?_
      rintro e w1 ⟨v, rfl, hv, hb⟩
      obtain ⟨g1, c1, rfl, hg1, hg1', hba, hc1, hc1'⟩ := hv.all HLn.out
      replace H := hid (H.out.later hb)
      replace HB := hid (HB.out.trans (hb.mono HB.out.size))
      have HOp := hid (open_any hba HLn.out (byt_seal _ _ _ (bOf_range s)) hc1 hc1')
      clear hv hb hba hg1 hg1' hc1 hc1' HS
      rw [HO.out] at HOp
      go_wp2_with (first | (go_at_call 16; refine (no_any _ _).mono ?_; rintro e w ⟨rfl, rfl⟩))
      refine HOp.out.mono ?_
      rintro e w2 ⟨rfl, hb⟩
      replace H := hid (H.out.later hb)
      replace HB := hid (HB.out.trans (hb.mono HB.out.size))
      clear hb HOp HO HLn
      go_wp2_with (first | (go_at_call 16; refine (no_any _ _).mono ?_; rintro e w ⟨rfl, rfl⟩))
    case' neg =>
      have h1' : (sealE kind gen s.size == 0) = false := by rw [beq_eq_false_iff_ne]; exact h1
      clear h1
      go_wp2_with fail
      refine (seal_all kind gen s _ HMS.out).mono ?_
      rintro e w1 ⟨v, rfl, _, hb⟩
      replace H := hid (H.out.later hb)
      replace HB := hid (HB.out.trans (hb.mono HB.out.size))
      clear hb
      generalize sealE kind gen s.size = E1 at h1' ⊢
      go_wp2_with (first | (go_at_call 16; refine (no_any _ _).mono ?_; rintro e w ⟨rfl, rfl⟩))
    all_goals
      by_cases h2 : rootE gen s.size = 0
      case' pos =>
        obtain ⟨hp1, hp2⟩ := rootE_zero h2
        have HS := hid (root_yes gen s · hp1.1 hp1.2 hp2)
        have HO := hid (ropenV_root gen s hp1.1 hp1.2 hp2)
        have HLn := hid (rootL_length gen (bOf s) (by rw [bOf_length]; omega))
        clear h2 hp1 hp2
        refine (HS.out _).mono ?_
        rintro e w1 ⟨v, rfl, hv, hb⟩
        obtain ⟨g1, c1, rfl, hg1, hg1', hba, hc1, hc1'⟩ := hv.all HLn.out
        replace H := hid (H.out.later hb)
        replace HB := hid (HB.out.trans (hb.mono HB.out.size))
        have HOp := hid (ropen_any hba HLn.out (byt_root _ _ (bOf_range s)) hc1 hc1')
        clear hv hb hba hg1 hg1' hc1 hc1' HS
        rw [HO.out] at HOp
        go_wp2_with (first | (go_at_call 16; refine (no_any _ _).mono ?_; rintro e w ⟨rfl, rfl⟩))
        refine HOp.out.mono ?_
        rintro e w2 ⟨rfl, hb⟩
        replace H := hid (H.out.later hb)
        replace HB := hid (HB.out.trans (hb.mono HB.out.size))
        clear hb HOp HO HLn
        go_wp2_with (first | (go_at_call 16; refine (no_any _ _).mono ?_; rintro e w ⟨rfl, rfl⟩))
      case' neg =>
        have h2' : (rootE gen s.size == 0) = false := by rw [beq_eq_false_iff_ne]; exact h2
        clear h2
        refine (root_all gen s _ HMS.out).mono ?_
        rintro e w1 ⟨v, rfl, _, hb⟩
        replace H := hid (H.out.later hb)
        replace HB := hid (HB.out.trans (hb.mono HB.out.size))
        clear hb
        generalize rootE gen s.size = E2 at h2' ⊢
        go_wp2_with (first | (go_at_call 16; refine (no_any _ _).mono ?_; rintro e w ⟨rfl, rfl⟩))
    all_goals
      by_cases h3 : isPage l
      case' pos =>
        have hk := kindOf_range HY.out
        have hg := genOf_range HY.out h3.1
        have hcl := conOf_length h3.1
        have hbc := bOf_strOf (conOf l) ((HY.out.drop 20).take _)
        have HS := hid (seal_yes (kindOf l) (genOf l) (strOf (conOf l)) · hk.1 (by omega) hg.1 hg.2 (by rw [strOf_size]; exact hcl))
        have HP := hid h3
        have HE := hid (openV_yes h3)
        rw [hbc, h3.2] at HS
        clear hk hg hcl hbc h3
        refine (open_all H.out).mono ?_
        rw [HE.out]
        rintro e w1 ⟨rfl, hb⟩
        replace H := hid (H.out.later hb)
        replace HB := hid (HB.out.trans (hb.mono HB.out.size))
        clear hb HE
        go_wp2_with (first | (go_at_call 16; refine (no_any _ _).mono ?_; rintro e w ⟨rfl, rfl⟩))
        refine (HS.out _).mono ?_
        rintro e w2 ⟨v, rfl, hv, hb⟩
        obtain ⟨g3, c3, rfl, _, _, hba, _, _⟩ := hv.all HP.out.1
        replace H := hid (H.out.later hb)
        replace HB := hid (HB.out.trans (hb.mono HB.out.size))
        have hcv1 := conv_bytes (c := c3) hba HP.out.1
        have hcv2 := conv_bytes (c := cap) H.out.at_ H.out.len_
        clear hv hb hba HS
        go_wp2_with (first | (go_at_call 16; refine (no_any _ _).mono ?_; rintro e w ⟨rfl, rfl⟩))
        clear hcv1 hcv2
      case' neg =>
        have HE := hid (openV_no h3)
        clear h3
        refine (open_all H.out).mono ?_
        rw [HE.out]
        rintro e w1 ⟨rfl, hb⟩
        replace H := hid (H.out.later hb)
        replace HB := hid (HB.out.trans (hb.mono HB.out.size))
        clear hb HE
        go_wp2_with (first | (go_at_call 16; refine (no_any _ _).mono ?_; rintro e w ⟨rfl, rfl⟩))
    all_goals
      by_cases h4 : isRoot l
      · have hbc := bOf_strOf (rconOf l) (((HY.out.drop 10).take _).take _)
        have HS := hid (root_yes (rgenOf l) (strOf (rconOf l)) · h4.2.1.1 h4.2.1.2 (by rw [strOf_size]; exact h4.2.2.1))
        have HP := hid h4
        have HE := hid (ropenV_yes h4)
        rw [hbc, h4.2.2.2] at HS
        clear hbc h4
        refine (ropen_all H.out).mono ?_
        rw [HE.out]
        rintro e w1 ⟨rfl, hb⟩
        replace H := hid (H.out.later hb)
        replace HB := hid (HB.out.trans (hb.mono HB.out.size))
        clear hb HE
        go_wp2_with (first | (go_at_call 16; refine (no_any _ _).mono ?_; rintro e w ⟨rfl, rfl⟩))
        refine (HS.out _).mono ?_
        rintro e w2 ⟨v, rfl, hv, hb⟩
        obtain ⟨g4, c4, rfl, _, _, hba, _, _⟩ := hv.all HP.out.1
        replace H := hid (H.out.later hb)
        replace HB := hid (HB.out.trans (hb.mono HB.out.size))
        have hcv1 := conv_bytes (c := c4) hba HP.out.1
        have hcv2 := conv_bytes (c := cap) H.out.at_ H.out.len_
        clear hv hb hba HS
        go_wp2_with (first | (go_at_call 16; refine (no_any _ _).mono ?_; rintro e w ⟨rfl, rfl⟩) | (go_at_call 9; refine (alive_any _).mono ?_; rintro e w' ⟨rfl, hb⟩))
        go_ret
        exact ⟨rfl, HB.out.trans (hb.mono HB.out.size)⟩
      · have HE := hid (ropenV_no h4)
        clear h4
        refine (ropen_all H.out).mono ?_
        rw [HE.out]
        rintro e w1 ⟨rfl, hb⟩
        replace H := hid (H.out.later hb)
        replace HB := hid (HB.out.trans (hb.mono HB.out.size))
        clear hb HE
        go_wp2_with (first | (go_at_call 16; refine (no_any _ _).mono ?_; rintro e w ⟨rfl, rfl⟩) | (go_at_call 9; refine (alive_any _).mono ?_; rintro e w' ⟨rfl, hb⟩))
        go_ret
        exact ⟨rfl, HB.out.trans (hb.mono HB.out.size)⟩
  · have hlt' : ¬ ((s.size : Int) ≤ 5000 ∧ (len : Int) ≤ 5000) := by omega
    clear h hlt
    go_enter Try.func6, Try.ntmps6
    go_wp2_with (first | (go_at_call 9; refine (alive_any _).mono ?_; rintro e w' ⟨rfl, hb⟩))
    all_goals first | (exfalso; omega) | (go_ret; exact ⟨rfl, hb⟩)

theorem own : ownKnob Try.prog.godebug = none := by kernel_rfl
theorem laidOut : laidOutB Try.prog = true := by kernel_rfl

set_option maxRecDepth 100000 in
theorem lifted (os : Os) (started : os.Started) (H : Type) (enc : TypeId × Value → H) :
    ReturnsInHanded {} Try.checked os 6 .any (Rows.pageBackSpec.pre6 enc Try.prog Try.f6 Rows.pageBackRow.domain false) (Rows.pageBackSpec.post enc Try.prog Try.f6 false true false false) := by
  refine returnsInHanded_of_change (C := Try.checked) own started (by kernel_rfl) Try.func6
    (ChangeSpec.witness6 (enc := enc) (C := Try.checked) false ⟨#[], #[.int .i64 0, .int .i64 0, .string ⟨#[]⟩, .slice none 0 0], []⟩ 8 (by kernel_rfl) (by kernel_rfl) (by kernel_rfl) (by kernel_rfl)) ?_
  intro W base args ds gs before hval0 hW hcnd _
  have hval : ∀ (j : Nat) t v, Try.f6.params[j]? = some t → args[j]? = some v → Value.okWide Try.prog W .any base t v := hval0
  have hW' := hW
  obtain ⟨p, q, hA0, hV, rfl, hfz, hnd⟩ := hW
  have hA : DataW.TrodAll enc Try.prog W 0 (fun _ => true) true Try.f6.params.toList args.toList ds p := hA0
  rw [Try.params6] at hA hval
  obtain ⟨v0, vs0, d0, ds0, p0, q0, hargs, rfl, rfl, h0, r0⟩ := trodAll_cons hA
  obtain ⟨v1, vs1, d1, ds1, p1, q1, rfl, rfl, rfl, h1, r1⟩ := trodAll_cons r0
  obtain ⟨v2, vs2, d2, ds2, p2, q2, rfl, rfl, rfl, h2, r2⟩ := trodAll_cons r1
  obtain ⟨v3, vs3, d3, ds3, p3, q3, rfl, rfl, rfl, h3, r3⟩ := trodAll_cons r2
  obtain ⟨rfl, rfl, rfl⟩ := trodAll_nil r3
  obtain rfl : args = #[v0, v1, v2, v3] := by cases args; simp_all
  obtain ⟨rfl, rfl⟩ := trodVars_none hV
  obtain ⟨a0, rfl, rfl, rfl, w0⟩ := open_int Try.underlying3 (hval 0 3 v0 rfl rfl) h0
  obtain ⟨a1, rfl, rfl, rfl, w1⟩ := open_int Try.underlying3 (hval 1 3 v1 rfl rfl) h1
  obtain ⟨a2, rfl⟩ := okWide_string Try.underlying9 (hval 2 9 v2 rfl rfl)
  have lt2 : ∀ x ∈ p2, x.block < W.heap.size := by obtain ⟨m, hm⟩ := h2; exact DataW.trod_lt m _ _ _ hm
  have hs2 : a2.size ≤ maxLen := by obtain ⟨fuel, hf⟩ := h2; exact open_str hf
  obtain ⟨a3, len3, cap3, rfl⟩ := okWide_slice Try.underlying22 (hval 3 22 v3 rfl rfl)
  have lt3 : ∀ x ∈ p3, x.block < W.heap.size := by obtain ⟨m, hm⟩ := h3; exact DataW.trod_lt m _ _ _ hm
  obtain ⟨l3, hl3⟩ : ∃ l, BArg W a3 len3 cap3 l := by obtain ⟨fuel, hf⟩ := h3; exact open_bytes hf
  clear hA0 hval0
  refine (walk hs2 hl3).mono fun e W' ⟨he, bel⟩ => ?_
  subst he
  exact ⟨_, rfl, _, _, _, [], _, [], hW', trodAll_mk1 (shut_bool Try.underlying4 _), (trodAll_cons_mk (shut_int Try.underlying3 w0) (trodAll_cons_mk (shut_int Try.underlying3 w1) (trodAll_cons_mk (Below.trod laidOut (by kernel_rfl) (of_decide_eq_true (by kernel_rfl)) h2 bel lt2) (trodAll_cons_mk (Below.trod laidOut (by kernel_rfl) (of_decide_eq_true (by kernel_rfl)) h3 bel lt3) trodAll_mk0)))), rfl, bel.frame _, fun h => by cases h⟩

theorem over : Rows.pageBackRow.holds Try.pinned (OpenSpec.ofChange Rows.pageBackSpec) :=
  OpenClaim.holds_of_wide 6 Try.f6 rfl rfl rfl rfl rfl rfl rfl ⟨rfl, rfl, rfl, rfl, rfl⟩ rfl rfl rfl rfl rfl (by kernel_rfl) Try.func6 (by kernel_rfl)
    (of_decide_eq_true (by kernel_rfl)) (by unfold Func.isWrapper; first | (rw [if_pos (by decide +kernel)]; kernel_rfl) | (rw [if_neg (by decide +kernel)]; exact ⟨rfl, rfl⟩))
    (fun os started H enc _ => lifted os started H enc)
end Go.Proofs.Ytjbkmgeomnmddaa.pageBack
namespace Go.Proofs.Ytjbkmgeomnmddaa
/-- THE STATEMENT. -/
theorem pageBack_holds : Rows.PageBackSaid := pageBack.over
#print axioms pageBack_holds
end Go.Proofs.Ytjbkmgeomnmddaa
