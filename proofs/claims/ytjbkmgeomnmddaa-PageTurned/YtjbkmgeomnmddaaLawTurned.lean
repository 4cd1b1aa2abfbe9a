/- Proved here: a page's sector of which one byte is another one is refused (PageTurned returns true for every input, and leaves its arguments as they were). No condition. -/
import Derived.Test.YtjbkmgeomnmddaaRows
import Derived.Test.YtjbkmgeomnmddaaTurn
import Derived.ProofKit
import Derived.ShutString
import Derived.ChangeOld
import Derived.Below
namespace Go.Proofs.Ytjbkmgeomnmddaa.pageTurned
open Go.ChangeShapes Go.WideShapes Go.ChangeAt Go.RowKit
set_option linter.unusedVariables false

set_option maxRecDepth 100000 in
set_option maxHeartbeats 8000000 in
theorem walk {w : World} {kind gen at_ by_ : Int} {s : ByteArray} (hms : s.size ≤ maxLen) (ha : -9223372036854775808 ≤ at_ ∧ at_ ≤ 9223372036854775807) (hy : 0 ≤ by_ ∧ by_ ≤ 255) :
    Calls Try.prog 7 #[.int .i64 kind, .int .i64 gen, .string s, .int .i64 at_, .int .u8 by_] w fun e w' => e = .returned (.bool true) ∧ Below w.heap.size w w' := by
  have HMS := hid hms
  unfold maxLen at hms
  by_cases h1 : sealE kind gen s.size = 0
  · obtain ⟨hp1, hp2⟩ := sealE_zero h1
    have HS := hid (seal_yes kind gen s · hp1.1.1.1 hp1.1.1.2 hp1.1.2 hp1.2 hp2)
    have HLn := hid (sealL_length kind gen (bOf s) (by rw [bOf_length]; exact hp2))
    have HPg := hid (isPage_seal kind gen (bOf s) hp1.1.1.1 hp1.1.1.2 hp1.1.2 hp1.2 (by rw [bOf_length]; exact hp2))
    clear h1 hp1 hp2
    by_cases h2 : by_ = 0
    · have h2' : (by_ == 0) = true := by rw [beq_iff_eq]; exact h2
      clear h2
      go_enter Try.func7, Try.ntmps7
      go_wp2_with fail
      refine (HS.out _).mono ?_
      rintro e w1 ⟨v, rfl, hv, hb1⟩
      obtain ⟨g1, c1, rfl, hg1, hg1', hba, hc1, hc1'⟩ := hv.all HLn.out
      have HB := hid hb1
      clear hv hb1 hba hc1 hc1' hg1 hg1'
      go_wp2_with (first | (go_at_call 16; refine (no_any _ _).mono ?_; rintro e w ⟨rfl, rfl⟩) | (go_at_call 9; refine (alive_any _).mono ?_; rintro e w' ⟨rfl, hb⟩))
      go_ret
      exact ⟨rfl, HB.out.trans (hb.mono HB.out.size)⟩
    · have h2' : (by_ == 0) = false := by rw [beq_eq_false_iff_ne]; exact h2
      have H2 := hid h2
      clear h2
      obtain ⟨k, hk, hke⟩ := at_range at_
      have hki0 : (0 : Int) ≤ (k : Int) := by omega
      have hki1 : (k : Int) < 512 := by omega
      have hold : 0 ≤ (sealL kind gen (bOf s)).getD k 0 ∧ (sealL kind gen (bOf s)).getD k 0 < 256 := by
        rw [List.getD_eq_getElem?_getD, List.getElem?_eq_getElem (by rw [HLn.out]; exact hk)]
        exact byt_seal _ _ _ (bOf_range s) _ (List.getElem_mem _)
      have hx := xor_byte _ by_ hold hy H2.out
      have HX := hid hx
      have hno := openV_no (turned_no HPg.out (byt_seal _ _ _ (bOf_range s)) k hk _ hx.1 hx.2)
      have hbt : Byt ((sealL kind gen (bOf s)).set k (bits .xor .u8 ((sealL kind gen (bOf s)).getD k 0) by_)) := by
        intro y hy'
        rcases List.mem_or_eq_of_mem_set hy' with h | h
        · exact byt_seal _ _ _ (bOf_range s) y h
        · rw [h]; exact hx.1
      have hlt : ((sealL kind gen (bOf s)).set k (bits .xor .u8 ((sealL kind gen (bOf s)).getD k 0) by_)).length = 512 := by rw [List.length_set]; exact HLn.out
      have HNO := hid hno
      have HBT := hid hbt
      have HLT := hid hlt
      have HOLD := hid hold
      clear hno hbt hlt hx hold
      go_enter Try.func7, Try.ntmps7
      go_wp2_with fail
      refine (HS.out _).mono ?_
      rintro e w1 ⟨v, rfl, hv, hb1⟩
      obtain ⟨g1, c1, rfl, hg1, hg1', hba, hc1, hc1'⟩ := hv.all HLn.out
      have HC1 := hid hc1
      have HC1' := hid hc1'
      have HB := hid hb1
      have hsx := fun x => new_set hv HLn.out hk x
      have hcell := (hsx 0).1
      have hfr := (hsx 0).2.1
      have HSX := hid fun x => (hsx x).2.2
      have HG := hid hg1
      clear hv hb1 hba hsx hg1 hg1' hc1 hc1'
      generalize hO : (sealL kind gen (bOf s)).getD k 0 = O at hcell
      have HOe := hid hO
      clear hO
      go_wp2_with (first | (go_at_call 16; refine (no_any _ _).mono ?_; rintro e w ⟨rfl, rfl⟩))
      rw [HOe.out] at HNO HBT HLT
      refine (open_any (HSX.out (bits .xor .u8 O by_)) HLT.out HBT.out HC1.out HC1'.out).mono ?_
      rw [HNO.out]
      rintro e w2 ⟨rfl, hb2⟩
      have HB2 := hid ((HB.out.setCell (p := ⟨g1, k, none⟩) HG.out (.int .u8 (bits .xor .u8 O by_))).trans (hb2.mono (by have := HB.out.size; simpa using this)))
      clear hb2 hcell hfr
      go_wp2_with (first | (go_at_call 16; refine (no_any _ _).mono ?_; rintro e w ⟨rfl, rfl⟩) | (go_at_call 9; refine (alive_any _).mono ?_; rintro e w' ⟨rfl, hb⟩))
      go_ret
      exact ⟨rfl, HB2.out.trans (hb.mono HB2.out.size)⟩
  · have h1' : (sealE kind gen s.size != 0) = true := by rw [bne_iff_ne]; exact h1
    clear h1
    go_enter Try.func7, Try.ntmps7
    go_wp2_with fail
    refine (seal_all kind gen s _ HMS.out).mono ?_
    rintro e w1 ⟨v, rfl, ⟨a1, c1, rfl, _⟩, hb1⟩
    have HB := hid hb1
    clear hb1
    generalize sealE kind gen s.size = E1 at h1' ⊢
    go_wp2_with (first | (go_at_call 16; refine (no_any _ _).mono ?_; rintro e w ⟨rfl, rfl⟩) | (go_at_call 9; refine (alive_any _).mono ?_; rintro e w' ⟨rfl, hb⟩))
    go_ret
    exact ⟨rfl, HB.out.trans (hb.mono HB.out.size)⟩

theorem own : ownKnob Try.prog.godebug = none := by kernel_rfl
theorem laidOut : laidOutB Try.prog = true := by kernel_rfl

set_option maxRecDepth 100000 in
theorem lifted (os : Os) (started : os.Started) (H : Type) (enc : TypeId × Value → H) :
    ReturnsInHanded {} Try.checked os 7 .any (Rows.pageTurnedSpec.pre6 enc Try.prog Try.f7 Rows.pageTurnedRow.domain false) (Rows.pageTurnedSpec.post enc Try.prog Try.f7 false true false false) := by
  refine returnsInHanded_of_change (C := Try.checked) own started (by kernel_rfl) Try.func7
    (ChangeSpec.witness6 (enc := enc) (C := Try.checked) false ⟨#[], #[.int .i64 0, .int .i64 0, .string ⟨#[]⟩, .int .i64 0, .int .u8 0], []⟩ 8 (by kernel_rfl) (by kernel_rfl) (by kernel_rfl) (by kernel_rfl)) ?_
  intro W base args ds gs before hval0 hW hcnd _
  have hval : ∀ (j : Nat) t v, Try.f7.params[j]? = some t → args[j]? = some v → Value.okWide Try.prog W .any base t v := hval0
  have hW' := hW
  obtain ⟨p, q, hA0, hV, rfl, hfz, hnd⟩ := hW
  have hA : DataW.TrodAll enc Try.prog W 0 (fun _ => true) true Try.f7.params.toList args.toList ds p := hA0
  rw [Try.params7] at hA hval
  obtain ⟨v0, vs0, d0, ds0, p0, q0, hargs, rfl, rfl, h0, r0⟩ := trodAll_cons hA
  obtain ⟨v1, vs1, d1, ds1, p1, q1, rfl, rfl, rfl, h1, r1⟩ := trodAll_cons r0
  obtain ⟨v2, vs2, d2, ds2, p2, q2, rfl, rfl, rfl, h2, r2⟩ := trodAll_cons r1
  obtain ⟨v3, vs3, d3, ds3, p3, q3, rfl, rfl, rfl, h3, r3⟩ := trodAll_cons r2
  obtain ⟨v4, vs4, d4, ds4, p4, q4, rfl, rfl, rfl, h4, r4⟩ := trodAll_cons r3
  obtain ⟨rfl, rfl, rfl⟩ := trodAll_nil r4
  obtain rfl : args = #[v0, v1, v2, v3, v4] := by cases args; simp_all
  obtain ⟨rfl, rfl⟩ := trodVars_none hV
  obtain ⟨a0, rfl, rfl, rfl, w0⟩ := open_int Try.underlying3 (hval 0 3 v0 rfl rfl) h0
  obtain ⟨a1, rfl, rfl, rfl, w1⟩ := open_int Try.underlying3 (hval 1 3 v1 rfl rfl) h1
  obtain ⟨a2, rfl⟩ := okWide_string Try.underlying9 (hval 2 9 v2 rfl rfl)
  have lt2 : ∀ x ∈ p2, x.block < W.heap.size := by obtain ⟨m, hm⟩ := h2; exact DataW.trod_lt m _ _ _ hm
  have hs2 : a2.size ≤ maxLen := by obtain ⟨fuel, hf⟩ := h2; exact open_str hf
  obtain ⟨a3, rfl, rfl, rfl, w3⟩ := open_int Try.underlying3 (hval 3 3 v3 rfl rfl) h3
  obtain ⟨a4, rfl, rfl, rfl, w4⟩ := open_int Try.underlying5 (hval 4 5 v4 rfl rfl) h4
  clear hA0 hval0
  refine (walk hs2 (bounds_i64 w3) (bounds_u8 w4)).mono fun e W' ⟨he, bel⟩ => ?_
  subst he
  exact ⟨_, rfl, _, _, _, [], _, [], hW', trodAll_mk1 (shut_bool Try.underlying4 _), (trodAll_cons_mk (shut_int Try.underlying3 w0) (trodAll_cons_mk (shut_int Try.underlying3 w1) (trodAll_cons_mk (Below.trod laidOut (by kernel_rfl) (of_decide_eq_true (by kernel_rfl)) h2 bel lt2) (trodAll_cons_mk (shut_int Try.underlying3 w3) (trodAll_cons_mk (shut_int Try.underlying5 w4) trodAll_mk0))))), rfl, bel.frame _, fun h => by cases h⟩

theorem over : Rows.pageTurnedRow.holds Try.pinned (OpenSpec.ofChange Rows.pageTurnedSpec) :=
  OpenClaim.holds_of_wide 7 Try.f7 rfl rfl rfl rfl rfl rfl rfl ⟨rfl, rfl, rfl, rfl, rfl⟩ rfl rfl rfl rfl rfl (by kernel_rfl) Try.func7 (by kernel_rfl)
    (of_decide_eq_true (by kernel_rfl)) (by unfold Func.isWrapper; first | (rw [if_pos (by decide +kernel)]; kernel_rfl) | (rw [if_neg (by decide +kernel)]; exact ⟨rfl, rfl⟩))
    (fun os started H enc _ => lifted os started H enc)
end Go.Proofs.Ytjbkmgeomnmddaa.pageTurned
namespace Go.Proofs.Ytjbkmgeomnmddaa
/-- THE STATEMENT. -/
theorem pageTurned_holds : Rows.PageTurnedSaid := pageTurned.over
#print axioms pageTurned_holds
end Go.Proofs.Ytjbkmgeomnmddaa
