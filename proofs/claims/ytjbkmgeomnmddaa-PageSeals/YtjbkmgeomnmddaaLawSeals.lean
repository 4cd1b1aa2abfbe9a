/- Proved here: the sector of any content, of a page and of a root, is what the document says, or why there is none (PageSeals returns true for every input, and leaves its arguments as they were). No condition. -/
import Derived.Test.YtjbkmgeomnmddaaRows
import Derived.Test.YtjbkmgeomnmddaaBoth
import Derived.ProofKit
import Derived.ShutString
import Derived.ChangeOld
import Derived.Below
namespace Go.Proofs.Ytjbkmgeomnmddaa.pageSeals
open Go.ChangeShapes Go.WideShapes Go.ChangeAt Go.RowKit
set_option linter.unusedVariables false

set_option maxRecDepth 100000 in
set_option maxHeartbeats 4000000 in
theorem walk (kind gen : Int) (s : ByteArray) (hm : s.size ≤ maxLen) (w : World) :
    Calls Try.prog 4 #[.int .i64 kind, .int .i64 gen, .string s] w fun e w' => e = .returned (.bool true) ∧ Below w.heap.size w w' := by
  have HM := hid hm
  unfold maxLen at hm
  by_cases hlt : s.size ≤ 5000
  · go_enter Try.func4, Try.ntmps4
    go_wp2_with fail
    refine (seal_all kind gen s _ HM.out).mono ?_
    rintro e w1 ⟨v, rfl, ⟨a1, c1, rfl, hA⟩, hb1⟩
    have HB := hid hb1
    have HA := hid hA
    clear hb1 hA
    go_wp2_with fail
    refine (rseal_all kind gen s _ HM.out).mono ?_
    rintro e w2 ⟨rfl, hb2⟩
    replace HA := hid (HA.out.later hb2)
    replace HB := hid (HB.out.trans (hb2.mono HB.out.size))
    clear hb2
    generalize sealS kind gen (bOf s) = L1 at HA ⊢
    generalize sealE kind gen s.size = E1
    go_wp2_with fail
    refine (root_all gen s _ HM.out).mono ?_
    rintro e w3 ⟨v, rfl, ⟨a3, c3, rfl, hC⟩, hb3⟩
    replace HA := hid (HA.out.later hb3)
    replace HB := hid (HB.out.trans (hb3.mono HB.out.size))
    have HC := hid hC
    clear hb3 hC
    go_wp2_with fail
    refine (rroot_all gen s _ HM.out).mono ?_
    rintro e w4 ⟨rfl, hb4⟩
    replace HA := hid (HA.out.later hb4)
    replace HC := hid (HC.out.later hb4)
    replace HB := hid (HB.out.trans (hb4.mono HB.out.size))
    clear hb4
    generalize rootS gen (bOf s) = L3 at HC ⊢
    generalize rootE gen s.size = E3
    have hcv := conv_bytes (c := c1) HA.out.at_ (m := L1.length) rfl
    have hcv3 := conv_bytes (c := c3) HC.out.at_ (m := L3.length) rfl
    go_wp2_with (first | (go_at_call 16; refine (no_any _ _).mono ?_; rintro e w ⟨rfl, rfl⟩) | (go_at_call 9; refine (alive_any _).mono ?_; rintro e w' ⟨rfl, hb⟩))
    go_ret
    exact ⟨rfl, HB.out.trans (hb.mono HB.out.size)⟩
  · have hlt' : (5000 : Int) < s.size := by omega
    go_enter Try.func4, Try.ntmps4
    go_wp2_with (first | (go_at_call 9; refine (alive_any _).mono ?_; rintro e w' ⟨rfl, hb⟩))
    go_ret
    exact ⟨rfl, hb⟩

theorem own : ownKnob Try.prog.godebug = none := by kernel_rfl
theorem laidOut : laidOutB Try.prog = true := by kernel_rfl

set_option maxRecDepth 100000 in
theorem lifted (os : Os) (started : os.Started) (H : Type) (enc : TypeId × Value → H) :
    ReturnsInHanded {} Try.checked os 4 .any (Rows.pageSealsSpec.pre6 enc Try.prog Try.f4 Rows.pageSealsRow.domain false) (Rows.pageSealsSpec.post enc Try.prog Try.f4 false true false false) := by
  refine returnsInHanded_of_change (C := Try.checked) own started (by kernel_rfl) Try.func4
    (ChangeSpec.witness6 (enc := enc) (C := Try.checked) false ⟨#[], #[.int .i64 0, .int .i64 0, .string ⟨#[]⟩], []⟩ 8 (by kernel_rfl) (by kernel_rfl) (by kernel_rfl) (by kernel_rfl)) ?_
  intro W base args ds gs before hval0 hW hcnd _
  have hval : ∀ (j : Nat) t v, Try.f4.params[j]? = some t → args[j]? = some v → Value.okWide Try.prog W .any base t v := hval0
  have hW' := hW
  obtain ⟨p, q, hA0, hV, rfl, hfz, hnd⟩ := hW
  have hA : DataW.TrodAll enc Try.prog W 0 (fun _ => true) true Try.f4.params.toList args.toList ds p := hA0
  rw [Try.params4] at hA hval
  obtain ⟨v0, vs0, d0, ds0, p0, q0, hargs, rfl, rfl, h0, r0⟩ := trodAll_cons hA
  obtain ⟨v1, vs1, d1, ds1, p1, q1, rfl, rfl, rfl, h1, r1⟩ := trodAll_cons r0
  obtain ⟨v2, vs2, d2, ds2, p2, q2, rfl, rfl, rfl, h2, r2⟩ := trodAll_cons r1
  obtain ⟨rfl, rfl, rfl⟩ := trodAll_nil r2
  obtain rfl : args = #[v0, v1, v2] := by cases args; simp_all
  obtain ⟨rfl, rfl⟩ := trodVars_none hV
  obtain ⟨a0, rfl, rfl, rfl, w0⟩ := open_int Try.underlying3 (hval 0 3 v0 rfl rfl) h0
  obtain ⟨a1, rfl, rfl, rfl, w1⟩ := open_int Try.underlying3 (hval 1 3 v1 rfl rfl) h1
  obtain ⟨a2, rfl⟩ := okWide_string Try.underlying9 (hval 2 9 v2 rfl rfl)
  have lt2 : ∀ x ∈ p2, x.block < W.heap.size := by obtain ⟨m, hm⟩ := h2; exact DataW.trod_lt m _ _ _ hm
  have hs2 : a2.size ≤ maxLen := by obtain ⟨fuel, hf⟩ := h2; exact open_str hf
  clear hA0 hval0
  refine (walk a0 a1 a2 hs2 W).mono fun e W' ⟨he, bel⟩ => ?_
  subst he
  exact ⟨_, rfl, _, _, _, [], _, [], hW', trodAll_mk1 (shut_bool Try.underlying4 _), (trodAll_cons_mk (shut_int Try.underlying3 w0) (trodAll_cons_mk (shut_int Try.underlying3 w1) (trodAll_cons_mk (Below.trod laidOut (by kernel_rfl) (of_decide_eq_true (by kernel_rfl)) h2 bel lt2) trodAll_mk0))), rfl, bel.frame _, fun h => by cases h⟩

theorem over : Rows.pageSealsRow.holds Try.pinned (OpenSpec.ofChange Rows.pageSealsSpec) :=
  OpenClaim.holds_of_wide 4 Try.f4 rfl rfl rfl rfl rfl rfl rfl ⟨rfl, rfl, rfl, rfl, rfl⟩ rfl rfl rfl rfl rfl (by kernel_rfl) Try.func4 (by kernel_rfl)
    (of_decide_eq_true (by kernel_rfl)) (by unfold Func.isWrapper; first | (rw [if_pos (by decide +kernel)]; kernel_rfl) | (rw [if_neg (by decide +kernel)]; exact ⟨rfl, rfl⟩))
    (fun os started H enc _ => lifted os started H enc)
end Go.Proofs.Ytjbkmgeomnmddaa.pageSeals
namespace Go.Proofs.Ytjbkmgeomnmddaa
/-- THE STATEMENT. -/
theorem pageSeals_holds : Rows.PageSealsSaid := pageSeals.over
#print axioms pageSeals_holds
end Go.Proofs.Ytjbkmgeomnmddaa
