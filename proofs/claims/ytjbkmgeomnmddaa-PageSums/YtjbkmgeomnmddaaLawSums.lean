/- Proved here: the sum of any bytes is what the document says (PageSums returns true for every input, and leaves its argument as it was). No condition. -/
import Derived.Test.YtjbkmgeomnmddaaRows
import Derived.Test.YtjbkmgeomnmddaaArgs
import Derived.ProofKit
import Derived.ShutString
import Derived.ChangeOld
import Derived.Below
namespace Go.Proofs.Ytjbkmgeomnmddaa.pageSums
open Go.ChangeShapes Go.WideShapes Go.ChangeAt Go.RowKit
set_option linter.unusedVariables false

set_option maxRecDepth 100000 in
set_option maxHeartbeats 4000000 in
theorem walk {w : World} {a : Option Addr} {len cap : Nat} {l : List Int} (h : BArg w a len cap l) :
    Calls Try.prog 3 #[.slice a len cap] w fun e w' => e = .returned (.bool true) ∧ Below w.heap.size w w' := by
  have hm := h.max
  have hle := h.le
  unfold maxLen at hm
  by_cases hlt : len ≤ 5000
  · have hcv : ∀ w' : World, BArg w' a len cap l → (convert 22 9 (.slice a len cap)).run Try.prog w' = .ok (.string (strOf l)) w' := fun w' h => conv_bytes (c := cap) h.at_ h.len_
    have hS := hid (bOf_strOf _ h.byt)
    have hsz : (strOf l).size ≤ 5000 := by rw [strOf_size, h.len_]; exact hlt
    have hL := h.len_
    have H := hid h.at_
    generalize strOf l = S at hcv hS hsz
    go_enter Try.func3, Try.ntmps3
    go_wp2_with fail
    have h0 : BArg w.drew a len cap l := { h with at_ := h.at_ }
    go_region_held3 (fun w' => BArg w' a len cap l) (first | assumption | exact h0) (first | (go_at_call 10; refine (sum_n h0.at_ hL hlt).mono ?_; rintro e w' ⟨rfl, rfl⟩) | (go_at_call 11; refine (rsum_any S hsz _).mono ?_; rw [hS.out]; rintro e w' ⟨rfl, rfl⟩) | (go_at_call 9; refine (alive_any _).mono ?_; rintro e w' ⟨rfl, hb⟩; have h1 := h0.later hb))
    all_goals (go_wp2_with fail; go_ret; exact ⟨rfl, (Below.refl _ _).drew.trans hb⟩)
  · have hlt' : (5000 : Int) < len := by omega
    clear h
    go_enter Try.func3, Try.ntmps3
    go_wp2_with (first | (go_at_call 9; refine (alive_any _).mono ?_; rintro e w' ⟨rfl, hb⟩))
    go_ret
    exact ⟨rfl, hb⟩

theorem own : ownKnob Try.prog.godebug = none := by kernel_rfl
theorem laidOut : laidOutB Try.prog = true := by kernel_rfl

set_option maxRecDepth 100000 in
theorem lifted (os : Os) (started : os.Started) (H : Type) (enc : TypeId × Value → H) :
    ReturnsInHanded {} Try.checked os 3 .any (Rows.pageSumsSpec.pre6 enc Try.prog Try.f3 Rows.pageSumsRow.domain false) (Rows.pageSumsSpec.post enc Try.prog Try.f3 false true false false) := by
  refine returnsInHanded_of_change (C := Try.checked) own started (by kernel_rfl) Try.func3
    (ChangeSpec.witness6 (enc := enc) (C := Try.checked) false ⟨#[], #[.slice none 0 0], []⟩ 8 (by kernel_rfl) (by kernel_rfl) (by kernel_rfl) (by kernel_rfl)) ?_
  intro W base args ds gs before hval0 hW hcnd _
  have hval : ∀ (j : Nat) t v, Try.f3.params[j]? = some t → args[j]? = some v → Value.okWide Try.prog W .any base t v := hval0
  have hW' := hW
  obtain ⟨p, q, hA0, hV, rfl, hfz, hnd⟩ := hW
  have hA : DataW.TrodAll enc Try.prog W 0 (fun _ => true) true Try.f3.params.toList args.toList ds p := hA0
  rw [Try.params3] at hA hval
  obtain ⟨v0, vs0, d0, ds0, p0, q0, hargs, rfl, rfl, h0, r0⟩ := trodAll_cons hA
  obtain ⟨rfl, rfl, rfl⟩ := trodAll_nil r0
  obtain rfl : args = #[v0] := by cases args; simp_all
  obtain ⟨rfl, rfl⟩ := trodVars_none hV
  obtain ⟨a0, len0, cap0, rfl⟩ := okWide_slice Try.underlying22 (hval 0 22 v0 rfl rfl)
  have lt0 : ∀ x ∈ p0, x.block < W.heap.size := by obtain ⟨m, hm⟩ := h0; exact DataW.trod_lt m _ _ _ hm
  obtain ⟨l0, hl0⟩ : ∃ l, BArg W a0 len0 cap0 l := by obtain ⟨fuel, hf⟩ := h0; exact open_bytes hf
  clear hA0 hval0
  refine (walk hl0).mono fun e W' ⟨he, bel⟩ => ?_
  subst he
  exact ⟨_, rfl, _, _, _, [], _, [], hW', trodAll_mk1 (shut_bool Try.underlying4 _), (trodAll_cons_mk (Below.trod laidOut (by kernel_rfl) (of_decide_eq_true (by kernel_rfl)) h0 bel lt0) trodAll_mk0), rfl, bel.frame _, fun h => by cases h⟩

theorem over : Rows.pageSumsRow.holds Try.pinned (OpenSpec.ofChange Rows.pageSumsSpec) :=
  OpenClaim.holds_of_wide 3 Try.f3 rfl rfl rfl rfl rfl rfl rfl ⟨rfl, rfl, rfl, rfl, rfl⟩ rfl rfl rfl rfl rfl (by kernel_rfl) Try.func3 (by kernel_rfl)
    (of_decide_eq_true (by kernel_rfl)) (by unfold Func.isWrapper; first | (rw [if_pos (by decide +kernel)]; kernel_rfl) | (rw [if_neg (by decide +kernel)]; exact ⟨rfl, rfl⟩))
    (fun os started H enc _ => lifted os started H enc)
end Go.Proofs.Ytjbkmgeomnmddaa.pageSums
namespace Go.Proofs.Ytjbkmgeomnmddaa
/-- THE STATEMENT. -/
theorem pageSums_holds : Rows.PageSumsSaid := pageSums.over
#print axioms pageSums_holds
end Go.Proofs.Ytjbkmgeomnmddaa
