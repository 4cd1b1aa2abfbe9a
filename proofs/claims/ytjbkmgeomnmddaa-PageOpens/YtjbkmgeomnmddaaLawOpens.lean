/- Proved here: what any bytes hold, as a page's sector and as a root's, is what the document says, and they stay (PageOpens returns true for every input, and leaves its argument as it was). No condition. -/
import Derived.Test.YtjbkmgeomnmddaaRows
import Derived.Test.YtjbkmgeomnmddaaOwn
import Derived.ProofKit
import Derived.ShutString
import Derived.ChangeOld
import Derived.Below
namespace Go.Proofs.Ytjbkmgeomnmddaa.pageOpens
open Go.ChangeShapes Go.WideShapes Go.ChangeAt Go.RowKit
set_option linter.unusedVariables false

set_option maxRecDepth 100000 in
set_option maxHeartbeats 4000000 in
theorem walk {w : World} {a : Option Addr} {len cap : Nat} {l : List Int} (h : BArg w a len cap l) (hnil : NilNone a len cap) :
    Calls Try.prog 5 #[.slice a len cap] w fun e w' => e = .returned (.bool true) ∧ Below w.heap.size w w' := by
  have hm := h.max
  have hle := h.le
  unfold maxLen at hm
  by_cases hlt : len ≤ 5000
  · have H := hid h
    have HN := hid hnil
    have hS := bOf_strOf _ h.byt
    have hsz : (strOf l).size ≤ maxLen := by rw [strOf_size, h.len_]; unfold maxLen; omega
    have HS := hid hS
    have HZ := hid hsz
    have hL := h.len_
    obtain ⟨k, g, X, e0, hV⟩ := openV_parts l
    obtain ⟨g', X', e0', hV'⟩ := ropenV_parts l
    have HV := hid hV
    have HV' := hid hV'
    clear h hnil hS hsz hV hV'
    go_enter Try.func5, Try.ntmps5
    go_wp2_with (at_builtin; refine wpList_clone rfl (.tmp 22) (.tmp 23) rfl rfl rfl H.out HN.out hlt ?_; intro v' w1 hso hb1; obtain ⟨a1, c1, rfl, hA⟩ := hso)
    rw [hL] at hA
    replace H := hid (H.out.later hb1)
    have HB := hid hb1
    have HA := hid hA
    clear hb1 hA
    refine (open_all HA.out).mono ?_
    rw [HV.out]
    rintro e w2 ⟨rfl, hb⟩
    replace H := hid (H.out.later hb)
    replace HA := hid (HA.out.later hb)
    replace HB := hid (HB.out.trans (hb.mono HB.out.size))
    clear hb
    have hcv := conv_bytes (c := cap) H.out.at_ H.out.len_
    go_wp2_with fail
    clear hcv
    refine (rdoc_all HS.out HZ.out).mono ?_
    rw [HV.out]
    rintro e w3 ⟨rfl, hb⟩
    replace H := hid (H.out.later hb)
    replace HA := hid (HA.out.later hb)
    replace HB := hid (HB.out.trans (hb.mono HB.out.size))
    clear hb
    go_wp2_with fail
    refine (ropen_all HA.out).mono ?_
    rw [HV'.out]
    rintro e w4 ⟨rfl, hb⟩
    replace H := hid (H.out.later hb)
    replace HA := hid (HA.out.later hb)
    replace HB := hid (HB.out.trans (hb.mono HB.out.size))
    clear hb
    have hcv := conv_bytes (c := cap) H.out.at_ H.out.len_
    go_wp2_with fail
    clear hcv
    refine (rrdoc_all HS.out HZ.out).mono ?_
    rw [HV'.out]
    rintro e w5 ⟨rfl, hb⟩
    replace H := hid (H.out.later hb)
    replace HA := hid (HA.out.later hb)
    replace HB := hid (HB.out.trans (hb.mono HB.out.size))
    clear hb
    have hcv := conv_bytes (c := cap) H.out.at_ H.out.len_
    have hcv1 := conv_bytes (c := c1) HA.out.at_ HA.out.len_
    go_wp2_with (first | (go_at_call 16; refine (no_any _ _).mono ?_; rintro e w ⟨rfl, rfl⟩) | (go_at_call 9; refine (alive_any _).mono ?_; rintro e w' ⟨rfl, hb⟩))
    go_ret
    exact ⟨rfl, HB.out.trans (hb.mono HB.out.size)⟩
  · have hlt' : (5000 : Int) < len := by omega
    clear h
    go_enter Try.func5, Try.ntmps5
    go_wp2_with (first | (go_at_call 9; refine (alive_any _).mono ?_; rintro e w' ⟨rfl, hb⟩))
    go_ret
    exact ⟨rfl, hb⟩

theorem own : ownKnob Try.prog.godebug = none := by kernel_rfl
theorem laidOut : laidOutB Try.prog = true := by kernel_rfl

set_option maxRecDepth 100000 in
theorem lifted (os : Os) (started : os.Started) (H : Type) (enc : TypeId × Value → H) :
    ReturnsInHanded {} Try.checked os 5 .any (Rows.pageOpensSpec.pre6 enc Try.prog Try.f5 Rows.pageOpensRow.domain false) (Rows.pageOpensSpec.post enc Try.prog Try.f5 false true false false) := by
  refine returnsInHanded_of_change (C := Try.checked) own started (by kernel_rfl) Try.func5
    (ChangeSpec.witness6 (enc := enc) (C := Try.checked) false ⟨#[], #[.slice none 0 0], []⟩ 8 (by kernel_rfl) (by kernel_rfl) (by kernel_rfl) (by kernel_rfl)) ?_
  intro W base args ds gs before hval0 hW hcnd _
  have hval : ∀ (j : Nat) t v, Try.f5.params[j]? = some t → args[j]? = some v → Value.okWide Try.prog W .any base t v := hval0
  have hW' := hW
  obtain ⟨p, q, hA0, hV, rfl, hfz, hnd⟩ := hW
  have hA : DataW.TrodAll enc Try.prog W 0 (fun _ => true) true Try.f5.params.toList args.toList ds p := hA0
  rw [Try.params5] at hA hval
  obtain ⟨v0, vs0, d0, ds0, p0, q0, hargs, rfl, rfl, h0, r0⟩ := trodAll_cons hA
  obtain ⟨rfl, rfl, rfl⟩ := trodAll_nil r0
  obtain rfl : args = #[v0] := by cases args; simp_all
  obtain ⟨rfl, rfl⟩ := trodVars_none hV
  obtain ⟨a0, len0, cap0, rfl⟩ := okWide_slice Try.underlying22 (hval 0 22 v0 rfl rfl)
  have lt0 : ∀ x ∈ p0, x.block < W.heap.size := by obtain ⟨m, hm⟩ := h0; exact DataW.trod_lt m _ _ _ hm
  obtain ⟨l0, hl0⟩ : ∃ l, BArg W a0 len0 cap0 l := by obtain ⟨fuel, hf⟩ := h0; exact open_bytes hf
  have hn0 : NilNone a0 len0 cap0 := by obtain ⟨fuel, hf⟩ := h0; exact open_nil hf
  clear hA0 hval0
  refine (walk hl0 hn0).mono fun e W' ⟨he, bel⟩ => ?_
  subst he
  exact ⟨_, rfl, _, _, _, [], _, [], hW', trodAll_mk1 (shut_bool Try.underlying4 _), (trodAll_cons_mk (Below.trod laidOut (by kernel_rfl) (of_decide_eq_true (by kernel_rfl)) h0 bel lt0) trodAll_mk0), rfl, bel.frame _, fun h => by cases h⟩

theorem over : Rows.pageOpensRow.holds Try.pinned (OpenSpec.ofChange Rows.pageOpensSpec) :=
  OpenClaim.holds_of_wide 5 Try.f5 rfl rfl rfl rfl rfl rfl rfl ⟨rfl, rfl, rfl, rfl, rfl⟩ rfl rfl rfl rfl rfl (by kernel_rfl) Try.func5 (by kernel_rfl)
    (of_decide_eq_true (by kernel_rfl)) (by unfold Func.isWrapper; first | (rw [if_pos (by decide +kernel)]; kernel_rfl) | (rw [if_neg (by decide +kernel)]; exact ⟨rfl, rfl⟩))
    (fun os started H enc _ => lifted os started H enc)
end Go.Proofs.Ytjbkmgeomnmddaa.pageOpens
namespace Go.Proofs.Ytjbkmgeomnmddaa
/-- THE STATEMENT. -/
theorem pageOpens_holds : Rows.PageOpensSaid := pageOpens.over
#print axioms pageOpens_holds
end Go.Proofs.Ytjbkmgeomnmddaa
