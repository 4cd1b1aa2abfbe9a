/- Proved here: which node any kind and content are is as the document says (NodeDecodes returns true for every input, and leaves its arguments as they were). No condition. -/
import Derived.Test.YtkipigbfbhecjaaRows
import Derived.Test.YtkipigbfbhecjaaN17
import Derived.Test.YtkipigbfbhecjaaN19
import Derived.Test.YtkipigbfbhecjaaN20
import Derived.Test.YtkipigbfbhecjaaN22
import Derived.Test.YtkipigbfbhecjaaN33
import Derived.ProofKit
import Derived.ShutString
import Derived.ChangeOld
import Derived.Below
namespace Go.Proofs.Ytkipigbfbhecjaa.nodeDecodes
open Go.ChangeShapes Go.WideShapes Go.ChangeAt Go.RowKit
set_option linter.unusedVariables false

theorem alive_any (w : World) : Calls Try.prog 11 #[] w fun e w' => e = .returned (.bool true) ∧ Below w.heap.size w w' := alive_of (fun _ _ _ h s => split_any h s) w

set_option maxRecDepth 100000 in
set_option maxHeartbeats 8000000 in
theorem walk (w : World) (kind : Int) (s : ByteArray) (hss : s.size ≤ maxLen) : Calls Try.prog 5 #[.int .i64 kind, .string s] w fun e w' => e = .returned (.bool true) ∧ Below w.heap.size w w' := by
  unfold maxLen at hss
  go_enter Try.func5, Try.ntmps5
  by_cases h2 : (20000 : Int) < s.size
  · go_wp2_with (first | (go_at_call 11; refine (alive_any _).mono ?_; rintro e w2 ⟨rfl, hb2⟩; have HB2 := hid hb2; clear hb2))
    go_ret
    exact ⟨rfl, HB2.out⟩
  · go_wp2_with fail
    refine (decode_any _ kind s (by omega)).mono ?_
    intro e w1 hd1
    obtain ⟨hsm, v, rfl, hvM, hb1⟩ := dec_ans hd1
    have HD2 := hid (fun w => rdecode_any w kind s (by omega))
    have HA := hid (fun (w w' : World) (e : Ending) (h : DecP w kind s e w') => (dec_ans h).2)
    have HSm := hid hsm
    have HB1 := hid hb1
    clear hd1 hsm hb1
    generalize (decA kind s).2 = q at *
    generalize (decA kind s).1 = m at *
    obtain ⟨ma, mp, mia, mip, mda, mdp, rfl, _⟩ := hvM.at_
    have HVM := hid (hvM.later (below_box w1 (.cells #[.bool m.leaf, .slice ma m.keys.length mp, .slice mia m.items.length mip, .slice mda m.kids.length mdp] 26)))
    have HBM := hid (below_box w1 (.cells #[.bool m.leaf, .slice ma m.keys.length mp, .slice mia m.items.length mip, .slice mda m.kids.length mdp] 26))
    have HXM := hid (@box4 w1 _ _ _ _ _ _ (Below.refl (w1.alloc (.cells #[.bool m.leaf, .slice ma m.keys.length mp, .slice mia m.items.length mip, .slice mda m.kids.length mdp] 26)).heap.size _))
    clear hvM
    unfold nv at HVM ⊢
    go_wp2_with fail
    generalize w1.alloc (.cells #[.bool m.leaf, .slice ma m.keys.length mp, .slice mia m.items.length mip, .slice mda m.kids.length mdp] 26) = V1 at HVM HBM HXM ⊢
    have hV1 : w1.heap.size ≤ V1.heap.size := HBM.out.size
    have HB2 := hid (HB1.out.trans (HBM.out.mono HB1.out.size))
    generalize w1.heap.size = M at HXM HBM hV1 ⊢
    clear HB1 HBM
    refine (HD2.out _).mono ?_
    intro e w2 hd2
    obtain ⟨u, rfl, huM, hb3⟩ := HA.out _ _ _ hd2
    have HB3 := hid (HB2.out.trans (hb3.mono HB2.out.size))
    have HV3 := hid (HVM.out.later hb3)
    obtain ⟨x0, x1, x2, x3⟩ := HXM.out
    have y0 := cell_later hb3 x0
    have y1 := cell_later hb3 x1
    have y2 := cell_later hb3 x2
    have y3 := cell_later hb3 x3
    clear hd2 hb3 x0 x1 x2 x3 HXM HVM HB2
    obtain ⟨na, np, nia, nip, nda, ndp, rfl, _⟩ := huM.at_
    have HUM := hid (huM.later (below_box w2 (.cells #[.bool m.leaf, .slice na m.keys.length np, .slice nia m.items.length nip, .slice nda m.kids.length ndp] 26)))
    have HVU := hid (HV3.out.later (below_box w2 (.cells #[.bool m.leaf, .slice na m.keys.length np, .slice nia m.items.length nip, .slice nda m.kids.length ndp] 26)))
    have HB4 := hid (HB3.out.trans ((below_box w2 (.cells #[.bool m.leaf, .slice na m.keys.length np, .slice nia m.items.length nip, .slice nda m.kids.length ndp] 26)).mono HB3.out.size))
    have z0 := cell_later (below_box w2 (.cells #[.bool m.leaf, .slice na m.keys.length np, .slice nia m.items.length nip, .slice nda m.kids.length ndp] 26)) y0
    have z1 := cell_later (below_box w2 (.cells #[.bool m.leaf, .slice na m.keys.length np, .slice nia m.items.length nip, .slice nda m.kids.length ndp] 26)) y1
    have z2 := cell_later (below_box w2 (.cells #[.bool m.leaf, .slice na m.keys.length np, .slice nia m.items.length nip, .slice nda m.kids.length ndp] 26)) y2
    have z3 := cell_later (below_box w2 (.cells #[.bool m.leaf, .slice na m.keys.length np, .slice nia m.items.length nip, .slice nda m.kids.length ndp] 26)) y3
    clear huM y0 y1 y2 y3 HB3 HV3
    unfold nv at HUM ⊢
    have HE : Hid ((q == q) = true) := hid (beq_self_eq_true q)
    go_wp2_with (first | (go_at_call 21; refine (same_yes HVU.out HUM.out HSm.out).mono ?_; rintro e w5 ⟨rfl, hb5⟩; have HB5 := hid (HB4.out.trans (hb5.mono HB4.out.size)); clear hb5) | (go_at_call 18; refine (no_any _ _).mono ?_; rintro e wz ⟨rfl, rfl⟩) | (go_at_call 11; refine (alive_any _).mono ?_; rintro e w8 ⟨rfl, hb8⟩; have HB8 := hid (HB5.out.trans (hb8.mono HB5.out.size)); clear hb8))
    go_ret
    exact ⟨rfl, HB8.out⟩

theorem own : ownKnob Try.prog.godebug = none := by kernel_rfl
theorem laidOut : laidOutB Try.prog = true := by kernel_rfl

set_option maxRecDepth 100000 in
theorem lifted (os : Os) (started : os.Started) (H : Type) (enc : TypeId × Value → H) :
    ReturnsInHanded {} Try.checked os 5 .any (Rows.nodeDecodesSpec.pre6 enc Try.prog Try.f5 Rows.nodeDecodesRow.domain false) (Rows.nodeDecodesSpec.post enc Try.prog Try.f5 false true false false) := by
  refine returnsInHanded_of_change (C := Try.checked) own started (by kernel_rfl) Try.func5
    (ChangeSpec.witness6 (enc := enc) (C := Try.checked) false ⟨#[], #[.int .i64 0, .string ⟨#[]⟩], []⟩ 8 (by kernel_rfl) (by kernel_rfl) (by kernel_rfl) (by kernel_rfl)) ?_
  intro W base args ds gs before hval0 hW hcnd _
  have hval : ∀ (j : Nat) t v, Try.f5.params[j]? = some t → args[j]? = some v → Value.okWide Try.prog W .any base t v := hval0
  have hW' := hW
  obtain ⟨p, q, hA0, hV, rfl, hfz, hnd⟩ := hW
  have hA : DataW.TrodAll enc Try.prog W 0 (fun _ => true) true Try.f5.params.toList args.toList ds p := hA0
  rw [Try.params5] at hA hval
  obtain ⟨v0, vs0, d0, ds0, p0, q0, hargs, rfl, rfl, h0, r0⟩ := trodAll_cons hA
  obtain ⟨v1, vs1, d1, ds1, p1, q1, rfl, rfl, rfl, h1, r1⟩ := trodAll_cons r0
  obtain ⟨rfl, rfl, rfl⟩ := trodAll_nil r1
  obtain rfl : args = #[v0, v1] := by cases args; simp_all
  obtain ⟨rfl, rfl⟩ := trodVars_none hV
  obtain ⟨a0, rfl, rfl, rfl, w0⟩ := open_int Try.underlying3 (hval 0 3 v0 rfl rfl) h0
  obtain ⟨a1, rfl⟩ := okWide_string Try.underlying9 (hval 1 9 v1 rfl rfl)
  have lt1 : ∀ x ∈ p1, x.block < W.heap.size := by obtain ⟨m, hm⟩ := h1; exact DataW.trod_lt m _ _ _ hm
  have hs1 : a1.size ≤ maxLen := by obtain ⟨fuel, hf⟩ := h1; exact open_str hf
  clear hA0 hval0
  refine (walk W a0 a1 hs1).mono fun e W' ⟨he, bel⟩ => ?_
  subst he
  exact ⟨_, rfl, _, _, _, [], _, [], hW', trodAll_mk1 (shut_bool Try.underlying4 _), (trodAll_cons_mk (shut_int Try.underlying3 w0) (trodAll_cons_mk (Below.trod laidOut (by kernel_rfl) (of_decide_eq_true (by kernel_rfl)) h1 bel lt1) trodAll_mk0)), rfl, bel.frame _, fun h => by cases h⟩

theorem over : Rows.nodeDecodesRow.holds Try.pinned (OpenSpec.ofChange Rows.nodeDecodesSpec) :=
  OpenClaim.holds_of_wide 5 Try.f5 rfl rfl rfl rfl rfl rfl rfl ⟨rfl, rfl, rfl, rfl, rfl⟩ rfl rfl rfl rfl rfl (by kernel_rfl) Try.func5 (by kernel_rfl)
    (of_decide_eq_true (by kernel_rfl)) (by unfold Func.isWrapper; first | (rw [if_pos (by decide +kernel)]; kernel_rfl) | (rw [if_neg (by decide +kernel)]; exact ⟨rfl, rfl⟩))
    (fun os started H enc _ => lifted os started H enc)
end Go.Proofs.Ytkipigbfbhecjaa.nodeDecodes
namespace Go.Proofs.Ytkipigbfbhecjaa
/-- THE STATEMENT. -/
theorem nodeDecodes_holds : Rows.NodeDecodesSaid := nodeDecodes.over
#print axioms nodeDecodes_holds
end Go.Proofs.Ytkipigbfbhecjaa
