/- Proved here: where any key is, or belongs, is as the document says; a leaf's key is found just there (NodeFinds returns true for every input, and leaves its arguments as they were). No condition. -/
import Derived.Test.YtkipigbfbhecjaaRows
import Derived.Test.YtkipigbfbhecjaaN17
import Derived.Test.YtkipigbfbhecjaaN19
import Derived.Test.YtkipigbfbhecjaaN20
import Derived.Test.YtkipigbfbhecjaaN21
import Derived.ProofKit
import Derived.ShutString
import Derived.ChangeOld
import Derived.Below
namespace Go.Proofs.Ytkipigbfbhecjaa.nodeFinds
open Go.ChangeShapes Go.WideShapes Go.ChangeAt Go.RowKit
set_option linter.unusedVariables false

theorem alive_any (w : World) : Calls Try.prog 11 #[] w fun e w' => e = .returned (.bool true) ∧ Below w.heap.size w w' := alive_of (fun _ _ _ h s => split_any h s) w
theorem findV_form (n : Nd) (key : ByteArray) : ∃ (K : Nat) (b : Bool), findV n key = .tuple #[.int .i64 K, .bool b] := by
  unfold findV
  split
  · exact ⟨_, _, rfl⟩
  · exact ⟨0, false, rfl⟩
theorem find_self {n : Nd} (h : rightB n = true) (k : Nat) (hk : k < n.keys.length) : findV n n.keys[k] = .tuple #[.int .i64 ((if n.leaf then k else k + 1 : Nat) : Int), .bool true] := by
  have hr := (ri_of h).rise
  have hp := eq_low hr k hk rfl
  have hi : isB n.keys n.keys[k] = true := by
    have := isB_at hr k hk (key := n.keys[k])
    simp only [beq_self_eq_true, ← hp, decide_true, Bool.and_true] at this
    exact this.symm
  unfold findV
  rw [if_pos h, hi, ← hp]
  cases n.leaf <;> rfl

set_option maxRecDepth 100000 in
set_option maxHeartbeats 4000000 in
theorem walk {w : World} {v : Value} {n : Nd} (h : NAt w v n) (key : ByteArray) (hks : key.size ≤ maxLen) : Calls Try.prog 7 #[v, .string key] w fun e w' => e = .returned (.bool true) ∧ Below w.heap.size w w' := by
  obtain ⟨ka, kp, ia, ep, da, dp, rfl, hkk, _⟩ := h.at_
  unfold maxLen at hks
  have HN := hid (h.later (below_box w (.cells #[.bool n.leaf, .slice ka n.keys.length kp, .slice ia n.items.length ep, .slice da n.kids.length dp] 26)))
  have HK := hid (hkk.later (below_box w (.cells #[.bool n.leaf, .slice ka n.keys.length kp, .slice ia n.items.length ep, .slice da n.kids.length dp] 26)))
  have HB0 := hid (below_box w (.cells #[.bool n.leaf, .slice ka n.keys.length kp, .slice ia n.items.length ep, .slice da n.kids.length dp] 26))
  have HX := hid (@box4 w _ _ _ _ _ _ (Below.refl (w.alloc (.cells #[.bool n.leaf, .slice ka n.keys.length kp, .slice ia n.items.length ep, .slice da n.kids.length dp] 26)).heap.size _))
  clear h hkk
  unfold nv at HN ⊢
  go_enter Try.func7, Try.ntmps7
  go_wp2_with fail
  generalize w.alloc (.cells #[.bool n.leaf, .slice ka n.keys.length kp, .slice ia n.items.length ep, .slice da n.kids.length dp] 26) = W at HB0 HX HN HK ⊢
  have hB : w.heap.size ≤ W.heap.size := HB0.out.size
  generalize hBe : w.heap.size = B at HB0 HX hB ⊢
  refine (few_any HN.out).mono ?_
  rintro e w1 ⟨b, rfl, hf, hb1⟩
  have HB1 := hid hb1
  obtain ⟨x0, x1, x2, x3⟩ := HX.out
  clear hb1
  cases b with
  | false =>
    clear hf
    go_wp2_with (first | (go_at_call 11; refine (alive_any _).mono ?_; rintro e w2 ⟨rfl, hb2⟩; have HB2 := hid (HB1.out.trans (hb2.mono HB1.out.size)); clear hb2))
    go_ret
    exact ⟨rfl, below3 hBe HB0.out hB HB2.out⟩
  | true =>
    obtain ⟨f1, f2, f3⟩ := hf rfl
    have HSm : Hid n.small := ⟨by omega, by omega, by omega⟩
    clear f2 f3 hf
    by_cases h5 : (5000 : Int) < key.size
    · go_wp2_with (first | (go_at_call 11; refine (alive_any _).mono ?_; rintro e w2 ⟨rfl, hb2⟩; have HB2 := hid (HB1.out.trans (hb2.mono HB1.out.size)); clear hb2))
      go_ret
      exact ⟨rfl, below3 hBe HB0.out hB HB2.out⟩
    · obtain ⟨K, b, hE⟩ := findV_form n key
      have HE := hid hE
      clear hE
      have c0 := cell_later HB1.out x0
      have c1 := cell_later HB1.out x1
      have c2 := cell_later HB1.out x2
      have c3 := cell_later HB1.out x3
      go_wp2_with fail
      refine (find_any (HN.out.later HB1.out) HSm.out key).mono ?_
      rw [HE.out]
      rintro e w2 ⟨rfl, hb2⟩
      have HB2 := hid (HB1.out.trans (hb2.mono HB1.out.size))
      clear hb2 c0 c1 c2 c3
      have c0 := cell_later HB2.out x0
      have c1 := cell_later HB2.out x1
      have c2 := cell_later HB2.out x2
      have c3 := cell_later HB2.out x3
      go_wp2_with fail
      refine (rfind_any (HN.out.later HB2.out) HSm.out key).mono ?_
      rw [HE.out]
      rintro e w3 ⟨rfl, hb3⟩
      have HB3 := hid (HB2.out.trans (hb3.mono HB2.out.size))
      clear hb3 c0 c1 c2 c3
      have c1 := cell_later HB3.out x1
      generalize hkn : n.keys.length = kn at *
      have HKn := hid hkn
      clear hkn
      go_wp2_with fail
      go_loopw [44] (fun i wr => ∃ k : Nat, k ≤ kn ∧ i = .int .i64 k ∧ Below W.heap.size W wr) (fun i _ => kn - (intOf i).toNat)
      case atStart => exact ⟨0, by omega, rfl, HB3.out⟩
      case round =>
        clear c1
        obtain ⟨k, hk, rfl, hb⟩ := hrel
        have HBr := hid hb
        clear hb
        by_cases hlt : k < kn
        · have hlt' : (k : Int) < kn := by omega
          have hlk : k < n.keys.length := by rw [HKn.out]; exact hlt
          obtain ⟨kb, ko, rfl, hck⟩ := HK.out.key k hlk
          have hck' := cell_later HBr.out hck
          have c0 := cell_later HBr.out x0
          have c1 := cell_later HBr.out x1
          have c2 := cell_later HBr.out x2
          have c3 := cell_later HBr.out x3
          obtain ⟨K2, b2, hE2⟩ := findV_form n n.keys[k]
          have HE2 := hid hE2
          have HSelf : Hid (rightB n = true → b2 = true ∧ (K2 : Int) = ((if n.leaf then k else k + 1 : Nat) : Int)) := fun hr => by
            have := find_self hr k hlk
            rw [hE2] at this
            simp at this
            exact ⟨this.2, by rw [this.1]⟩
          clear hE2
          generalize n.keys[k]'hlk = s at hck hck' HE2
          go_wp2_with fail
          go_region_held3 (fun w' => w'.cell? ⟨B, 0, none⟩ = some (.bool n.leaf) ∧ w'.cell? ⟨B, 1, none⟩ = some (.slice (some ⟨kb, ko, none⟩) kn kp) ∧ w'.cell? ⟨B, 2, none⟩ = some (.slice ia n.items.length ep) ∧ w'.cell? ⟨B, 3, none⟩ = some (.slice da n.kids.length dp) ∧ w'.cell? ⟨kb, ko + k, none⟩ = some (.string s) ∧ Below W.heap.size W w') (first | exact ⟨cell_later A1.out x0, cell_later A1.out x1, cell_later A1.out x2, cell_later A1.out x3, cell_later A1.out hck, A1.out⟩ | exact ⟨c0, c1, c2, c3, hck', HBr.out⟩ | exact ⟨c0, c1, c2, c3, hck', HBr.out.drew⟩) (first | (go_at_call 22; refine (find_any (HN.out.later HBr.out.drew) HSm.out s).mono ?_; rw [HE2.out]; rintro e w4 ⟨rfl, hb4⟩; have A1 := hid (HBr.out.drew.trans (hb4.mono HBr.out.drew.size)); clear hb4))
          rename_i hSw
          clear hSw c0 c1 c2 c3 hck'
          have c0 := cell_later A1.out x0
          have c1 := cell_later A1.out x1
          have c2 := cell_later A1.out x2
          have c3 := cell_later A1.out x3
          go_wp2_with fail
          refine (right_any (HN.out.later A1.out) HSm.out).mono ?_
          rintro e w5 ⟨rfl, hb5⟩
          have A2 := hid (A1.out.trans (hb5.mono A1.out.size))
          clear hb5 c0 c1 c2 c3
          have c0 := cell_later A2.out x0
          cases hr : rightB n with
          | false =>
            go_wp2_with fail
            go_roundw
            case rel => exact ⟨k + 1, by omega, by go_num, A2.out⟩
            case measure => simp [intOf]; omega
          | true =>
            obtain ⟨rfl, hK2⟩ := HSelf.out hr
            clear HSelf hr
            rcases Bool.eq_false_or_eq_true n.leaf with hl | hl
            · rw [hl] at c0 hK2
              clear hl
              simp only [if_true] at hK2
              have hK3 : ((K2 : Int) != k) = false := by rw [hK2]; simp
              clear hK2
              go_wp2_with fail
              go_roundw
              case rel => exact ⟨k + 1, by omega, by go_num, A2.out⟩
              case measure => simp [intOf]; omega
            · rw [hl] at c0 hK2
              clear hl
              simp only [Bool.false_eq_true, if_false] at hK2
              have hK3 : ((K2 : Int) != (k : Int) + 1) = false := by rw [hK2]; simp
              clear hK2
              go_wp2_with fail
              go_roundw
              case rel => exact ⟨k + 1, by omega, by go_num, A2.out⟩
              case measure => simp [intOf]; omega
        · have hlt' : ¬ (k : Int) < kn := by omega
          go_wp2_with (first | (go_at_call 11; refine (alive_any _).mono ?_; rintro e w6 ⟨rfl, hb6⟩; have HB6 := hid (HBr.out.trans (hb6.mono HBr.out.size)); clear hb6))
          go_ret
          exact ⟨rfl, by first | exact below3 hBe HB0.out hB HB6.out | exact hBe ▸ below3 hBe HB0.out hB HB6.out⟩

theorem own : ownKnob Try.prog.godebug = none := by kernel_rfl
theorem laidOut : laidOutB Try.prog = true := by kernel_rfl

set_option maxRecDepth 100000 in
theorem lifted (os : Os) (started : os.Started) (H : Type) (enc : TypeId × Value → H) :
    ReturnsInHanded {} Try.checked os 7 .any (Rows.nodeFindsSpec.pre6 enc Try.prog Try.f7 Rows.nodeFindsRow.domain false) (Rows.nodeFindsSpec.post enc Try.prog Try.f7 false true false false) := by
  refine returnsInHanded_of_change (C := Try.checked) own started (by kernel_rfl) Try.func7
    (ChangeSpec.witness6 (enc := enc) (C := Try.checked) false ⟨#[], #[.agg #[.bool false, .slice none 0 0, .slice none 0 0, .slice none 0 0], .string ⟨#[]⟩], []⟩ 8 (by kernel_rfl) (by kernel_rfl) (by kernel_rfl) (by kernel_rfl)) ?_
  intro W base args ds gs before hval0 hW hcnd _
  have hval : ∀ (j : Nat) t v, Try.f7.params[j]? = some t → args[j]? = some v → Value.okWide Try.prog W .any base t v := hval0
  have hW' := hW
  obtain ⟨p, q, hA0, hV, rfl, hfz, hnd⟩ := hW
  have hA : DataW.TrodAll enc Try.prog W 0 (fun _ => true) true Try.f7.params.toList args.toList ds p := hA0
  rw [Try.params7] at hA hval
  obtain ⟨v0, vs0, d0, ds0, p0, q0, hargs, rfl, rfl, h0, r0⟩ := trodAll_cons hA
  obtain ⟨v1, vs1, d1, ds1, p1, q1, rfl, rfl, rfl, h1, r1⟩ := trodAll_cons r0
  obtain ⟨rfl, rfl, rfl⟩ := trodAll_nil r1
  obtain rfl : args = #[v0, v1] := by cases args; simp_all
  obtain ⟨rfl, rfl⟩ := trodVars_none hV
  obtain ⟨cs0, rfl, sz0⟩ := okWide_struct Try.underlying26 (hval 0 26 v0 rfl rfl)
  have lt0 : ∀ x ∈ p0, x.block < W.heap.size := by obtain ⟨m, hm⟩ := h0; exact DataW.trod_lt m _ _ _ hm
  obtain ⟨l0, hl0⟩ : ∃ l, NAt W (.agg cs0) l := by obtain ⟨fuel, hf⟩ := h0; exact open_node (sz0.trans cells26) hf
  obtain ⟨a1, rfl⟩ := okWide_string Try.underlying9 (hval 1 9 v1 rfl rfl)
  have lt1 : ∀ x ∈ p1, x.block < W.heap.size := by obtain ⟨m, hm⟩ := h1; exact DataW.trod_lt m _ _ _ hm
  have hs1 : a1.size ≤ maxLen := by obtain ⟨fuel, hf⟩ := h1; exact open_str hf
  clear hA0 hval0
  refine (walk hl0 a1 hs1).mono fun e W' ⟨he, bel⟩ => ?_
  subst he
  exact ⟨_, rfl, _, _, _, [], _, [], hW', trodAll_mk1 (shut_bool Try.underlying4 _), (trodAll_cons_mk (Below.trod laidOut (by kernel_rfl) (of_decide_eq_true (by kernel_rfl)) h0 bel lt0) (trodAll_cons_mk (Below.trod laidOut (by kernel_rfl) (of_decide_eq_true (by kernel_rfl)) h1 bel lt1) trodAll_mk0)), rfl, bel.frame _, fun h => by cases h⟩

theorem over : Rows.nodeFindsRow.holds Try.pinned (OpenSpec.ofChange Rows.nodeFindsSpec) :=
  OpenClaim.holds_of_wide 7 Try.f7 rfl rfl rfl rfl rfl rfl rfl ⟨rfl, rfl, rfl, rfl, rfl⟩ rfl rfl rfl rfl rfl (by kernel_rfl) Try.func7 (by kernel_rfl)
    (of_decide_eq_true (by kernel_rfl)) (by unfold Func.isWrapper; first | (rw [if_pos (by decide +kernel)]; kernel_rfl) | (rw [if_neg (by decide +kernel)]; exact ⟨rfl, rfl⟩))
    (fun os started H enc _ => lifted os started H enc)
end Go.Proofs.Ytkipigbfbhecjaa.nodeFinds
namespace Go.Proofs.Ytkipigbfbhecjaa
/-- THE STATEMENT. -/
theorem nodeFinds_holds : Rows.NodeFindsSaid := nodeFinds.over
#print axioms nodeFinds_holds
end Go.Proofs.Ytkipigbfbhecjaa
