/- Proved here: of two roots' sectors with unlike gens the first bytes of the one and the rest of the other one are one of the two, or none (PageTorn returns true for every input, and leaves its arguments as they were). No condition. -/
import Derived.Test.YtjbkmgeomnmddaaRows
import Derived.Test.YtjbkmgeomnmddaaTornReg
import Derived.ProofKit
import Derived.ShutString
import Derived.ChangeOld
import Derived.Below
namespace Go.Proofs.Ytjbkmgeomnmddaa.pageTorn
open Go.ChangeShapes Go.WideShapes Go.ChangeAt Go.RowKit
set_option linter.unusedVariables false

set_option maxRecDepth 100000 in
set_option maxHeartbeats 8000000 in
theorem walk {w : World} {a b cut : Int} {s t : ByteArray} (hms : s.size ≤ maxLen) (hmt : t.size ≤ maxLen) :
    Calls Try.prog 8 #[.int .i64 a, .int .i64 b, .string s, .string t, .int .i64 cut] w fun e w' => e = .returned (.bool true) ∧ Below w.heap.size w w' := by
  by_cases h1 : (rootE a s.size = 0 ∧ rootE b t.size = 0) ∧ a ≠ b
  · obtain ⟨⟨ea, eb⟩, hab⟩ := h1
    obtain ⟨ha, hs⟩ := rootE_zero ea
    obtain ⟨hb, ht⟩ := rootE_zero eb
    have hab' : (a == b) = false := by rw [beq_eq_false_iff_ne]; exact hab
    obtain ⟨k, hk, hke⟩ := cut_range cut
    have HSX := hid (root_yes a s · ha.1 ha.2 hs)
    have HSY := hid (root_yes b t · hb.1 hb.2 ht)
    have hX := rootL_length a (bOf s) (by rw [bOf_length]; omega)
    have hY := rootL_length b (bOf t) (by rw [bOf_length]; omega)
    have HXL := hid hX
    have HYL := hid hY
    have HT := hid (torn_one ha hb (S := bOf s) (T := bOf t) (by rw [bOf_length]; exact hs) (by rw [bOf_length]; exact ht) hab k hk)
    have HVX := hid (ropenV_root a s ha.1 ha.2 hs)
    have HVY := hid (ropenV_root b t hb.1 hb.2 ht)
    have hki0 : (0 : Int) ≤ (k : Int) := by omega
    have hki1 : (k : Int) ≤ 512 := by omega
    clear ea eb ha hb hs ht hab hX hY hms hmt
    go_enter Try.func8, Try.ntmps8
    go_wp2_with fail
    refine (HSX.out _).mono ?_
    rintro e w1 ⟨v, rfl, hv, hb1⟩
    obtain ⟨gx, cx, rfl, hgx, hgx', hbx, hcx, hcx'⟩ := hv.all HXL.out
    have HB := hid hb1
    have HAX := hid hbx
    clear hv hb1 hbx
    go_wp2_with fail
    refine (HSY.out _).mono ?_
    rintro e w2 ⟨v, rfl, hv, hb2⟩
    obtain ⟨gy, cy, rfl, hgy, hgy', hby, hcy, hcy'⟩ := hv.all HYL.out
    have hgx2 := Nat.lt_of_lt_of_le hgx' hb2.size
    replace HAX := hid (HAX.out.below hb2)
    replace HB := hid (HB.out.trans (hb2.mono HB.out.size))
    have HAY := hid hby
    unfold maxLen at hcx' hcy'
    clear hv hb2 hby
    go_wp2_with (first | (go_at_call 16; refine (no_any _ _).mono ?_; rintro e w ⟨rfl, rfl⟩))
    have HXY := hid (⟨byt_root a _ (bOf_range s), byt_root b _ (bOf_range t)⟩ : Byt (rootL a (bOf s)) ∧ Byt (rootL b (bOf t)))
    obtain ⟨v1, w1', v2, w2', hr1, hr2, hso, hbl⟩ := torn_build (w := w.drew) (cx := cx) HAX.out HAY.out HXL.out HYL.out HXY.out.1 HXY.out.2 hk hcy
    refine wp_region_held_drew (S := fun _ => True) (by kernel_rfl) trivial ?_
    intro _
    refine anyH_take 1 ⟨some 57, .move (.tmp 11), _, _, _, none⟩ (.slice (some ⟨gx, 0, none⟩) 512 cx) rfl rfl (by kernel_rfl) (by kernel_rfl) (by kernel_rfl) (fun _ _ _ h => h) (fun _ _ => rfl) trivial ?_
    simp only [Act.put, List.setIfInBounds_toArray, List.set_cons_zero, List.set_cons_succ]
    refine anyH_take 2 ⟨some 58, .move (.tmp 4), _, _, _, none⟩ (.int .i64 k) rfl rfl (by kernel_rfl) (by kernel_rfl) (by kernel_rfl) (fun _ _ _ h => h) (fun _ _ => rfl) trivial ?_
    simp only [Act.put, List.setIfInBounds_toArray, List.set_cons_zero, List.set_cons_succ]
    refine anyH_take 3 ⟨some 59, .slice 22 (.tmp 57) none (some (.tmp 58)) none, _, _, _, none⟩ (.slice (some ⟨gx, 0, none⟩) k cx) rfl rfl (by kernel_rfl) (by kernel_rfl) (by kernel_rfl) (fun _ _ _ h => h) (fun w _ => exec_slice_h rfl rfl (slice_h22 gx k cx w (by omega))) trivial ?_
    simp only [Act.put, List.setIfInBounds_toArray, List.set_cons_zero, List.set_cons_succ]
    refine anyH_take 5 ⟨some 61, .move (.tmp 13), _, _, _, none⟩ (.slice (some ⟨gy, 0, none⟩) 512 cy) rfl rfl (by kernel_rfl) (by kernel_rfl) (by kernel_rfl) (fun _ _ _ h => h) (fun _ _ => rfl) trivial ?_
    simp only [Act.put, List.setIfInBounds_toArray, List.set_cons_zero, List.set_cons_succ]
    refine anyH_take 6 ⟨some 62, .move (.tmp 4), _, _, _, none⟩ (.int .i64 k) rfl rfl (by kernel_rfl) (by kernel_rfl) (by kernel_rfl) (fun _ _ _ h => h) (fun _ _ => rfl) trivial ?_
    simp only [Act.put, List.setIfInBounds_toArray, List.set_cons_zero, List.set_cons_succ]
    refine anyH_take 7 ⟨some 63, .slice 22 (.tmp 61) (some (.tmp 62)) none none, _, _, _, none⟩ (.slice (some (restAddr gy k cy)) (512 - k) (cy - k)) rfl rfl (by kernel_rfl) (by kernel_rfl) (by kernel_rfl) (fun _ _ _ h => h) (fun w _ => exec_slice_l rfl rfl (slice_l22 gy k cy w hk)) trivial ?_
    simp only [Act.put, List.setIfInBounds_toArray, List.set_cons_zero, List.set_cons_succ]
    refine anyH_one 0 ⟨some 56, .buildSlice 22 0 #[], _, _, _, none⟩ _ _ (by kernel_rfl) rfl rfl exec_empty trivial ?_
    simp only [Act.put, List.setIfInBounds_toArray, List.set_cons_zero, List.set_cons_succ]
    refine anyH_one 4 ⟨some 60, .call { callee := .builtin .append, args := #[.tmp 56, .tmp 59], argTypes := #[22, 22] }, _, _, _, none⟩ v1 w1' (by kernel_rfl) rfl rfl (exec_append rfl rfl hr1) trivial ?_
    simp only [Act.put, List.setIfInBounds_toArray, List.set_cons_zero, List.set_cons_succ]
    refine anyH_one 8 ⟨some 64, .call { callee := .builtin .append, args := #[.tmp 60, .tmp 63], argTypes := #[22, 22] }, _, _, _, none⟩ v2 w2' (by kernel_rfl) rfl rfl (exec_append rfl rfl hr2) trivial ?_
    simp only [Act.put, List.setIfInBounds_toArray, List.set_cons_zero, List.set_cons_succ]
    refine anyH_one 9 ⟨some 15, .assign (.tmp 64), _, _, _, none⟩ v2 w2' (by kernel_rfl) rfl rfl rfl trivial ?_
    simp only [Act.put, List.setIfInBounds_toArray, List.set_cons_zero, List.set_cons_succ]
    refine wpAnyH_done (by kernel_rfl) ?_ _
    have hbl : Below w.heap.size w w2' := (⟨rfl, rfl, rfl, Nat.le_refl _, fun _ _ => rfl⟩ : Below w.heap.size w w.drew).trans hbl
    replace HAX := hid (HAX.out.below hbl)
    replace HAY := hid (HAY.out.below hbl)
    replace HB := hid (HB.out.trans (hbl.mono HB.out.size))
    obtain ⟨az, cz, rfl, hz⟩ := hso
    have HZ := hid hz
    clear hr1 hr2 hbl hz hgx hgx' hgx2 hgy hgy'
    generalize hzl : List.take k (rootL a (bOf s)) ++ List.drop k (rootL b (bOf t)) = z at *
    have HZL := hid hzl
    clear hzl
    have hba' : (b == a) = false := by rw [beq_eq_false_iff_ne]; rw [beq_eq_false_iff_ne] at hab'; exact fun e => hab' e.symm
    go_wp2_with fail
    refine (ropen_all HZ.out).mono ?_
    by_cases hroot : isRoot z
    · rcases HT.out hroot with hz | hz
      · rw [hz, HVX.out]
        rintro e w3 ⟨rfl, hb3⟩
        rw [hz] at HZ
        replace HZ := hid (HZ.out.later hb3)
        replace HAX := hid (HAX.out.below hb3)
        replace HB := hid (HB.out.trans (hb3.mono HB.out.size))
        have hcv1 := conv_bytes (c := cz) HZ.out.at_ HXL.out
        have hcv2 := conv_bytes (c := cx) HAX.out HXL.out
        rw [HXL.out]
        clear hb3 hz hroot HZ HAX HAY HT
        go_wp2_with (first | (go_at_call 16; refine (no_any _ _).mono ?_; rintro e w ⟨rfl, rfl⟩) | (clear hcv1 hcv2; go_at_call 9; refine (alive_any _).mono ?_; rintro e w' ⟨rfl, hb⟩))
        go_ret
        exact ⟨rfl, HB.out.trans (hb.mono HB.out.size)⟩
      · rw [hz, HVY.out]
        rintro e w3 ⟨rfl, hb3⟩
        rw [hz] at HZ
        replace HZ := hid (HZ.out.later hb3)
        replace HAY := hid (HAY.out.below hb3)
        replace HB := hid (HB.out.trans (hb3.mono HB.out.size))
        have hcv1 := conv_bytes (c := cz) HZ.out.at_ HYL.out
        have hcv2 := conv_bytes (c := cy) HAY.out HYL.out
        rw [HYL.out]
        clear hb3 hz hroot HZ HAX HAY HT
        go_wp2_with (first | (go_at_call 16; refine (no_any _ _).mono ?_; rintro e w ⟨rfl, rfl⟩) | (clear hcv1 hcv2; go_at_call 9; refine (alive_any _).mono ?_; rintro e w' ⟨rfl, hb⟩))
        go_ret
        exact ⟨rfl, HB.out.trans (hb.mono HB.out.size)⟩
    · rw [ropenV_no hroot]
      rintro e w3 ⟨rfl, hb3⟩
      replace HB := hid (HB.out.trans (hb3.mono HB.out.size))
      clear hb3 hroot HZ HAX HAY HT
      go_wp2_with (first | (go_at_call 16; refine (no_any _ _).mono ?_; rintro e w ⟨rfl, rfl⟩) | (go_at_call 9; refine (alive_any _).mono ?_; rintro e w' ⟨rfl, hb⟩))
      go_ret
      exact ⟨rfl, HB.out.trans (hb.mono HB.out.size)⟩
  · have HMS := hid hms
    have HMT := hid hmt
    go_enter Try.func8, Try.ntmps8
    go_wp2_with fail
    refine (root_all a s _ HMS.out).mono ?_
    rintro e w1 ⟨v, rfl, ⟨a1, c1, rfl, _⟩, hb1⟩
    have HB := hid hb1
    clear hb1
    go_wp2_with fail
    refine (root_all b t _ HMT.out).mono ?_
    rintro e w2 ⟨v, rfl, ⟨a2, c2, rfl, _⟩, hb2⟩
    replace HB := hid (HB.out.trans (hb2.mono HB.out.size))
    clear hb2
    have hea := rootE_cases a s.size
    have heb := rootE_cases b t.size
    have h1' : (rootE a s.size + rootE b t.size != 0) = true ∨ (rootE a s.size + rootE b t.size != 0) = false ∧ (a == b) = true := by
      by_cases h : a = b
      · by_cases h2 : rootE a s.size + rootE b t.size = 0
        · right
          exact ⟨by simp [h2], by simp [h]⟩
        · left; simpa using h2
      · left
        rw [bne_iff_ne]
        intro h2
        exact h1 ⟨⟨by omega, by omega⟩, h⟩
    have hfit : wrap64 (rootE a s.size + rootE b t.size) = rootE a s.size + rootE b t.size := wrap64_fits _ (by omega) (by omega)
    clear h1
    generalize rootE a s.size = E1 at *
    generalize rootE b t.size = E2 at *
    clear hea heb hms hmt
    rcases h1' with h1' | ⟨h1', h2'⟩
    · go_wp2_with (first | (go_at_call 16; refine (no_any _ _).mono ?_; rintro e w ⟨rfl, rfl⟩) | (go_at_call 9; refine (alive_any _).mono ?_; rintro e w' ⟨rfl, hb⟩))
      go_ret
      exact ⟨rfl, HB.out.trans (hb.mono HB.out.size)⟩
    · go_wp2_with (first | (go_at_call 16; refine (no_any _ _).mono ?_; rintro e w ⟨rfl, rfl⟩) | (go_at_call 9; refine (alive_any _).mono ?_; rintro e w' ⟨rfl, hb⟩))
      go_ret
      exact ⟨rfl, HB.out.trans (hb.mono HB.out.size)⟩

theorem own : ownKnob Try.prog.godebug = none := by kernel_rfl
theorem laidOut : laidOutB Try.prog = true := by kernel_rfl

set_option maxRecDepth 100000 in
theorem lifted (os : Os) (started : os.Started) (H : Type) (enc : TypeId × Value → H) :
    ReturnsInHanded {} Try.checked os 8 .any (Rows.pageTornSpec.pre6 enc Try.prog Try.f8 Rows.pageTornRow.domain false) (Rows.pageTornSpec.post enc Try.prog Try.f8 false true false false) := by
  refine returnsInHanded_of_change (C := Try.checked) own started (by kernel_rfl) Try.func8
    (ChangeSpec.witness6 (enc := enc) (C := Try.checked) false ⟨#[], #[.int .i64 0, .int .i64 0, .string ⟨#[]⟩, .string ⟨#[]⟩, .int .i64 0], []⟩ 8 (by kernel_rfl) (by kernel_rfl) (by kernel_rfl) (by kernel_rfl)) ?_
  intro W base args ds gs before hval0 hW hcnd _
  have hval : ∀ (j : Nat) t v, Try.f8.params[j]? = some t → args[j]? = some v → Value.okWide Try.prog W .any base t v := hval0
  have hW' := hW
  obtain ⟨p, q, hA0, hV, rfl, hfz, hnd⟩ := hW
  have hA : DataW.TrodAll enc Try.prog W 0 (fun _ => true) true Try.f8.params.toList args.toList ds p := hA0
  rw [Try.params8] at hA hval
  obtain ⟨v0, vs0, d0, ds0, p0, q0, hargs, rfl, rfl, h0, r0⟩ := trodAll_cons hA
  obtain ⟨v1, vs1, d1, ds1, p1, q1, rfl, rfl, rfl, h1, r1⟩ := trodAll_cons r0
  obtain ⟨v2, vs2, d2, ds2, p2, q2, rfl, rfl, rfl, h2, r2⟩ := trodAll_cons r1
  obtain ⟨v3, vs3, d3, ds3, p3, q3, rfl, rfl, rfl, h3, r3⟩ := trodAll_cons r2
  obtain ⟨v4, vs4, d4, ds4, p4, q4, rfl, rfl, rfl, h4, r4⟩ := trodAll_cons r3
  obtain ⟨rfl, rfl, rfl⟩ := trodAll_nil r4
  obtain rfl : args = #[v0, v1, v2, v3, v4] := by cases args; simp_all
  obtain ⟨rfl, rfl⟩ := trodVars_none hV
  obtain ⟨a0, rfl, rfl, rfl, w0⟩ := open_int Try.underlying3 (hval 0 3 v0 rfl rfl) h0
  obtain ⟨a1, rfl, rfl, rfl, w1⟩ := open_int Try.underlying3 (hval 1 3 v1 rfl rfl) h1
  obtain ⟨a2, rfl⟩ := okWide_string Try.underlying9 (hval 2 9 v2 rfl rfl)
  have lt2 : ∀ x ∈ p2, x.block < W.heap.size := by obtain ⟨m, hm⟩ := h2; exact DataW.trod_lt m _ _ _ hm
  have hs2 : a2.size ≤ maxLen := by obtain ⟨fuel, hf⟩ := h2; exact open_str hf
  obtain ⟨a3, rfl⟩ := okWide_string Try.underlying9 (hval 3 9 v3 rfl rfl)
  have lt3 : ∀ x ∈ p3, x.block < W.heap.size := by obtain ⟨m, hm⟩ := h3; exact DataW.trod_lt m _ _ _ hm
  have hs3 : a3.size ≤ maxLen := by obtain ⟨fuel, hf⟩ := h3; exact open_str hf
  obtain ⟨a4, rfl, rfl, rfl, w4⟩ := open_int Try.underlying3 (hval 4 3 v4 rfl rfl) h4
  clear hA0 hval0
  refine (walk hs2 hs3).mono fun e W' ⟨he, bel⟩ => ?_
  subst he
  exact ⟨_, rfl, _, _, _, [], _, [], hW', trodAll_mk1 (shut_bool Try.underlying4 _), (trodAll_cons_mk (shut_int Try.underlying3 w0) (trodAll_cons_mk (shut_int Try.underlying3 w1) (trodAll_cons_mk (Below.trod laidOut (by kernel_rfl) (of_decide_eq_true (by kernel_rfl)) h2 bel lt2) (trodAll_cons_mk (Below.trod laidOut (by kernel_rfl) (of_decide_eq_true (by kernel_rfl)) h3 bel lt3) (trodAll_cons_mk (shut_int Try.underlying3 w4) trodAll_mk0))))), rfl, bel.frame _, fun h => by cases h⟩

theorem over : Rows.pageTornRow.holds Try.pinned (OpenSpec.ofChange Rows.pageTornSpec) :=
  OpenClaim.holds_of_wide 8 Try.f8 rfl rfl rfl rfl rfl rfl rfl ⟨rfl, rfl, rfl, rfl, rfl⟩ rfl rfl rfl rfl rfl (by kernel_rfl) Try.func8 (by kernel_rfl)
    (of_decide_eq_true (by kernel_rfl)) (by unfold Func.isWrapper; first | (rw [if_pos (by decide +kernel)]; kernel_rfl) | (rw [if_neg (by decide +kernel)]; exact ⟨rfl, rfl⟩))
    (fun os started H enc _ => lifted os started H enc)
end Go.Proofs.Ytjbkmgeomnmddaa.pageTorn
namespace Go.Proofs.Ytjbkmgeomnmddaa
/-- THE STATEMENT. -/
theorem pageTorn_holds : Rows.PageTornSaid := pageTorn.over
#print axioms pageTorn_holds
end Go.Proofs.Ytjbkmgeomnmddaa
