/- What this text holds: a text as a part with its kids: the program's call. (Written by gen17.py.) -/
import Derived.Test.YtgolcmafbenjbaaGreatDoorN16
namespace Go.Proofs.YtgolcmafbenjbaaGreatDoor
open Go.RowKit
set_option linter.unusedVariables false
set_option linter.unusedSimpArgs false

theorem wp_once7 {c : Code} {R : Exit → Act → World → Prop} {a : Act} {w : World} (PW : Nat → Option Addr → Nat → Option Addr → Nat → Option Addr → Nat → World → Prop) (h : ∃ A : Nat → Option Addr → Nat → Option Addr → Nat → Option Addr → Nat → Act, c.wp Tryz.prog (fun e a' w' => e = .normal ∧ ∃ g i j k l o q, a' = A g i j k l o q ∧ PW g i j k l o q w') a w ∧ ∀ g i j k l o q w', PW g i j k l o q w' → R .normal (A g i j k l o q) w') : c.wp Tryz.prog R a w := by
  obtain ⟨A, h1, h2⟩ := h
  refine Code.wp_mono (fun e a' w' hh => ?_) h1
  obtain ⟨rfl, g, i, j, k, l, o, q, rfl, hp⟩ := hh
  exact h2 _ _ _ _ _ _ _ _ hp
theorem bits_len (m : Bs) (op : Option Nat) (a : Nat) : (bits m op a).length ≤ 1 := by cases op <;> simp [bits]
theorem lastB_len (b : Nat) (op : Option Nat) : (lastB b op).length ≤ 1 := by cases op <;> simp [lastB]
theorem betN_len (m beg : Bs) (b : Nat) : ∀ (n a : Nat) (op : Option Nat), (betN m beg b n a op).length ≤ n + 1
  | 0, a, op => by rw [betN]; exact lastB_len b op
  | n + 1, a, op => by
    rw [betN]
    have h1 := bits_len m op a
    have h2 := lastB_len b op
    split
    · omega
    · split
      · omega
      · split
        · have := betN_len m beg b n (eol m a b) (some (eol m a b))
          rw [List.length_append]; omega
        · have := betN_len m beg b n (eol m a b) op
          omega
theorem Rise.mem : ∀ {l : List (Nat × Nat)} {lo hi : Nat}, Rise lo hi l → ∀ t ∈ l, t.1 ≤ t.2 ∧ t.2 ≤ hi
  | [], lo, hi, h, t, ht => by simp at ht
  | q :: l, lo, hi, h, t, ht => by
    rcases List.mem_cons.1 ht with rfl | ht
    · exact ⟨h.2.1, h.2.2.le⟩
    · exact h.2.2.mem t ht
theorem texts_len (m : Bs) (d : Pd) (h2 : d.to ≤ m.length) (hm : m.length ≤ 100000) : (textsM m d).length ≤ 1000000 := by
  unfold textsM
  split
  · simp
  · split
    · have := betN_len m (45 :: 45 :: boundM d.ps) d.to (d.to - d.fr) d.fr none
      unfold betM
      omega
    · simp
theorem bound_len (k : Nat) : ∀ (l : List (Bs × Bs)), (∀ p ∈ l, p.2.length ≤ k) → (boundM l).length ≤ k
  | [], h => by simp [boundM]
  | p :: l, h => by
    rw [boundM]
    split
    · exact h p (by simp)
    · exact bound_len k l (fun q hq => h q (by simp [hq]))
theorem kind_ps (s : Bs) : (kindM s).2.2.length ≤ s.length ∧ ∀ p ∈ (kindM s).2.2, p.2.length ≤ s.length := by
  unfold kindM
  cases h : headM s with
  | none => simp
  | some r =>
    have hr : r.2.2.length ≤ s.length := by
      unfold headM at h
      split at h
      · cases h
      · split at h
        · cases h
        · rename_i t ht
          have h1 := sgn_len ht
          have h2 := tokR_len s
          have h4 := tokR_len t
          split at h
          · cases h
          · cases h
            show (tokR t).length ≤ _
            omega
    have h1 := pars_len _ r.2.2 (Nat.le_refl _)
    have h2 := pars_in _ r.2.2 (Nat.le_refl _)
    exact ⟨by show (parsM r.2.2).length ≤ _; omega, fun p hp => Nat.le_trans (h2 p hp).2 hr⟩
theorem part_ps (m : Bs) (a b : Nat) (dg : Bool) (h2 : b ≤ m.length) (hm : m.length ≤ 1000000) : (partM m a b dg).ps.length ≤ 1000000 ∧ (boundM (partM m a b dg).ps).length ≤ 1000000 := by
  have hil := inn_le m a b
  have hok : FieldsOk (fieldsOf (inn m a b)) := fields_ok _ (by simp; omega)
  have hfl := first_len _ hok nType
  show (kindOfM (fieldsOf (inn m a b)) dg).2.2.length ≤ _ ∧ (boundM (kindOfM (fieldsOf (inn m a b)) dg).2.2).length ≤ _
  unfold kindOfM
  cases hf : firstM (fieldsOf (inn m a b)) nType with
  | nil => cases dg <;> simp [boundM]
  | cons t l =>
    rw [hf] at hfl
    have h1 := hfl t (by simp)
    have h3 := kind_ps t
    exact ⟨by show (kindM t).2.2.length ≤ _; omega, Nat.le_trans (bound_len t.length _ h3.2) h1⟩
set_option maxRecDepth 100000 in
theorem results26_run {w : World} {A : Nat} {d : Pd} {vp vi vd vk : Value} (tmps : Array Value) (h2 : tmps[8]? = some (.pointer (some ⟨A, 0, none⟩))) (hA : D11 w A d vp vi vd vk) :
    (results Tryz.f26 tmps).run Tryz.prog w = .ok (ptV d vp vi vd vk) w := by
  obtain ⟨x0, x1, x2, x3, x4, x5, x6, x7, x8, x9, x10⟩ := hA.cs
  simp [results, Tryz.results26, go_sem, h2, x0, x1, x2, x3, x4, x5, x6, x7, x8, x9, x10, ptV, ptC]

set_option maxRecDepth 100000 in
set_option maxHeartbeats 8000000 in
theorem tell_ok (m : Bs) (hm : m.length ≤ 100000) : ∀ n, n ≤ 7 → TellOk m n := by
  intro n
  induction n with
  | zero =>
    intro _
    intro w b x y dg many ht he hb0 hxy hym hmany
    have hB : Below w.heap.size w ((w.alloc (.cells #[.int .i64 x, .int .i64 y] 62)).alloc (.cells #[.string ⟨#[]⟩, .string ⟨#[]⟩, .slice none 0 0, .slice none 0 0, .slice none 0 0, .string ⟨#[]⟩, .int .i64 0, .int .i64 0, .int .i64 0, .int .i64 0, .slice none 0 0] 33)) := below2 w _ _
    have HT1 := hid (ht.later hB)
    have HE1 := hid (he.later hB)
    have HI1 : Hid (I2 ((w.alloc (.cells #[.int .i64 x, .int .i64 y] 62)).alloc (.cells #[.string ⟨#[]⟩, .string ⟨#[]⟩, .slice none 0 0, .slice none 0 0, .slice none 0 0, .string ⟨#[]⟩, .int .i64 0, .int .i64 0, .int .i64 0, .int .i64 0, .slice none 0 0] 33)) w.heap.size x y) := (i2_new w x y).later (below1 _ _)
    have HR1 : Hid (D11 ((w.alloc (.cells #[.int .i64 x, .int .i64 y] 62)).alloc (.cells #[.string ⟨#[]⟩, .string ⟨#[]⟩, .slice none 0 0, .slice none 0 0, .slice none 0 0, .string ⟨#[]⟩, .int .i64 0, .int .i64 0, .int .i64 0, .int .i64 0, .slice none 0 0] 33)) (w.heap.size + 1) Pd.zero nilV nilV nilV nilV) := by
      have h : D11 ((w.alloc (.cells #[.int .i64 x, .int .i64 y] 62)).alloc (.cells #[.string ⟨#[]⟩, .string ⟨#[]⟩, .slice none 0 0, .slice none 0 0, .slice none 0 0, .string ⟨#[]⟩, .int .i64 0, .int .i64 0, .int .i64 0, .int .i64 0, .slice none 0 0] 33)) (w.alloc (.cells #[.int .i64 x, .int .i64 y] 62)).heap.size Pd.zero nilV nilV nilV nilV := heap_alloc_new _ _
      rw [show (w.alloc (.cells #[.int .i64 x, .int .i64 y] 62)).heap.size = w.heap.size + 1 by simp] at h
      exact h
    have HB1 := hid hB
    have HbW := hid ht.lt
    have HPt := hid (fun W (h : Env W) => part_any m x y dg (w := W) h hxy hym (by omega))
    unfold PartIs at HPt
    have HPs := hid (part_ps m x y dg hym (by omega))
    have HFr := hid (part_fr m x y dg hym hxy)
    have HTo : Hid ((partM m x y dg).to = y) := rfl
    have HRi := hid (texts_rise m x y dg hym hxy)

    have HEq : Hid (tellM m 0 x y dg many = (.mk (partM m x y dg) [], many + 1)) := rfl
    generalize hP : partM m x y dg = P at *
    clear hP
    obtain ⟨lp, HLp⟩ : ∃ n, Hid ((P.ps.map pR).length = n) := ⟨_, rfl⟩
    obtain ⟨li, HLi⟩ : ∃ n, Hid ((P.id.map sR).length = n) := ⟨_, rfl⟩
    obtain ⟨ld, HLd⟩ : ∃ n, Hid ((P.desc.map sR).length = n) := ⟨_, rfl⟩
    clear ht he hB
    unfold TellIs
    unfold spV at *
    go_enter Tryz.func26, Tryz.ntmps26
    go_wp2_with fail
    generalize ((w.alloc (.cells #[.int .i64 x, .int .i64 y] 62)).alloc (.cells #[.string ⟨#[]⟩, .string ⟨#[]⟩, .slice none 0 0, .slice none 0 0, .slice none 0 0, .string ⟨#[]⟩, .int .i64 0, .int .i64 0, .int .i64 0, .int .i64 0, .slice none 0 0] 33)) = W1 at *
    have HRB : Hid (w.heap.size ≤ w.heap.size + 1) := by rw [Hid]; omega
    have HRlt : Hid (w.heap.size + 1 < W1.heap.size) := HR1.out.lt
    have HRb : Hid (b ≠ w.heap.size + 1) := by rw [Hid]; have := HbW.out; omega
    generalize w.heap.size + 1 = R at *
    apply wp_once7 (fun g pa pc ia ic da dc W' => D11 W' g P (.slice pa lp pc) (.slice ia li ic) (.slice da ld dc) nilV ∧ PdAt W' (fun q => W1.heap.size ≤ q ∧ q ≠ g) P (.slice pa lp pc) (.slice ia li ic) (.slice da ld dc) ∧ Below W1.heap.size W1 W' ∧ W1.heap.size ≤ g)
    apply Exists.intro
    apply And.intro
    · refine wp_region_held_drew (S := fun X => Below W1.heap.size W1 X) (by kernel_rfl) ((Below.refl _ _).drew) ?_
      intro hS
      refine anyH_take 0 ⟨some 10, .move (.tmp 0), _, _, _, none⟩ (.pointer (some ⟨b, 0, none⟩)) rfl rfl (by kernel_rfl) (by kernel_rfl) (by kernel_rfl) (fun _ _ _ h => nomatch h.1) (fun _ _ => rfl) hS ?_
      simp only [Act.put, List.setIfInBounds_toArray, List.set_cons_zero, List.set_cons_succ]
      refine anyH_take 1 ⟨some 11, .nilCheck (.tmp 10), _, _, _, none⟩ (.pointer (some ⟨b, 0, none⟩)) rfl rfl (by kernel_rfl) (by kernel_rfl) (by kernel_rfl) (fun _ _ _ h => nomatch h.1) (fun _ _ => rfl) hS ?_
      simp only [Act.put, List.setIfInBounds_toArray, List.set_cons_zero, List.set_cons_succ]
      refine anyH_take 2 ⟨some 12, .fieldAddr 59 (.tmp 11) 0, _, _, _, none⟩ (.pointer (some ⟨b, 0, none⟩)) rfl rfl (by kernel_rfl) (by kernel_rfl) (by kernel_rfl) (fun _ _ _ h => nomatch h.1) (fun X _ => exec_v (fieldk59 b 0 X (by omega))) hS ?_
      simp only [Act.put, List.setIfInBounds_toArray, List.set_cons_zero, List.set_cons_succ]
      refine anyH_take 3 ⟨some 13, .load 55 (.tmp 12), _, _, _, none⟩ (msgV m) rfl rfl (by kernel_rfl) (by kernel_rfl) (by kernel_rfl) (fun _ _ _ h => nomatch h.1) (fun X hX => exec_v (load55 (HT1.out.later hX).c0)) hS ?_
      simp only [Act.put, List.setIfInBounds_toArray, List.set_cons_zero, List.set_cons_succ]
      refine anyH_take 4 ⟨some 14, .load 62 (.tmp 5), _, _, _, none⟩ (spV x y) rfl rfl (by kernel_rfl) (by kernel_rfl) (by kernel_rfl) (fun _ _ _ h => nomatch h.1) (fun X hX => exec_v (load62 (HI1.out.later hX).c0 (HI1.out.later hX).c1)) hS ?_
      simp only [Act.put, List.setIfInBounds_toArray, List.set_cons_zero, List.set_cons_succ]
      refine anyH_take 5 ⟨some 15, .move (.tmp 3), _, _, _, none⟩ (.bool dg) rfl rfl (by kernel_rfl) (by kernel_rfl) (by kernel_rfl) (fun _ _ _ h => nomatch h.1) (fun _ _ => rfl) hS ?_
      simp only [Act.put, List.setIfInBounds_toArray, List.set_cons_zero, List.set_cons_succ]
      refine anyH_two 6 7 (by kernel_rfl) ?_ ?_
      · refine wpOp_callW (o := ⟨some 16, .call { callee := .value (.func 38), args := #[.tmp 13, .tmp 14, .tmp 15], argTypes := #[55, 62, 4] }, _, _, _, none⟩) (f := 38) (args := #[msgV m, spV x y, .bool dg]) rfl rfl (by kernel_rfl) ?_
        refine (HPt.out W1.drew (HE1.out.later hS)).mono ?_
        rintro e X2 ⟨⟨vp, vi, vd, rfl, hpd⟩, hb2⟩
        obtain ⟨_, pa, pc, hv1, _⟩ := id hpd.ps
        obtain ⟨_, ia, ic, hv2, _⟩ := id hpd.id
        obtain ⟨_, da, dc, hv3, _⟩ := id hpd.desc
        rw [HLp.out] at hv1
        rw [HLi.out] at hv2
        rw [HLd.out] at hv3
        subst hv1 hv2 hv3
        have hbX : Below W1.heap.size W1 X2 := hS.trans hb2
        refine ⟨_, rfl, hbX, ?_⟩
        simp only [Act.put, List.setIfInBounds_toArray, List.set_cons_zero, List.set_cons_succ]
        refine anyH_one 7 ⟨some 9, .alloc 33, _, _, _, none⟩ (.pointer (some ⟨X2.heap.size, 0, none⟩)) (X2.alloc (.cells #[.string ⟨#[]⟩, .string ⟨#[]⟩, .slice none 0 0, .slice none 0 0, .slice none 0 0, .string ⟨#[]⟩, .int .i64 0, .int .i64 0, .int .i64 0, .int .i64 0, .slice none 0 0] 33)) (by kernel_rfl) rfl rfl (exec_alloc33 _) (hbX.alloc hbX.size _) ?_
        simp only [Act.put, List.setIfInBounds_toArray, List.set_cons_zero, List.set_cons_succ]
        have hG : D11 (X2.alloc (.cells #[.string ⟨#[]⟩, .string ⟨#[]⟩, .slice none 0 0, .slice none 0 0, .slice none 0 0, .string ⟨#[]⟩, .int .i64 0, .int .i64 0, .int .i64 0, .int .i64 0, .slice none 0 0] 33)) X2.heap.size Pd.zero nilV nilV nilV nilV := d11_new X2 Pd.zero nilV nilV nilV nilV
        have hgB := hbX.size
        have hbL := hbX.alloc hbX.size (.cells #[.string ⟨#[]⟩, .string ⟨#[]⟩, .slice none 0 0, .slice none 0 0, .slice none 0 0, .string ⟨#[]⟩, .int .i64 0, .int .i64 0, .int .i64 0, .int .i64 0, .slice none 0 0] 33)
        have hpdN : PdAt (X2.alloc (.cells #[.string ⟨#[]⟩, .string ⟨#[]⟩, .slice none 0 0, .slice none 0 0, .slice none 0 0, .string ⟨#[]⟩, .int .i64 0, .int .i64 0, .int .i64 0, .int .i64 0, .slice none 0 0] 33)) (fun q => W1.heap.size ≤ q ∧ q ≠ X2.heap.size) P (.slice pa lp pc) (.slice ia li ic) (.slice da ld dc) := (hpd.mono (N' := fun q => W1.heap.size ≤ q ∧ q ≠ X2.heap.size) (fun q hq hN => ⟨hN, by omega⟩)).kept (Kept.ofBelow (below1 X2 _) []) (by simp)
        refine anyH_oneSkip 8 ⟨none, .store 33 (.tmp 9) (.tmp 16), _, _, _, none⟩ (row11 (X2.alloc (.cells #[.string ⟨#[]⟩, .string ⟨#[]⟩, .slice none 0 0, .slice none 0 0, .slice none 0 0, .string ⟨#[]⟩, .int .i64 0, .int .i64 0, .int .i64 0, .int .i64 0, .slice none 0 0] 33)) X2.heap.size P (.slice pa lp pc) (.slice ia li ic) (.slice da ld dc) nilV) (by kernel_rfl) rfl rfl (exec_store33 (d := P) (ka := none) (kn := 0) (kc := 0) rfl rfl hG) (row11_below _ _ _ _ _ _ hbL hgB (Nat.le_trans hbL.size (Nat.le_refl _))) ?_
        simp only [Act.put, List.setIfInBounds_toArray, List.set_cons_zero, List.set_cons_succ]
        refine wpAnyH_done (by kernel_rfl) ?_ _
        have hfin : D11 (row11 (X2.alloc (.cells #[.string ⟨#[]⟩, .string ⟨#[]⟩, .slice none 0 0, .slice none 0 0, .slice none 0 0, .string ⟨#[]⟩, .int .i64 0, .int .i64 0, .int .i64 0, .int .i64 0, .slice none 0 0] 33)) X2.heap.size P (.slice pa lp pc) (.slice ia li ic) (.slice da ld dc) nilV) X2.heap.size P (.slice pa lp pc) (.slice ia li ic) (.slice da ld dc) nilV ∧ PdAt (row11 (X2.alloc (.cells #[.string ⟨#[]⟩, .string ⟨#[]⟩, .slice none 0 0, .slice none 0 0, .slice none 0 0, .string ⟨#[]⟩, .int .i64 0, .int .i64 0, .int .i64 0, .int .i64 0, .slice none 0 0] 33)) X2.heap.size P (.slice pa lp pc) (.slice ia li ic) (.slice da ld dc) nilV) (fun q => W1.heap.size ≤ q ∧ q ≠ X2.heap.size) P (.slice pa lp pc) (.slice ia li ic) (.slice da ld dc) ∧ Below W1.heap.size W1 (row11 (X2.alloc (.cells #[.string ⟨#[]⟩, .string ⟨#[]⟩, .slice none 0 0, .slice none 0 0, .slice none 0 0, .string ⟨#[]⟩, .int .i64 0, .int .i64 0, .int .i64 0, .int .i64 0, .slice none 0 0] 33)) X2.heap.size P (.slice pa lp pc) (.slice ia li ic) (.slice da ld dc) nilV) ∧ W1.heap.size ≤ X2.heap.size := ⟨row11_is hG _ _ _ _ _, hpdN.kept (row11_self _ _ _ _ _ _ _) (fun i hi hN => hN.2 (by simpa using hi)), row11_below _ _ _ _ _ _ hbL hgB (Nat.le_trans hbL.size (Nat.le_refl _)), hgB⟩
        generalize (row11 (X2.alloc (.cells #[.string ⟨#[]⟩, .string ⟨#[]⟩, .slice none 0 0, .slice none 0 0, .slice none 0 0, .string ⟨#[]⟩, .int .i64 0, .int .i64 0, .int .i64 0, .int .i64 0, .slice none 0 0] 33)) X2.heap.size P (.slice pa lp pc) (.slice ia li ic) (.slice da ld dc) nilV) = Wf at hfin ⊢
        clear hG hpdN
        generalize X2.heap.size = gq at hfin ⊢
        exact ⟨rfl, gq, pa, pc, ia, ic, da, dc, rfl, hfin⟩
      · refine wpOp_run (o := ⟨some 9, .alloc 33, _, _, _, none⟩) (v := .pointer (some ⟨W1.drew.heap.size, 0, none⟩)) (w' := W1.drew.alloc (.cells #[.string ⟨#[]⟩, .string ⟨#[]⟩, .slice none 0 0, .slice none 0 0, .slice none 0 0, .string ⟨#[]⟩, .int .i64 0, .int .i64 0, .int .i64 0, .int .i64 0, .slice none 0 0] 33)) rfl rfl (exec_alloc33 _) ⟨hS.alloc hS.size _, ?_⟩
        simp only [Act.put, List.setIfInBounds_toArray, List.set_cons_zero, List.set_cons_succ]
        have hbL := hS.alloc hS.size (.cells #[.string ⟨#[]⟩, .string ⟨#[]⟩, .slice none 0 0, .slice none 0 0, .slice none 0 0, .string ⟨#[]⟩, .int .i64 0, .int .i64 0, .int .i64 0, .int .i64 0, .slice none 0 0] 33)
        have hG0 : D11 (W1.drew.alloc (.cells #[.string ⟨#[]⟩, .string ⟨#[]⟩, .slice none 0 0, .slice none 0 0, .slice none 0 0, .string ⟨#[]⟩, .int .i64 0, .int .i64 0, .int .i64 0, .int .i64 0, .slice none 0 0] 33)) W1.drew.heap.size Pd.zero nilV nilV nilV nilV := d11_new W1.drew Pd.zero nilV nilV nilV nilV
        refine anyH_callW 6 ⟨some 16, .call { callee := .value (.func 38), args := #[.tmp 13, .tmp 14, .tmp 15], argTypes := #[55, 62, 4] }, _, _, _, none⟩ 38 #[msgV m, spV x y, .bool dg] (by kernel_rfl) rfl rfl (by kernel_rfl) ?_
        refine (HPt.out _ (HE1.out.later hbL)).mono ?_
        rintro e X2 ⟨⟨vp, vi, vd, rfl, hpd⟩, hb2⟩
        obtain ⟨_, pa, pc, hv1, _⟩ := id hpd.ps
        obtain ⟨_, ia, ic, hv2, _⟩ := id hpd.id
        obtain ⟨_, da, dc, hv3, _⟩ := id hpd.desc
        rw [HLp.out] at hv1
        rw [HLi.out] at hv2
        rw [HLd.out] at hv3
        subst hv1 hv2 hv3
        have hbX : Below W1.heap.size W1 X2 := hbL.trans (hb2.mono hbL.size)
        refine ⟨_, rfl, hbX, ?_⟩
        simp only [Act.put, List.setIfInBounds_toArray, List.set_cons_zero, List.set_cons_succ]
        have hG := hG0.later hb2
        have hgB : W1.heap.size ≤ W1.drew.heap.size := hS.size
        have hpdN : PdAt X2 (fun q => W1.heap.size ≤ q ∧ q ≠ W1.drew.heap.size) P (.slice pa lp pc) (.slice ia li ic) (.slice da ld dc) := hpd.mono (fun q hq hN => by
          have h9 := hG0.lt
          have h8 := hbL.size
          exact ⟨by omega, by omega⟩)
        refine anyH_oneSkip 8 ⟨none, .store 33 (.tmp 9) (.tmp 16), _, _, _, none⟩ (row11 X2 W1.drew.heap.size P (.slice pa lp pc) (.slice ia li ic) (.slice da ld dc) nilV) (by kernel_rfl) rfl rfl (exec_store33 (d := P) (ka := none) (kn := 0) (kc := 0) rfl rfl hG) (row11_below _ _ _ _ _ _ hbX hgB (Nat.le_trans hbX.size (Nat.le_refl _))) ?_
        simp only [Act.put, List.setIfInBounds_toArray, List.set_cons_zero, List.set_cons_succ]
        refine wpAnyH_done (by kernel_rfl) ?_ _
        have hfin : D11 (row11 X2 W1.drew.heap.size P (.slice pa lp pc) (.slice ia li ic) (.slice da ld dc) nilV) W1.drew.heap.size P (.slice pa lp pc) (.slice ia li ic) (.slice da ld dc) nilV ∧ PdAt (row11 X2 W1.drew.heap.size P (.slice pa lp pc) (.slice ia li ic) (.slice da ld dc) nilV) (fun q => W1.heap.size ≤ q ∧ q ≠ W1.drew.heap.size) P (.slice pa lp pc) (.slice ia li ic) (.slice da ld dc) ∧ Below W1.heap.size W1 (row11 X2 W1.drew.heap.size P (.slice pa lp pc) (.slice ia li ic) (.slice da ld dc) nilV) ∧ W1.heap.size ≤ W1.drew.heap.size := ⟨row11_is hG _ _ _ _ _, hpdN.kept (row11_self _ _ _ _ _ _ _) (fun i hi hN => hN.2 (by simpa using hi)), row11_below _ _ _ _ _ _ hbX hgB (Nat.le_trans hbX.size (Nat.le_refl _)), hgB⟩
        generalize (row11 X2 W1.drew.heap.size P (.slice pa lp pc) (.slice ia li ic) (.slice da ld dc) nilV) = Wf at hfin ⊢
        clear hG hpdN
        generalize W1.drew.heap.size = gq at hfin ⊢
        exact ⟨rfl, gq, pa, pc, ia, ic, da, dc, rfl, hfin⟩
    · rintro g pa pc ia ic da dc W' ⟨hg, hpd, hb', hgB⟩
      have hb1' : b < W1.heap.size := HT1.out.lt
      have hbg : b ≠ g := by omega
      have hte := HT1.out.later hb'
      have t1 := hte.c1
      have tf := hte.fz
      have hkS : Kept [b] W' (W'.setCell ⟨b, 1, none⟩ (.int .i64 ((many : Int) + 1))) := Kept.setCell _ _ _ _ (by simp)
      have HT3 : Hid (TeAt (W'.setCell ⟨b, 1, none⟩ (.int .i64 ((many : Int) + 1))) b m (many + 1)) := by
        have h := hte.set (many + 1)
        rw [show (((many + 1 : Nat)) : Int) = (many : Int) + 1 by omega] at h
        exact h
      have HG3 := hid (hg.kept hkS (by rw [List.mem_singleton]; exact fun e => hbg e.symm))
      have HP3 := hid (hpd.kept hkS (fun i hi hN => by rw [List.mem_singleton] at hi; have := hN.1; omega))
      have HR3 := hid ((HR1.out.later hb').kept hkS (by rw [List.mem_singleton]; exact fun e => HRb.out e.symm))
      have HE3 := hid ((HE1.out.later hb').keptS hkS (by rw [List.mem_singleton]; exact fun e => hb0 e.symm))
      have HK3 : Hid (Kept [b] W1 (W'.setCell ⟨b, 1, none⟩ (.int .i64 ((many : Int) + 1)))) := (Kept.ofBelow hb' [b]).tr hkS
      have HKw : Hid (Kept [b] w (W'.setCell ⟨b, 1, none⟩ (.int .i64 ((many : Int) + 1)))) := (Kept.ofBelow HB1.out [b]).tr HK3.out
      have HgB := hid hgB
      have HgR : Hid (g ≠ R) := by rw [Hid]; have := HRlt.out; omega
      obtain ⟨x0, x1, x2, x3, x4, x5, x6, x7, x8, x9, x10⟩ := hg.cs
      have hbg' : g ≠ b := fun e => hbg e.symm
      clear hte hkS hg hpd hb' hgB
      go_wp2_with (refine wpList_store33 (d := P) (pa := pa) (pn := lp) (pc := pc) (ia := ia) (n1 := li) (c1 := ic) (da := da) (n2 := ld) (c2 := dc) (ka := none) (kn := 0) (kc := 0) rfl rfl HR3.out ?_)
      have q1 := row11_is HR3.out P (.slice pa lp pc) (.slice ia li ic) (.slice da ld dc) nilV
      have q2 := row11_self (W'.setCell ⟨b, 1, none⟩ (.int .i64 ((many : Int) + 1))) R P (.slice pa lp pc) (.slice ia li ic) (.slice da ld dc) nilV
      refine bodyPost_ret (w := row11 (W'.setCell ⟨b, 1, none⟩ (.int .i64 ((many : Int) + 1))) R P (.slice pa lp pc) (.slice ia li ic) (.slice da ld dc) nilV) (results26_run _ rfl q1) rfl ?_
      rw [HEq.out]
      refine ⟨_, _, _, _, rfl, ⟨?_, KsAt.nil _ _ _⟩, HT3.out.kept q2 (by rw [List.mem_singleton]; exact HRb.out), HKw.out.trans q2 (fun i hi hm => ?_)⟩
      · exact (HP3.out.kept q2 (fun i hi hN => by rw [List.mem_singleton] at hi; have := hN.1; have := HRlt.out; omega)).mono (fun q _ hN => by have := hN.1; have := HRlt.out; have := HRB.out; omega)
      · rw [List.mem_singleton] at hm; have := HRB.out; omega
  | succ n ih =>
    intro hn7
    have hIH := ih (by omega)
    intro w b x y dg many ht he hb0 hxy hym hmany
    have hB : Below w.heap.size w ((w.alloc (.cells #[.int .i64 x, .int .i64 y] 62)).alloc (.cells #[.string ⟨#[]⟩, .string ⟨#[]⟩, .slice none 0 0, .slice none 0 0, .slice none 0 0, .string ⟨#[]⟩, .int .i64 0, .int .i64 0, .int .i64 0, .int .i64 0, .slice none 0 0] 33)) := below2 w _ _
    have HT1 := hid (ht.later hB)
    have HE1 := hid (he.later hB)
    have HI1 : Hid (I2 ((w.alloc (.cells #[.int .i64 x, .int .i64 y] 62)).alloc (.cells #[.string ⟨#[]⟩, .string ⟨#[]⟩, .slice none 0 0, .slice none 0 0, .slice none 0 0, .string ⟨#[]⟩, .int .i64 0, .int .i64 0, .int .i64 0, .int .i64 0, .slice none 0 0] 33)) w.heap.size x y) := (i2_new w x y).later (below1 _ _)
    have HR1 : Hid (D11 ((w.alloc (.cells #[.int .i64 x, .int .i64 y] 62)).alloc (.cells #[.string ⟨#[]⟩, .string ⟨#[]⟩, .slice none 0 0, .slice none 0 0, .slice none 0 0, .string ⟨#[]⟩, .int .i64 0, .int .i64 0, .int .i64 0, .int .i64 0, .slice none 0 0] 33)) (w.heap.size + 1) Pd.zero nilV nilV nilV nilV) := by
      have h : D11 ((w.alloc (.cells #[.int .i64 x, .int .i64 y] 62)).alloc (.cells #[.string ⟨#[]⟩, .string ⟨#[]⟩, .slice none 0 0, .slice none 0 0, .slice none 0 0, .string ⟨#[]⟩, .int .i64 0, .int .i64 0, .int .i64 0, .int .i64 0, .slice none 0 0] 33)) (w.alloc (.cells #[.int .i64 x, .int .i64 y] 62)).heap.size Pd.zero nilV nilV nilV nilV := heap_alloc_new _ _
      rw [show (w.alloc (.cells #[.int .i64 x, .int .i64 y] 62)).heap.size = w.heap.size + 1 by simp] at h
      exact h
    have HB1 := hid hB
    have HbW := hid ht.lt
    have HPt := hid (fun W (h : Env W) => part_any m x y dg (w := W) h hxy hym (by omega))
    unfold PartIs at HPt
    have HPs := hid (part_ps m x y dg hym (by omega))
    have HFr := hid (part_fr m x y dg hym hxy)
    have HTo : Hid ((partM m x y dg).to = y) := rfl
    have HRi := hid (texts_rise m x y dg hym hxy)

    have HEq : Hid (tellM m (n + 1) x y dg many = (.mk (partM m x y dg) (kidsF (tellM m n) (isDig (partM m x y dg)) (textsM m (partM m x y dg)) (many + 1)).1, (kidsF (tellM m n) (isDig (partM m x y dg)) (textsM m (partM m x y dg)) (many + 1)).2)) := rfl
    have HTm : Hid (∀ t ∈ textsM m (partM m x y dg), t.1 ≤ t.2 ∧ t.2 ≤ m.length) := fun t ht => ⟨(HRi.out.mem t ht).1, Nat.le_trans (HRi.out.mem t ht).2 hym⟩
    have HTl := hid (texts_len m (partM m x y dg) hym hm)
    have HKi : Hid (∀ (W : World) (vp vi vd : Value), TeAt W b m (many + 1) → Env W → PdAt W (fun _ => True) (partM m x y dg) vp vi vd → Calls Tryz.prog 39 #[.pointer (some ⟨b, 0, none⟩), ptV (partM m x y dg) vp vi vd nilV, .int .i64 ((8 - n : Nat) : Int)] W (KidsIs m n b (partM m x y dg) (many + 1) W)) := fun W vp vi vd h1 h2 h3 => kids_any (by omega) hIH (by omega) h1 h2 hb0 h3 HPs.out.1 HPs.out.2 HFr.out.2 hym HTm.out HTl.out (by omega)
    unfold KidsIs at HKi
    generalize (kidsF (tellM m n) (isDig (partM m x y dg)) (textsM m (partM m x y dg)) (many + 1)) = KF at *
    generalize hP : partM m x y dg = P at *
    clear hP
    have hdp : ((8 - (n + 1) : Nat) : Int) < 8 := by omega
    have hdq : ((8 - (n + 1) : Nat) : Int) + 1 = ((8 - n : Nat) : Int) := by omega
    have hdq2 : ((8 - (n + 1) : Nat) : Int) + 1 ≤ 100 := by omega
    have hdq3 : (0 : Int) ≤ ((8 - (n + 1) : Nat) : Int) := by omega
    generalize ((8 - (n + 1) : Nat) : Int) = dp at *
    obtain ⟨lp, HLp⟩ : ∃ n, Hid ((P.ps.map pR).length = n) := ⟨_, rfl⟩
    obtain ⟨li, HLi⟩ : ∃ n, Hid ((P.id.map sR).length = n) := ⟨_, rfl⟩
    obtain ⟨ld, HLd⟩ : ∃ n, Hid ((P.desc.map sR).length = n) := ⟨_, rfl⟩
    clear ht he hB
    unfold TellIs
    unfold spV at *
    go_enter Tryz.func26, Tryz.ntmps26
    go_wp2_with fail
    generalize ((w.alloc (.cells #[.int .i64 x, .int .i64 y] 62)).alloc (.cells #[.string ⟨#[]⟩, .string ⟨#[]⟩, .slice none 0 0, .slice none 0 0, .slice none 0 0, .string ⟨#[]⟩, .int .i64 0, .int .i64 0, .int .i64 0, .int .i64 0, .slice none 0 0] 33)) = W1 at *
    have HRB : Hid (w.heap.size ≤ w.heap.size + 1) := by rw [Hid]; omega
    have HRlt : Hid (w.heap.size + 1 < W1.heap.size) := HR1.out.lt
    have HRb : Hid (b ≠ w.heap.size + 1) := by rw [Hid]; have := HbW.out; omega
    generalize w.heap.size + 1 = R at *
    apply wp_once7 (fun g pa pc ia ic da dc W' => D11 W' g P (.slice pa lp pc) (.slice ia li ic) (.slice da ld dc) nilV ∧ PdAt W' (fun q => W1.heap.size ≤ q ∧ q ≠ g) P (.slice pa lp pc) (.slice ia li ic) (.slice da ld dc) ∧ Below W1.heap.size W1 W' ∧ W1.heap.size ≤ g)
    apply Exists.intro
    apply And.intro
    · refine wp_region_held_drew (S := fun X => Below W1.heap.size W1 X) (by kernel_rfl) ((Below.refl _ _).drew) ?_
      intro hS
      refine anyH_take 0 ⟨some 10, .move (.tmp 0), _, _, _, none⟩ (.pointer (some ⟨b, 0, none⟩)) rfl rfl (by kernel_rfl) (by kernel_rfl) (by kernel_rfl) (fun _ _ _ h => nomatch h.1) (fun _ _ => rfl) hS ?_
      simp only [Act.put, List.setIfInBounds_toArray, List.set_cons_zero, List.set_cons_succ]
      refine anyH_take 1 ⟨some 11, .nilCheck (.tmp 10), _, _, _, none⟩ (.pointer (some ⟨b, 0, none⟩)) rfl rfl (by kernel_rfl) (by kernel_rfl) (by kernel_rfl) (fun _ _ _ h => nomatch h.1) (fun _ _ => rfl) hS ?_
      simp only [Act.put, List.setIfInBounds_toArray, List.set_cons_zero, List.set_cons_succ]
      refine anyH_take 2 ⟨some 12, .fieldAddr 59 (.tmp 11) 0, _, _, _, none⟩ (.pointer (some ⟨b, 0, none⟩)) rfl rfl (by kernel_rfl) (by kernel_rfl) (by kernel_rfl) (fun _ _ _ h => nomatch h.1) (fun X _ => exec_v (fieldk59 b 0 X (by omega))) hS ?_
      simp only [Act.put, List.setIfInBounds_toArray, List.set_cons_zero, List.set_cons_succ]
      refine anyH_take 3 ⟨some 13, .load 55 (.tmp 12), _, _, _, none⟩ (msgV m) rfl rfl (by kernel_rfl) (by kernel_rfl) (by kernel_rfl) (fun _ _ _ h => nomatch h.1) (fun X hX => exec_v (load55 (HT1.out.later hX).c0)) hS ?_
      simp only [Act.put, List.setIfInBounds_toArray, List.set_cons_zero, List.set_cons_succ]
      refine anyH_take 4 ⟨some 14, .load 62 (.tmp 5), _, _, _, none⟩ (spV x y) rfl rfl (by kernel_rfl) (by kernel_rfl) (by kernel_rfl) (fun _ _ _ h => nomatch h.1) (fun X hX => exec_v (load62 (HI1.out.later hX).c0 (HI1.out.later hX).c1)) hS ?_
      simp only [Act.put, List.setIfInBounds_toArray, List.set_cons_zero, List.set_cons_succ]
      refine anyH_take 5 ⟨some 15, .move (.tmp 3), _, _, _, none⟩ (.bool dg) rfl rfl (by kernel_rfl) (by kernel_rfl) (by kernel_rfl) (fun _ _ _ h => nomatch h.1) (fun _ _ => rfl) hS ?_
      simp only [Act.put, List.setIfInBounds_toArray, List.set_cons_zero, List.set_cons_succ]
      refine anyH_two 6 7 (by kernel_rfl) ?_ ?_
      · refine wpOp_callW (o := ⟨some 16, .call { callee := .value (.func 38), args := #[.tmp 13, .tmp 14, .tmp 15], argTypes := #[55, 62, 4] }, _, _, _, none⟩) (f := 38) (args := #[msgV m, spV x y, .bool dg]) rfl rfl (by kernel_rfl) ?_
        refine (HPt.out W1.drew (HE1.out.later hS)).mono ?_
        rintro e X2 ⟨⟨vp, vi, vd, rfl, hpd⟩, hb2⟩
        obtain ⟨_, pa, pc, hv1, _⟩ := id hpd.ps
        obtain ⟨_, ia, ic, hv2, _⟩ := id hpd.id
        obtain ⟨_, da, dc, hv3, _⟩ := id hpd.desc
        rw [HLp.out] at hv1
        rw [HLi.out] at hv2
        rw [HLd.out] at hv3
        subst hv1 hv2 hv3
        have hbX : Below W1.heap.size W1 X2 := hS.trans hb2
        refine ⟨_, rfl, hbX, ?_⟩
        simp only [Act.put, List.setIfInBounds_toArray, List.set_cons_zero, List.set_cons_succ]
        refine anyH_one 7 ⟨some 9, .alloc 33, _, _, _, none⟩ (.pointer (some ⟨X2.heap.size, 0, none⟩)) (X2.alloc (.cells #[.string ⟨#[]⟩, .string ⟨#[]⟩, .slice none 0 0, .slice none 0 0, .slice none 0 0, .string ⟨#[]⟩, .int .i64 0, .int .i64 0, .int .i64 0, .int .i64 0, .slice none 0 0] 33)) (by kernel_rfl) rfl rfl (exec_alloc33 _) (hbX.alloc hbX.size _) ?_
        simp only [Act.put, List.setIfInBounds_toArray, List.set_cons_zero, List.set_cons_succ]
        have hG : D11 (X2.alloc (.cells #[.string ⟨#[]⟩, .string ⟨#[]⟩, .slice none 0 0, .slice none 0 0, .slice none 0 0, .string ⟨#[]⟩, .int .i64 0, .int .i64 0, .int .i64 0, .int .i64 0, .slice none 0 0] 33)) X2.heap.size Pd.zero nilV nilV nilV nilV := d11_new X2 Pd.zero nilV nilV nilV nilV
        have hgB := hbX.size
        have hbL := hbX.alloc hbX.size (.cells #[.string ⟨#[]⟩, .string ⟨#[]⟩, .slice none 0 0, .slice none 0 0, .slice none 0 0, .string ⟨#[]⟩, .int .i64 0, .int .i64 0, .int .i64 0, .int .i64 0, .slice none 0 0] 33)
        have hpdN : PdAt (X2.alloc (.cells #[.string ⟨#[]⟩, .string ⟨#[]⟩, .slice none 0 0, .slice none 0 0, .slice none 0 0, .string ⟨#[]⟩, .int .i64 0, .int .i64 0, .int .i64 0, .int .i64 0, .slice none 0 0] 33)) (fun q => W1.heap.size ≤ q ∧ q ≠ X2.heap.size) P (.slice pa lp pc) (.slice ia li ic) (.slice da ld dc) := (hpd.mono (N' := fun q => W1.heap.size ≤ q ∧ q ≠ X2.heap.size) (fun q hq hN => ⟨hN, by omega⟩)).kept (Kept.ofBelow (below1 X2 _) []) (by simp)
        refine anyH_oneSkip 8 ⟨none, .store 33 (.tmp 9) (.tmp 16), _, _, _, none⟩ (row11 (X2.alloc (.cells #[.string ⟨#[]⟩, .string ⟨#[]⟩, .slice none 0 0, .slice none 0 0, .slice none 0 0, .string ⟨#[]⟩, .int .i64 0, .int .i64 0, .int .i64 0, .int .i64 0, .slice none 0 0] 33)) X2.heap.size P (.slice pa lp pc) (.slice ia li ic) (.slice da ld dc) nilV) (by kernel_rfl) rfl rfl (exec_store33 (d := P) (ka := none) (kn := 0) (kc := 0) rfl rfl hG) (row11_below _ _ _ _ _ _ hbL hgB (Nat.le_trans hbL.size (Nat.le_refl _))) ?_
        simp only [Act.put, List.setIfInBounds_toArray, List.set_cons_zero, List.set_cons_succ]
        refine wpAnyH_done (by kernel_rfl) ?_ _
        have hfin : D11 (row11 (X2.alloc (.cells #[.string ⟨#[]⟩, .string ⟨#[]⟩, .slice none 0 0, .slice none 0 0, .slice none 0 0, .string ⟨#[]⟩, .int .i64 0, .int .i64 0, .int .i64 0, .int .i64 0, .slice none 0 0] 33)) X2.heap.size P (.slice pa lp pc) (.slice ia li ic) (.slice da ld dc) nilV) X2.heap.size P (.slice pa lp pc) (.slice ia li ic) (.slice da ld dc) nilV ∧ PdAt (row11 (X2.alloc (.cells #[.string ⟨#[]⟩, .string ⟨#[]⟩, .slice none 0 0, .slice none 0 0, .slice none 0 0, .string ⟨#[]⟩, .int .i64 0, .int .i64 0, .int .i64 0, .int .i64 0, .slice none 0 0] 33)) X2.heap.size P (.slice pa lp pc) (.slice ia li ic) (.slice da ld dc) nilV) (fun q => W1.heap.size ≤ q ∧ q ≠ X2.heap.size) P (.slice pa lp pc) (.slice ia li ic) (.slice da ld dc) ∧ Below W1.heap.size W1 (row11 (X2.alloc (.cells #[.string ⟨#[]⟩, .string ⟨#[]⟩, .slice none 0 0, .slice none 0 0, .slice none 0 0, .string ⟨#[]⟩, .int .i64 0, .int .i64 0, .int .i64 0, .int .i64 0, .slice none 0 0] 33)) X2.heap.size P (.slice pa lp pc) (.slice ia li ic) (.slice da ld dc) nilV) ∧ W1.heap.size ≤ X2.heap.size := ⟨row11_is hG _ _ _ _ _, hpdN.kept (row11_self _ _ _ _ _ _ _) (fun i hi hN => hN.2 (by simpa using hi)), row11_below _ _ _ _ _ _ hbL hgB (Nat.le_trans hbL.size (Nat.le_refl _)), hgB⟩
        generalize (row11 (X2.alloc (.cells #[.string ⟨#[]⟩, .string ⟨#[]⟩, .slice none 0 0, .slice none 0 0, .slice none 0 0, .string ⟨#[]⟩, .int .i64 0, .int .i64 0, .int .i64 0, .int .i64 0, .slice none 0 0] 33)) X2.heap.size P (.slice pa lp pc) (.slice ia li ic) (.slice da ld dc) nilV) = Wf at hfin ⊢
        clear hG hpdN
        generalize X2.heap.size = gq at hfin ⊢
        exact ⟨rfl, gq, pa, pc, ia, ic, da, dc, rfl, hfin⟩
      · refine wpOp_run (o := ⟨some 9, .alloc 33, _, _, _, none⟩) (v := .pointer (some ⟨W1.drew.heap.size, 0, none⟩)) (w' := W1.drew.alloc (.cells #[.string ⟨#[]⟩, .string ⟨#[]⟩, .slice none 0 0, .slice none 0 0, .slice none 0 0, .string ⟨#[]⟩, .int .i64 0, .int .i64 0, .int .i64 0, .int .i64 0, .slice none 0 0] 33)) rfl rfl (exec_alloc33 _) ⟨hS.alloc hS.size _, ?_⟩
        simp only [Act.put, List.setIfInBounds_toArray, List.set_cons_zero, List.set_cons_succ]
        have hbL := hS.alloc hS.size (.cells #[.string ⟨#[]⟩, .string ⟨#[]⟩, .slice none 0 0, .slice none 0 0, .slice none 0 0, .string ⟨#[]⟩, .int .i64 0, .int .i64 0, .int .i64 0, .int .i64 0, .slice none 0 0] 33)
        have hG0 : D11 (W1.drew.alloc (.cells #[.string ⟨#[]⟩, .string ⟨#[]⟩, .slice none 0 0, .slice none 0 0, .slice none 0 0, .string ⟨#[]⟩, .int .i64 0, .int .i64 0, .int .i64 0, .int .i64 0, .slice none 0 0] 33)) W1.drew.heap.size Pd.zero nilV nilV nilV nilV := d11_new W1.drew Pd.zero nilV nilV nilV nilV
        refine anyH_callW 6 ⟨some 16, .call { callee := .value (.func 38), args := #[.tmp 13, .tmp 14, .tmp 15], argTypes := #[55, 62, 4] }, _, _, _, none⟩ 38 #[msgV m, spV x y, .bool dg] (by kernel_rfl) rfl rfl (by kernel_rfl) ?_
        refine (HPt.out _ (HE1.out.later hbL)).mono ?_
        rintro e X2 ⟨⟨vp, vi, vd, rfl, hpd⟩, hb2⟩
        obtain ⟨_, pa, pc, hv1, _⟩ := id hpd.ps
        obtain ⟨_, ia, ic, hv2, _⟩ := id hpd.id
        obtain ⟨_, da, dc, hv3, _⟩ := id hpd.desc
        rw [HLp.out] at hv1
        rw [HLi.out] at hv2
        rw [HLd.out] at hv3
        subst hv1 hv2 hv3
        have hbX : Below W1.heap.size W1 X2 := hbL.trans (hb2.mono hbL.size)
        refine ⟨_, rfl, hbX, ?_⟩
        simp only [Act.put, List.setIfInBounds_toArray, List.set_cons_zero, List.set_cons_succ]
        have hG := hG0.later hb2
        have hgB : W1.heap.size ≤ W1.drew.heap.size := hS.size
        have hpdN : PdAt X2 (fun q => W1.heap.size ≤ q ∧ q ≠ W1.drew.heap.size) P (.slice pa lp pc) (.slice ia li ic) (.slice da ld dc) := hpd.mono (fun q hq hN => by
          have h9 := hG0.lt
          have h8 := hbL.size
          exact ⟨by omega, by omega⟩)
        refine anyH_oneSkip 8 ⟨none, .store 33 (.tmp 9) (.tmp 16), _, _, _, none⟩ (row11 X2 W1.drew.heap.size P (.slice pa lp pc) (.slice ia li ic) (.slice da ld dc) nilV) (by kernel_rfl) rfl rfl (exec_store33 (d := P) (ka := none) (kn := 0) (kc := 0) rfl rfl hG) (row11_below _ _ _ _ _ _ hbX hgB (Nat.le_trans hbX.size (Nat.le_refl _))) ?_
        simp only [Act.put, List.setIfInBounds_toArray, List.set_cons_zero, List.set_cons_succ]
        refine wpAnyH_done (by kernel_rfl) ?_ _
        have hfin : D11 (row11 X2 W1.drew.heap.size P (.slice pa lp pc) (.slice ia li ic) (.slice da ld dc) nilV) W1.drew.heap.size P (.slice pa lp pc) (.slice ia li ic) (.slice da ld dc) nilV ∧ PdAt (row11 X2 W1.drew.heap.size P (.slice pa lp pc) (.slice ia li ic) (.slice da ld dc) nilV) (fun q => W1.heap.size ≤ q ∧ q ≠ W1.drew.heap.size) P (.slice pa lp pc) (.slice ia li ic) (.slice da ld dc) ∧ Below W1.heap.size W1 (row11 X2 W1.drew.heap.size P (.slice pa lp pc) (.slice ia li ic) (.slice da ld dc) nilV) ∧ W1.heap.size ≤ W1.drew.heap.size := ⟨row11_is hG _ _ _ _ _, hpdN.kept (row11_self _ _ _ _ _ _ _) (fun i hi hN => hN.2 (by simpa using hi)), row11_below _ _ _ _ _ _ hbX hgB (Nat.le_trans hbX.size (Nat.le_refl _)), hgB⟩
        generalize (row11 X2 W1.drew.heap.size P (.slice pa lp pc) (.slice ia li ic) (.slice da ld dc) nilV) = Wf at hfin ⊢
        clear hG hpdN
        generalize W1.drew.heap.size = gq at hfin ⊢
        exact ⟨rfl, gq, pa, pc, ia, ic, da, dc, rfl, hfin⟩
    · rintro g pa pc ia ic da dc W' ⟨hg, hpd, hb', hgB⟩
      have hb1' : b < W1.heap.size := HT1.out.lt
      have hbg : b ≠ g := by omega
      have hte := HT1.out.later hb'
      have t1 := hte.c1
      have tf := hte.fz
      have hkS : Kept [b] W' (W'.setCell ⟨b, 1, none⟩ (.int .i64 ((many : Int) + 1))) := Kept.setCell _ _ _ _ (by simp)
      have HT3 : Hid (TeAt (W'.setCell ⟨b, 1, none⟩ (.int .i64 ((many : Int) + 1))) b m (many + 1)) := by
        have h := hte.set (many + 1)
        rw [show (((many + 1 : Nat)) : Int) = (many : Int) + 1 by omega] at h
        exact h
      have HG3 := hid (hg.kept hkS (by rw [List.mem_singleton]; exact fun e => hbg e.symm))
      have HP3 := hid (hpd.kept hkS (fun i hi hN => by rw [List.mem_singleton] at hi; have := hN.1; omega))
      have HR3 := hid ((HR1.out.later hb').kept hkS (by rw [List.mem_singleton]; exact fun e => HRb.out e.symm))
      have HE3 := hid ((HE1.out.later hb').keptS hkS (by rw [List.mem_singleton]; exact fun e => hb0 e.symm))
      have HK3 : Hid (Kept [b] W1 (W'.setCell ⟨b, 1, none⟩ (.int .i64 ((many : Int) + 1)))) := (Kept.ofBelow hb' [b]).tr hkS
      have HKw : Hid (Kept [b] w (W'.setCell ⟨b, 1, none⟩ (.int .i64 ((many : Int) + 1)))) := (Kept.ofBelow HB1.out [b]).tr HK3.out
      have HgB := hid hgB
      have HgR : Hid (g ≠ R) := by rw [Hid]; have := HRlt.out; omega
      obtain ⟨x0, x1, x2, x3, x4, x5, x6, x7, x8, x9, x10⟩ := hg.cs
      have hbg' : g ≠ b := fun e => hbg e.symm
      clear hte hkS hg hpd hb' hgB
      have HCk := hid (HKi.out (W'.setCell ⟨b, 1, none⟩ (.int .i64 ((many : Int) + 1))) (.slice pa lp pc) (.slice ia li ic) (.slice da ld dc) HT3.out HE3.out (HP3.out.mono (fun _ _ _ => trivial)))
      unfold ptV ptC at HCk
      go_wp2_with fail
      refine HCk.out.mono ?_
      rintro e w5 ⟨vk, rfl, hks, ht5, hk5⟩
      obtain ⟨ka, kc, hvk, _⟩ := KsAt.slice hks
      subst hvk
      have hg5 := HG3.out.kept hk5 (by rw [List.mem_singleton]; exact hbg')
      have HG5 := hid hg5
      have HP5 := hid (HP3.out.kept hk5 (fun i hi hN => by rw [List.mem_singleton] at hi; have := hN.1; omega))
      have HR5 := hid (HR3.out.kept hk5 (by rw [List.mem_singleton]; exact fun e => HRb.out e.symm))
      have HKw5 := hid (HKw.out.tr hk5)
      have HT5 := hid ht5
      have HS3 : Hid (g < (W'.setCell ⟨b, 1, none⟩ (.int .i64 ((many : Int) + 1))).heap.size) := HG3.out.lt
      have HS4 : Hid (W1.heap.size ≤ (W'.setCell ⟨b, 1, none⟩ (.int .i64 ((many : Int) + 1))).heap.size) := HK3.out.size
      have HKs := hid hks
      clear x0 x1 x2 x3 x4 x5 x6 x7 x8 x9 x10
      obtain ⟨x0, x1, x2, x3, x4, x5, x6, x7, x8, x9, x10⟩ := hg5.cs
      have xf := hg5.fz
      have hkg : Kept [g] w5 (w5.setCell ⟨g, 10, none⟩ (.slice ka KF.1.length kc)) := keptA (Kept.refl _ _) _ _
      have HR6 := hid (HR5.out.kept hkg (by rw [List.mem_singleton]; exact fun e => HgR.out e.symm))
      have HP6 := hid (HP5.out.kept hkg (fun i hi hN => by rw [List.mem_singleton] at hi; exact hN.2 hi))
      have HT6 := hid (HT5.out.kept hkg (by rw [List.mem_singleton]; exact hbg))
      have HK6 := hid (KsAt.kept hkg (fun i hi hN => by rw [List.mem_singleton] at hi; have := HS3.out; have := hN; omega) HKs.out)
      have HKw6 : Hid (Kept [b] w (w5.setCell ⟨g, 10, none⟩ (.slice ka KF.1.length kc))) := HKw5.out.trans hkg (fun i hi hm => by rw [List.mem_singleton] at hm; have := HgB.out; have := HB1.out.size; omega)
      clear hks ht5 hk5 hg5 hkg
      go_wp2_with (refine wpList_store33 (d := P) (pa := pa) (pn := lp) (pc := pc) (ia := ia) (n1 := li) (c1 := ic) (da := da) (n2 := ld) (c2 := dc) (ka := ka) (kn := KF.1.length) (kc := kc) rfl rfl HR6.out ?_)
      have q1 := row11_is HR6.out P (.slice pa lp pc) (.slice ia li ic) (.slice da ld dc) (.slice ka KF.1.length kc)
      have q2 := row11_self (w5.setCell ⟨g, 10, none⟩ (.slice ka KF.1.length kc)) R P (.slice pa lp pc) (.slice ia li ic) (.slice da ld dc) (.slice ka KF.1.length kc)
      refine bodyPost_ret (w := row11 (w5.setCell ⟨g, 10, none⟩ (.slice ka KF.1.length kc)) R P (.slice pa lp pc) (.slice ia li ic) (.slice da ld dc) (.slice ka KF.1.length kc)) (results26_run _ rfl q1) rfl ?_
      rw [HEq.out]
      refine ⟨_, _, _, _, rfl, ⟨?_, ?_⟩, HT6.out.kept q2 (by rw [List.mem_singleton]; exact HRb.out), HKw6.out.trans q2 (fun i hi hm => ?_)⟩
      · exact (HP6.out.kept q2 (fun i hi hN => by rw [List.mem_singleton] at hi; have := hN.1; have := HRlt.out; omega)).mono (fun q _ hN => by have := hN.1; have := HRlt.out; have := HRB.out; omega)
      · exact KsAt.mono (fun q _ hN => by have h1 := HS4.out; have h2 := HRlt.out; have h3 := HRB.out; omega) (KsAt.kept q2 (fun i hi hN => by rw [List.mem_singleton] at hi; have h1 := HS4.out; have h2 := HRlt.out; omega) HK6.out)
      · rw [List.mem_singleton] at hm; have := HRB.out; omega
end Go.Proofs.YtgolcmafbenjbaaGreatDoor
