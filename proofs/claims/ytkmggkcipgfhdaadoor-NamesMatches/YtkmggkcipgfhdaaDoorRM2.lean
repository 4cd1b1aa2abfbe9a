/- What this text holds: what matches a pattern: the document's loops. -/
import Derived.Test.YtkmggkcipgfhdaaDoorRM
namespace Go.Proofs.YtkmggkcipgfhdaaDoor
open Go.RowKit
set_option linter.unusedVariables false
set_option linter.unusedSimpArgs false

/-- How the innermost loop stands: places from J on have been looked at. -/
structure In3 (P A : List UInt8) (n i k J : Nat) (c : UInt8) (G : Nat → Bool) : Prop where
  up : ∀ r < i, ∀ j ≤ n, G (r * (n + 1) + j) = mB (P.take r) (A.take j)
  row : ∀ j < k, G (i * (n + 1) + j) = mB (P.take i) (A.take j)
  rest : ∀ x, i * (n + 1) + k < x → G x = false
  cell : G (i * (n + 1) + k) = true ↔ ∃ j, J ≤ j ∧ j ≤ k ∧ Mt (P.take (i - 1)) (A.take j)
  open_ : c = 37 → ∀ x, J ≤ x → x < k → A.getD x 0 ≠ 47
theorem In3.start {P A : List UInt8} {n i k : Nat} {c : UInt8} {G : Nat → Bool} (h : Rows2 P A n i k G) : In3 P A n i k (k + 1) c G :=
  ⟨h.up, h.row, fun x hx => h.rest x (by omega), by rw [h.rest _ (by omega)]; simp; intro x h1 h2; omega, fun _ x h1 h2 => by omega⟩
theorem In3.yes {P A : List UInt8} {n i k J : Nat} {c : UInt8} {G : Nat → Bool} (h : In3 P A n i k (J + 1) c G) (hJ : J ≤ k) (hm : Mt (P.take (i - 1)) (A.take J)) (ho : c = 37 → J < k → A.getD J 0 ≠ 47) : In3 P A n i k J c (upd G (i * (n + 1) + k) true) := by
  refine ⟨fun r hr j hj => ?_, fun j hj => ?_, fun x hx => ?_, ?_, fun hc x h1 h2 => ?_⟩
  · simp only [upd, if_neg (idx_ne hr hj)]; exact h.up r hr j hj
  · simp only [upd, if_neg (show ¬ i * (n + 1) + j = i * (n + 1) + k by omega)]; exact h.row j hj
  · simp only [upd, if_neg (show ¬ x = i * (n + 1) + k by omega)]; exact h.rest x hx
  · simp only [upd, if_pos, true_iff]; exact ⟨J, Nat.le_refl _, hJ, hm⟩
  · by_cases e : x = J
    · subst e; exact ho hc h2
    · exact h.open_ hc x (by omega) h2
theorem In3.no {P A : List UInt8} {n i k J : Nat} {c : UInt8} {G : Nat → Bool} (h : In3 P A n i k (J + 1) c G) (hm : ¬ Mt (P.take (i - 1)) (A.take J)) (ho : c = 37 → J < k → A.getD J 0 ≠ 47) : In3 P A n i k J c G := by
  refine ⟨h.up, h.row, h.rest, ?_, fun hc x h1 h2 => ?_⟩
  · rw [h.cell]
    constructor
    · rintro ⟨j, h1, h2, h3⟩; exact ⟨j, by omega, h2, h3⟩
    · rintro ⟨j, h1, h2, h3⟩
      by_cases e : j = J
      · subst e; exact absurd h3 hm
      · exact ⟨j, by omega, h2, h3⟩
  · by_cases e : x = J
    · subst e; exact ho hc h2
    · exact h.open_ hc x (by omega) h2
theorem In3.done {P A : List UInt8} {n i k J : Nat} {c : UInt8} {G : Nat → Bool} (h : In3 P A n i k J c G) (hc : c = 42 ∨ c = 37) (hi : P.take i = P.take (i - 1) ++ [c]) (hk : k ≤ A.length)
    (hend : J = 0 ∨ (c = 37 ∧ J - 1 < k ∧ A.getD (J - 1) 0 = 47)) : Rows2 P A n i (k + 1) G := by
  have hv : G (i * (n + 1) + k) = mB (P.take i) (A.take k) := by
    rw [Bool.eq_iff_iff, h.cell, mB_true, hi, star_iff _ _ _ hc _ hk]
    constructor
    · rintro ⟨j, h1, h2, h3⟩
      exact ⟨j, h2, h3, fun e x hx1 hx2 => h.open_ e x (by omega) hx2⟩
    · rintro ⟨j, h1, h2, h3⟩
      refine ⟨j, ?_, h1, h2⟩
      rcases hend with h0 | ⟨e37, e1, e2⟩
      · omega
      · rcases Nat.lt_or_ge j J with hlt | hge
        · exact absurd e2 (h3 e37 (J - 1) (by omega) e1)
        · exact hge
  refine ⟨h.up, fun j hj => ?_, fun x hx => h.rest x (by omega)⟩
  by_cases e : j = k
  · subst e; exact hv
  · exact h.row j (by omega)

set_option maxRecDepth 100000 in
set_option maxHeartbeats 8000000 in
theorem rmatch_any (pat name : ByteArray) (w : World) (h1 : pat.size ≤ 120) (h2 : name.size ≤ 120) :
    Calls Tryd.prog 32 #[.string pat, .string name] w fun e w' => e = .returned (.bool (mB pat.data.toList name.data.toList)) ∧ Below w.heap.size w w' := by
  have hN1 : 1 ≤ (pat.size + 1) * (name.size + 1) := Nat.le_trans (by omega) (Nat.mul_le_mul (Nat.le_add_left 1 _) (Nat.le_add_left 1 _))
  have hN2 : (pat.size + 1) * (name.size + 1) ≤ 14641 := Nat.mul_le_mul (show pat.size + 1 ≤ 121 by omega) (show name.size + 1 ≤ 121 by omega)
  have hNe : ((pat.size : Int) + 1) * ((name.size : Int) + 1) = (((pat.size + 1) * (name.size + 1) : Nat) : Int) := by simp
  have HRow : Hid (∀ i k, i ≤ pat.size → k ≤ name.size → i * (name.size + 1) + k < (pat.size + 1) * (name.size + 1)) := fun i k hi hk => by
    have : (i + 1) * (name.size + 1) ≤ (pat.size + 1) * (name.size + 1) := Nat.mul_le_mul_right _ (by omega)
    rw [Nat.succ_mul] at this
    omega
  have HLast : Hid ((pat.size + 1) * (name.size + 1) - 1 = pat.size * (name.size + 1) + name.size) := by
    rw [Hid, Nat.succ_mul]; omega
  generalize (pat.size + 1) * (name.size + 1) = N at *
  have hmk := made_flags N hN1 (by omega) w
  have HA : Hid (RAt (w.alloc (.cells (rowC (N - 1) fun _ => false) 4)) w.heap.size w.heap.size (N - 1) fun _ => false) := ⟨heap_alloc_new _ _, Nat.le_refl _⟩
  have HB0 : Hid (Below w.heap.size w (w.alloc (.cells (rowC (N - 1) fun _ => false) 4))) := (Below.refl _ _).alloc (Nat.le_refl _) _
  generalize w.alloc (.cells (rowC (N - 1) fun _ => false) 4) = w1 at hmk HA HB0
  obtain ⟨c0, f0⟩ := HA.out.cell (show 0 ≤ N - 1 by omega)
  generalize hBe : w.heap.size = B at *
  clear hBe
  have hN0 : (0 : Int) < N := by omega
  have hN0' : 0 < N := by omega
  go_enter Tryd.func32, Tryd.ntmps32
  go_wp2_with fail
  go_loopw [7] (fun i wr => ∃ (I : Nat) (G : Nat → Bool), 1 ≤ I ∧ I ≤ pat.size + 1 ∧ i = .int .i64 I ∧ RAt wr B B (N - 1) G ∧ Rows2 pat.data.toList name.data.toList name.size I 0 G ∧ Below B w wr) (fun i _ => pat.size + 1 - (intOf i).toNat)
  case atStart =>
    refine ⟨1, _, by omega, by omega, rfl, HA.out.set 0 true, ⟨fun r hr j hj => ?_, fun j hj => by omega, fun x hx => ?_⟩, HB0.out.setCell (Nat.le_refl _) _⟩
    · obtain rfl : r = 0 := by omega
      rw [Nat.zero_mul, Nat.zero_add, List.take_zero]
      by_cases e : j = 0
      · subst e
        simp only [upd, if_pos]
        exact (mB_true.2 (show Mt [] [] from rfl)).symm
      · simp only [upd, if_neg e]
        refine (mB_false.2 ?_).symm
        intro h
        have h3 : name.data.toList.take j = [] := h
        have := congrArg List.length h3
        rw [List.length_take, ← Go.Lib.size_eq, List.length_nil] at this
        omega
    · simp only [upd, if_neg (show ¬ x = 0 by omega)]
  case round =>
    obtain ⟨I, G, hI1, hI2, rfl, hr, hrows, hb⟩ := hrel
    have HR := hid hr
    have HRows := hid hrows
    have HB := hid hb
    clear hr hrows hb c0 f0 hmk
    obtain ⟨i, rfl⟩ : ∃ i, I = i + 1 := ⟨I - 1, by omega⟩
    by_cases hlt : i < pat.size
    · have hle : ((i + 1 : Nat) : Int) ≤ pat.size := by omega
      have hlt' : (i : Int) < pat.size := by omega
      have hsub : ((i + 1 : Nat) : Int) - 1 = i := by omega
      have HT : Hid (pat.data.toList.take (i + 1) = pat.data.toList.take i ++ [pat[i]]) := by
        rw [Hid, List.take_succ_eq_append_getElem (by rw [← Go.Lib.size_eq]; exact hlt)]
        rfl
      have he1 : ((i : Int) + 1) * ((name.size : Int) + 1) = (((i + 1) * (name.size + 1) : Nat) : Int) := by simp
      have he2 : (i : Int) * ((name.size : Int) + 1) = ((i * (name.size + 1) : Nat) : Int) := by simp
      have hiw : (i + 1) * (name.size + 1) = i * (name.size + 1) + (name.size + 1) := Nat.succ_mul _ _
      have HIw := hid hiw
      have hro := HRow.out (i + 1) name.size (by omega) (Nat.le_refl _)
      generalize hiwe : (i + 1) * (name.size + 1) = iw at *
      generalize hpwe : i * (name.size + 1) = pw at *
      have HIWe := hid hiwe
      have HPWe := hid hpwe
      clear hiw hiwe hpwe
      have hls : name.data.toList.length = name.size := (Go.Lib.size_eq name).symm
      have HLs := hid hls
      clear hls
      by_cases hstar : pat[i] = 42 ∨ pat[i] = 37
      · have hne1 : ((pat[i].toNat : Int) != 42) = true → ((pat[i].toNat : Int) != 37) = false := by
          intro h
          rcases hstar with e | e
          · rw [e] at h; exact absurd h (by decide)
          · rw [e]; rfl
        have HNe := hid hne1
        clear hne1
        have HFinal := HRows
        have HRows0 := HRows
        go_wp2_with fail
        go_loopw [9] (fun k wr => ∃ (K : Nat) (G : Nat → Bool), K ≤ name.size + 1 ∧ k = .int .i64 K ∧ RAt wr B B (N - 1) G ∧ Rows2 pat.data.toList name.data.toList name.size (i + 1) K G ∧ Below B w wr) (fun k _ => name.size + 1 - (intOf k).toNat)
        case atStart => exact ⟨0, G, by omega, rfl, HR.out, HRows.out, HB.out⟩
        case round =>
          clear HR HRows HB HFinal HRows0
          obtain ⟨K, G, hK, rfl, hr, hrows, hb⟩ := hrel
          have HR := hid hr
          have HRows := hid hrows
          have HB := hid hb
          clear hr hrows hb
          by_cases hKl : K < name.size + 1
          · have hKl' : (K : Int) < (name.size : Int) + 1 := by omega
            have hKN : iw + K < N := by omega
            have hKN' : (iw : Int) + K < N := by omega
            have hKN0 : (0 : Int) ≤ (iw : Int) + K := by omega
            obtain ⟨ck, fk⟩ := HR.out.cell (show iw + K ≤ N - 1 by omega)
            rcases Bool.eq_false_or_eq_true ((pat[i].toNat : Int) != 42) with n42 | n42
            · have n37 := HNe.out n42
              go_wp2_with fail
              go_loopw [10] (fun j wr => ∃ (J : Nat) (G : Nat → Bool), J ≤ K + 1 ∧ j = .int .i64 ((J : Int) - 1) ∧ RAt wr B B (N - 1) G ∧ In3 pat.data.toList name.data.toList name.size (i + 1) K J pat[i] G ∧ Below B w wr) (fun j _ => (intOf j + 1).toNat)
              case atStart => exact ⟨K + 1, G, Nat.le_refl _, by congr 1; omega, HR.out, In3.start HRows.out, HB.out⟩
              case round =>
                clear HR HRows HB ck fk
                obtain ⟨J, G, hJ, rfl, hr, hin, hb⟩ := hrel
                have HR := hid hr
                have HIn := hid hin
                have HB := hid hb
                clear hr hin hb
                cases J with
                | zero =>
                  have hneg : ¬ (0 : Int) ≤ ((0 : Nat) : Int) - 1 := by omega
                  have hdone := HIn.out.done hstar HT.out (by rw [HLs.out]; omega) (.inl rfl)
                  have HDone := hid hdone
                  clear hdone
                  go_wp2_with fail
                  go_roundw
                  case rel => exact ⟨K + 1, G, by omega, by go_num, HR.out, HDone.out, HB.out⟩
                  case measure => simp [intOf]; omega
                | succ J =>
                  rw [show ((J + 1 : Nat) : Int) - 1 = (J : Int) by omega]
                  have hJ0 : (0 : Int) ≤ J := by omega
                  have hJK : J ≤ K := by omega
                  have hpN : pw + J < N := by have := HIw.out; omega
                  have hpN' : (pw : Int) + J < N := by omega
                  have hup := HIn.out.up i (by omega) J (by omega)
                  rw [HPWe.out] at hup
                  obtain ⟨cp, _⟩ := HR.out.cell (show pw + J ≤ N - 1 by omega)
                  obtain ⟨ck, fk⟩ := HR.out.cell (show iw + K ≤ N - 1 by omega)
                  rw [hup] at cp
                  clear hup
                  by_cases hjk : J < K
                  · have hjk' : (J : Int) < K := by omega
                    rcases hstar with h42 | h37
                    · have q37 : ((pat[i].toNat : Int) == 37) = false := by rw [h42]; rfl
                      have HOpen : Hid (pat[i] = 37 → J < K → name.data.toList.getD J 0 ≠ 47) := fun e => by rw [h42] at e; exact absurd e (by decide)
                      clear h42
                      rcases Bool.eq_false_or_eq_true (mB (pat.data.toList.take i) (name.data.toList.take J)) with hm | hm
                      · rw [hm] at cp
                        have HM := hid (mB_true.1 hm)
                        clear hm
                        go_wp2_with fail
                        go_roundw
                        case rel => exact ⟨J, _, by omega, by congr 1, HR.out.set (iw + K) true, by have := HIn.out.yes hJK HM.out HOpen.out; rw [HIWe.out] at this; exact this, HB.out.setCell (Nat.le_refl _) _⟩
                        case measure => simp [intOf]
                      · rw [hm] at cp
                        have HM := hid (mB_false.1 hm)
                        clear hm
                        go_wp2_with fail
                        go_roundw
                        case rel => exact ⟨J, G, by omega, by congr 1, HR.out, HIn.out.no HM.out HOpen.out, HB.out⟩
                        case measure => simp [intOf]
                    · have q37 : ((pat[i].toNat : Int) == 37) = true := by rw [h37]; rfl
                      have hJn : J < name.size := by omega
                      have hJn' : (J : Int) < name.size := by omega
                      have HG : Hid (name.data.toList.getD J 0 = name[J]) := by
                        unfold Hid
                        rw [List.getD_eq_getElem?_getD, List.getElem?_eq_getElem (by rw [HLs.out]; exact hJn)]
                        rfl
                      rcases Bool.eq_false_or_eq_true ((name[J].toNat : Int) == 47) with q47 | q47
                      · have h47 : name.data.toList.getD J 0 = 47 := by
                          rw [HG.out]
                          rw [beq_iff_eq] at q47
                          exact UInt8.toNat_inj.1 (by show name[J].toNat = 47; omega)
                        have hdone := HIn.out.done (.inr h37) HT.out (by rw [HLs.out]; omega) (.inr ⟨h37, by omega, h47⟩)
                        have HDone := hid hdone
                        clear hdone h47 h37
                        go_wp2_with fail
                        go_roundw
                        case rel => exact ⟨K + 1, G, by omega, by go_num, HR.out, HDone.out, HB.out⟩
                        case measure => simp [intOf]; omega
                      · have HOpen : Hid (pat[i] = 37 → J < K → name.data.toList.getD J 0 ≠ 47) := fun _ _ e => by
                          rw [HG.out] at e
                          rw [e] at q47
                          exact absurd q47 (by decide)
                        clear h37
                        rcases Bool.eq_false_or_eq_true (mB (pat.data.toList.take i) (name.data.toList.take J)) with hm | hm
                        · rw [hm] at cp
                          have HM := hid (mB_true.1 hm)
                          clear hm
                          go_wp2_with fail
                          go_roundw
                          case rel => exact ⟨J, _, by omega, by congr 1, HR.out.set (iw + K) true, by have := HIn.out.yes hJK HM.out HOpen.out; rw [HIWe.out] at this; exact this, HB.out.setCell (Nat.le_refl _) _⟩
                          case measure => simp [intOf]
                        · rw [hm] at cp
                          have HM := hid (mB_false.1 hm)
                          clear hm
                          go_wp2_with fail
                          go_roundw
                          case rel => exact ⟨J, G, by omega, by congr 1, HR.out, HIn.out.no HM.out HOpen.out, HB.out⟩
                          case measure => simp [intOf]
                  · have hjk' : ¬ (J : Int) < K := by omega
                    have HOpen : Hid (pat[i] = 37 → J < K → name.data.toList.getD J 0 ≠ 47) := fun _ h => absurd h hjk
                    rcases Bool.eq_false_or_eq_true (mB (pat.data.toList.take i) (name.data.toList.take J)) with hm | hm
                    · rw [hm] at cp
                      have HM := hid (mB_true.1 hm)
                      clear hm
                      go_wp2_with fail
                      go_roundw
                      case rel => exact ⟨J, _, by omega, by congr 1, HR.out.set (iw + K) true, by have := HIn.out.yes hJK HM.out HOpen.out; rw [HIWe.out] at this; exact this, HB.out.setCell (Nat.le_refl _) _⟩
                      case measure => simp [intOf]
                    · rw [hm] at cp
                      have HM := hid (mB_false.1 hm)
                      clear hm
                      go_wp2_with fail
                      go_roundw
                      case rel => exact ⟨J, G, by omega, by congr 1, HR.out, HIn.out.no HM.out HOpen.out, HB.out⟩
                      case measure => simp [intOf]
            · go_wp2_with fail
              go_loopw [10] (fun j wr => ∃ (J : Nat) (G : Nat → Bool), J ≤ K + 1 ∧ j = .int .i64 ((J : Int) - 1) ∧ RAt wr B B (N - 1) G ∧ In3 pat.data.toList name.data.toList name.size (i + 1) K J pat[i] G ∧ Below B w wr) (fun j _ => (intOf j + 1).toNat)
              case atStart => exact ⟨K + 1, G, Nat.le_refl _, by congr 1; omega, HR.out, In3.start HRows.out, HB.out⟩
              case round =>
                clear HR HRows HB ck fk
                obtain ⟨J, G, hJ, rfl, hr, hin, hb⟩ := hrel
                have HR := hid hr
                have HIn := hid hin
                have HB := hid hb
                clear hr hin hb
                cases J with
                | zero =>
                  have hneg : ¬ (0 : Int) ≤ ((0 : Nat) : Int) - 1 := by omega
                  have hdone := HIn.out.done hstar HT.out (by rw [HLs.out]; omega) (.inl rfl)
                  have HDone := hid hdone
                  clear hdone
                  go_wp2_with fail
                  go_roundw
                  case rel => exact ⟨K + 1, G, by omega, by go_num, HR.out, HDone.out, HB.out⟩
                  case measure => simp [intOf]; omega
                | succ J =>
                  rw [show ((J + 1 : Nat) : Int) - 1 = (J : Int) by omega]
                  have hJ0 : (0 : Int) ≤ J := by omega
                  have hJK : J ≤ K := by omega
                  have hpN : pw + J < N := by have := HIw.out; omega
                  have hpN' : (pw : Int) + J < N := by omega
                  have hup := HIn.out.up i (by omega) J (by omega)
                  rw [HPWe.out] at hup
                  obtain ⟨cp, _⟩ := HR.out.cell (show pw + J ≤ N - 1 by omega)
                  obtain ⟨ck, fk⟩ := HR.out.cell (show iw + K ≤ N - 1 by omega)
                  rw [hup] at cp
                  clear hup
                  by_cases hjk : J < K
                  · have hjk' : (J : Int) < K := by omega
                    rcases hstar with h42 | h37
                    · have q37 : ((pat[i].toNat : Int) == 37) = false := by rw [h42]; rfl
                      have HOpen : Hid (pat[i] = 37 → J < K → name.data.toList.getD J 0 ≠ 47) := fun e => by rw [h42] at e; exact absurd e (by decide)
                      clear h42
                      rcases Bool.eq_false_or_eq_true (mB (pat.data.toList.take i) (name.data.toList.take J)) with hm | hm
                      · rw [hm] at cp
                        have HM := hid (mB_true.1 hm)
                        clear hm
                        go_wp2_with fail
                        go_roundw
                        case rel => exact ⟨J, _, by omega, by congr 1, HR.out.set (iw + K) true, by have := HIn.out.yes hJK HM.out HOpen.out; rw [HIWe.out] at this; exact this, HB.out.setCell (Nat.le_refl _) _⟩
                        case measure => simp [intOf]
                      · rw [hm] at cp
                        have HM := hid (mB_false.1 hm)
                        clear hm
                        go_wp2_with fail
                        go_roundw
                        case rel => exact ⟨J, G, by omega, by congr 1, HR.out, HIn.out.no HM.out HOpen.out, HB.out⟩
                        case measure => simp [intOf]
                    · have q37 : ((pat[i].toNat : Int) == 37) = true := by rw [h37]; rfl
                      have hJn : J < name.size := by omega
                      have hJn' : (J : Int) < name.size := by omega
                      have HG : Hid (name.data.toList.getD J 0 = name[J]) := by
                        unfold Hid
                        rw [List.getD_eq_getElem?_getD, List.getElem?_eq_getElem (by rw [HLs.out]; exact hJn)]
                        rfl
                      rcases Bool.eq_false_or_eq_true ((name[J].toNat : Int) == 47) with q47 | q47
                      · have h47 : name.data.toList.getD J 0 = 47 := by
                          rw [HG.out]
                          rw [beq_iff_eq] at q47
                          exact UInt8.toNat_inj.1 (by show name[J].toNat = 47; omega)
                        have hdone := HIn.out.done (.inr h37) HT.out (by rw [HLs.out]; omega) (.inr ⟨h37, by omega, h47⟩)
                        have HDone := hid hdone
                        clear hdone h47 h37
                        go_wp2_with fail
                        go_roundw
                        case rel => exact ⟨K + 1, G, by omega, by go_num, HR.out, HDone.out, HB.out⟩
                        case measure => simp [intOf]; omega
                      · have HOpen : Hid (pat[i] = 37 → J < K → name.data.toList.getD J 0 ≠ 47) := fun _ _ e => by
                          rw [HG.out] at e
                          rw [e] at q47
                          exact absurd q47 (by decide)
                        clear h37
                        rcases Bool.eq_false_or_eq_true (mB (pat.data.toList.take i) (name.data.toList.take J)) with hm | hm
                        · rw [hm] at cp
                          have HM := hid (mB_true.1 hm)
                          clear hm
                          go_wp2_with fail
                          go_roundw
                          case rel => exact ⟨J, _, by omega, by congr 1, HR.out.set (iw + K) true, by have := HIn.out.yes hJK HM.out HOpen.out; rw [HIWe.out] at this; exact this, HB.out.setCell (Nat.le_refl _) _⟩
                          case measure => simp [intOf]
                        · rw [hm] at cp
                          have HM := hid (mB_false.1 hm)
                          clear hm
                          go_wp2_with fail
                          go_roundw
                          case rel => exact ⟨J, G, by omega, by congr 1, HR.out, HIn.out.no HM.out HOpen.out, HB.out⟩
                          case measure => simp [intOf]
                  · have hjk' : ¬ (J : Int) < K := by omega
                    have HOpen : Hid (pat[i] = 37 → J < K → name.data.toList.getD J 0 ≠ 47) := fun _ h => absurd h hjk
                    rcases Bool.eq_false_or_eq_true (mB (pat.data.toList.take i) (name.data.toList.take J)) with hm | hm
                    · rw [hm] at cp
                      have HM := hid (mB_true.1 hm)
                      clear hm
                      go_wp2_with fail
                      go_roundw
                      case rel => exact ⟨J, _, by omega, by congr 1, HR.out.set (iw + K) true, by have := HIn.out.yes hJK HM.out HOpen.out; rw [HIWe.out] at this; exact this, HB.out.setCell (Nat.le_refl _) _⟩
                      case measure => simp [intOf]
                    · rw [hm] at cp
                      have HM := hid (mB_false.1 hm)
                      clear hm
                      go_wp2_with fail
                      go_roundw
                      case rel => exact ⟨J, G, by omega, by congr 1, HR.out, HIn.out.no HM.out HOpen.out, HB.out⟩
                      case measure => simp [intOf]
          · have e : K = name.size + 1 := by omega
            go_wp2_with fail
            go_roundw
            case rel => exact ⟨i + 1 + 1, G, by omega, by omega, by go_num, HR.out, HRows.out.next e, HB.out⟩
            case measure => simp [intOf]; omega
      · have n42 : ((pat[i].toNat : Int) != 42) = true := by
          rw [bne_iff_ne]
          exact fun e => hstar (.inl (UInt8.toNat_inj.1 (by show pat[i].toNat = 42; omega)))
        have n37 : ((pat[i].toNat : Int) != 37) = true := by
          rw [bne_iff_ne]
          exact fun e => hstar (.inr (UInt8.toNat_inj.1 (by show pat[i].toNat = 37; omega)))
        have HFinal := HRows
        have HRows0 := HRows
        go_wp2_with fail
        go_loopw [9] (fun k wr => ∃ (K : Nat) (G : Nat → Bool), K ≤ name.size + 1 ∧ k = .int .i64 K ∧ RAt wr B B (N - 1) G ∧ Rows2 pat.data.toList name.data.toList name.size (i + 1) K G ∧ Below B w wr) (fun k _ => name.size + 1 - (intOf k).toNat)
        case atStart => exact ⟨0, G, by omega, rfl, HR.out, HRows.out, HB.out⟩
        case round =>
          clear HR HRows HB HFinal HRows0
          obtain ⟨K, G, hK, rfl, hr, hrows, hb⟩ := hrel
          have HR := hid hr
          have HRows := hid hrows
          have HB := hid hb
          clear hr hrows hb
          by_cases hKl : K < name.size + 1
          · have hKl' : (K : Int) < (name.size : Int) + 1 := by omega
            have hKN : iw + K < N := by omega
            have hKN' : (iw : Int) + K < N := by omega
            have hKN0 : (0 : Int) ≤ (iw : Int) + K := by omega
            obtain ⟨ck, fk⟩ := HR.out.cell (show iw + K ≤ N - 1 by omega)
            by_cases hK0 : K = 0
            · subst hK0
              have hv : false = mB (pat.data.toList.take (i + 1)) (name.data.toList.take 0) := by
                rw [HT.out, List.take_zero]
                exact (mB_false.2 (Mt.byte0 _ _ hstar)).symm
              have HV := hid hv
              clear hv
              rw [Nat.add_zero] at ck fk
              have hiN : iw < N := by omega
              have hiN' : (iw : Int) < N := by omega
              clear hKN hKN' hKN0
              go_wp2_with fail
              go_roundw
              case rel => exact ⟨0 + 1, _, by omega, by go_num, HR.out.set (iw + 0) false, by have := HRows.out.set HV.out; rw [HIWe.out] at this; exact this, HB.out.setCell (Nat.le_refl _) _⟩
              case measure => simp [intOf]
            · obtain ⟨m, rfl⟩ : ∃ m, K = m + 1 := ⟨K - 1, by omega⟩
              have hm0 : (0 : Int) < (m : Int) + 1 := by omega
              have hmN' : (iw : Int) + ((m : Int) + 1) < N := by omega
              have hml : m < name.size := by omega
              have hml' : (m : Int) < name.size := by omega
              have HTn := hid (take_next name.data.toList m (by rw [HLs.out]; exact hml))
              have HG : Hid (name.data.toList.getD m 0 = name[m]) := by
                unfold Hid
                rw [List.getD_eq_getElem?_getD, List.getElem?_eq_getElem (by rw [HLs.out]; exact hml)]
                rfl
              have HMt : Hid (mB (pat.data.toList.take (i + 1)) (name.data.toList.take (m + 1)) = (mB (pat.data.toList.take i) (name.data.toList.take m) && (name[m] == pat[i]))) := by
                rw [Hid, HT.out, HTn.out, HG.out, Bool.eq_iff_iff, mB_true, Mt.byte1 _ _ _ _ hstar]
                simp [mB_true]
              have HEq : Hid (((name[m].toNat : Int) == (pat[i].toNat : Int)) = (name[m] == pat[i])) := by
                rw [Hid, Bool.eq_iff_iff, beq_iff_eq, beq_iff_eq]
                constructor
                · intro e; exact UInt8.toNat_inj.1 (by omega)
                · intro e; rw [e]
              rcases Bool.eq_false_or_eq_true ((name[m].toNat : Int) == (pat[i].toNat : Int)) with hq | hq
              · have HV : Hid (mB (pat.data.toList.take i) (name.data.toList.take m) = mB (pat.data.toList.take (i + 1)) (name.data.toList.take (m + 1))) := by
                  rw [Hid, HMt.out, ← HEq.out, hq, Bool.and_true]
                have hpN : pw + m < N := by have := HIw.out; omega
                have hpN' : (pw : Int) + m < N := by omega
                have hpe : (pw : Int) + ((m : Int) + 1) - 1 = (pw : Int) + m := by omega
                have hup := HRows.out.up i (by omega) m (by omega)
                rw [HPWe.out] at hup
                obtain ⟨cp, _⟩ := HR.out.cell (show pw + m ≤ N - 1 by omega)
                rw [hup] at cp
                clear hup
                go_wp2_with fail
                go_roundw
                case rel => exact ⟨m + 1 + 1, _, by omega, by go_num, HR.out.set (iw + (m + 1)) _, by have := HRows.out.set HV.out; rw [HIWe.out] at this; exact this, HB.out.setCell (Nat.le_refl _) _⟩
                case measure => simp [intOf]; omega
              · have HV : Hid (false = mB (pat.data.toList.take (i + 1)) (name.data.toList.take (m + 1))) := by
                  rw [Hid, HMt.out, ← HEq.out, hq, Bool.and_false]
                go_wp2_with fail
                go_roundw
                case rel => exact ⟨m + 1 + 1, _, by omega, by go_num, HR.out.set (iw + (m + 1)) false, by have := HRows.out.set HV.out; rw [HIWe.out] at this; exact this, HB.out.setCell (Nat.le_refl _) _⟩
                case measure => simp [intOf]; omega
          · have e : K = name.size + 1 := by omega
            go_wp2_with fail
            go_roundw
            case rel => exact ⟨i + 1 + 1, G, by omega, by omega, by go_num, HR.out, HRows.out.next e, HB.out⟩
            case measure => simp [intOf]; omega
    · have e : i = pat.size := by omega
      subst e
      have hcl := (HR.out.cell (Nat.le_refl (N - 1))).1
      rw [HLast.out, HRows.out.up pat.size (by omega) name.size (Nat.le_refl _), List.take_of_length_le (by rw [← Go.Lib.size_eq]; exact Nat.le_refl _), List.take_of_length_le (by rw [← Go.Lib.size_eq]; exact Nat.le_refl _), ← HLast.out] at hcl
      have hn1 : (N : Int) - 1 = ((N - 1 : Nat) : Int) := by omega
      have hn2 : ((N - 1 : Nat) : Int) < N := by omega
      go_wp2_with fail
      go_ret
      exact ⟨rfl, HB.out⟩
end Go.Proofs.YtkmggkcipgfhdaaDoor
