/- What this text holds: a code and a line put to bytes under way. -/
import Derived.Test.YtpjcpdnolcehcaaGreatDoorM21
namespace Go.Proofs.YtpjcpdnolcehcaaGreatDoor
open Go.RowKit
set_option linter.unusedVariables false
set_option linter.unusedSimpArgs false

theorem uval_zero : UVal 0 := by
  intro w B b l d r v hE hB11 h hr hrt hnum hsz hl
  have := sz_kids v
  omega
theorem uval_all : ∀ n, UVal n
  | 0 => uval_zero
  | n + 1 => uval_any (uvals_any (uval_all n))
theorem uvals_all (n : Nat) : UVals n := uvals_any (uval_all n)
set_option maxRecDepth 100000 in
set_option maxHeartbeats 4000000 in
theorem ucode_any (w : World) (B b : Nat) (l : Bs) (d : Nat) (u : Value) (ks : List Vl) (hE : Env w) (hB11 : 11 ≤ B) (h : UAt w B b l) (hks : VsAt w (· < B) u ks) (hr : rightsB d ks = true) (hn : NumL ks) (hl : l.length + (codeP ks).length ≤ 1000000000) :
    Calls Tryz.prog 56 #[.pointer (some ⟨b, 0, none⟩), u] w (Put B b l (codeP ks) w) := by
  obtain ⟨a, c, rfl, hc⟩ := hks.slice
  by_cases h0 : ks = []
  · have HT : Hid (codeP ks = []) := by rw [Hid, h0]; rfl
    have H := hid h
    have hk0 : ks.length = 0 := by rw [h0]; rfl
    rw [hk0]
    clear h hks h0 hl hk0
    go_enter Tryz.func56, Tryz.ntmps56
    go_wp2_with fail
    go_end0
    rw [HT.out]
    refine ⟨rfl, ?_, Below.refl _ _, TK.refl _⟩
    simpa using H.out
  · have HT : Hid (codeP ks = [91] ++ toldL ks ++ [93, 32]) := by rw [Hid, codeP, if_neg h0]
    have hk0 : ¬ ((ks.length : Nat) : Int) = 0 := by
      intro e
      exact h0 (List.eq_nil_of_length_eq_zero (by omega))
    have hk1 : (((ks.length : Nat) : Int) == 0) = false := by rw [beq_eq_false_iff_ne]; exact hk0
    rw [HT.out] at hl
    have HL := hid hl
    have H := hid h
    have HE := hid hE
    have HK := hid hks
    have D := put_new h [[91]] w.heap.size 1 rfl rfl (by simp) (by have := HL.out; simp at this ⊢; omega) #[.string ⟨#[91]⟩] rfl
    clear h hE hks hl h0
    go_enter Tryz.func56, Tryz.ntmps56
    go_wp2_with fail
    refine D.mono ?_
    rintro e w2 ⟨rfl, k1, k2, k3⟩
    have K2 := hid k2
    have K3 := hid k3
    have hlk : ks.length ≤ 1000000000 := by have := toldL_len ks; have := HL.out; simp at this; omega
    have D := uvals_all (szL ks) w2 B b _ d (.slice a ks.length c) ks (HE.out.keep k2 hB11) hB11 k1 (HK.out.low k2) hr hn (Nat.le_refl _) (by have := HL.out; simp at this ⊢; omega) hlk
    clear k1 k2 k3 hlk
    go_wp2_with fail
    refine D.mono ?_
    rintro e w3 ⟨rfl, k1, k2, k3⟩
    have K4 := hid (K2.out.trans k2)
    have K5 := hid (K3.out.trans k3)
    have D := put_new k1 [[93], [32]] w3.heap.size 2 rfl rfl (by simp) (by have := HL.out; simp at this ⊢; omega) #[.string ⟨#[93]⟩, .string ⟨#[32]⟩] rfl
    clear k1 k2 k3
    go_wp2_with fail
    refine D.mono ?_
    rintro e w4 ⟨rfl, k1, k2, k3⟩
    have U4 : Hid (UAt w4 B b (l ++ codeP ks)) := by rw [Hid, HT.out]; simpa [List.append_assoc] using k1
    have K6 := hid (K4.out.trans k2)
    have K7 := hid (K5.out.trans k3)
    clear k1 k2 k3 D
    go_wp2_with fail
    go_end0
    exact ⟨rfl, U4.out, K6.out, K7.out⟩
/-- Numbers and lengths of a line. -/
def NumN (l : Ln) : Prop := NumL l.vals ∧ NumL l.code ∧ l.tag.length ≤ 1000000000 ∧ l.st.length ≤ 1000000000 ∧ l.x.length ≤ 1000000000 ∧ l.vals.length ≤ 1000000000 ∧ l.code.length ≤ 1000000000
theorem LnAt.low {w w' : World} {B : Nat} {r : Lw} {v : Ln} (h : LnAt w (· < B) r v) (hb : Below B w w') : LnAt w' (· < B) r v := ⟨h.t, h.s, h.x, h.v.low hb, h.c.low hb⟩
theorem L5.tk {w w' : World} {A : Nat} {r : Lw} (h : L5 w A r) (k : TK w w') : L5 w' A r := k.at_ _ _ _ _ h (.inl (by decide)) (by decide)
theorem line_kind {l : Ln} (h : lineB l = true) : (l.tag = [43]) ∨ (l.tag ≠ [43] ∧ l.st ≠ [] ∧ rightsB 0 l.code = true) ∨ (l.tag ≠ [43] ∧ l.st = [] ∧ rightsB 0 l.vals = true) := by
  unfold lineB at h
  rw [Bool.and_eq_true] at h
  have h2 := h.2
  split at h2
  · rename_i e; exact .inl e
  · rename_i e
    split at h2
    · rename_i e2
      simp only [Bool.and_eq_true] at h2
      exact .inr (.inl ⟨e, e2, h2.2⟩)
    · rename_i e2
      simp only [Bool.and_eq_true] at h2
      refine .inr (.inr ⟨e, by simpa using e2, ?_⟩)
      have h3 := h2.2
      unfold someB at h3
      split at h3
      · cases h3
      · simp only [Bool.and_eq_true] at h3
        exact h3.2
set_option maxRecDepth 100000 in
set_option maxHeartbeats 8000000 in
theorem uline_any (w : World) (B b : Nat) (l : Bs) (r : Lw) (n : Ln) (hE : Env w) (hB11 : 11 ≤ B) (h : UAt w B b l) (hr : LnAt w (· < B) r n) (hrt : lineB n = true) (hn : NumN n) (hl : l.length + (lineT n).length ≤ 1000000000) :
    Calls Tryz.prog 38 #[.pointer (some ⟨b, 0, none⟩), lV r] w (Put B b l (lineT n) w) := by
  obtain ⟨nv, nc, nt, ns, nx, _, _⟩ := hn
  obtain ⟨et, es, ex, hv, hc⟩ := hr
  obtain ⟨rt, ⟨va, vb, vc⟩, rs, ⟨ca, cb, cc⟩, rx⟩ := r
  simp only at et es ex
  subst et es ex
  have HA : Hid (Below w.heap.size w (w.alloc (.cells #[.string (str n.tag), .slice va vb vc, .string (str n.st), .slice ca cb cc, .string (str n.x)] 28))) := (Below.refl _ _).alloc (Nat.le_refl _) _
  have hv5 : Hid (L5 (w.alloc (.cells #[.string (str n.tag), .slice va vb vc, .string (str n.st), .slice ca cb cc, .string (str n.x)] 28)) w.heap.size ⟨n.tag, (va, vb, vc), n.st, (ca, cb, cc), n.x⟩) := L5.new w ⟨n.tag, (va, vb, vc), n.st, (ca, cb, cc), n.x⟩
  have HBA := hid (HA.out.mono h.B)
  have HTA := hid (TK.later HA.out)
  have HU := hid (h.later HA.out)
  have HE := hid hE
  have HV := hid (hv.low HBA.out)
  have HC := hid (hc.low HBA.out)
  have HNv := hid nv
  have HNc := hid nc
  have HL := hid hl
  have hf0 := fun A => fldL A 0 (by omega)
  have hf1 := fun A => fldL A 1 (by omega)
  have hf2 := fun A => fldL A 2 (by omega)
  have hf3 := fun A => fldL A 3 (by omega)
  have hf4 := fun A => fldL A 4 (by omega)
  have hkind := line_kind hrt
  clear h hE hl nv nc hrt hv hc
  rw [lV_mk]
  obtain ⟨x0, x1, x2, x3, x4⟩ := hv5.out.cs
  simp only [Sl.v] at x1 x3
  rcases hkind with hk | ⟨hk, h1, h2⟩ | ⟨hk, h1, h2⟩
  · have HT : Hid (lineT n = n.tag ++ [32] ++ n.x ++ [13, 10]) := by unfold Hid lineT; rw [if_pos hk]
    have g1 : (str n.tag).toList = ([43] : Bs) := by rw [toL]; exact hk
    have D := put_new HU.out [n.tag, [32]] (w.heap.size + 1) 2 (by simp) rfl (by simp) (by have := HL.out; rw [HT.out] at this; simp at this ⊢; omega) #[.string (str n.tag), .string ⟨#[32]⟩] rfl
    clear hk
    go_enter Tryz.func38, Tryz.ntmps38
    go_wp2_with fail
    refine D.mono ?_
    rintro e w2 ⟨rfl, k1, k2, k3⟩
    have K2 := hid (HBA.out.trans k2)
    have K3 := hid (HTA.out.trans k3)
    have hy := hid (hv5.out.tk k3)
    have HV2 := hid (HV.out.low k2)
    have HC2 := hid (HC.out.low k2)
    clear x0 x1 x2 x3 x4
    obtain ⟨x0, x1, x2, x3, x4⟩ := hy.out.cs
    simp only [Sl.v] at x1 x3
    have D := put_new k1 [n.x] w2.heap.size 1 rfl rfl (by simp) (by have := HL.out; rw [HT.out] at this; simp at this ⊢; omega) #[.string (str n.x)] rfl
    clear k1 k2 k3
    go_wp2_with fail
    refine D.mono ?_
    rintro e w3 ⟨rfl, k1, k2, k3⟩
    have K2 := hid (K2.out.trans k2)
    have K3 := hid (K3.out.trans k3)
    have hy := hid (hy.out.tk k3)
    clear x0 x1 x2 x3 x4
    obtain ⟨x0, x1, x2, x3, x4⟩ := hy.out.cs
    simp only [Sl.v] at x1 x3
    have D := put_new k1 [[13, 10]] w3.heap.size 1 rfl rfl (by simp) (by have := HL.out; rw [HT.out] at this; simp at this ⊢; omega) #[.string ⟨#[13, 10]⟩] rfl
    clear k1 k2 k3
    go_wp2_with fail
    refine D.mono ?_
    rintro e w4 ⟨rfl, k1, k2, k3⟩
    have K2 := hid (K2.out.trans k2)
    have K3 := hid (K3.out.trans k3)
    have hy := hid (hy.out.tk k3)
    clear x0 x1 x2 x3 x4
    obtain ⟨x0, x1, x2, x3, x4⟩ := hy.out.cs
    simp only [Sl.v] at x1 x3
    have U : Hid (UAt w4 B b (l ++ lineT n)) := by rw [Hid, HT.out]; simpa [List.append_assoc] using k1
    clear k1 k2 k3 D
    go_wp2_with fail
    go_end0
    exact ⟨rfl, U.out, K2.out, K3.out⟩
  · have HT : Hid (lineT n = n.tag ++ [32] ++ (n.st ++ [32] ++ codeP n.code ++ n.x) ++ [13, 10]) := by unfold Hid lineT; rw [if_neg hk, if_pos h1]
    have g1 : ((str n.tag).toList == ([43] : Bs)) = false := by rw [toL, beq_eq_false_iff_ne]; exact hk
    have g2 : (str n.st).toList.isEmpty = false := by rw [toL, List.isEmpty_eq_false_iff]; exact h1
    have D := put_new HU.out [n.tag, [32]] (w.heap.size + 1) 2 (by simp) rfl (by simp) (by have := HL.out; rw [HT.out] at this; simp at this ⊢; omega) #[.string (str n.tag), .string ⟨#[32]⟩] rfl
    clear hk h1
    go_enter Tryz.func38, Tryz.ntmps38
    go_wp2_with fail
    refine D.mono ?_
    rintro e w2 ⟨rfl, k1, k2, k3⟩
    have K2 := hid (HBA.out.trans k2)
    have K3 := hid (HTA.out.trans k3)
    have hy := hid (hv5.out.tk k3)
    have HV2 := hid (HV.out.low k2)
    have HC2 := hid (HC.out.low k2)
    clear x0 x1 x2 x3 x4
    obtain ⟨x0, x1, x2, x3, x4⟩ := hy.out.cs
    simp only [Sl.v] at x1 x3
    have D := put_new k1 [n.st, [32]] w2.heap.size 2 rfl rfl (by simp) (by have := HL.out; rw [HT.out] at this; simp at this ⊢; omega) #[.string (str n.st), .string ⟨#[32]⟩] rfl
    clear k1 k2 k3
    go_wp2_with fail
    refine D.mono ?_
    rintro e w3 ⟨rfl, k1, k2, k3⟩
    have K2 := hid (K2.out.trans k2)
    have K3 := hid (K3.out.trans k3)
    have hy := hid (hy.out.tk k3)
    clear x0 x1 x2 x3 x4
    obtain ⟨x0, x1, x2, x3, x4⟩ := hy.out.cs
    simp only [Sl.v] at x1 x3
    have D := ucode_any w3 B b _ 0 (.slice ca cb cc) n.code (HE.out.keep K2.out hB11) hB11 k1 (HC2.out.low k2) h2 HNc.out (by have := HL.out; rw [HT.out] at this; simp at this ⊢; omega)
    clear k1 k2 k3
    go_wp2_with fail
    refine D.mono ?_
    rintro e w4 ⟨rfl, k1, k2, k3⟩
    have K2 := hid (K2.out.trans k2)
    have K3 := hid (K3.out.trans k3)
    have hy := hid (hy.out.tk k3)
    clear x0 x1 x2 x3 x4
    obtain ⟨x0, x1, x2, x3, x4⟩ := hy.out.cs
    simp only [Sl.v] at x1 x3
    have D := put_new k1 [n.x] w4.heap.size 1 rfl rfl (by simp) (by have := HL.out; rw [HT.out] at this; simp at this ⊢; omega) #[.string (str n.x)] rfl
    clear k1 k2 k3
    go_wp2_with fail
    refine D.mono ?_
    rintro e w5 ⟨rfl, k1, k2, k3⟩
    have K2 := hid (K2.out.trans k2)
    have K3 := hid (K3.out.trans k3)
    have hy := hid (hy.out.tk k3)
    clear x0 x1 x2 x3 x4
    obtain ⟨x0, x1, x2, x3, x4⟩ := hy.out.cs
    simp only [Sl.v] at x1 x3
    have D := put_new k1 [[13, 10]] w5.heap.size 1 rfl rfl (by simp) (by have := HL.out; rw [HT.out] at this; simp at this ⊢; omega) #[.string ⟨#[13, 10]⟩] rfl
    clear k1 k2 k3
    go_wp2_with fail
    refine D.mono ?_
    rintro e w6 ⟨rfl, k1, k2, k3⟩
    have K2 := hid (K2.out.trans k2)
    have K3 := hid (K3.out.trans k3)
    have hy := hid (hy.out.tk k3)
    clear x0 x1 x2 x3 x4
    obtain ⟨x0, x1, x2, x3, x4⟩ := hy.out.cs
    simp only [Sl.v] at x1 x3
    have U : Hid (UAt w6 B b (l ++ lineT n)) := by rw [Hid, HT.out]; simpa [List.append_assoc] using k1
    clear k1 k2 k3 D
    go_wp2_with fail
    go_end0
    exact ⟨rfl, U.out, K2.out, K3.out⟩
  · have HT : Hid (lineT n = n.tag ++ [32] ++ toldL n.vals ++ [13, 10]) := by unfold Hid lineT; rw [if_neg hk, if_neg (by simpa using h1)]
    have g1 : ((str n.tag).toList == ([43] : Bs)) = false := by rw [toL, beq_eq_false_iff_ne]; exact hk
    have g2 : (str n.st).toList = ([] : Bs) := by rw [toL]; exact h1
    have D := put_new HU.out [n.tag, [32]] (w.heap.size + 1) 2 (by simp) rfl (by simp) (by have := HL.out; rw [HT.out] at this; simp at this ⊢; omega) #[.string (str n.tag), .string ⟨#[32]⟩] rfl
    clear hk h1
    go_enter Tryz.func38, Tryz.ntmps38
    go_wp2_with fail
    refine D.mono ?_
    rintro e w2 ⟨rfl, k1, k2, k3⟩
    have K2 := hid (HBA.out.trans k2)
    have K3 := hid (HTA.out.trans k3)
    have hy := hid (hv5.out.tk k3)
    have HV2 := hid (HV.out.low k2)
    have HC2 := hid (HC.out.low k2)
    clear x0 x1 x2 x3 x4
    obtain ⟨x0, x1, x2, x3, x4⟩ := hy.out.cs
    simp only [Sl.v] at x1 x3
    have hlk : n.vals.length ≤ 1000000000 := by have := toldL_len n.vals; have := HL.out; rw [HT.out] at this; simp at this; omega
    have D := uvals_all (szL n.vals) w2 B b _ 0 (.slice va vb vc) n.vals (HE.out.keep K2.out hB11) hB11 k1 HV2.out h2 HNv.out (Nat.le_refl _) (by have := HL.out; rw [HT.out] at this; simp at this ⊢; omega) hlk
    clear hlk
    clear k1 k2 k3
    go_wp2_with fail
    refine D.mono ?_
    rintro e w3 ⟨rfl, k1, k2, k3⟩
    have K2 := hid (K2.out.trans k2)
    have K3 := hid (K3.out.trans k3)
    have hy := hid (hy.out.tk k3)
    clear x0 x1 x2 x3 x4
    obtain ⟨x0, x1, x2, x3, x4⟩ := hy.out.cs
    simp only [Sl.v] at x1 x3
    have D := put_new k1 [[13, 10]] w3.heap.size 1 rfl rfl (by simp) (by have := HL.out; rw [HT.out] at this; simp at this ⊢; omega) #[.string ⟨#[13, 10]⟩] rfl
    clear k1 k2 k3
    go_wp2_with fail
    refine D.mono ?_
    rintro e w4 ⟨rfl, k1, k2, k3⟩
    have K2 := hid (K2.out.trans k2)
    have K3 := hid (K3.out.trans k3)
    have hy := hid (hy.out.tk k3)
    clear x0 x1 x2 x3 x4
    obtain ⟨x0, x1, x2, x3, x4⟩ := hy.out.cs
    simp only [Sl.v] at x1 x3
    have U : Hid (UAt w4 B b (l ++ lineT n)) := by rw [Hid, HT.out]; simpa [List.append_assoc] using k1
    clear k1 k2 k3 D
    go_wp2_with fail
    go_end0
    exact ⟨rfl, U.out, K2.out, K3.out⟩
end Go.Proofs.YtpjcpdnolcehcaaGreatDoor
