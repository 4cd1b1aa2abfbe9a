/- What this text holds: a value put to bytes under way. -/
import Derived.Test.YtpjcpdnolcehcaaGreatDoorM20
namespace Go.Proofs.YtpjcpdnolcehcaaGreatDoor
open Go.RowKit
set_option linter.unusedVariables false
set_option linter.unusedSimpArgs false

theorem right_kind {d : Nat} {v : Vl} (h : rightB d v = true) : bareB v = true ∧ (v.k = 0 ∨ v.k = 1 ∧ 0 ≤ v.n ∨ v.k = 2 ∧ atomB v.x = true ∨ v.k = 3 ∨ v.k = 4 ∧ d < 30 ∧ rightsB (d + 1) v.kids = true ∨ v.k = 5 ∧ atomB v.x = true ∧ frB v.frm = true ∧ d < 30 ∧ rightsB (d + 1) v.kids = true) := by
  obtain ⟨k, x, n, kids, frm⟩ := v
  rw [rightB, Bool.and_eq_true] at h
  refine ⟨h.1, ?_⟩
  have h2 := h.2
  simp only [Vl.k, Vl.n, Vl.x, Vl.kids, Vl.frm]
  split at h2
  · rename_i e; exact .inl e
  · split at h2
    · rename_i e; exact .inr (.inr (.inr (.inl e)))
    · split at h2
      · rename_i e; exact .inr (.inl ⟨e, by simpa using h2⟩)
      · split at h2
        · rename_i e; exact .inr (.inr (.inl ⟨e, h2⟩))
        · split at h2
          · rename_i e
            simp only [Bool.and_eq_true, decide_eq_true_eq] at h2
            exact .inr (.inr (.inr (.inr (.inl ⟨e, h2.1, h2.2⟩))))
          · split at h2
            · rename_i e
              simp only [Bool.and_eq_true, decide_eq_true_eq] at h2
              exact .inr (.inr (.inr (.inr (.inr ⟨e, h2.1.1, h2.1.2, h2.2.1, h2.2.2⟩))))
            · cases h2
theorem fr_one {l : List Int} (h : frB l = true) : l.length ≤ 1 ∧ ∀ n ∈ l, 0 ≤ n := by
  unfold frB at h
  rcases l with _ | ⟨a, l⟩
  · simp
  · simp at h
    obtain ⟨rfl, h⟩ := h
    simp [h]
theorem toldS_len : ∀ l : List Vl, l.length ≤ (toldS l).length
  | [] => by simp
  | v :: l => by
    have := toldS_len l
    simp [toldS]
    omega
theorem toldL_len (l : List Vl) : l.length ≤ (toldL l).length + 1 := by
  have := toldS_len l
  unfold toldL
  rw [List.length_drop]
  omega
theorem sz_kids (v : Vl) : szL v.kids + 1 = szV v := by cases v; rfl
theorem num_kids {v : Vl} (h : NumV v) : NumL v.kids ∧ I64 v.n ∧ v.x.length ≤ 1000000000 ∧ ∀ m ∈ v.frm, I64 m := by
  cases v; exact ⟨h.2.2.2.1, h.1, h.2.1, h.2.2.1⟩
theorem told_0 {v : Vl} (h : v.k = 0) : told v = nilT := by cases v; simp only [Vl.k] at h; subst h; rw [told]; rfl
theorem told_1 {v : Vl} (h : v.k = 1) : told v = decP v.n := by cases v; simp only [Vl.k] at h; subst h; rw [told]; rfl
theorem told_2 {v : Vl} (h : v.k = 2) : told v = v.x := by cases v; simp only [Vl.k] at h; subst h; rw [told]; rfl
theorem told_3 {v : Vl} (h : v.k = 3) : told v = strP v.x := by cases v; simp only [Vl.k] at h; subst h; rw [told]; rfl
theorem told_4 {v : Vl} (h : v.k = 4) : told v = [40] ++ toldL v.kids ++ [41] := by cases v; simp only [Vl.k] at h; subst h; rw [told]; rfl
theorem told_5 {v : Vl} (h : v.k = 5) : told v = v.x ++ [91] ++ toldL v.kids ++ [93] ++ fromP v.frm := by cases v; simp only [Vl.k] at h; subst h; rw [told]; rfl
theorem box43 (r : Rw) (w : World) : Below w.heap.size w (w.alloc (.cells r.c.toArray 43)) := (Below.refl _ _).alloc (Nat.le_refl _) _
theorem fld43k (A k : Nat) (hk : k < 5) (w : World) : (Instr.fieldAt 43 (.pointer (some ⟨A, 0, none⟩)) k).run Tryz.prog w = .ok (.pointer (some ⟨A, k, none⟩)) w := by
  rcases (by omega : k = 0 ∨ k = 1 ∨ k = 2 ∨ k = 3 ∨ k = 4) with rfl | rfl | rfl | rfl | rfl <;> kernel_rfl
set_option maxRecDepth 100000 in
set_option maxHeartbeats 8000000 in
theorem uval_any {sz : Nat} (hV : UVals sz) : UVal (sz + 1) := by
  intro w B b l d r v hE hB11 h hr hrt hnum hsz hl
  obtain ⟨hbare, hkind⟩ := right_kind hrt
  obtain ⟨nk, nn, nx, nf⟩ := num_kids hnum
  have hsk := sz_kids v
  have hszk : szL v.kids ≤ sz := by omega
  obtain ⟨⟨ek, ex, en, hfr⟩, hks⟩ := hr
  obtain ⟨rk, rx, rn, ⟨ra, rb, rc⟩, ⟨rd, re, rf⟩⟩ := r
  simp only at ek ex en
  subst ek ex en
  have ha := box43 ⟨v.k, v.x, v.n, (ra, rb, rc), (rd, re, rf)⟩ w
  have hv5 : Hid (V5 (w.alloc (.cells #[.int .i64 v.k, .string (str v.x), .int .i64 v.n, .slice ra rb rc, .slice rd re rf] 43)) w.heap.size ⟨v.k, v.x, v.n, (ra, rb, rc), (rd, re, rf)⟩) := V5.new w ⟨v.k, v.x, v.n, (ra, rb, rc), (rd, re, rf)⟩
  have HA : Hid (Below w.heap.size w (w.alloc (.cells #[.int .i64 v.k, .string (str v.x), .int .i64 v.n, .slice ra rb rc, .slice rd re rf] 43))) := ha
  have H := hid h
  have hU := h.later HA.out
  have HU := hid hU
  have HE := hid (hE.later HA.out)
  have HE0 := hid hE
  have HBA := hid (HA.out.mono h.B)
  have HTA := hid (TK.later HA.out)
  have HFr := hid (hfr.low HBA.out)
  have HKs := hid (hks.low HBA.out)
  have HNk := hid nk
  have HSz := hid hszk
  have HL := hid hl
  have hs0 : Hid ((w.alloc (.cells #[.int .i64 v.k, .string (str v.x), .int .i64 v.n, .slice ra rb rc, .slice rd re rf] 43)).heap.size = w.heap.size + 1) := by simp [Hid]
  have hf0 := fun A => fld43k A 0 (by omega)
  have hf1 := fld43
  have hf2 := fun A => fld43k A 1 (by omega)
  have hf3 := fun A => fld43k A 2 (by omega)
  have hf4 := fun A => fld43k A 3 (by omega)
  clear h hE ha hU hfr hks nk hszk hsz hrt hbare hnum hl hsk
  rw [vV_mk]
  rcases hkind with hk | ⟨hk, h1⟩ | ⟨hk, h1⟩ | hk | ⟨hk, h1, h2⟩ | ⟨hk, h1, h2, h3, h4⟩
  · have hT := hid (told_0 hk)
    generalize hvk : v.k = vk at *
    subst hk
    obtain ⟨x0, x1, x2, x3, x4⟩ := hv5.out.cs
    simp only [Sl.v] at x3 x4
    have D := put_new HU.out [nilT] (w.heap.size + 1) 1 (by simp) rfl (by simp) (by have := HL.out; rw [hT.out] at this; simp at this ⊢; omega) #[.string (str nilT)] rfl
    clear hv5
    go_enter Tryz.func76, Tryz.ntmps76
    go_wp2_with fail
    refine D.mono ?_
    rintro e w2 ⟨rfl, k1, k2, k3⟩
    have K2 := hid (HBA.out.trans k2)
    have K3 := hid (HTA.out.trans k3)
    have U2 : Hid (UAt w2 B b (l ++ nilT)) := by rw [Hid]; simpa using k1
    clear k1 k2 k3 D
    go_wp2_with fail
    go_end0
    refine ⟨rfl, ?_, K2.out, K3.out⟩
    rw [hT.out]
    exact U2.out
  · have hT := hid (told_1 hk)
    generalize hvk : v.k = vk at *
    subst hk
    obtain ⟨x0, x1, x2, x3, x4⟩ := hv5.out.cs
    simp only [Sl.v] at x3 x4
    have D := unum_any HE.out HU.out v.n h1 nn.2 (by have := HL.out; rw [hT.out] at this; exact this)
    clear hv5
    go_enter Tryz.func76, Tryz.ntmps76
    go_wp2_with fail
    refine D.mono ?_
    rintro e w2 ⟨rfl, k1, k2, k3⟩
    have K2 := hid (HBA.out.trans k2)
    have K3 := hid (HTA.out.trans k3)
    have U2 := hid k1
    clear k1 k2 k3 D
    go_wp2_with fail
    go_end0
    refine ⟨rfl, ?_, K2.out, K3.out⟩
    rw [hT.out]
    exact U2.out
  · have hT := hid (told_2 hk)
    generalize hvk : v.k = vk at *
    subst hk
    obtain ⟨x0, x1, x2, x3, x4⟩ := hv5.out.cs
    simp only [Sl.v] at x3 x4
    have D := put_new HU.out [v.x] (w.heap.size + 1) 1 (by simp) rfl (by simp) (by have := HL.out; rw [hT.out] at this; simp at this ⊢; omega) #[.string (str v.x)] rfl
    clear hv5
    go_enter Tryz.func76, Tryz.ntmps76
    go_wp2_with fail
    refine D.mono ?_
    rintro e w2 ⟨rfl, k1, k2, k3⟩
    have K2 := hid (HBA.out.trans k2)
    have K3 := hid (HTA.out.trans k3)
    have U2 : Hid (UAt w2 B b (l ++ v.x)) := by rw [Hid]; simpa using k1
    clear k1 k2 k3 D
    go_wp2_with fail
    go_end0
    refine ⟨rfl, ?_, K2.out, K3.out⟩
    rw [hT.out]
    exact U2.out
  · have hT := hid (told_3 hk)
    generalize hvk : v.k = vk at *
    subst hk
    obtain ⟨x0, x1, x2, x3, x4⟩ := hv5.out.cs
    simp only [Sl.v] at x3 x4
    have D := ustr_any HE.out hB11 HU.out v.x nx (by have := HL.out; rw [hT.out] at this; exact this)
    clear hv5
    go_enter Tryz.func76, Tryz.ntmps76
    go_wp2_with fail
    refine D.mono ?_
    rintro e w2 ⟨rfl, k1, k2, k3⟩
    have K2 := hid (HBA.out.trans k2)
    have K3 := hid (HTA.out.trans k3)
    have U2 := hid k1
    clear k1 k2 k3 D
    go_wp2_with fail
    go_end0
    refine ⟨rfl, ?_, K2.out, K3.out⟩
    rw [hT.out]
    exact U2.out
  · have hT := hid (told_4 hk)
    generalize hvk : v.k = vk at *
    subst hk
    obtain ⟨x0, x1, x2, x3, x4⟩ := hv5.out.cs
    simp only [Sl.v] at x3 x4
    have D := put_new HU.out [[40]] (w.heap.size + 1) 1 (by simp) rfl (by simp) (by have := HL.out; rw [hT.out] at this; simp at this ⊢; omega) #[.string ⟨#[40]⟩] rfl
    go_enter Tryz.func76, Tryz.ntmps76
    go_wp2_with fail
    refine D.mono ?_
    rintro e w2 ⟨rfl, k1, k2, k3⟩
    have K2 := hid (HBA.out.trans k2)
    have K3 := hid (HTA.out.trans k3)
    obtain ⟨y0, y1, y2, y3, y4⟩ := (hv5.out.tk k3).cs
    simp only [Sl.v] at y3 y4
    have hlk : v.kids.length ≤ 1000000000 := by have := toldL_len v.kids; have := HL.out; rw [hT.out] at this; simp at this; omega
    have D := hV w2 B b _ (d + 1) (.slice ra rb rc) v.kids (HE.out.keep k2 hB11) hB11 k1 (HKs.out.low k2) h2 HNk.out HSz.out (by have := HL.out; rw [hT.out] at this; simp at this ⊢; omega) hlk
    clear k1 k2 k3 hv5 x0 x1 x2 x3 x4 hlk
    go_wp2_with fail
    refine D.mono ?_
    rintro e w3 ⟨rfl, k1, k2, k3⟩
    have K2 := hid (K2.out.trans k2)
    have K3 := hid (K3.out.trans k3)
    have D := put_new k1 [[41]] w3.heap.size 1 rfl rfl (by simp) (by have := HL.out; rw [hT.out] at this; simp at this ⊢; omega) #[.string ⟨#[41]⟩] rfl
    clear k1 k2 k3 y0 y1 y2 y3 y4
    go_wp2_with fail
    refine D.mono ?_
    rintro e w4 ⟨rfl, k1, k2, k3⟩
    have K2 := hid (K2.out.trans k2)
    have K3 := hid (K3.out.trans k3)
    have U2 : Hid (UAt w4 B b (l ++ ([40] ++ toldL v.kids ++ [41]))) := by rw [Hid]; simpa [List.append_assoc] using k1
    clear k1 k2 k3 D
    go_wp2_with fail
    go_end0
    refine ⟨rfl, ?_, K2.out, K3.out⟩
    rw [hT.out]
    exact U2.out
  · have hT := hid (told_5 hk)
    generalize hvk : v.k = vk at *
    subst hk
    obtain ⟨x0, x1, x2, x3, x4⟩ := hv5.out.cs
    simp only [Sl.v] at x3 x4
    have D := put_new HU.out [v.x, [91]] (w.heap.size + 1) 2 (by simp) rfl (by simp) (by have := HL.out; rw [hT.out] at this; simp at this ⊢; omega) #[.string (str v.x), .string ⟨#[91]⟩] rfl
    go_enter Tryz.func76, Tryz.ntmps76
    go_wp2_with fail
    refine D.mono ?_
    rintro e w2 ⟨rfl, k1, k2, k3⟩
    have K2 := hid (HBA.out.trans k2)
    have K3 := hid (HTA.out.trans k3)
    have hy := hid (hv5.out.tk k3)
    obtain ⟨y0, y1, y2, y3, y4⟩ := hy.out.cs
    simp only [Sl.v] at y3 y4
    have hlk : v.kids.length ≤ 1000000000 := by have := toldL_len v.kids; have := HL.out; rw [hT.out] at this; simp at this; omega
    have D := hV w2 B b _ (d + 1) (.slice ra rb rc) v.kids (HE.out.keep k2 hB11) hB11 k1 (HKs.out.low k2) h4 HNk.out HSz.out (by have := HL.out; rw [hT.out] at this; simp at this ⊢; omega) hlk
    have HFr2 := hid (HFr.out.low k2)
    clear k1 k2 k3 hv5 x0 x1 x2 x3 x4 hlk
    go_wp2_with fail
    refine D.mono ?_
    rintro e w3 ⟨rfl, k1, k2, k3⟩
    have K2 := hid (K2.out.trans k2)
    have K3 := hid (K3.out.trans k3)
    have hy3 := hid (hy.out.tk k3)
    have HFr3 := hid (HFr2.out.low k2)
    have D := put_new k1 [[93]] w3.heap.size 1 rfl rfl (by simp) (by have := HL.out; rw [hT.out] at this; simp at this ⊢; omega) #[.string ⟨#[93]⟩] rfl
    clear k1 k2 k3 y0 y1 y2 y3 y4
    go_wp2_with fail
    refine D.mono ?_
    rintro e w4 ⟨rfl, k1, k2, k3⟩
    have K2 := hid (K2.out.trans k2)
    have K3 := hid (K3.out.trans k3)
    obtain ⟨y0, y1, y2, y3, y4⟩ := (hy3.out.tk k3).cs
    simp only [Sl.v] at y3 y4
    obtain ⟨f1, f2⟩ := fr_one h2
    have D := ufrom_any (HE0.out.keep K2.out hB11) hB11 k1 (.slice rd re rf) v.frm (HFr3.out.low k2) (fun n hn => ⟨f2 n hn, nf n hn⟩) f1 (by have := HL.out; rw [hT.out] at this; simp at this ⊢; omega)
    clear k1 k2 k3 f1 f2
    go_wp2_with fail
    refine D.mono ?_
    rintro e w5 ⟨rfl, k1, k2, k3⟩
    have K2 := hid (K2.out.trans k2)
    have K3 := hid (K3.out.trans k3)
    have U2 : Hid (UAt w5 B b (l ++ (v.x ++ [91] ++ toldL v.kids ++ [93] ++ fromP v.frm))) := by rw [Hid]; simpa [List.append_assoc] using k1
    clear k1 k2 k3 D
    go_wp2_with fail
    go_end0
    refine ⟨rfl, ?_, K2.out, K3.out⟩
    rw [hT.out]
    exact U2.out
end Go.Proofs.YtpjcpdnolcehcaaGreatDoor
