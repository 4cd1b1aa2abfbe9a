/- What this text holds: the chapter's example, in plain words. · What this text holds: the chapter's example holds. -/
import Derived.Test.YtaniljfjmbifnaaGreatDoorKY1
namespace Go.Proofs.YtaniljfjmbifnaaGreatDoor.H
open Go.RowKit
set_option linter.unusedVariables false
set_option linter.unusedSimpArgs false

def exT : Bs := [83, 117, 98, 106, 101, 99, 116, 58, 32, 61, 63, 117, 116, 102, 45, 56, 63, 113, 63, 72, 101, 108, 108, 111, 63, 61, 13, 10, 13, 10]
def exF : List Bs := [[92, 115, 101, 101, 110], [98], [97], [92, 83, 69, 69, 78], [92, 120]]
def exG : List Bs := [[92, 83, 101, 101, 110], [97], [98]]
theorem ex_kept : exF.filterMap keptP = [[92, 83, 101, 101, 110], [98], [97], [92, 83, 101, 101, 110]] := by decide +kernel
theorem ex_vals : (valsL exT subj).length = 1 ∧ asksB (valsL exT subj) [104, 101] = true := by decide +kernel
theorem ex_bound : ∀ v ∈ valsL exT subj, (W.joined [v]).length ≤ 1000000 ∧ (wordW v).length ≤ 10000000 := by decide +kernel
/-- What lies in order, and is the same but for its order, is what the sort makes. -/
theorem sort_is {l m : List Bs} (hp : l.Perm m) (hm : m.Pairwise (fun x y => decide (x ≤ y) = true)) : sortP l = m := by
  refine List.Perm.eq_of_pairwise (le := fun x y => decide (x ≤ y) = true) ?_ (List.pairwise_mergeSort ?_ ?_ _) hm ((List.mergeSort_perm _ _).trans hp)
  · intro a b _ _ h1 h2
    exact List.le_antisymm (of_decide_eq_true h1) (of_decide_eq_true h2)
  · intro a b c h1 h2
    exact decide_eq_true (List.le_trans (of_decide_eq_true h1) (of_decide_eq_true h2))
  · intro a b
    rcases List.le_total a b with h | h
    · simp [h]
    · simp [h]
theorem ex_sort : sortP [[92, 83, 101, 101, 110], [98], [97], [92, 83, 101, 101, 110]] = [[92, 83, 101, 101, 110], [92, 83, 101, 101, 110], [97], [98]] := sort_is (by decide +kernel) (by decide +kernel)
theorem ex_flags : flagsP exF = exG := by
  unfold flagsP allP
  rw [ex_kept, ex_sort]
  decide +kernel
end Go.Proofs.YtaniljfjmbifnaaGreatDoor.H
namespace Go.Proofs.YtaniljfjmbifnaaGreatDoor.H
open Go.RowKit
set_option linter.unusedVariables false
set_option linter.unusedSimpArgs false

def mcE : Array Value := #[.int .i64 0, .slice none 0 0, .int .i64 0, .int .i64 0, .int .i64 0, .int .i64 0, .int .i64 0, .int .i64 0, .int .i64 0, .string ⟨#[83, 117, 98, 106, 101, 99, 116, 58, 32, 61, 63, 117, 116, 102, 45, 56, 63, 113, 63, 72, 101, 108, 108, 111, 63, 61, 13, 10, 13, 10]⟩, .int .i64 0, .int .i64 0]
def kcE : Array Value := #[.string ⟨#[83, 85, 66, 74, 69, 67, 84]⟩, .string ⟨#[104, 101]⟩, .string ⟨#[]⟩, .int .i64 0, .slice none 0 0, .slice none 0 0]
/-- The example's first match. -/
theorem match_yes {w : World} (he : Env w) (hw0 : 0 < w.heap.size) : Calls Tryz.prog 11 #[.agg #[.string ⟨#[83, 85, 66, 74, 69, 67, 84]⟩, .string ⟨#[104, 101]⟩, .string ⟨#[]⟩, .int .i64 0, .slice none 0 0, .slice none 0 0], .agg #[.int .i64 0, .slice none 0 0, .int .i64 0, .int .i64 0, .int .i64 0, .int .i64 0, .int .i64 0, .int .i64 0, .int .i64 0, .string ⟨#[83, 117, 98, 106, 101, 99, 116, 58, 32, 61, 63, 117, 116, 102, 45, 56, 63, 113, 63, 72, 101, 108, 108, 111, 63, 61, 13, 10, 13, 10]⟩, .int .i64 0, .int .i64 0], .int .i64 1, .int .i64 1, .int .i64 1] w fun e w' => e = .returned (.bool true) ∧ Below w.heap.size w w' :=
  match_any subj [104, 101] [] 0 none 0 0 none 0 0 0 none 0 0 0 0 0 0 0 0 0 exT 0 0 1 1 1 true (fun w1 b hb hl hbl => by
    have := subject_any (he.later hbl) (by omega) hl (fun h => by cases h) (by decide) subj [104, 101] [] 0 none 0 0 none 0 0 (by decide) rfl ex_bound
    rw [show asksB (valsL exT subj) [104, 101] = true from ex_vals.2] at this
    exact this)
/-- .. and the one that is denied. -/
theorem match_no {w : World} (he : Env w) (hw0 : 0 < w.heap.size) {kb : Nat} (hk : w.heap[kb]? = some (.cells #[.string ⟨#[83, 85, 66, 74, 69, 67, 84]⟩, .string ⟨#[104, 101]⟩, .string ⟨#[]⟩, .int .i64 0, .slice none 0 0, .slice none 0 0] 28 (0, 0))) : Calls Tryz.prog 11 #[.agg #[.string ⟨#[78, 79, 84]⟩, .string ⟨#[]⟩, .string ⟨#[]⟩, .int .i64 0, .slice none 0 0, .slice (some ⟨kb, 0, none⟩) 1 1], .agg #[.int .i64 0, .slice none 0 0, .int .i64 0, .int .i64 0, .int .i64 0, .int .i64 0, .int .i64 0, .int .i64 0, .int .i64 0, .string ⟨#[83, 117, 98, 106, 101, 99, 116, 58, 32, 61, 63, 117, 116, 102, 45, 56, 63, 113, 63, 72, 101, 108, 108, 111, 63, 61, 13, 10, 13, 10]⟩, .int .i64 0, .int .i64 0], .int .i64 1, .int .i64 1, .int .i64 1] w fun e w' => e = .returned (.bool false) ∧ Below w.heap.size w w' :=
  match_any notO [] [] 0 none 0 0 (some ⟨kb, 0, none⟩) 1 1 0 none 0 0 0 0 0 0 0 0 0 exT 0 0 1 1 1 false (fun w1 b hb hl hbl => by
    have hkl : kb < w.heap.size := (Array.getElem?_eq_some_iff.1 hk).1
    have hk1 : KyAt w1 kb ⟨subj, [104, 101], [], 0, (none, 0, 0), (none, 0, 0)⟩ := (hbl.block kb hkl).trans hk
    have := deny_any (he.later hbl) (by omega) hl (fun h => by cases h) (by decide) rfl rfl subj [104, 101] [] 0 none 0 0 none 0 0 (by decide) rfl ex_bound hk1 (by omega) notO [] [] 0 none 0 0 rfl
    rw [show asksB (valsL exT subj) [104, 101] = true from ex_vals.2] at this
    exact this)
set_option maxRecDepth 100000 in
set_option maxHeartbeats 4000000 in
theorem alive_any {w : World} (he : Env w) (hw0 : 0 < w.heap.size) : Calls Tryz.prog 7 #[] w fun e w' => e = .returned (.bool true) ∧ Below w.heap.size w w' := by
  obtain ⟨wa, hwa⟩ : ∃ wa, w.alloc (.cells #[.int .i64 0, .slice none 0 0, .int .i64 0, .int .i64 0, .int .i64 0, .int .i64 0, .int .i64 0, .int .i64 0, .int .i64 0, .string ⟨#[83, 117, 98, 106, 101, 99, 116, 58, 32, 61, 63, 117, 116, 102, 45, 56, 63, 113, 63, 72, 101, 108, 108, 111, 63, 61, 13, 10, 13, 10]⟩, .int .i64 0, .int .i64 0] 33) = wa := ⟨_, rfl⟩
  have ba : Below w.heap.size w wa := by rw [← hwa]; exact (Below.refl _ _).alloc (Nat.le_refl _) _
  have sa : wa.heap.size = w.heap.size + 1 := by rw [← hwa]; simp
  have hma : wa.heap[w.heap.size]? = some (.cells #[.int .i64 0, .slice none 0 0, .int .i64 0, .int .i64 0, .int .i64 0, .int .i64 0, .int .i64 0, .int .i64 0, .int .i64 0, .string ⟨#[83, 117, 98, 106, 101, 99, 116, 58, 32, 61, 63, 117, 116, 102, 45, 56, 63, 113, 63, 72, 101, 108, 108, 111, 63, 61, 13, 10, 13, 10]⟩, .int .i64 0, .int .i64 0] 33 (0, 0)) := by rw [← hwa]; exact heap_alloc_new _ _
  obtain ⟨wb, hwb⟩ : ∃ wb, wa.alloc (.cells #[.string ⟨#[83, 85, 66, 74, 69, 67, 84]⟩, .string ⟨#[104, 101]⟩, .string ⟨#[]⟩, .int .i64 0, .slice none 0 0, .slice none 0 0] 28) = wb := ⟨_, rfl⟩
  have bb : Below wa.heap.size wa wb := by rw [← hwb]; exact (Below.refl _ _).alloc (Nat.le_refl _) _
  have sb : wb.heap.size = wa.heap.size + 1 := by rw [← hwb]; simp
  have hkb : wb.heap[wa.heap.size]? = some (.cells #[.string ⟨#[83, 85, 66, 74, 69, 67, 84]⟩, .string ⟨#[104, 101]⟩, .string ⟨#[]⟩, .int .i64 0, .slice none 0 0, .slice none 0 0] 28 (0, 0)) := by rw [← hwb]; exact heap_alloc_new _ _
  obtain ⟨wc, hwc⟩ : ∃ wc, wb.alloc (.cells #[.string ⟨#[92, 115, 101, 101, 110]⟩, .string ⟨#[98]⟩, .string ⟨#[97]⟩, .string ⟨#[92, 83, 69, 69, 78]⟩, .string ⟨#[92, 120]⟩] 9) = wc := ⟨_, rfl⟩
  have bc : Below wb.heap.size wb wc := by rw [← hwc]; exact (Below.refl _ _).alloc (Nat.le_refl _) _
  have hF : RL wc (.slice (some ⟨wb.heap.size, 0, none⟩) 5 5) 1 (exF.map sR) := by rw [← hwc]; exact ra_lit wb (exF.map sR) 1 9 (by unfold Wd; decide)
  have hb1 : Below w.heap.size w wc := (ba.trans (bb.mono (by omega))).trans (bc.mono (by omega))
  have C1 := flags_any hF (by decide) (by decide)
  rw [ex_flags] at C1
  rw [sb, sa] at C1
  have HE := hid (he.later hb1)
  have HB := hid hb1
  have HM := hid (show wc.heap[w.heap.size]? = some (.cells #[.int .i64 0, .slice none 0 0, .int .i64 0, .int .i64 0, .int .i64 0, .int .i64 0, .int .i64 0, .int .i64 0, .int .i64 0, .string ⟨#[83, 117, 98, 106, 101, 99, 116, 58, 32, 61, 63, 117, 116, 102, 45, 56, 63, 113, 63, 72, 101, 108, 108, 111, 63, 61, 13, 10, 13, 10]⟩, .int .i64 0, .int .i64 0] 33 (0, 0)) from ((bc.block _ (by omega)).trans (bb.block _ (by omega))).trans hma)
  have hkc := (bc.block _ (by omega)).trans hkb
  rw [sa] at hkc
  have HK := hid hkc
  have HS : Hid (w.heap.size + 1 < wc.heap.size ∧ w.heap.size < wc.heap.size) := by have := bc.size; unfold Hid; omega
  have ma0 : wc.cell? ⟨w.heap.size, 0, none⟩ = some (.int .i64 0) := cell_of HM.out rfl
  have ma1 : wc.cell? ⟨w.heap.size, 1, none⟩ = some (.slice none 0 0) := cell_of HM.out rfl
  have ma2 : wc.cell? ⟨w.heap.size, 2, none⟩ = some (.int .i64 0) := cell_of HM.out rfl
  have ma3 : wc.cell? ⟨w.heap.size, 3, none⟩ = some (.int .i64 0) := cell_of HM.out rfl
  have ma4 : wc.cell? ⟨w.heap.size, 4, none⟩ = some (.int .i64 0) := cell_of HM.out rfl
  have ma5 : wc.cell? ⟨w.heap.size, 5, none⟩ = some (.int .i64 0) := cell_of HM.out rfl
  have ma6 : wc.cell? ⟨w.heap.size, 6, none⟩ = some (.int .i64 0) := cell_of HM.out rfl
  have ma7 : wc.cell? ⟨w.heap.size, 7, none⟩ = some (.int .i64 0) := cell_of HM.out rfl
  have ma8 : wc.cell? ⟨w.heap.size, 8, none⟩ = some (.int .i64 0) := cell_of HM.out rfl
  have ma9 : wc.cell? ⟨w.heap.size, 9, none⟩ = some (.string ⟨#[83, 117, 98, 106, 101, 99, 116, 58, 32, 61, 63, 117, 116, 102, 45, 56, 63, 113, 63, 72, 101, 108, 108, 111, 63, 61, 13, 10, 13, 10]⟩) := cell_of HM.out rfl
  have ma10 : wc.cell? ⟨w.heap.size, 10, none⟩ = some (.int .i64 0) := cell_of HM.out rfl
  have ma11 : wc.cell? ⟨w.heap.size, 11, none⟩ = some (.int .i64 0) := cell_of HM.out rfl
  have kb0 : wc.cell? ⟨w.heap.size + 1, 0, none⟩ = some (.string ⟨#[83, 85, 66, 74, 69, 67, 84]⟩) := cell_of HK.out rfl
  have kb1 : wc.cell? ⟨w.heap.size + 1, 1, none⟩ = some (.string ⟨#[104, 101]⟩) := cell_of HK.out rfl
  have kb2 : wc.cell? ⟨w.heap.size + 1, 2, none⟩ = some (.string ⟨#[]⟩) := cell_of HK.out rfl
  have kb3 : wc.cell? ⟨w.heap.size + 1, 3, none⟩ = some (.int .i64 0) := cell_of HK.out rfl
  have kb4 : wc.cell? ⟨w.heap.size + 1, 4, none⟩ = some (.slice none 0 0) := cell_of HK.out rfl
  have kb5 : wc.cell? ⟨w.heap.size + 1, 5, none⟩ = some (.slice none 0 0) := cell_of HK.out rfl
  have Hwa := hid hwa
  have Hwb := hid hwb
  have Hwc := hid hwc
  clear ba sa hma bb sb hkb bc hF hb1 he hwa hwb hwc hkc ma0 ma1 ma2 ma3 ma4 ma5 ma6 ma7 ma8 ma9 ma10 ma11 kb0 kb1 kb2 kb3 kb4 kb5
  go_enter Tryz.func7, Tryz.ntmps7
  go_wp2_with fail
  rw [Hwa.out, Hwb.out, Hwc.out]
  clear Hwa Hwb Hwc
  refine C1.mono ?_
  rintro e w1 ⟨⟨u, rfl, hu⟩, b1⟩
  have HU := hid hu
  obtain ⟨_, ua, uc, hue, _⟩ := id hu
  subst hue
  have B1 := hid b1
  clear hu b1 C1
  have C2 := same_any (l := exG) (m := exG) (HU.out.later ((Below.refl _ w1).alloc (Nat.le_refl _) (.cells #[.string ⟨#[92, 83, 101, 101, 110]⟩, .string ⟨#[97]⟩, .string ⟨#[98]⟩] 9))) (ra_lit w1 (exG.map sR) 1 9 (by unfold Wd; decide)) (by decide) (by decide)
  rw [decide_eq_true (rfl : exG = exG)] at C2
  have C2 : Calls Tryz.prog 17 #[.slice ua 3 uc, .slice (some ⟨w1.heap.size, 0, none⟩) 3 3] (w1.alloc (.cells #[.string ⟨#[92, 83, 101, 101, 110]⟩, .string ⟨#[97]⟩, .string ⟨#[98]⟩] 9)) fun e w' => e = .returned (.bool true) ∧ Below (w1.alloc (.cells #[.string ⟨#[92, 83, 101, 101, 110]⟩, .string ⟨#[97]⟩, .string ⟨#[98]⟩] 9)).heap.size (w1.alloc (.cells #[.string ⟨#[92, 83, 101, 101, 110]⟩, .string ⟨#[97]⟩, .string ⟨#[98]⟩] 9)) w' := C2
  have B2 : Hid (Below wc.heap.size wc (w1.alloc (.cells #[.string ⟨#[92, 83, 101, 101, 110]⟩, .string ⟨#[97]⟩, .string ⟨#[98]⟩] 9))) := B1.out.alloc B1.out.size _
  go_wp2_with fail
  refine C2.mono ?_
  rintro e w2 ⟨rfl, b2⟩
  have B3 := hid (B2.out.trans (b2.mono B2.out.size))
  have HM2 := (B3.out.block _ HS.out.2).trans HM.out
  have HK2 := (B3.out.block _ HS.out.1).trans HK.out
  have mb0 : w2.cell? ⟨w.heap.size, 0, none⟩ = some (.int .i64 0) := cell_of HM2 rfl
  have mb1 : w2.cell? ⟨w.heap.size, 1, none⟩ = some (.slice none 0 0) := cell_of HM2 rfl
  have mb2 : w2.cell? ⟨w.heap.size, 2, none⟩ = some (.int .i64 0) := cell_of HM2 rfl
  have mb3 : w2.cell? ⟨w.heap.size, 3, none⟩ = some (.int .i64 0) := cell_of HM2 rfl
  have mb4 : w2.cell? ⟨w.heap.size, 4, none⟩ = some (.int .i64 0) := cell_of HM2 rfl
  have mb5 : w2.cell? ⟨w.heap.size, 5, none⟩ = some (.int .i64 0) := cell_of HM2 rfl
  have mb6 : w2.cell? ⟨w.heap.size, 6, none⟩ = some (.int .i64 0) := cell_of HM2 rfl
  have mb7 : w2.cell? ⟨w.heap.size, 7, none⟩ = some (.int .i64 0) := cell_of HM2 rfl
  have mb8 : w2.cell? ⟨w.heap.size, 8, none⟩ = some (.int .i64 0) := cell_of HM2 rfl
  have mb9 : w2.cell? ⟨w.heap.size, 9, none⟩ = some (.string ⟨#[83, 117, 98, 106, 101, 99, 116, 58, 32, 61, 63, 117, 116, 102, 45, 56, 63, 113, 63, 72, 101, 108, 108, 111, 63, 61, 13, 10, 13, 10]⟩) := cell_of HM2 rfl
  have mb10 : w2.cell? ⟨w.heap.size, 10, none⟩ = some (.int .i64 0) := cell_of HM2 rfl
  have mb11 : w2.cell? ⟨w.heap.size, 11, none⟩ = some (.int .i64 0) := cell_of HM2 rfl
  have kc0 : w2.cell? ⟨w.heap.size + 1, 0, none⟩ = some (.string ⟨#[83, 85, 66, 74, 69, 67, 84]⟩) := cell_of HK2 rfl
  have kc1 : w2.cell? ⟨w.heap.size + 1, 1, none⟩ = some (.string ⟨#[104, 101]⟩) := cell_of HK2 rfl
  have kc2 : w2.cell? ⟨w.heap.size + 1, 2, none⟩ = some (.string ⟨#[]⟩) := cell_of HK2 rfl
  have kc3 : w2.cell? ⟨w.heap.size + 1, 3, none⟩ = some (.int .i64 0) := cell_of HK2 rfl
  have kc4 : w2.cell? ⟨w.heap.size + 1, 4, none⟩ = some (.slice none 0 0) := cell_of HK2 rfl
  have kc5 : w2.cell? ⟨w.heap.size + 1, 5, none⟩ = some (.slice none 0 0) := cell_of HK2 rfl
  have C3 := match_yes (HE.out.later B3.out) (by have := B3.out.size; have := HS.out; omega)
  clear b2 C2 HM2 HK2
  go_wp2_with fail
  clear mb0 mb1 mb2 mb3 mb4 mb5 mb6 mb7 mb8 mb9 mb10 mb11 kc0 kc1 kc2 kc3 kc4 kc5
  refine C3.mono ?_
  rintro e w3 ⟨rfl, b3⟩
  have B4 := hid (B3.out.trans (b3.mono B3.out.size))
  have HM3 := (B4.out.block _ HS.out.2).trans HM.out
  have HK3 := (B4.out.block _ HS.out.1).trans HK.out
  clear b3 C3
  obtain ⟨wd, hwd⟩ : ∃ wd, w3.alloc (.cells #[.string ⟨#[83, 85, 66, 74, 69, 67, 84]⟩, .string ⟨#[104, 101]⟩, .string ⟨#[]⟩, .int .i64 0, .slice none 0 0, .slice none 0 0] 28) = wd := ⟨_, rfl⟩
  have bd : Below w3.heap.size w3 wd := by rw [← hwd]; exact (Below.refl _ _).alloc (Nat.le_refl _) _
  have hkd : wd.heap[w3.heap.size]? = some (.cells #[.string ⟨#[83, 85, 66, 74, 69, 67, 84]⟩, .string ⟨#[104, 101]⟩, .string ⟨#[]⟩, .int .i64 0, .slice none 0 0, .slice none 0 0] 28 (0, 0)) := by rw [← hwd]; exact heap_alloc_new _ _
  have B5 := hid (B4.out.trans (bd.mono B4.out.size))
  have HM4 := (B5.out.block _ HS.out.2).trans HM.out
  have C4 := match_no (HE.out.later B5.out) (by have := B5.out.size; have := HS.out; omega) hkd
  have mc0 : w3.cell? ⟨w.heap.size, 0, none⟩ = some (.int .i64 0) := cell_of HM3 rfl
  have mc1 : w3.cell? ⟨w.heap.size, 1, none⟩ = some (.slice none 0 0) := cell_of HM3 rfl
  have mc2 : w3.cell? ⟨w.heap.size, 2, none⟩ = some (.int .i64 0) := cell_of HM3 rfl
  have mc3 : w3.cell? ⟨w.heap.size, 3, none⟩ = some (.int .i64 0) := cell_of HM3 rfl
  have mc4 : w3.cell? ⟨w.heap.size, 4, none⟩ = some (.int .i64 0) := cell_of HM3 rfl
  have mc5 : w3.cell? ⟨w.heap.size, 5, none⟩ = some (.int .i64 0) := cell_of HM3 rfl
  have mc6 : w3.cell? ⟨w.heap.size, 6, none⟩ = some (.int .i64 0) := cell_of HM3 rfl
  have mc7 : w3.cell? ⟨w.heap.size, 7, none⟩ = some (.int .i64 0) := cell_of HM3 rfl
  have mc8 : w3.cell? ⟨w.heap.size, 8, none⟩ = some (.int .i64 0) := cell_of HM3 rfl
  have mc9 : w3.cell? ⟨w.heap.size, 9, none⟩ = some (.string ⟨#[83, 117, 98, 106, 101, 99, 116, 58, 32, 61, 63, 117, 116, 102, 45, 56, 63, 113, 63, 72, 101, 108, 108, 111, 63, 61, 13, 10, 13, 10]⟩) := cell_of HM3 rfl
  have mc10 : w3.cell? ⟨w.heap.size, 10, none⟩ = some (.int .i64 0) := cell_of HM3 rfl
  have mc11 : w3.cell? ⟨w.heap.size, 11, none⟩ = some (.int .i64 0) := cell_of HM3 rfl
  have kd0 : w3.cell? ⟨w.heap.size + 1, 0, none⟩ = some (.string ⟨#[83, 85, 66, 74, 69, 67, 84]⟩) := cell_of HK3 rfl
  have kd1 : w3.cell? ⟨w.heap.size + 1, 1, none⟩ = some (.string ⟨#[104, 101]⟩) := cell_of HK3 rfl
  have kd2 : w3.cell? ⟨w.heap.size + 1, 2, none⟩ = some (.string ⟨#[]⟩) := cell_of HK3 rfl
  have kd3 : w3.cell? ⟨w.heap.size + 1, 3, none⟩ = some (.int .i64 0) := cell_of HK3 rfl
  have kd4 : w3.cell? ⟨w.heap.size + 1, 4, none⟩ = some (.slice none 0 0) := cell_of HK3 rfl
  have kd5 : w3.cell? ⟨w.heap.size + 1, 5, none⟩ = some (.slice none 0 0) := cell_of HK3 rfl
  have md0 : wd.cell? ⟨w.heap.size, 0, none⟩ = some (.int .i64 0) := cell_of HM4 rfl
  have md1 : wd.cell? ⟨w.heap.size, 1, none⟩ = some (.slice none 0 0) := cell_of HM4 rfl
  have md2 : wd.cell? ⟨w.heap.size, 2, none⟩ = some (.int .i64 0) := cell_of HM4 rfl
  have md3 : wd.cell? ⟨w.heap.size, 3, none⟩ = some (.int .i64 0) := cell_of HM4 rfl
  have md4 : wd.cell? ⟨w.heap.size, 4, none⟩ = some (.int .i64 0) := cell_of HM4 rfl
  have md5 : wd.cell? ⟨w.heap.size, 5, none⟩ = some (.int .i64 0) := cell_of HM4 rfl
  have md6 : wd.cell? ⟨w.heap.size, 6, none⟩ = some (.int .i64 0) := cell_of HM4 rfl
  have md7 : wd.cell? ⟨w.heap.size, 7, none⟩ = some (.int .i64 0) := cell_of HM4 rfl
  have md8 : wd.cell? ⟨w.heap.size, 8, none⟩ = some (.int .i64 0) := cell_of HM4 rfl
  have md9 : wd.cell? ⟨w.heap.size, 9, none⟩ = some (.string ⟨#[83, 117, 98, 106, 101, 99, 116, 58, 32, 61, 63, 117, 116, 102, 45, 56, 63, 113, 63, 72, 101, 108, 108, 111, 63, 61, 13, 10, 13, 10]⟩) := cell_of HM4 rfl
  have md10 : wd.cell? ⟨w.heap.size, 10, none⟩ = some (.int .i64 0) := cell_of HM4 rfl
  have md11 : wd.cell? ⟨w.heap.size, 11, none⟩ = some (.int .i64 0) := cell_of HM4 rfl
  clear bd hkd HM3 HK3 HM4
  go_wp2_with fail
  refine C4.mono ?_
  rintro e w4 ⟨rfl, b4⟩
  have B6 := hid (B5.out.trans (b4.mono B5.out.size))
  clear b4 C4
  go_wp2_with fail
  go_ret
  exact ⟨rfl, HB.out.trans (B6.out.mono HB.out.size)⟩
end Go.Proofs.YtaniljfjmbifnaaGreatDoor.H
