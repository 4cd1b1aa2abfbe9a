/- What this text holds: a kid that is denied, with how deep it lies; a key that denies; a match. -/
import Derived.Test.YtaniljfjmbifnaaGreatDoorK8
namespace Go.Proofs.YtaniljfjmbifnaaGreatDoor.H
open Go.RowKit
set_option linter.unusedVariables false
set_option linter.unusedSimpArgs false

theorem str_at {L : Lk} {j : Nat} {x : ByteArray} (h : L.c[j]? = some (.string x)) : j = 9 := by
  have hj : j < 19 := by
    have := (List.getElem?_eq_some_iff.1 h).1
    simpa [Lk.c] using this
  rcases (by omega : j = 0 ∨ j = 1 ∨ j = 2 ∨ j = 3 ∨ j = 4 ∨ j = 5 ∨ j = 6 ∨ j = 7 ∨ j = 8 ∨ j = 9 ∨ j = 10 ∨ j = 11 ∨ j = 12 ∨ j = 13 ∨ j = 14 ∨ j = 15 ∨ j = 16 ∨ j = 17 ∨ j = 18) with rfl | rfl | rfl | rfl | rfl | rfl | rfl | rfl | rfl | rfl | rfl | rfl | rfl | rfl | rfl | rfl | rfl | rfl | rfl <;> simp_all [Lk.c, sv]
/-- Fields stay, where the block of the message alone is turned. -/
theorem rl_kept {w w' : World} {b : Nat} {L : Lk} {v : Value} {l : List (List Bs)} (h : RL w v 2 l) (hl : LkAt w b L) (hk : Kept [b] w w') : RL w' v 2 l := by
  obtain ⟨hw, a, c, rfl, hc, hr⟩ := h
  refine ⟨hw, a, c, rfl, hc, ?_⟩
  rcases hr with hr | ⟨g, o, rfl, hr, hg⟩
  · exact .inl hr
  · by_cases hgb : g = b
    · cases l with
      | nil => exact .inl rfl
      | cons r l =>
        exfalso
        have hr2 := hw r (List.mem_cons_self ..)
        match r, hr2 with
        | [x, y], _ =>
          have c0 := hr 0 0 [x, y] x rfl rfl
          have c1 := hr 0 1 [x, y] y rfl rfl
          rw [hgb, hl.cell] at c0 c1
          have e0 := str_at c0
          have e1 := str_at c1
          omega
    · exact .inr ⟨g, o, rfl, fun j i r p h1 h2 => cell_kept (hr j i r p h1 h2) hg hk hgb, Nat.lt_of_lt_of_le hg hk.size⟩
theorem LkAt.fs17 {w : World} {b : Nat} {L : Lk} (h : LkAt w b L) : w.frozen? ⟨b, 17, none⟩ = false := h.fz 17
set_option maxRecDepth 100000 in
set_option maxHeartbeats 4000000 in
theorem some_any {w : World} {b : Nat} {L : Lk} (he : Env w) (hb0 : 0 < b) (h : LkAt w b L) (hf : FsOk w L) (ht : L.text.length ≤ 1000000) (hlo : L.lost = false) (hde : L.deep = 0)
    (op t f : Bs) (n : Int) (a : Option Addr) (p c : Nat) (d : Option Addr) (q g : Nat) (htl : t.length ≤ 10000000) (hop : op = subj)
    (hv : ∀ v ∈ valsL L.text op, (W.joined [v]).length ≤ 1000000 ∧ (wordW v).length ≤ 10000000) {kb : Nat} (hk : KyAt w kb ⟨op, t, f, n, (a, p, c), (d, q, g)⟩) (hkb : kb ≠ b) :
    Calls Tryz.prog 44 #[.pointer (some ⟨b, 0, none⟩), .slice (some ⟨kb, 0, none⟩) 1 1, .bool false] w fun e w' => Seen w' b L ∧ e = .returned (.bool (!asksB (valsL L.text op) t)) ∧ Kept [b] w w' := by
  have ha : Below w.heap.size w ((w.alloc (.cells #[.pointer (some ⟨b, 0, none⟩)] 59)).alloc (.cells #[.bool false] 4)) := ((Below.refl _ _).alloc (Nat.le_refl _) _).alloc (by simp) _
  obtain ⟨w1, hw1⟩ : ∃ w1, (w.alloc (.cells #[.pointer (some ⟨b, 0, none⟩)] 59)).alloc (.cells #[.bool false] 4) = w1 := ⟨_, rfl⟩
  have hmc : w1.cell? ⟨w.heap.size, 0, none⟩ = some (.pointer (some ⟨b, 0, none⟩)) := by
    rw [← hw1]
    have : ((w.alloc (.cells #[.pointer (some ⟨b, 0, none⟩)] 59)).alloc (.cells #[.bool false] 4)).heap[w.heap.size]? = some (.cells #[.pointer (some ⟨b, 0, none⟩)] 59 (0, 0)) := by
      rw [show ((w.alloc (.cells #[.pointer (some ⟨b, 0, none⟩)] 59)).alloc (.cells #[.bool false] 4)).heap[w.heap.size]? = (w.alloc (.cells #[.pointer (some ⟨b, 0, none⟩)] 59)).heap[w.heap.size]? from ((Below.refl (w.alloc (.cells #[.pointer (some ⟨b, 0, none⟩)] 59)).heap.size (w.alloc (.cells #[.pointer (some ⟨b, 0, none⟩)] 59))).alloc (Nat.le_refl _) _).block _ (by simp)]
      exact heap_alloc_new _ _
    simp [World.cell?, this]
  have hxc : w1.cell? ⟨w.heap.size + 1, 0, none⟩ = some (.bool false) := by
    rw [← hw1]
    have := heap_alloc_new (w.alloc (.cells #[.pointer (some ⟨b, 0, none⟩)] 59)) (.cells #[.bool false] 4)
    rw [show (w.alloc (.cells #[.pointer (some ⟨b, 0, none⟩)] 59)).heap.size = w.heap.size + 1 by simp] at this
    unfold World.cell?
    simp only [this]
    rfl
  have hsz : w1.heap.size = w.heap.size + 2 := by rw [← hw1]; simp
  rw [hw1] at ha
  have HB := hid ha
  have HLt := hid h.lt
  have HE := hid (he.later ha)
  have HA := hid (h.later ha)
  have HFs : Hid (FsOk w1 L) := fun hr => (hf hr).later ha
  have HK := hid (hk.later ha)
  have HKl := hid hk.lt
  have HM := hid hmc
  have HX := hid hxc
  have HT := hid ht
  have HTL := hid htl
  have HV := hid hv
  have HOp := hid hop
  have HSz := hid hsz
  have l17 := HA.out.cell 17
  have l18 := HA.out.cell 18
  have z17 := HA.out.fz 17
  simp only [Lk.c, List.getElem?_cons_succ, List.getElem?_cons_zero] at l17 l18
  rw [hlo] at l18
  rw [hde] at l17
  have hF := fldk b
  have f6 := fun w => (hF w).2.2.2.2.2.2.1
  have f7 := fun w => (hF w).2.2.2.2.2.2.2.1
  clear he h hf hv hop hF hk ha ht htl
  go_enter Tryz.func44, Tryz.ntmps44
  go_wp2_with fail
  obtain ⟨w2, hw2⟩ : ∃ w2, w1.setCell ⟨b, 17, none⟩ (.int .i64 1) = w2 := ⟨_, rfl⟩
  have HA2 : Hid (LkAt w2 b { L with deep := 1 }) := by rw [← hw2]; exact HA.out.set17 1
  have HK2 : Hid (Kept [b] w1 w2) := by rw [← hw2]; exact Kept.setCell [b] w1 ⟨b, 17, none⟩ _ (by simp)
  rw [hw2]
  clear hw2 l17 l18 z17
  have m2 := cell_kept HM.out (by have := HSz.out; omega) HK2.out (by have := HLt.out; omega)
  have l17 := HA2.out.cell 17
  have l18 := HA2.out.cell 18
  have z18 := HA2.out.fz 18
  simp only [Lk.c, List.getElem?_cons_succ, List.getElem?_cons_zero] at l17 l18
  rw [hlo] at l18
  have qc : w2.cell? ⟨w.heap.size, 0, none⟩ = some (.pointer (some ⟨b, 0, none⟩)) ∧ w2.cell? ⟨b, 17, none⟩ = some (.int .i64 1) ∧ w2.cell? ⟨b, 18, none⟩ = some (.bool false) := ⟨m2, l17, l18⟩
  have HSt : Hid (∀ w' : World, LkAt w' b { L with deep := 1 } → w'.cell? ⟨w.heap.size, 0, none⟩ = some (.pointer (some ⟨b, 0, none⟩)) → (w'.setCell ⟨b, 18, none⟩ (.bool false)).cell? ⟨w.heap.size, 0, none⟩ = some (.pointer (some ⟨b, 0, none⟩)) ∧ (w'.setCell ⟨b, 18, none⟩ (.bool false)).cell? ⟨b, 17, none⟩ = some (.int .i64 1) ∧ (w'.setCell ⟨b, 18, none⟩ (.bool false)).cell? ⟨b, 18, none⟩ = some (.bool false)) := by
    intro w' hl hmm
    have hs := hl.set18 false
    have s17 := hs.cell 17
    have s18 := hs.cell 18
    simp only [Lk.c, List.getElem?_cons_succ, List.getElem?_cons_zero] at s17 s18
    refine ⟨?_, s17, s18⟩
    exact (World.cell?_of_block ((Kept.setCell [b] w' ⟨b, 18, none⟩ (.bool false) (by simp)).block w.heap.size (by
      by_cases hlt : w.heap.size < w'.heap.size
      · exact hlt
      · simp [World.cell?, show w'.heap[w.heap.size]? = none from Array.getElem?_eq_none (by omega)] at hmm) (by have := HLt.out; simp; omega))).trans hmm
  clear m2 l17 l18
  go_region_held3 (fun w' => w'.cell? ⟨w.heap.size, 0, none⟩ = some (.pointer (some ⟨b, 0, none⟩)) ∧ w'.cell? ⟨b, 17, none⟩ = some (.int .i64 1) ∧ w'.cell? ⟨b, 18, none⟩ = some (.bool false)) (first | exact qc | exact HSt.out _ HA2.out qc.1 | go_keep) (fail)
  obtain ⟨w3, hw3⟩ : ∃ w3, (w2.setCell ⟨b, 18, none⟩ (.bool false)).drew = w3 := ⟨_, rfl⟩
  have HA3 : Hid (LkAt w3 b { L with deep := 1, lost := false }) := by rw [← hw3]; exact HA2.out.set18 false
  have HK3 : Hid (Kept [b] w1 w3) := by rw [← hw3]; exact kept_t (kept_t HK2.out (Kept.setCell [b] w2 ⟨b, 18, none⟩ _ (by simp))) (Kept.drew [b] _)
  rw [hw3]
  clear hw3 qc z18 HSt
  have hsz2 := HSz.out
  have hbl := HLt.out
  have hz3 := HK3.out.size
  have C := kid_any (env_kept HE.out hb0 (by omega) HK3.out) hb0 HA3.out (fun hr => by
      have h1 := HFs.out hr
      exact rl_kept h1 HA.out HK3.out) HT.out rfl (mb := w.heap.size) (xb := w.heap.size + 1) (cell_kept HM.out (by omega) HK3.out (by omega)) (by omega) (by omega) (cell_kept HX.out (by omega) HK3.out (by omega)) (by omega) (by omega) op t f n a p c d q g HTL.out HOp.out HV.out (HK.out.kept HK3.out (by simpa using hkb))
  have m3 := cell_kept HM.out (by omega) HK3.out (by omega)
  clear hsz2 hbl hz3 hmc hxc hsz
  go_wp2_with fail
  refine C.mono ?_
  rintro e w4 ⟨⟨fs, hl4, hf4⟩, rfl, hk4⟩
  have m4 := cell_kept m3 (by have := HSz.out; have := HK3.out.size; omega) hk4 (by have := HLt.out; omega)
  have HA4 := hid hl4
  have HF4 := hid hf4
  have HK4 := hid (kept_t HK3.out hk4)
  have l17 := hl4.cell 17
  have z17 := hl4.fz 17
  simp only [Lk.c, List.getElem?_cons_succ, List.getElem?_cons_zero] at l17
  clear hl4 hf4 hk4 C m3
  go_wp2_with fail
  go_ret
  have hq := HA4.out.set17 0
  have e1 : ({ L with deep := 0, lost := false, rd := true, fs := fs } : Lk) = { L with rd := true, fs := fs } := by cases L; simp_all
  refine ⟨⟨fs, ?_, ?_⟩, rfl, ?_⟩
  · rw [← e1]; exact hq
  · intro hr
    exact rl_kept (HF4.out rfl) HA4.out (Kept.setCell [b] w4 ⟨b, 17, none⟩ (.int .i64 0) (by simp))
  · exact kept_t (kept_t (Kept.ofBelow HB.out [b]) HK4.out) (Kept.setCell [b] w4 ⟨b, 17, none⟩ (.int .i64 0) (by simp))
end Go.Proofs.YtaniljfjmbifnaaGreatDoor.H
