/- What this text holds: Put and Read of a pager. -/
import Derived.Test.YtambgimfbdecpaaGOps
namespace Go.Proofs.Ytambgimfbdecpaa
open Go.RowKit Go.Maps
set_option linter.unusedVariables false

/-- Put. -/
def PS.put (P : PS) (kind : Int) (s : ByteArray) : (Int × Int) × PS :=
  if P.dead = true then ((0, 9), P) else if sealE kind (P.gen + 1) s.size ≠ 0 then ((0, sealE kind (P.gen + 1) s.size), P) else if lowFree P.st = 0 then ((0, 6), P)
  else if (P.D.write (lowFree P.st) (sealL kind (P.gen + 1) (bOf s))).1 = 0 then ((lowFree P.st, 0), { P with D := (P.D.write (lowFree P.st) (sealL kind (P.gen + 1) (bOf s))).2, st := P.st.set (lowFree P.st) (2, 0) })
  else ((0, (P.D.write (lowFree P.st) (sealL kind (P.gen + 1) (bOf s))).1), PS.hear { P with D := (P.D.write (lowFree P.st) (sealL kind (P.gen + 1) (bOf s))).2 } (P.D.write (lowFree P.st) (sealL kind (P.gen + 1) (bOf s))).1)

theorem lowFree_lt (st : List (Int × Int)) (h : lowFree st ≠ 0) : 2 ≤ lowFree st ∧ lowFree st < st.length ∧ stOf st (lowFree st) = 0 ∧ ∀ j, 2 ≤ j → j < lowFree st → stOf st j ≠ 0 := by
  have hk : ∃ k, (List.range st.length).find? (fun i => decide (2 ≤ i) && (stOf st i == 0)) = some k := by
    unfold lowFree at h
    cases hf : (List.range st.length).find? (fun i => decide (2 ≤ i) && (stOf st i == 0)) with
    | none => rw [hf] at h; simp at h
    | some k => exact ⟨k, rfl⟩
  obtain ⟨k, hk⟩ := hk
  have e : lowFree st = k := by unfold lowFree; rw [hk]; rfl
  rw [e]
  rw [List.find?_range_eq_some] at hk
  obtain ⟨h1, h2, h3⟩ := hk
  simp only [Bool.and_eq_true, decide_eq_true_eq, beq_iff_eq] at h1
  refine ⟨h1.1, by simpa using h2, h1.2, fun j hj hjk => ?_⟩
  have := h3 j hjk
  simp only [hj, decide_true, Bool.true_and, Bool.not_eq_true', beq_eq_false_iff_ne] at this
  exact this
theorem sealE_range (kind gen : Int) (n : Nat) : 0 ≤ sealE kind gen n ∧ sealE kind gen n ≤ 4 := by
  unfold sealE
  split
  · split <;> omega
  · omega
theorem write_err (D : DS) (i : Int) (l : List Int) (hl : l.length = 512) (hi : 0 ≤ i ∧ i < D.n) : (D.write i l).1 = 0 ∨ (D.write i l).1 = 9 := by
  unfold DS.write
  rw [if_neg (by simp [hl]), if_neg (by simp [hi])]
  split
  · exact .inl rfl
  · exact .inr rfl
theorem bytesAt_of {w : World} {g : Nat} {l : List Int} (h : BAt w (some ⟨g, 0, none⟩) l) (hl : l.length = 512) : BytesAt w (some ⟨g, 0, none⟩) 512 l := ⟨hl, fun _ => ⟨_, rfl, h.cells⟩⟩

set_option maxRecDepth 100000 in
set_option maxHeartbeats 2000000 in
theorem put_at {w0 : World} {B b db gs mb : Nat} {own : List Nat} {P : PS} (h : PAt w0 B b db gs mb own P) (hs : P.D.steps < 1000) (hw : P.D.waits.length < 200) (kind : Int) (s : ByteArray) (hm : s.size ≤ maxLen) :
    Calls Try.prog 31 #[.pointer (some ⟨b, 0, none⟩), .int .i64 kind, .string s] w0 (DidP w0 B b db (b :: gs :: mb :: own) (.tuple #[.int .i64 (P.put kind s).1.1, .int .i64 (P.put kind s).1.2]) (P.put kind s).2) := by
  obtain ⟨c0, c1, c2, c3, c4, c5⟩ := h.cells
  have HR := hid (ready_any h)
  have HH := hid h
  have hg0 := h.g0
  have hg1 := h.g1
  have hmx := h.max
  have HM := hid hm
  have HHS := hid hs
  have HHW := hid hw
  clear hm hs hw
  unfold PS.put
  by_cases hd : P.dead = true
  · rw [if_pos hd] at HR ⊢
    clear h
    go_enter Try.func31, Try.ntmps31
    go_wp2_with (go_at_call 61; refine HR.out.mono ?_; rintro e wa ⟨rfl, rfl⟩)
    go_ret2
    exact DidP.same HH.out
  · rw [if_neg hd] at HR ⊢
    by_cases he : sealE kind (P.gen + 1) s.size ≠ 0
    · rw [if_pos he]
      have he' : (sealE kind (P.gen + 1) s.size != 0) = true := by rw [bne_iff_ne]; exact he
      have HSA := hid (fun w => seal_all kind (P.gen + 1) s w HM.out)
      clear h he
      generalize sealE kind (P.gen + 1) s.size = E1 at he' HSA ⊢
      go_enter Try.func31, Try.ntmps31
      go_wp2_with (go_at_call 61; refine HR.out.mono ?_; rintro e wa ⟨rfl, rfl⟩)
      refine (HSA.out _).mono ?_
      rintro e w1 ⟨v, rfl, ⟨a1, k1, rfl, _⟩, hb1⟩
      have HB := hid hb1
      clear hb1
      go_wp2_with fail
      go_ret2
      exact DidP.at (HH.out.later HB.out) (Kept.ofBelow HB.out _)
    · rw [if_neg he]
      have he0 : sealE kind (P.gen + 1) s.size = 0 := by simpa using he
      obtain ⟨hp1, hp2⟩ := sealE_zero he0
      have HS := hid (seal_yes kind (P.gen + 1) s · hp1.1.1.1 hp1.1.1.2 hp1.1.2 hp1.2 hp2)
      have hln := sealL_length kind (P.gen + 1) (bOf s) (by rw [bOf_length]; exact hp2)
      have hby := byt_seal kind (P.gen + 1) (bOf s) (bOf_range s)
      generalize sealL kind (P.gen + 1) (bOf s) = X at HS hln hby ⊢
      have HLn := hid hln
      have HBy := hid hby
      clear h he he0 hp1 hp2 hln hby
      by_cases hl : lowFree P.st = 0
      · rw [if_pos hl]
        go_enter Try.func31, Try.ntmps31
        go_wp2_with (go_at_call 61; refine HR.out.mono ?_; rintro e wa ⟨rfl, rfl⟩)
        refine (HS.out _).mono ?_
        rintro e w1 ⟨v, rfl, hv, hb1⟩
        obtain ⟨g1, k1, rfl, _⟩ := hv.all HLn.out
        have HB := hid hb1
        clear hb1 hv
        have H1 := hid (HH.out.later HB.out)
        obtain ⟨d0, d1, d2, d3, d4, d5⟩ := H1.out.cells
        have HLF := hid (lowestFree_any H1.out.shAt)
        rw [hl] at HLF
        go_wp2_with (go_at_call 64; refine HLF.out.mono ?_; rintro e wb ⟨rfl, rfl⟩)
        go_ret2
        exact DidP.at H1.out (Kept.ofBelow HB.out _)
      · rw [if_neg hl]
        obtain ⟨hl2, hl3, hl4, _⟩ := lowFree_lt P.st hl
        have HLF0 := hid (fun (w : World) (h : ShAt w b gs P.D.n P.st) => lowestFree_any h)
        generalize lowFree P.st = N at *
        have hN : N < P.D.n := by rw [← HH.out.len]; exact hl3
        have hN0 : ((N : Int) == 0) = false := by rw [beq_eq_false_iff_ne]; omega
        have hNi : (N : Int) < P.D.n := by omega
        obtain ⟨hwg1, hwg2, hwg3⟩ := write_grow P.D N X
        have hwb := HH.out.byt.write N X HBy.out
        have hwe := write_err P.D N X HLn.out ⟨by omega, by omega⟩
        have HWA := hid (fun (w : World) (own : List Nat) (g c : Nat) (hd : Disk w B db own P.D) (hb : BAt w (some ⟨g, 0, none⟩) X) (hg : g ∉ own) => write_all hd HHS.out HHW.out N (some ⟨g, 0, none⟩) 512 c X (by unfold maxLen; omega) (bytesAt_of hb HLn.out) (fun x hx => by cases hx; exact hg))
        generalize P.D.write N X = R at hwg1 hwb hwe HWA ⊢
        obtain ⟨r, D'⟩ := R
        simp only at hwg1 hwb hwe HWA ⊢
        clear hwg2 hwg3 hl hl2 hl3 hl4
        have HG1 := hid hwg1
        have HG2 := hid hwb
        clear hwg1 hwb
        rcases hwe with rfl | rfl
        · rw [if_pos rfl]
          go_enter Try.func31, Try.ntmps31
          go_wp2_with (go_at_call 61; refine HR.out.mono ?_; rintro e wa ⟨rfl, rfl⟩)
          refine (HS.out _).mono ?_
          rintro e w1 ⟨v, rfl, hv, hb1⟩
          obtain ⟨g1, k1, rfl, hg1', hg1'', hba, _⟩ := hv.all HLn.out
          have HB := hid hb1
          have H1 := hid (HH.out.later HB.out)
          have HBA := hid hba
          have HGN : Hid (g1 ∉ own) := fun h => by have := (HH.out.disk.lt g1 h).2; omega
          clear hb1 hv hba hg1' hg1''
          obtain ⟨d0, d1, d2, d3, d4, d5⟩ := H1.out.cells
          have HLF := hid (HLF0.out _ H1.out.shAt)
          go_wp2_with (go_at_call 64; refine HLF.out.mono ?_; rintro e wb ⟨rfl, rfl⟩)
          refine (HWA.out _ own g1 k1 H1.out.disk HBA.out HGN.out).mono ?_
          rintro e w2 ⟨rfl, own', hd2, hk2, hn2⟩
          have H2 := hid (H1.out.setDisk hd2 hk2 hn2 HG1.out HG2.out)
          have HK2 := hid (Kept.trans (Kept.ofBelow HB.out (b :: gs :: mb :: own)) hk2 (fun i _ hi => by simp [hi]))
          have HN2 : Hid (∀ k ∈ own', k ∈ own ∨ wa.heap.size ≤ k) := fun k hk => by
            rcases hn2 k hk with h | h
            · exact .inl h
            · right; have := HB.out.size; omega
          clear hd2 hk2 hn2 d0 d1 d2 d3 d4 d5 HWA HLF HLF0 HS
          go_wp2_with fail
          refine (heard_any H2.out 0).mono ?_
          rintro e w3 ⟨rfl, h3, hk3⟩
          have HK3 := hid ((HK2.out.trans hk3 (fun i _ hi => by simp only [List.mem_singleton] at hi; simp [hi])))
          have H3 := hid h3
          clear h3 hk3
          have e0 : PS.hear { P with D := D' } 0 = { P with D := D' } := rfl
          rw [e0] at H3
          obtain ⟨d0, d1, d2, d3, d4, d5⟩ := H3.out.cells
          have d1' : w3.cell? ⟨b, 1, none⟩ = some (.slice (some ⟨gs, 0, none⟩) P.D.n P.D.n) := by rw [← HG1.out]; exact d1
          have hN' : N < D'.n := by rw [HG1.out]; exact hN
          obtain ⟨y, f2⟩ : ∃ y, w3.cell? ⟨gs, N * 2 + 1, none⟩ = some (.int .i64 y) := ⟨_, (H3.out.shAt.at_ N hN').2⟩
          have f1 := H3.out.shAt.st N hN'
          have hf1 := H3.out.shAt.free (N * 2)
          have hf2 := H3.out.shAt.free (N * 2 + 1)
          simp only at f1
          clear d0 d1 d2 d3 d4 d5
          go_wp2_with fail
          go_ret2
          refine ⟨rfl, b :: gs :: mb :: own', ⟨gs, mb, own', H3.out.setSt (H3.out.shAt.set H3.out.n1 N hN' (2, 0)) (setSh_kept w3 gs N (2, 0)), rfl⟩, HK3.out.trans (setSh_kept w3 gs N (2, 0)) (fun i _ hi => by simp only [List.mem_singleton] at hi; simp [hi]), ?_⟩
          intro k hk
          simp only [List.mem_cons] at hk ⊢
          rcases hk with h | h | h | h
          · simp [h]
          · simp [h]
          · simp [h]
          · rcases HN2.out k h with h | h
            · simp [h]
            · exact .inr h
        · rw [if_neg (by decide)]
          go_enter Try.func31, Try.ntmps31
          go_wp2_with (go_at_call 61; refine HR.out.mono ?_; rintro e wa ⟨rfl, rfl⟩)
          refine (HS.out _).mono ?_
          rintro e w1 ⟨v, rfl, hv, hb1⟩
          obtain ⟨g1, k1, rfl, hg1', hg1'', hba, _⟩ := hv.all HLn.out
          have HB := hid hb1
          have H1 := hid (HH.out.later HB.out)
          have HBA := hid hba
          have HGN : Hid (g1 ∉ own) := fun h => by have := (HH.out.disk.lt g1 h).2; omega
          clear hb1 hv hba hg1' hg1''
          obtain ⟨d0, d1, d2, d3, d4, d5⟩ := H1.out.cells
          have HLF := hid (HLF0.out _ H1.out.shAt)
          go_wp2_with (go_at_call 64; refine HLF.out.mono ?_; rintro e wb ⟨rfl, rfl⟩)
          refine (HWA.out _ own g1 k1 H1.out.disk HBA.out HGN.out).mono ?_
          rintro e w2 ⟨rfl, own', hd2, hk2, hn2⟩
          have H2 := hid (H1.out.setDisk hd2 hk2 hn2 HG1.out HG2.out)
          have HK2 := hid (Kept.trans (Kept.ofBelow HB.out (b :: gs :: mb :: own)) hk2 (fun i _ hi => by simp [hi]))
          have HN2 : Hid (∀ k ∈ own', k ∈ own ∨ wa.heap.size ≤ k) := fun k hk => by
            rcases hn2 k hk with h | h
            · exact .inl h
            · right; have := HB.out.size; omega
          clear hd2 hk2 hn2 d0 d1 d2 d3 d4 d5 HWA HLF HLF0 HS
          go_wp2_with fail
          refine (heard_any H2.out 9).mono ?_
          rintro e w3 ⟨rfl, h3, hk3⟩
          have HK3 := hid ((HK2.out.trans hk3 (fun i _ hi => by simp only [List.mem_singleton] at hi; simp [hi])))
          have H3 := hid h3
          clear h3 hk3
          go_wp2_with fail
          go_ret2
          refine ⟨rfl, b :: gs :: mb :: own', ⟨gs, mb, own', H3.out, rfl⟩, HK3.out, ?_⟩
          intro k hk
          simp only [List.mem_cons] at hk ⊢
          rcases hk with h | h | h | h
          · simp [h]
          · simp [h]
          · simp [h]
          · rcases HN2.out k h with h | h
            · simp [h]
            · exact .inr h
end Go.Proofs.Ytambgimfbdecpaa
