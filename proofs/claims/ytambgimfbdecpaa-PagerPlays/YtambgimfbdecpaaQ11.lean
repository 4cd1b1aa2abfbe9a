/- What this text holds: Put and Read of a pager. · What this text holds: Commit of a pager. · What this text holds: Read of a pager. -/
import Derived.Test.YtambgimfbdecpaaQ10
namespace Go.Proofs.Ytambgimfbdecpaa
open Go.RowKit Go.Maps
set_option linter.unusedVariables false

/-- Put. -/
def PS.put (P : PS) (kind : Int) (s : ByteArray) : (Int × Int) × PS :=
  if P.dead = true then ((0, 9), P) else if sealE kind (P.gen + 1) s.size ≠ 0 then ((0, sealE kind (P.gen + 1) s.size), P) else if lowFree P.st = 0 then ((0, 6), P)
  else if (P.D.write (lowFree P.st) (sealL kind (P.gen + 1) (bOf s))).1 = 0 then ((lowFree P.st, 0), { P with D := (P.D.write (lowFree P.st) (sealL kind (P.gen + 1) (bOf s))).2, st := P.st.set (lowFree P.st) (2, 0) })
  else ((0, (P.D.write (lowFree P.st) (sealL kind (P.gen + 1) (bOf s))).1), PS.hear { P with D := (P.D.write (lowFree P.st) (sealL kind (P.gen + 1) (bOf s))).2 } (P.D.write (lowFree P.st) (sealL kind (P.gen + 1) (bOf s))).1)

theorem lowFree_lt (st : List (Int × Int)) (h : lowFree st ≠ 0) : 2 ≤ lowFree st ∧ lowFree st < st.length ∧ stOf st (lowFree st) = 0 ∧ ∀ j, 2 ≤ j → j < lowFree st → stOf st j ≠ 0 := by
  have hk : ∃ k, (List.range st.length).find? (fun i => decide (2 ≤ i) && (stOf st i == 0)) = some k := by
    unfold lowFree at h
    cases hf : (List.range st.length).find? (fun i => decide (2 ≤ i) && (stOf st i == 0)) with
    | none => rw [hf] at h; simp at h
    | some k => exact ⟨k, rfl⟩
  obtain ⟨k, hk⟩ := hk
  have e : lowFree st = k := by unfold lowFree; rw [hk]; rfl
  rw [e]
  rw [List.find?_range_eq_some] at hk
  obtain ⟨h1, h2, h3⟩ := hk
  simp only [Bool.and_eq_true, decide_eq_true_eq, beq_iff_eq] at h1
  refine ⟨h1.1, by simpa using h2, h1.2, fun j hj hjk => ?_⟩
  have := h3 j hjk
  simp only [hj, decide_true, Bool.true_and, Bool.not_eq_true', beq_eq_false_iff_ne] at this
  exact this
theorem sealE_range (kind gen : Int) (n : Nat) : 0 ≤ sealE kind gen n ∧ sealE kind gen n ≤ 4 := by
  unfold sealE
  split
  · split <;> omega
  · omega
theorem write_err (D : DS) (i : Int) (l : List Int) (hl : l.length = 512) (hi : 0 ≤ i ∧ i < D.n) : (D.write i l).1 = 0 ∨ (D.write i l).1 = 9 := by
  unfold DS.write
  rw [if_neg (by simp [hl]), if_neg (by simp [hi])]
  split
  · exact .inl rfl
  · exact .inr rfl
theorem bytesAt_of {w : World} {g : Nat} {l : List Int} (h : BAt w (some ⟨g, 0, none⟩) l) (hl : l.length = 512) : BytesAt w (some ⟨g, 0, none⟩) 512 l := ⟨hl, fun _ => ⟨_, rfl, h.cells⟩⟩

set_option maxRecDepth 100000 in
set_option maxHeartbeats 2000000 in
theorem put_at {w0 : World} {B b db gs mb : Nat} {own : List Nat} {P : PS} (h : PAt w0 B b db gs mb own P) (hs : P.D.steps < 1000) (hw : P.D.waits.length < 200) (kind : Int) (s : ByteArray) (hm : s.size ≤ maxLen) :
    Calls Try.prog 31 #[.pointer (some ⟨b, 0, none⟩), .int .i64 kind, .string s] w0 (DidP w0 B b db (b :: gs :: mb :: own) (.tuple #[.int .i64 (P.put kind s).1.1, .int .i64 (P.put kind s).1.2]) (P.put kind s).2) := by
  obtain ⟨c0, c1, c2, c3, c4, c5⟩ := h.cells
  have HR := hid (ready_any h)
  have HH := hid h
  have hg0 := h.g0
  have hg1 := h.g1
  have hmx := h.max
  have HM := hid hm
  have HHS := hid hs
  have HHW := hid hw
  clear hm hs hw
  unfold PS.put
  by_cases hd : P.dead = true
  · rw [if_pos hd] at HR ⊢
    clear h
    go_enter Try.func31, Try.ntmps31
    go_wp2_with (go_at_call 61; refine HR.out.mono ?_; rintro e wa ⟨rfl, rfl⟩)
    go_ret2
    exact DidP.same HH.out
  · rw [if_neg hd] at HR ⊢
    by_cases he : sealE kind (P.gen + 1) s.size ≠ 0
    · rw [if_pos he]
      have he' : (sealE kind (P.gen + 1) s.size != 0) = true := by rw [bne_iff_ne]; exact he
      have HSA := hid (fun w => seal_all kind (P.gen + 1) s w HM.out)
      clear h he
      generalize sealE kind (P.gen + 1) s.size = E1 at he' HSA ⊢
      go_enter Try.func31, Try.ntmps31
      go_wp2_with (go_at_call 61; refine HR.out.mono ?_; rintro e wa ⟨rfl, rfl⟩)
      refine (HSA.out _).mono ?_
      rintro e w1 ⟨v, rfl, ⟨a1, k1, rfl, _⟩, hb1⟩
      have HB := hid hb1
      clear hb1
      go_wp2_with fail
      go_ret2
      exact DidP.at (HH.out.later HB.out) (Kept.ofBelow HB.out _)
    · rw [if_neg he]
      have he0 : sealE kind (P.gen + 1) s.size = 0 := by simpa using he
      obtain ⟨hp1, hp2⟩ := sealE_zero he0
      have HS := hid (seal_yes kind (P.gen + 1) s · hp1.1.1.1 hp1.1.1.2 hp1.1.2 hp1.2 hp2)
      have hln := sealL_length kind (P.gen + 1) (bOf s) (by rw [bOf_length]; exact hp2)
      have hby := byt_seal kind (P.gen + 1) (bOf s) (bOf_range s)
      generalize sealL kind (P.gen + 1) (bOf s) = X at HS hln hby ⊢
      have HLn := hid hln
      have HBy := hid hby
      clear h he he0 hp1 hp2 hln hby
      by_cases hl : lowFree P.st = 0
      · rw [if_pos hl]
        go_enter Try.func31, Try.ntmps31
        go_wp2_with (go_at_call 61; refine HR.out.mono ?_; rintro e wa ⟨rfl, rfl⟩)
        refine (HS.out _).mono ?_
        rintro e w1 ⟨v, rfl, hv, hb1⟩
        obtain ⟨g1, k1, rfl, _⟩ := hv.all HLn.out
        have HB := hid hb1
        clear hb1 hv
        have H1 := hid (HH.out.later HB.out)
        obtain ⟨d0, d1, d2, d3, d4, d5⟩ := H1.out.cells
        have HLF := hid (lowestFree_any H1.out.shAt)
        rw [hl] at HLF
        go_wp2_with (go_at_call 64; refine HLF.out.mono ?_; rintro e wb ⟨rfl, rfl⟩)
        go_ret2
        exact DidP.at H1.out (Kept.ofBelow HB.out _)
      · rw [if_neg hl]
        obtain ⟨hl2, hl3, hl4, _⟩ := lowFree_lt P.st hl
        have HLF0 := hid (fun (w : World) (h : ShAt w b gs P.D.n P.st) => lowestFree_any h)
        generalize lowFree P.st = N at *
        have hN : N < P.D.n := by rw [← HH.out.len]; exact hl3
        have hN0 : ((N : Int) == 0) = false := by rw [beq_eq_false_iff_ne]; omega
        have hNi : (N : Int) < P.D.n := by omega
        obtain ⟨hwg1, hwg2, hwg3⟩ := write_grow P.D N X
        have hwb := HH.out.byt.write N X HBy.out
        have hwe := write_err P.D N X HLn.out ⟨by omega, by omega⟩
        have HWA := hid (fun (w : World) (own : List Nat) (g c : Nat) (hd : Disk w B db own P.D) (hb : BAt w (some ⟨g, 0, none⟩) X) (hg : g ∉ own) => write_all hd HHS.out HHW.out N (some ⟨g, 0, none⟩) 512 c X (by unfold maxLen; omega) (bytesAt_of hb HLn.out) (fun x hx => by cases hx; exact hg))
        generalize P.D.write N X = R at hwg1 hwb hwe HWA ⊢
        obtain ⟨r, D'⟩ := R
        simp only at hwg1 hwb hwe HWA ⊢
        clear hwg2 hwg3 hl hl2 hl3 hl4
        have HG1 := hid hwg1
        have HG2 := hid hwb
        clear hwg1 hwb
        rcases hwe with rfl | rfl
        · rw [if_pos rfl]
          go_enter Try.func31, Try.ntmps31
          go_wp2_with (go_at_call 61; refine HR.out.mono ?_; rintro e wa ⟨rfl, rfl⟩)
          refine (HS.out _).mono ?_
          rintro e w1 ⟨v, rfl, hv, hb1⟩
          obtain ⟨g1, k1, rfl, hg1', hg1'', hba, _⟩ := hv.all HLn.out
          have HB := hid hb1
          have H1 := hid (HH.out.later HB.out)
          have HBA := hid hba
          have HGN : Hid (g1 ∉ own) := fun h => by have := (HH.out.disk.lt g1 h).2; omega
          clear hb1 hv hba hg1' hg1''
          obtain ⟨d0, d1, d2, d3, d4, d5⟩ := H1.out.cells
          have HLF := hid (HLF0.out _ H1.out.shAt)
          go_wp2_with (go_at_call 64; refine HLF.out.mono ?_; rintro e wb ⟨rfl, rfl⟩)
          refine (HWA.out _ own g1 k1 H1.out.disk HBA.out HGN.out).mono ?_
          rintro e w2 ⟨rfl, own', hd2, hk2, hn2⟩
          have H2 := hid (H1.out.setDisk hd2 hk2 hn2 HG1.out HG2.out)
          have HK2 := hid (Kept.trans (Kept.ofBelow HB.out (b :: gs :: mb :: own)) hk2 (fun i _ hi => by simp [hi]))
          have HN2 : Hid (∀ k ∈ own', k ∈ own ∨ wa.heap.size ≤ k) := fun k hk => by
            rcases hn2 k hk with h | h
            · exact .inl h
            · right; have := HB.out.size; omega
          clear hd2 hk2 hn2 d0 d1 d2 d3 d4 d5 HWA HLF HLF0 HS
          go_wp2_with fail
          refine (heard_any H2.out 0).mono ?_
          rintro e w3 ⟨rfl, h3, hk3⟩
          have HK3 := hid ((HK2.out.trans hk3 (fun i _ hi => by simp only [List.mem_singleton] at hi; simp [hi])))
          have H3 := hid h3
          clear h3 hk3
          have e0 : PS.hear { P with D := D' } 0 = { P with D := D' } := rfl
          rw [e0] at H3
          obtain ⟨d0, d1, d2, d3, d4, d5⟩ := H3.out.cells
          have d1' : w3.cell? ⟨b, 1, none⟩ = some (.slice (some ⟨gs, 0, none⟩) P.D.n P.D.n) := by rw [← HG1.out]; exact d1
          have hN' : N < D'.n := by rw [HG1.out]; exact hN
          obtain ⟨y, f2⟩ : ∃ y, w3.cell? ⟨gs, N * 2 + 1, none⟩ = some (.int .i64 y) := ⟨_, (H3.out.shAt.at_ N hN').2⟩
          have f1 := H3.out.shAt.st N hN'
          have hf1 := H3.out.shAt.free (N * 2)
          have hf2 := H3.out.shAt.free (N * 2 + 1)
          simp only at f1
          clear d0 d1 d2 d3 d4 d5
          go_wp2_with fail
          go_ret2
          refine ⟨rfl, b :: gs :: mb :: own', ⟨gs, mb, own', H3.out.setSt (H3.out.shAt.set H3.out.n1 N hN' (2, 0)) (setSh_kept w3 gs N (2, 0)), rfl⟩, HK3.out.trans (setSh_kept w3 gs N (2, 0)) (fun i _ hi => by simp only [List.mem_singleton] at hi; simp [hi]), ?_⟩
          intro k hk
          simp only [List.mem_cons] at hk ⊢
          rcases hk with h | h | h | h
          · simp [h]
          · simp [h]
          · simp [h]
          · rcases HN2.out k h with h | h
            · simp [h]
            · exact .inr h
        · rw [if_neg (by decide)]
          go_enter Try.func31, Try.ntmps31
          go_wp2_with (go_at_call 61; refine HR.out.mono ?_; rintro e wa ⟨rfl, rfl⟩)
          refine (HS.out _).mono ?_
          rintro e w1 ⟨v, rfl, hv, hb1⟩
          obtain ⟨g1, k1, rfl, hg1', hg1'', hba, _⟩ := hv.all HLn.out
          have HB := hid hb1
          have H1 := hid (HH.out.later HB.out)
          have HBA := hid hba
          have HGN : Hid (g1 ∉ own) := fun h => by have := (HH.out.disk.lt g1 h).2; omega
          clear hb1 hv hba hg1' hg1''
          obtain ⟨d0, d1, d2, d3, d4, d5⟩ := H1.out.cells
          have HLF := hid (HLF0.out _ H1.out.shAt)
          go_wp2_with (go_at_call 64; refine HLF.out.mono ?_; rintro e wb ⟨rfl, rfl⟩)
          refine (HWA.out _ own g1 k1 H1.out.disk HBA.out HGN.out).mono ?_
          rintro e w2 ⟨rfl, own', hd2, hk2, hn2⟩
          have H2 := hid (H1.out.setDisk hd2 hk2 hn2 HG1.out HG2.out)
          have HK2 := hid (Kept.trans (Kept.ofBelow HB.out (b :: gs :: mb :: own)) hk2 (fun i _ hi => by simp [hi]))
          have HN2 : Hid (∀ k ∈ own', k ∈ own ∨ wa.heap.size ≤ k) := fun k hk => by
            rcases hn2 k hk with h | h
            · exact .inl h
            · right; have := HB.out.size; omega
          clear hd2 hk2 hn2 d0 d1 d2 d3 d4 d5 HWA HLF HLF0 HS
          go_wp2_with fail
          refine (heard_any H2.out 9).mono ?_
          rintro e w3 ⟨rfl, h3, hk3⟩
          have HK3 := hid ((HK2.out.trans hk3 (fun i _ hi => by simp only [List.mem_singleton] at hi; simp [hi])))
          have H3 := hid h3
          clear h3 hk3
          go_wp2_with fail
          go_ret2
          refine ⟨rfl, b :: gs :: mb :: own', ⟨gs, mb, own', H3.out, rfl⟩, HK3.out, ?_⟩
          intro k hk
          simp only [List.mem_cons] at hk ⊢
          rcases hk with h | h | h | h
          · simp [h]
          · simp [h]
          · simp [h]
          · rcases HN2.out k h with h | h
            · simp [h]
            · exact .inr h
end Go.Proofs.Ytambgimfbdecpaa
namespace Go.Proofs.Ytambgimfbdecpaa
open Go.RowKit Go.Maps
set_option linter.unusedVariables false

/-- What layRoot answers, and the disk behind it. -/
def DS.layRoot (D : DS) (g : Int) (X : List Int) : Int × DS :=
  if D.flush.1 = 0 then (if (D.flush.2.write (g % 2) X).1 = 0 then (D.flush.2.write (g % 2) X).2.flush else D.flush.2.write (g % 2) X) else D.flush
theorem tmod2 (g : Int) (h : 0 ≤ g) : 0 ≤ g % 2 ∧ g % 2 < 2 := by omega

/-- The disk beneath a pager did something. -/
def DidD (w : World) (B b db gs mb : Nat) (own : List Nat) (P : PS) (r : Int) (D' : DS) (e : Ending) (w' : World) : Prop :=
  e = .returned (.int .i64 r) ∧ ∃ own', PAt w' B b db gs mb own' { P with D := D' } ∧ Kept own w w' ∧ ∀ k ∈ own', k ∈ own ∨ w.heap.size ≤ k

theorem DidD.of {w w' : World} {B b db gs mb : Nat} {own : List Nat} {P : PS} {r : Int} {D' : DS} {e : Ending} (h : PAt w B b db gs mb own P) (hd : Did w B db own r D' e w') (hn : D'.n = P.D.n) (hy : D'.byt) : DidD w B b db gs mb own P r D' e w' := by
  obtain ⟨rfl, own', h1, h2, h3⟩ := hd
  exact ⟨rfl, own', h.setDisk h1 h2 h3 hn hy, h2, h3⟩
theorem DidD.trans {w w1 w2 : World} {B b db gs mb : Nat} {own own1 : List Nat} {P : PS} {r : Int} {D' : DS} {e : Ending} (hk : Kept own w w1) (hn : ∀ k ∈ own1, k ∈ own ∨ w.heap.size ≤ k) (h : DidD w1 B b db gs mb own1 P r D' e w2) : DidD w B b db gs mb own P r D' e w2 := by
  obtain ⟨rfl, own2, h1, h2, h3⟩ := h
  refine ⟨rfl, own2, h1, hk.trans h2 (fun i hi hm => ?_), fun k hk' => ?_⟩
  · rcases hn i hm with h | h
    · exact h
    · omega
  · rcases h3 k hk' with h | h
    · exact hn k h
    · right; have := hk.size; omega

theorem flush_d {w : World} {B b db gs mb : Nat} {own : List Nat} {P : PS} (h : PAt w B b db gs mb own P) (hs : P.D.steps < 1000) :
    Calls Try.prog 92 #[.pointer (some ⟨db, 0, none⟩)] w (DidD w B b db gs mb own P P.D.flush.1 P.D.flush.2) :=
  (flush_all h.disk hs).mono fun _ _ hd => DidD.of h hd (flush_grow _).1 h.byt.flush
theorem write_d {w : World} {B b db gs mb : Nat} {own : List Nat} {P : PS} (h : PAt w B b db gs mb own P) (hs : P.D.steps < 1000) (hw : P.D.waits.length < 200) (i : Int) (q c : Nat) (X : List Int) (hX : X.length = 512) (hy : Byt X) (hq : BAt w (some ⟨q, 0, none⟩) X) (hqo : q ∉ own) :
    Calls Try.prog 21 #[.pointer (some ⟨db, 0, none⟩), .int .i64 i, .slice (some ⟨q, 0, none⟩) 512 c] w (DidD w B b db gs mb own P (P.D.write i X).1 (P.D.write i X).2) :=
  (write_all h.disk hs hw i (some ⟨q, 0, none⟩) 512 c X (by unfold maxLen; omega) (bytesAt_of hq hX) (fun x hx => by cases hx; exact hqo)).mono fun _ _ hd => DidD.of h hd (write_grow _ _ _).1 (h.byt.write i X hy)

theorem BAt.keep {w w' : World} {q : Nat} {l : List Int} (h : BAt w (some ⟨q, 0, none⟩) l) {S : List Nat} (k : Kept S w w') (hq : q ∉ S) : BAt w' (some ⟨q, 0, none⟩) l := by
  intro j x hx
  obtain ⟨p, hp, hc⟩ := h j x hx
  cases hp
  refine ⟨_, rfl, k.cell hc ?_⟩
  rw [Addr.add_mid]
  exact hq

set_option maxRecDepth 100000 in
set_option maxHeartbeats 2000000 in
theorem layRoot_at {w : World} {B b db gs mb : Nat} {own : List Nat} {P : PS} (h : PAt w B b db gs mb own P) (hs : P.D.steps + 3 ≤ 1000) (g : Int) (hg : 0 ≤ g) (q c : Nat) (X : List Int) (hX : X.length = 512) (hy : Byt X) (hq : BAt w (some ⟨q, 0, none⟩) X) (hqo : q ∉ own) (hql : q < w.heap.size) :
    Calls Try.prog 67 #[.pointer (some ⟨b, 0, none⟩), .int .i64 g, .slice (some ⟨q, 0, none⟩) 512 c] w (DidD w B b db gs mb own P (P.D.layRoot g X).1 (P.D.layRoot g X).2) := by
  obtain ⟨c0, c1, c2, c3, c4, c5⟩ := h.cells
  have HH := hid h
  have hg2 := tmod2 g hg
  have hF := flush_grow P.D
  have hFe := flush_err P.D
  have HF := hid (flush_d h (by omega))
  have n4 := h.n4
  unfold DS.layRoot
  generalize P.D.flush = F at *
  obtain ⟨f, D1⟩ := F
  simp only at *
  rcases hFe with rfl | rfl
  · rw [if_pos rfl]
    have hw0 : D1.waits = [] := hF.2.2.2 rfl
    have hW := write_grow D1 (g % 2) X
    have hWe := write_err D1 (g % 2) X hX ⟨hg2.1, by omega⟩
    have HW : Hid (∀ (w1 : World) (own1 : List Nat), PAt w1 B b db gs mb own1 { P with D := D1 } → Kept own w w1 → (∀ k ∈ own1, k ∈ own ∨ w.heap.size ≤ k) → Calls Try.prog 21 #[.pointer (some ⟨db, 0, none⟩), .int .i64 (g % 2), .slice (some ⟨q, 0, none⟩) 512 c] w1 (DidD w B b db gs mb own P (D1.write (g % 2) X).1 (D1.write (g % 2) X).2)) := by
      intro w1 own1 h1 hk1 hn1
      refine (write_d h1 (by have := hF.2.1; simp only; omega) (by rw [hw0]; decide) (g % 2) q c X hX hy (hq.keep hk1 hqo) (fun h => ?_)).mono fun _ _ hD => DidD.trans hk1 hn1 hD
      rcases hn1 q h with h | h
      · exact hqo h
      · omega
    generalize D1.write (g % 2) X = W at *
    obtain ⟨r, D2⟩ := W
    simp only at *
    rcases hWe with rfl | rfl
    · rw [if_pos rfl]
      have HL : Hid (∀ (w1 : World) (own1 : List Nat), PAt w1 B b db gs mb own1 { P with D := D2 } → Kept own w w1 → (∀ k ∈ own1, k ∈ own ∨ w.heap.size ≤ k) → Calls Try.prog 92 #[.pointer (some ⟨db, 0, none⟩)] w1 (DidD w B b db gs mb own P D2.flush.1 D2.flush.2)) := by
        intro w1 own1 h1 hk1 hn1
        exact (flush_d h1 (by have := hW.2.1; have := hF.2.1; simp only; omega)).mono fun _ _ hD => DidD.trans hk1 hn1 hD
      generalize D2.flush = L at *
      obtain ⟨l, D3⟩ := L
      simp only at *
      clear h hF hW hy hX hq hqo hw0 hs n4
      go_enter Try.func67, Try.ntmps67
      go_wp2_with fail
      refine HF.out.mono ?_
      rintro e w1 ⟨rfl, own1, h1, hk1, hn1⟩
      have H1 := hid h1
      have HK1 := hid hk1
      have HN1 := hid hn1
      obtain ⟨d0, _⟩ := h1.cells
      clear h1 hk1 hn1
      go_wp2_with fail
      refine (HW.out _ own1 H1.out HK1.out HN1.out).mono ?_
      rintro e w2 ⟨rfl, own2, h2, hk2, hn2⟩
      have H2 := hid h2
      have HK2 := hid hk2
      have HN2 := hid hn2
      obtain ⟨e0, _⟩ := h2.cells
      clear h2 hk2 hn2
      go_wp2_with fail
      refine (HL.out _ own2 H2.out HK2.out HN2.out).mono ?_
      rintro e w3 ⟨rfl, rest⟩
      have HRest := hid rest
      clear rest
      go_wp2_with fail
      go_ret
      exact ⟨rfl, HRest.out⟩
    · rw [if_neg (by decide)]
      clear h hF hW hy hX hq hqo hw0 hs n4
      go_enter Try.func67, Try.ntmps67
      go_wp2_with fail
      refine HF.out.mono ?_
      rintro e w1 ⟨rfl, own1, h1, hk1, hn1⟩
      have H1 := hid h1
      have HK1 := hid hk1
      have HN1 := hid hn1
      obtain ⟨d0, _⟩ := h1.cells
      clear h1 hk1 hn1
      go_wp2_with fail
      refine (HW.out _ own1 H1.out HK1.out HN1.out).mono ?_
      rintro e w2 ⟨rfl, rest⟩
      have HRest := hid rest
      clear rest
      go_wp2_with fail
      go_ret
      exact ⟨rfl, HRest.out⟩
  · rw [if_neg (by decide)]
    clear h hF hy hX hq hqo hs n4
    go_enter Try.func67, Try.ntmps67
    go_wp2_with fail
    refine HF.out.mono ?_
    rintro e w1 ⟨rfl, rest⟩
    have HRest := hid rest
    clear rest
    go_wp2_with fail
    go_ret
    exact ⟨rfl, HRest.out⟩

/-- Commit. -/
def PS.commit (P : PS) (s : ByteArray) : Int × PS :=
  if P.dead = true then (9, P) else if rootE (P.gen + 1) s.size ≠ 0 then (rootE (P.gen + 1) s.size, P)
  else if (P.D.layRoot (P.gen + 1) (rootL (P.gen + 1) (bOf s))).1 = 0 then
    (0, { P with D := (P.D.layRoot (P.gen + 1) (rootL (P.gen + 1) (bOf s))).2, gen := P.gen + 1, root := s, st := ((P.st.map (turnF 2 (1, 0))).map (turnF 3 (4, P.gen + 1))).map (relF (lowPin P.pins (P.gen + 1))) })
  else ((P.D.layRoot (P.gen + 1) (rootL (P.gen + 1) (bOf s))).1, PS.hear { P with D := (P.D.layRoot (P.gen + 1) (rootL (P.gen + 1) (bOf s))).2 } (P.D.layRoot (P.gen + 1) (rootL (P.gen + 1) (bOf s))).1)

theorem layRoot_err (D : DS) (g : Int) (X : List Int) (hX : X.length = 512) (hg : 0 ≤ g) (hn : 2 ≤ D.n) : (D.layRoot g X).1 = 0 ∨ (D.layRoot g X).1 = 9 := by
  unfold DS.layRoot
  split
  · split
    · exact flush_err _
    · exact write_err _ _ _ hX ⟨(tmod2 g hg).1, by rw [(flush_grow D).1]; have := (tmod2 g hg).2; omega⟩
  · exact flush_err _
theorem rootE_range (gen : Int) (n : Nat) : 0 ≤ rootE gen n ∧ rootE gen n ≤ 4 := by
  unfold rootE
  split
  · split <;> omega
  · omega
/-- What a call keeps, of blocks that are new or were its own. -/
theorem DidP.d {w w1 w' : World} {B b db gs mb : Nat} {own own' : List Nat} {P' : PS} {v : Value} (hb : Below w.heap.size w w1) (hk : Kept own w1 w') (hn : ∀ k ∈ own', k ∈ own ∨ w1.heap.size ≤ k) {w2 : World} (hk2 : Kept [b, gs, mb] w' w2) (h : PAt w2 B b db gs mb own' P') :
    DidP w B b db (b :: gs :: mb :: own) v P' (.returned v) w2 := by
  refine ⟨rfl, b :: gs :: mb :: own', ⟨gs, mb, own', h, rfl⟩, ((Kept.ofBelow hb _).trans hk (fun i _ hi => by simp [hi])).trans hk2 (fun i _ hi => by simp only [List.mem_cons, List.not_mem_nil, or_false] at hi ⊢; rcases hi with h | h | h <;> simp [h]), ?_⟩
  intro k hk'
  simp only [List.mem_cons] at hk' ⊢
  rcases hk' with h | h | h | h
  · simp [h]
  · simp [h]
  · simp [h]
  · rcases hn k h with h | h
    · simp [h]
    · right; have := hb.size; omega

set_option maxRecDepth 100000 in
set_option maxHeartbeats 2000000 in
theorem commit_at {w0 : World} {B b db gs mb : Nat} {own : List Nat} {P : PS} (h : PAt w0 B b db gs mb own P) (hs : P.D.steps + 3 ≤ 1000) (s : ByteArray) (hm : s.size ≤ maxLen) :
    Calls Try.prog 32 #[.pointer (some ⟨b, 0, none⟩), .string s] w0 (DidP w0 B b db (b :: gs :: mb :: own) (.int .i64 (P.commit s).1) (P.commit s).2) := by
  obtain ⟨c0, c1, c2, c3, c4, c5⟩ := h.cells
  have HR := hid (ready_any h)
  have HH := hid h
  have hg0 := h.g0
  have hg1 := h.g1
  have hmx := h.max
  have n4 := h.n4
  have HM := hid hm
  have HHS := hid hs
  clear hm hs
  unfold PS.commit
  by_cases hd : P.dead = true
  · rw [if_pos hd] at HR ⊢
    clear h
    go_enter Try.func32, Try.ntmps32
    go_wp2_with (go_at_call 61; refine HR.out.mono ?_; rintro e wa ⟨rfl, rfl⟩)
    go_ret
    exact DidP.same HH.out
  · rw [if_neg hd] at HR ⊢
    by_cases he : rootE (P.gen + 1) s.size ≠ 0
    · rw [if_pos he]
      have he' : (rootE (P.gen + 1) s.size != 0) = true := by rw [bne_iff_ne]; exact he
      have HSA := hid (fun w => root_all (P.gen + 1) s w HM.out)
      clear h he
      generalize rootE (P.gen + 1) s.size = E1 at he' HSA ⊢
      go_enter Try.func32, Try.ntmps32
      go_wp2_with (go_at_call 61; refine HR.out.mono ?_; rintro e wa ⟨rfl, rfl⟩)
      refine (HSA.out _).mono ?_
      rintro e w1 ⟨v, rfl, ⟨a1, k1, rfl, _⟩, hb1⟩
      have HB := hid hb1
      clear hb1
      go_wp2_with fail
      go_ret
      exact DidP.at (HH.out.later HB.out) (Kept.ofBelow HB.out _)
    · rw [if_neg he]
      have he0 : rootE (P.gen + 1) s.size = 0 := by simpa using he
      obtain ⟨hp1, hp2⟩ := rootE_zero he0
      have HS := hid (root_yes (P.gen + 1) s · hp1.1 hp1.2 hp2)
      have hgN : P.gen + 1 ≤ 4611686018427387904 := hp1.2
      have hln := rootL_length (P.gen + 1) (bOf s) (by rw [bOf_length]; omega)
      have hby := byt_root (P.gen + 1) (bOf s) (bOf_range s)
      generalize rootL (P.gen + 1) (bOf s) = X at HS hln hby ⊢
      have hre := layRoot_err P.D (P.gen + 1) X hln (by omega) (by omega)
      have HLR := hid (fun (w : World) (q c : Nat) (hd : PAt w B b db gs mb own P) (hb : BAt w (some ⟨q, 0, none⟩) X) (hg : q ∉ own) (hl : q < w.heap.size) => layRoot_at hd HHS.out (P.gen + 1) (by omega) q c X hln hby hb hg hl)
      have HLn := hid hln
      generalize P.D.layRoot (P.gen + 1) X = R at hre HLR ⊢
      obtain ⟨r, D'⟩ := R
      simp only at hre HLR ⊢
      clear h he he0 hp1 hp2 hln hby n4 HHS HM
      rcases hre with rfl | rfl
      · rw [if_pos rfl]
        go_enter Try.func32, Try.ntmps32
        go_wp2_with (go_at_call 61; refine HR.out.mono ?_; rintro e wa ⟨rfl, rfl⟩)
        refine (HS.out _).mono ?_
        rintro e w1 ⟨v, rfl, hv, hb1⟩
        obtain ⟨g1, k1, rfl, hg1', hg1'', hba, _⟩ := hv.all HLn.out
        have HB := hid hb1
        have H1 := hid (HH.out.later HB.out)
        have HBA := hid hba
        have HGN : Hid (g1 ∉ own) := fun h => by have := (HH.out.disk.lt g1 h).2; omega
        have HGL := hid hg1''
        clear hb1 hv hba hg1' hg1''
        go_wp2_with fail
        refine (HLR.out _ g1 k1 H1.out HBA.out HGN.out HGL.out).mono ?_
        rintro e w2 ⟨rfl, own', h2, hk2, hn2⟩
        have H2 := hid h2
        have HK2 := hid hk2
        have HN2 := hid hn2
        clear h2 hk2 hn2 HLR HS
        go_wp2_with fail
        refine (heard_any H2.out 0).mono ?_
        rintro e w3 ⟨rfl, h3, hk3⟩
        have H3 : Hid (PAt w3 B b db gs mb own' { P with D := D' }) := h3
        have HK3 := hid hk3
        obtain ⟨d0, d1, d2, d3, d4, d5⟩ := H3.out.cells
        have df3 := H3.out.free 3
        have df4 := H3.out.free 4
        have H4 := hid (H3.out.setRoot (P.gen + 1) s (by omega) hgN)
        have HK4 := hid (HK3.out.trans ((Kept.setCell [b] w3 ⟨b, 3, none⟩ (.int .i64 (P.gen + 1)) (by simp)).trans (Kept.setCell [b] _ ⟨b, 4, none⟩ (.string s) (by simp)) (fun _ _ h => h)) (fun _ _ h => h))
        clear h3 hk3 HK3
        simp only at d0 d1 d2 d3 d4 d5
        go_wp2_with fail
        refine (turn_any H4.out.shAt H4.out.n1 2 1 0).mono ?_
        rintro e w5 ⟨rfl, hs5, hk5⟩
        have H5 := hid (H4.out.setSt hs5 hk5)
        have HK5 := hid ((HK4.out.mono (T := [b, gs, mb]) (fun i _ hi => by simp only [List.mem_singleton] at hi; simp [hi])).trans hk5 (fun i _ hi => by simp only [List.mem_singleton] at hi; simp [hi]))
        clear hs5 hk5 d0 d1 d2 d3 d4 d5 df3 df4 HK4
        go_wp2_with fail
        refine (turn_any H5.out.shAt H5.out.n1 3 4 (P.gen + 1)).mono ?_
        rintro e w6 ⟨rfl, hs6, hk6⟩
        have H6 := hid (H5.out.setSt hs6 hk6)
        have HK6 := hid (HK5.out.trans hk6 (fun i _ hi => by simp only [List.mem_singleton] at hi; simp [hi]))
        clear hs6 hk6 HK5
        go_wp2_with fail
        refine (release_any H6.out.shAt H6.out.pins H6.out.n1 H6.out.n2 H6.out.cells.2.2.1 H6.out.cells.2.2.2.1).mono ?_
        rintro e w7 ⟨rfl, hs7, hk7⟩
        have H7 := hid (H6.out.setSt hs7 hk7)
        have HK7 := hid (HK6.out.trans hk7 (fun i _ hi => by simp only [List.mem_singleton] at hi; simp [hi]))
        clear hs7 hk7 HK6
        go_wp2_with fail
        go_ret
        exact DidP.d HB.out HK2.out HN2.out HK7.out H7.out
      · rw [if_neg (by decide)]
        go_enter Try.func32, Try.ntmps32
        go_wp2_with (go_at_call 61; refine HR.out.mono ?_; rintro e wa ⟨rfl, rfl⟩)
        refine (HS.out _).mono ?_
        rintro e w1 ⟨v, rfl, hv, hb1⟩
        obtain ⟨g1, k1, rfl, hg1', hg1'', hba, _⟩ := hv.all HLn.out
        have HB := hid hb1
        have H1 := hid (HH.out.later HB.out)
        have HBA := hid hba
        have HGN : Hid (g1 ∉ own) := fun h => by have := (HH.out.disk.lt g1 h).2; omega
        have HGL := hid hg1''
        clear hb1 hv hba hg1' hg1''
        go_wp2_with fail
        refine (HLR.out _ g1 k1 H1.out HBA.out HGN.out HGL.out).mono ?_
        rintro e w2 ⟨rfl, own', h2, hk2, hn2⟩
        have H2 := hid h2
        have HK2 := hid hk2
        have HN2 := hid hn2
        clear h2 hk2 hn2 HLR HS
        go_wp2_with fail
        refine (heard_any H2.out 9).mono ?_
        rintro e w3 ⟨rfl, h3, hk3⟩
        have H3 := hid h3
        have HK3 := hid (hk3.mono (T := [b, gs, mb]) (fun i _ hi => by simp only [List.mem_singleton] at hi; simp [hi]))
        clear h3 hk3
        go_wp2_with fail
        go_ret
        exact DidP.d HB.out HK2.out HN2.out HK3.out H3.out
end Go.Proofs.Ytambgimfbdecpaa
namespace Go.Proofs.Ytambgimfbdecpaa
open Go.RowKit Go.Maps
set_option linter.unusedVariables false

/-- What Read tells: kind, content, error. -/
structure RdV where
  kind : Int
  con : ByteArray
  err : Int
def RdV.val (v : RdV) : Value := .tuple #[.int .i64 v.kind, .string v.con, .int .i64 v.err]
/-- Read. -/
def PS.read (P : PS) (n : Int) : RdV × PS :=
  if P.dead = true then (⟨0, ⟨#[]⟩, 9⟩, P) else if usedP P.st n = false then (⟨0, ⟨#[]⟩, 3⟩, P)
  else if P.D.gone = true then (⟨0, ⟨#[]⟩, 9⟩, { P with dead := true })
  else if isPage (P.D.read n.toNat) then (⟨kindOf (P.D.read n.toNat), strOf (conOf (P.D.read n.toNat)), 0⟩, P) else (⟨0, ⟨#[]⟩, 10⟩, P)

set_option maxHeartbeats 400000 in
theorem heard_zero (b : Nat) (w : World) : Calls Try.prog 65 #[.pointer (some ⟨b, 0, none⟩), .int .i64 0] w fun r w' => r = .returned (.int .i64 0) ∧ w' = w := by
  go_enter Try.func65, Try.ntmps65
  go_wp2
  go_ret
  exact ⟨rfl, rfl⟩

set_option maxRecDepth 100000 in
set_option maxHeartbeats 2000000 in
theorem read_at {w0 : World} {B b db gs mb : Nat} {own : List Nat} {P : PS} (h : PAt w0 B b db gs mb own P) (n : Int) :
    Calls Try.prog 36 #[.pointer (some ⟨b, 0, none⟩), .int .i64 n] w0 (DidP w0 B b db (b :: gs :: mb :: own) (P.read n).1.val (P.read n).2) := by
  obtain ⟨c0, c1, c2, c3, c4, c5⟩ := h.cells
  have HR := hid (ready_any h)
  have HU := hid (isUsed_any h.shAt n)
  have HH := hid h
  unfold PS.read
  by_cases hd : P.dead = true
  · rw [if_pos hd] at HR ⊢
    clear h
    go_enter Try.func36, Try.ntmps36
    go_wp2_with (go_at_call 61; refine HR.out.mono ?_; rintro e wa ⟨rfl, rfl⟩)
    go_ret3
    exact DidP.same HH.out
  · rw [if_neg hd] at HR ⊢
    by_cases hu : usedP P.st n = false
    · rw [if_pos hu]
      rw [hu] at HU
      clear h hu
      go_enter Try.func36, Try.ntmps36
      go_wp2_with (first | (go_at_call 61; refine HR.out.mono ?_; rintro e wa ⟨rfl, rfl⟩) | (go_at_call 62; refine HU.out.mono ?_; rintro e wb ⟨rfl, rfl⟩))
      go_ret3
      exact DidP.same HH.out
    · rw [if_neg hu]
      have hu' : usedP P.st n = true := by simpa using hu
      rw [hu'] at HU
      obtain ⟨k, rfl, hk2, hkl, hk0⟩ := usedP_yes hu'
      have hkn : k < P.D.n := by rw [← h.len]; exact hkl
      rw [Int.toNat_natCast]
      by_cases hgn : P.D.gone = true
      · rw [if_pos hgn]
        have HRd := hid (read_nopower h.disk k hkn hgn)
        clear h hu hu' hk0
        go_enter Try.func36, Try.ntmps36
        go_wp2_with (first | (go_at_call 61; refine HR.out.mono ?_; rintro e wa ⟨rfl, rfl⟩) | (go_at_call 62; refine HU.out.mono ?_; rintro e wb ⟨rfl, rfl⟩) | (go_at_call 70; refine HRd.out.mono ?_; rintro e wc ⟨rfl, rfl⟩))
        refine (heard_any HH.out 9).mono ?_
        rintro e w3 ⟨rfl, h3, hk3⟩
        have H3 := hid h3
        have HK3 := hid (hk3.mono (T := b :: gs :: mb :: own) (fun i _ hi => by simp only [List.mem_singleton] at hi; simp [hi]))
        clear h3 hk3
        go_wp2_with fail
        go_ret3
        exact DidP.at H3.out HK3.out
      · rw [if_neg hgn]
        have hgn' : P.D.gone = false := by simpa using hgn
        have HRd := hid (read_ok h.disk h.byt k hkn hgn')
        have hln := h.disk.good.read k hkn
        have hby := h.byt.read k
        generalize P.D.read k = X at HRd hln hby ⊢
        have HLn := hid hln
        have HBy := hid hby
        clear h hu hu' hk0 hgn hgn' hln hby
        by_cases hp : isPage X
        · rw [if_pos hp]
          have HV := hid (openV_yes hp)
          clear hp
          go_enter Try.func36, Try.ntmps36
          go_wp2_with (first | (go_at_call 61; refine HR.out.mono ?_; rintro e wa ⟨rfl, rfl⟩) | (go_at_call 62; refine HU.out.mono ?_; rintro e wb ⟨rfl, rfl⟩))
          refine HRd.out.mono ?_
          rintro e w1 ⟨g, rfl, hgl, hba, hb1⟩
          have HB := hid hb1
          have HBA := hid hba
          clear hb1 hba hgl
          go_wp2_with (first | (go_at_call 65; refine (heard_zero _ _).mono ?_; rintro e wd ⟨rfl, rfl⟩))
          refine (open_any HBA.out HLn.out HBy.out (Nat.le_refl _) (by unfold maxLen; omega)).mono ?_
          rw [HV.out]
          rintro e w4 ⟨rfl, hb4⟩
          have H4 := hid ((HH.out.later HB.out).later hb4)
          have HB4 := hid (HB.out.trans (hb4.mono HB.out.size))
          clear hb4
          go_wp2_with fail
          go_ret3
          exact DidP.at H4.out (Kept.ofBelow HB4.out _)
        · rw [if_neg hp]
          have HV := hid (openV_no hp)
          clear hp
          go_enter Try.func36, Try.ntmps36
          go_wp2_with (first | (go_at_call 61; refine HR.out.mono ?_; rintro e wa ⟨rfl, rfl⟩) | (go_at_call 62; refine HU.out.mono ?_; rintro e wb ⟨rfl, rfl⟩))
          refine HRd.out.mono ?_
          rintro e w1 ⟨g, rfl, hgl, hba, hb1⟩
          have HB := hid hb1
          have HBA := hid hba
          clear hb1 hba hgl
          go_wp2_with (first | (go_at_call 65; refine (heard_zero _ _).mono ?_; rintro e wd ⟨rfl, rfl⟩))
          refine (open_any HBA.out HLn.out HBy.out (Nat.le_refl _) (by unfold maxLen; omega)).mono ?_
          rw [HV.out]
          rintro e w4 ⟨rfl, hb4⟩
          have H4 := hid ((HH.out.later HB.out).later hb4)
          have HB4 := hid (HB.out.trans (hb4.mono HB.out.size))
          clear hb4
          go_wp2_with fail
          go_ret3
          exact DidP.at H4.out (Kept.ofBelow HB4.out _)
end Go.Proofs.Ytambgimfbdecpaa
