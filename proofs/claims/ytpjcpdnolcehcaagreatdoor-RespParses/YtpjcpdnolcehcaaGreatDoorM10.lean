/- What this text holds: a section is read. -/
import Derived.Test.YtpjcpdnolcehcaaGreatDoorM9
namespace Go.Proofs.YtpjcpdnolcehcaaGreatDoor
open Go.RowKit
set_option linter.unusedVariables false
set_option linter.unusedSimpArgs false

theorem VAt.sect {w : World} {N : Nat → Prop} {x : Bs} {u : Sl} {l : List Vl} (h : VsAt w N (Sl.v u) l) : VAt w N ⟨5, x, 0, u, (none, 0, 0)⟩ (.mk 5 x 0 l []) := ⟨⟨rfl, rfl, rfl, LAt.nil _ _ _⟩, h⟩
theorem VAt.list {w : World} {N : Nat → Prop} {u : Sl} {l : List Vl} (h : VsAt w N (Sl.v u) l) : VAt w N ⟨4, [], 0, u, (none, 0, 0)⟩ (.mk 4 [] 0 l []) := ⟨⟨rfl, rfl, rfl, LAt.nil _ _ _⟩, h⟩
theorem V5.later {w w' : World} {A : Nat} {r : Rw} (h : V5 w A r) (hb : Below w.heap.size w w') : V5 w' A r := (hb.block A (lt_of_some h)).trans h
abbrev zO : Obj := .cells #[.int .i64 0, .string ⟨#[]⟩, .int .i64 0, .slice none 0 0, .slice none 0 0] 43
theorem V5.zero (w : World) : V5 (w.alloc zO) w.heap.size zR := V5.new w zR
theorem below_zero (w : World) : Below w.heap.size w (w.alloc zO) := (Below.refl _ _).alloc (Nat.le_refl _) _
theorem V5.setF {w : World} {A : Nat} {r : Rw} (h : V5 w A r) (f : Sl) : V5 (w.setCell ⟨A, 4, none⟩ (Sl.v f)) A { r with frm := f } := by
  unfold V5
  rw [heap_setCell_same _ _ _ _ _ _ h]
  rfl
theorem fin_row {b o : Nat} {w w2 : World} {row : Rw} {v : Vl} {r : Bs} {A : Nat} (hk : Kept [b] w w2) (hV : VAt w2 (w.heap.size + 1 ≤ ·) row v) (hR : RAt w2 b r o) (hA : A = w.heap.size) (hb : b < w.heap.size) :
    RdV b o w (some (v, r)) (.returned (vV row)) (row5 w2 A row) := by
  subst hA
  have q := row5_self w2 w.heap.size row
  have q2 := q.below (B := w.heap.size) (by simp) hk.size
  refine ⟨row, rfl, ?_, hR.low q2 hb, kept_lo hk q2⟩
  exact (hV.kept q (by intro i hi; simp at hi; omega)).mono (fun p _ hp => by omega)
theorem VAt.frm {w : World} {N : Nat → Prop} {x : Bs} {u : Sl} {l : List Vl} {n : Int} {g : Nat} (h : VsAt w N (Sl.v u) l) (hg : w.heap[g]? = some (.cells #[.int .i64 n] 3 (0, 0))) (hN : N g) : VAt w N ⟨5, x, 0, u, (some ⟨g, 0, none⟩, 1, 1)⟩ (.mk 5 x 0 l [n]) := by
  refine ⟨⟨rfl, rfl, rfl, ⟨⟨_, 1, rfl, by simp [Vl.frm], .inr ⟨g, 0, rfl, fun j i y v h1 h2 => ?_, lt_of_some hg⟩⟩, fun _ q hq => ?_⟩⟩, h⟩
  · cases j with
    | zero =>
      simp [Vl.frm] at h1
      subst h1
      cases i with
      | zero =>
        simp [eI] at h2
        subst h2
        simp [World.cell?, hg]
      | succ i => simp [eI] at h2
    | succ j => simp [Vl.frm] at h1
  · simp [Sl.v, blk] at hq
    subst hq
    exact hN
set_option maxRecDepth 100000 in
set_option maxHeartbeats 2000000 in
theorem section_any {d : Nat} (hK : KidOk d) (w : World) (b o : Nat) (s x : Bs) (hE : Env w) (hb : 11 ≤ b) (h : RAt w b s o) (ho : o + d = 30) (hl : s.length ≤ 100000000) :
    Calls Tryz.prog 124 #[.pointer (some ⟨b, 0, none⟩), .string (str x)] w (RdV b o w (sectP x (kidP d 93 s))) := by
  have hf0 := fld0 b
  have hf4 := fld43
  have hbl := h.lt
  have hZ := below_zero w
  have hR := h.later hZ
  have hz := V5.zero w
  have C := hK (w.alloc zO) b o s 93 (hE.later hZ) hb hR ho hl
  have HE := hid (hE.later hZ)
  have HB := hid hbl
  have HZ := hid hZ
  have HV := hid hz
  have HS : Hid ((w.alloc zO).heap.size = w.heap.size + 1) := by simp [Hid]
  clear h hR hE hZ hz
  rcases hk : kidP d 93 s with _ | ⟨l, r⟩
  · rw [hk] at C
    have HX : Hid (sectP x none = none) := rfl
    clear hk
    go_enter Tryz.func124, Tryz.ntmps124
    go_wp2_with fail
    refine C.mono ?_
    rintro e w1 ⟨rfl, k1⟩
    rw [HX.out]
    refine ⟨rfl, rfl, ?_⟩
    exact (Kept.ofBelow HZ.out [b]).trans1 k1
  · rw [hk] at C
    have hr := shr_kidP d 93 _ _ _ hk
    clear hk
    rcases h60 : needP [60] r with _ | r1
    · have HX : Hid (sectP x (some (l, r)) = some (.mk 5 x 0 l [], r)) := by unfold sectP; simp only [Hid]; rw [h60]
      go_enter Tryz.func124, Tryz.ntmps124
      go_wp2_with fail
      refine C.mono ?_
      rintro e w1 ⟨u, rfl, k1, k2, k3⟩
      obtain ⟨ua, uc, rfl, _⟩ := k1.slice
      have hb1 : Below w1.heap.size w1 (w1.alloc (.cells (Rw.c ⟨5, x, 0, (ua, l.length, uc), (none, 0, 0)⟩).toArray 43)) := (Below.refl _ _).alloc (Nat.le_refl _) _
      have hv := V5.new w1 ⟨5, x, 0, (ua, l.length, uc), (none, 0, 0)⟩
      have D := takes_no (k2.later hb1) [60] h60
      have K1 := hid (VAt.sect (x := x) (u := (ua, l.length, uc)) k1)
      have K3 := hid k3
      have HV1 := hid (HV.out.kept k3 (by simp; have := HB.out; omega))
      have HZ1 := hid hb1
      have Hv := hid hv
      have hne : w1.heap.size ≠ w.heap.size := by have := K3.out.size; have := HS.out; omega
      clear k1 k2 k3 hb1 hv C h60
      go_wp2_with fail
      refine D.mono ?_
      rintro e w2 ⟨rfl, k2, k4⟩
      have q1 := Hv.out.kept k4 (by simp; have := K3.out.size; have := HS.out; have := HB.out; omega)
      obtain ⟨x0, x1, x2, x3, x4⟩ := q1.cs
      have q2 := (HV1.out.later HZ1.out).kept k4 (by simp; have := HB.out; omega)
      simp only [Sl.v] at x3 x4
      have K2 := hid k2
      have K4 := hid k4
      have Q2 := hid q2
      clear k2 k4 D q1 q2
      go_wp2_with (refine wpList_store43 (r := ⟨5, x, 0, (ua, l.length, uc), (none, 0, 0)⟩) rfl rfl Q2.out ?_)
      have p1 := row5_is Q2.out ⟨5, x, 0, (ua, l.length, uc), (none, 0, 0)⟩
      refine bodyPost_ret (w := row5 w2 w.heap.size ⟨5, x, 0, (ua, l.length, uc), (none, 0, 0)⟩) (resV rfl rfl p1) rfl ?_
      rw [HX.out]
      refine fin_row ((((Kept.ofBelow HZ.out [b]).trans1 K3.out).trans1 (Kept.ofBelow HZ1.out [b])).trans1 K4.out) ?_ K2.out rfl HB.out
      have hS := HS.out
      exact ((K1.out.later HZ1.out).kept K4.out (by intro i hi; simp at hi; have := HB.out; omega)).mono (fun p _ hp => by omega)
    · rcases hn : numberP r1 with _ | ⟨n, r2⟩
      · have HX : Hid (sectP x (some (l, r)) = none) := by unfold sectP; simp only [Hid]; rw [h60]; simp only; rw [hn]
        go_enter Tryz.func124, Tryz.ntmps124
        go_wp2_with fail
        refine C.mono ?_
        rintro e w1 ⟨u, rfl, k1, k2, k3⟩
        obtain ⟨ua, uc, rfl, _⟩ := k1.slice
        have hb1 : Below w1.heap.size w1 (w1.alloc (.cells (Rw.c ⟨5, x, 0, (ua, l.length, uc), (none, 0, 0)⟩).toArray 43)) := (Below.refl _ _).alloc (Nat.le_refl _) _
        have hv := V5.new w1 ⟨5, x, 0, (ua, l.length, uc), (none, 0, 0)⟩
        have D := takes_yes (k2.later hb1) [60] h60
        have HE2 := hid ((HE.out.kept k3 (by simpa using hb)).later hb1)
        have K1 := hid k1
        have K3 := hid k3
        have HV1 := hid (HV.out.kept k3 (by simp; have := HB.out; omega))
        have HZ1 := hid hb1
        have Hv := hid hv
        have hne : w1.heap.size ≠ w.heap.size := by have := K3.out.size; have := HS.out; omega
        clear k1 k2 k3 hb1 hv C
        go_wp2_with fail
        refine D.mono ?_
        rintro e w2 ⟨rfl, k2, k4⟩
        have D2 := number_no (HE2.out.kept k4 (by simpa using hb)) hb k2 (by have := needP_le h60; omega) hn
        have K4 := hid k4
        clear k2 k4 D h60 hn hr
        go_wp2_with fail
        refine D2.mono ?_
        rintro e w3 ⟨rfl, k5⟩
        rw [HX.out]
        exact ⟨rfl, rfl, (((Kept.ofBelow HZ.out [b]).trans1 (K3.out.trans1 (Kept.ofBelow HZ1.out [b]))).trans1 K4.out).trans1 k5⟩
      · rcases h62 : needP [62] r2 with _ | r3
        · have HX : Hid (sectP x (some (l, r)) = none) := by unfold sectP; simp only [Hid]; rw [h60]; simp only; rw [hn]; simp only; rw [h62]; rfl
          go_enter Tryz.func124, Tryz.ntmps124
          go_wp2_with fail
          refine C.mono ?_
          rintro e w1 ⟨u, rfl, k1, k2, k3⟩
          obtain ⟨ua, uc, rfl, _⟩ := k1.slice
          have hb1 : Below w1.heap.size w1 (w1.alloc (.cells (Rw.c ⟨5, x, 0, (ua, l.length, uc), (none, 0, 0)⟩).toArray 43)) := (Below.refl _ _).alloc (Nat.le_refl _) _
          have hv := V5.new w1 ⟨5, x, 0, (ua, l.length, uc), (none, 0, 0)⟩
          have D := takes_yes (k2.later hb1) [60] h60
          have HE2 := hid ((HE.out.kept k3 (by simpa using hb)).later hb1)
          have K1 := hid k1
          have K3 := hid k3
          have HV1 := hid (HV.out.kept k3 (by simp; have := HB.out; omega))
          have HZ1 := hid hb1
          have Hv := hid hv
          have hne : w1.heap.size ≠ w.heap.size := by have := K3.out.size; have := HS.out; omega
          clear k1 k2 k3 hb1 hv C
          go_wp2_with fail
          refine D.mono ?_
          rintro e w2 ⟨rfl, k2, k4⟩
          have D2 := number_yes k2 (by have := needP_le h60; omega) hn
          have K4 := hid k4
          have q1 := Hv.out.kept k4 (by simp; have := K3.out.size; have := HS.out; have := HB.out; omega)
          have Q1 := hid q1
          clear k2 k4 D h60 hn hr q1
          go_wp2_with fail
          refine D2.mono ?_
          rintro e w3 ⟨rfl, k5, k6⟩
          have HA : Hid (Below w3.heap.size w3 (w3.alloc (.cells #[.int .i64 n] 3))) := (Below.refl _ _).alloc (Nat.le_refl _) _
          have hs3 := K3.out.size
          have hs4 := K4.out.size
          have hs6 := k6.size
          have hS := HS.out
          have hB := HB.out
          have hsz : w1.heap.size < w2.heap.size := by have := Q1.out.lt; exact this
          have Q3 := (Q1.out.kept k6 (by simp; omega)).later HA.out
          have f4 := Q3.fz 4
          have c4 := Q3.cs.2.2.2.2
          simp only [Sl.v] at c4
          have s1 : Below w.heap.size (w3.alloc (.cells #[.int .i64 n] 3)) ((w3.alloc (.cells #[.int .i64 n] 3)).setCell ⟨w1.heap.size, 4, none⟩ (.slice (some ⟨w3.heap.size, 0, none⟩) 1 1)) := (Below.refl _ _).setCell (p := ⟨w1.heap.size, 4, none⟩) (by show w.heap.size ≤ w1.heap.size; omega) _
          have G1 : Hid (RAt ((w3.alloc (.cells #[.int .i64 n] 3)).setCell ⟨w1.heap.size, 4, none⟩ (.slice (some ⟨w3.heap.size, 0, none⟩) 1 1)) b r2 o) := (k5.later HA.out).low s1 hB
          have GK : Hid (Kept [b] w ((w3.alloc (.cells #[.int .i64 n] 3)).setCell ⟨w1.heap.size, 4, none⟩ (.slice (some ⟨w3.heap.size, 0, none⟩) 1 1))) := kept_lo ((((((Kept.ofBelow HZ.out [b]).trans1 (K3.out.trans1 (Kept.ofBelow HZ1.out [b]))).trans1 K4.out).trans1 k6)).trans1 (Kept.ofBelow HA.out [b])) s1
          have QF := hid (Q3.setF (some ⟨w3.heap.size, 0, none⟩, 1, 1))
          simp only [Sl.v] at QF
          have KF : Hid (VAt ((w3.alloc (.cells #[.int .i64 n] 3)).setCell ⟨w1.heap.size, 4, none⟩ (.slice (some ⟨w3.heap.size, 0, none⟩) 1 1)) (w.heap.size + 1 ≤ ·) ⟨5, x, 0, (ua, l.length, uc), (some ⟨w3.heap.size, 0, none⟩, 1, 1)⟩ (.mk 5 x 0 l [n])) := by
            refine VAt.frm ?_ ?_ (by omega)
            · have e0 := K1.out.mono (N' := fun q => w.heap.size + 1 ≤ q ∧ q ≠ w1.heap.size) (fun q hq hN => ⟨by omega, by omega⟩)
              have e1 := ((e0.later HZ1.out).kept K4.out (by intro i hi; simp at hi; omega))
              have e2 := (e1.kept k6 (by intro i hi; simp at hi; omega)).later HA.out
              exact (e2.kept (Kept.setCell [w1.heap.size] _ ⟨w1.heap.size, 4, none⟩ _ (by simp)) (by intro i hi; simp at hi; omega)).mono (fun q _ hN => hN.1)
            · rw [Below.heap_setCell _ _ _ _ (by simp; omega), heap_alloc_new]
          have K6 := hid k6
          clear hs3 hs4 hs6 hS hB Q3 s1
          have D3 := need_no (G1.out) [62] h62
          clear h62 k5 k6 D2
          go_wp2_with fail
          refine D3.mono ?_
          rintro e w4 ⟨rfl, k7⟩
          rw [HX.out]
          exact ⟨rfl, rfl, GK.out.trans1 k7⟩
        · have HX : Hid (sectP x (some (l, r)) = some (.mk 5 x 0 l [n], r3)) := by unfold sectP; simp only [Hid]; rw [h60]; simp only; rw [hn]; simp only; rw [h62]; rfl
          go_enter Tryz.func124, Tryz.ntmps124
          go_wp2_with fail
          refine C.mono ?_
          rintro e w1 ⟨u, rfl, k1, k2, k3⟩
          obtain ⟨ua, uc, rfl, _⟩ := k1.slice
          have hb1 : Below w1.heap.size w1 (w1.alloc (.cells (Rw.c ⟨5, x, 0, (ua, l.length, uc), (none, 0, 0)⟩).toArray 43)) := (Below.refl _ _).alloc (Nat.le_refl _) _
          have hv := V5.new w1 ⟨5, x, 0, (ua, l.length, uc), (none, 0, 0)⟩
          have D := takes_yes (k2.later hb1) [60] h60
          have HE2 := hid ((HE.out.kept k3 (by simpa using hb)).later hb1)
          have K1 := hid k1
          have K3 := hid k3
          have HV1 := hid (HV.out.kept k3 (by simp; have := HB.out; omega))
          have HZ1 := hid hb1
          have Hv := hid hv
          have hne : w1.heap.size ≠ w.heap.size := by have := K3.out.size; have := HS.out; omega
          clear k1 k2 k3 hb1 hv C
          go_wp2_with fail
          refine D.mono ?_
          rintro e w2 ⟨rfl, k2, k4⟩
          have D2 := number_yes k2 (by have := needP_le h60; omega) hn
          have K4 := hid k4
          have q1 := Hv.out.kept k4 (by simp; have := K3.out.size; have := HS.out; have := HB.out; omega)
          have Q1 := hid q1
          clear k2 k4 D h60 hn hr q1
          go_wp2_with fail
          refine D2.mono ?_
          rintro e w3 ⟨rfl, k5, k6⟩
          have HA : Hid (Below w3.heap.size w3 (w3.alloc (.cells #[.int .i64 n] 3))) := (Below.refl _ _).alloc (Nat.le_refl _) _
          have hs3 := K3.out.size
          have hs4 := K4.out.size
          have hs6 := k6.size
          have hS := HS.out
          have hB := HB.out
          have hsz : w1.heap.size < w2.heap.size := by have := Q1.out.lt; exact this
          have Q3 := (Q1.out.kept k6 (by simp; omega)).later HA.out
          have f4 := Q3.fz 4
          have c4 := Q3.cs.2.2.2.2
          simp only [Sl.v] at c4
          have s1 : Below w.heap.size (w3.alloc (.cells #[.int .i64 n] 3)) ((w3.alloc (.cells #[.int .i64 n] 3)).setCell ⟨w1.heap.size, 4, none⟩ (.slice (some ⟨w3.heap.size, 0, none⟩) 1 1)) := (Below.refl _ _).setCell (p := ⟨w1.heap.size, 4, none⟩) (by show w.heap.size ≤ w1.heap.size; omega) _
          have G1 : Hid (RAt ((w3.alloc (.cells #[.int .i64 n] 3)).setCell ⟨w1.heap.size, 4, none⟩ (.slice (some ⟨w3.heap.size, 0, none⟩) 1 1)) b r2 o) := (k5.later HA.out).low s1 hB
          have GK : Hid (Kept [b] w ((w3.alloc (.cells #[.int .i64 n] 3)).setCell ⟨w1.heap.size, 4, none⟩ (.slice (some ⟨w3.heap.size, 0, none⟩) 1 1))) := kept_lo ((((((Kept.ofBelow HZ.out [b]).trans1 (K3.out.trans1 (Kept.ofBelow HZ1.out [b]))).trans1 K4.out).trans1 k6)).trans1 (Kept.ofBelow HA.out [b])) s1
          have QF := hid (Q3.setF (some ⟨w3.heap.size, 0, none⟩, 1, 1))
          simp only [Sl.v] at QF
          have KF : Hid (VAt ((w3.alloc (.cells #[.int .i64 n] 3)).setCell ⟨w1.heap.size, 4, none⟩ (.slice (some ⟨w3.heap.size, 0, none⟩) 1 1)) (w.heap.size + 1 ≤ ·) ⟨5, x, 0, (ua, l.length, uc), (some ⟨w3.heap.size, 0, none⟩, 1, 1)⟩ (.mk 5 x 0 l [n])) := by
            refine VAt.frm ?_ ?_ (by omega)
            · have e0 := K1.out.mono (N' := fun q => w.heap.size + 1 ≤ q ∧ q ≠ w1.heap.size) (fun q hq hN => ⟨by omega, by omega⟩)
              have e1 := ((e0.later HZ1.out).kept K4.out (by intro i hi; simp at hi; omega))
              have e2 := (e1.kept k6 (by intro i hi; simp at hi; omega)).later HA.out
              exact (e2.kept (Kept.setCell [w1.heap.size] _ ⟨w1.heap.size, 4, none⟩ _ (by simp)) (by intro i hi; simp at hi; omega)).mono (fun q _ hN => hN.1)
            · rw [Below.heap_setCell _ _ _ _ (by simp; omega), heap_alloc_new]
          have K6 := hid k6
          clear hs3 hs4 hs6 hS hB Q3 s1
          have D3 := need_yes (G1.out) [62] h62
          clear h62 k5 k6 D2
          go_wp2_with fail
          refine D3.mono ?_
          rintro e w4 ⟨rfl, k7, k8⟩
          have hs3 := K3.out.size
          have hS := HS.out
          have hB := HB.out
          have q1 := QF.out.kept k8 (by simp; omega)
          obtain ⟨x0, x1, x2, x3, x4⟩ := q1.cs
          have a2 := ((HV1.out.later HZ1.out).kept K4.out (by simp; omega)).kept K6.out (by simp; omega)
          have a3 := (a2.later HA.out).kept (Kept.setCell [w1.heap.size] _ ⟨w1.heap.size, 4, none⟩ (.slice (some ⟨w3.heap.size, 0, none⟩) 1 1) (by simp)) (by simp; omega)
          have a4 := a3.kept k8 (by simp; omega)
          simp only [Sl.v] at x3 x4
          have R4 := hid k7
          have K8 := hid k8
          have KF4 := hid (KF.out.kept k8 (by intro i hi; simp at hi; omega))
          have A4 := hid a4
          clear k7 k8 q1 a2 a3 a4 hs3 hS hB D3
          go_wp2_with (refine wpList_store43 (r := ⟨5, x, 0, (ua, l.length, uc), (some ⟨w3.heap.size, 0, none⟩, 1, 1)⟩) rfl rfl A4.out ?_)
          have p1 := row5_is A4.out ⟨5, x, 0, (ua, l.length, uc), (some ⟨w3.heap.size, 0, none⟩, 1, 1)⟩
          refine bodyPost_ret (w := row5 w4 w.heap.size ⟨5, x, 0, (ua, l.length, uc), (some ⟨w3.heap.size, 0, none⟩, 1, 1)⟩) (resV rfl rfl p1) rfl ?_
          rw [HX.out]
          exact fin_row (GK.out.trans1 K8.out) KF4.out R4.out rfl HB.out
end Go.Proofs.YtpjcpdnolcehcaaGreatDoor
