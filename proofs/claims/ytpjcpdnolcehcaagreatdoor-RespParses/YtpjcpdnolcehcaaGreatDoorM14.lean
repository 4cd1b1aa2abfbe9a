/- What this text holds: what is behind a tag is read. -/
import Derived.Test.YtpjcpdnolcehcaaGreatDoorM13
namespace Go.Proofs.YtpjcpdnolcehcaaGreatDoor
open Go.RowKit
set_option linter.unusedVariables false
set_option linter.unusedSimpArgs false

theorem kid_all : ∀ d, KidOk d
  | 0 => kid_zero
  | d + 1 => kid_succ (values_any (value_any (kid_all d)))
theorem vals_all (d : Nat) : ValsOk d := values_any (value_any (kid_all d))
/-- A line lies in a block. -/
def L5 (w : World) (A : Nat) (r : Lw) : Prop := w.heap[A]? = some (.cells r.c.toArray 28 (0, 0))
theorem L5.cs {w : World} {A : Nat} {r : Lw} (h : L5 w A r) : w.cell? ⟨A, 0, none⟩ = some (.string (str r.tag)) ∧ w.cell? ⟨A, 1, none⟩ = some (Sl.v r.vals) ∧ w.cell? ⟨A, 2, none⟩ = some (.string (str r.st)) ∧ w.cell? ⟨A, 3, none⟩ = some (Sl.v r.code) ∧ w.cell? ⟨A, 4, none⟩ = some (.string (str r.x)) := by
  simp [World.cell?, show w.heap[A]? = _ from h, Lw.c]
theorem L5.fz {w : World} {A : Nat} {r : Lw} (h : L5 w A r) (j : Nat) : w.frozen? ⟨A, j, none⟩ = false := by simp [World.frozen?, show w.heap[A]? = _ from h]
theorem L5.lt {w : World} {A : Nat} {r : Lw} (h : L5 w A r) : A < w.heap.size := lt_of_some h
theorem L5.kept {w w' : World} {A : Nat} {r : Lw} {S : List Nat} (h : L5 w A r) (hk : Kept S w w') (hA : A ∉ S) : L5 w' A r := (hk.block A (lt_of_some h) hA).trans h
theorem L5.later {w w' : World} {A : Nat} {r : Lw} (h : L5 w A r) (hb : Below w.heap.size w w') : L5 w' A r := (hb.block A (lt_of_some h)).trans h
theorem L5.new (w : World) (r : Lw) : L5 (w.alloc (.cells r.c.toArray 28)) w.heap.size r := heap_alloc_new _ _
theorem L5.set1 {w : World} {A : Nat} {r : Lw} (h : L5 w A r) (f : Sl) : L5 (w.setCell ⟨A, 1, none⟩ (Sl.v f)) A { r with vals := f } := by
  unfold L5; rw [heap_setCell_same _ _ _ _ _ _ h]; rfl
theorem L5.set2 {w : World} {A : Nat} {r : Lw} (h : L5 w A r) (f : Bs) : L5 (w.setCell ⟨A, 2, none⟩ (.string (str f))) A { r with st := f } := by
  unfold L5; rw [heap_setCell_same _ _ _ _ _ _ h]; rfl
theorem L5.set3 {w : World} {A : Nat} {r : Lw} (h : L5 w A r) (f : Sl) : L5 (w.setCell ⟨A, 3, none⟩ (Sl.v f)) A { r with code := f } := by
  unfold L5; rw [heap_setCell_same _ _ _ _ _ _ h]; rfl
theorem L5.set4 {w : World} {A : Nat} {r : Lw} (h : L5 w A r) (f : Bs) : L5 (w.setCell ⟨A, 4, none⟩ (.string (str f))) A { r with x := f } := by
  unfold L5; rw [heap_setCell_same _ _ _ _ _ _ h]; rfl
/-- A row says what a line says. -/
structure LnAt (w : World) (N : Nat → Prop) (r : Lw) (l : Ln) : Prop where
  t : r.tag = l.tag
  s : r.st = l.st
  x : r.x = l.x
  v : VsAt w N (Sl.v r.vals) l.vals
  c : VsAt w N (Sl.v r.code) l.code
theorem LnAt.kept {S : List Nat} {w w' : World} {N : Nat → Prop} {r : Lw} {v : Ln} (h : LnAt w N r v) (hk : Kept S w w') (hS : ∀ i ∈ S, ¬ N i) : LnAt w' N r v := ⟨h.t, h.s, h.x, h.v.kept hk hS, h.c.kept hk hS⟩
theorem LnAt.mono {w : World} {N N' : Nat → Prop} {r : Lw} {v : Ln} (h : LnAt w N r v) (hN : ∀ q, q < w.heap.size → N q → N' q) : LnAt w N' r v := ⟨h.t, h.s, h.x, h.v.mono hN, h.c.mono hN⟩
theorem LnAt.later {w w' : World} {N : Nat → Prop} {r : Lw} {v : Ln} (h : LnAt w N r v) (hb : Below w.heap.size w w') : LnAt w' N r v := h.kept (Kept.ofBelow hb []) (by simp)
def lV (r : Lw) : Value := .agg r.c.toArray
theorem RAt.kept {w w' : World} {b : Nat} {s : Bs} {o : Nat} {S : List Nat} (h : RAt w b s o) (hk : Kept S w w') (hb : b ∉ S) : RAt w' b s o := (hk.block b (lt_of_some h) hb).trans h
theorem kept2 {A b : Nat} {w w' : World} (h : Kept [b] w w') : Kept [b, A] w w' := h.mono (fun i _ hi => by simp at hi ⊢; exact .inl hi)
theorem kept3 {A b : Nat} {w w' : World} (h : Kept [A] w w') : Kept [b, A] w w' := h.mono (fun i _ hi => by simp at hi ⊢; exact .inr hi)
theorem Kept.trans2 {S : List Nat} {u v w : World} (h : Kept S u v) (k : Kept S v w) : Kept S u w := h.trans k (fun _ _ h => h)
theorem Kept.setA (w : World) (A k : Nat) (v : Value) : Kept [A] w (w.setCell ⟨A, k, none⟩ v) := Kept.setCell [A] w _ v (by simp)
theorem fldL (A k : Nat) (hk : k < 5) (w : World) : (Instr.fieldAt 28 (.pointer (some ⟨A, 0, none⟩)) k).run Tryz.prog w = .ok (.pointer (some ⟨A, k, none⟩)) w := by
  rcases (by omega : k = 0 ∨ k = 1 ∨ k = 2 ∨ k = 3 ∨ k = 4) with rfl | rfl | rfl | rfl | rfl <;> kernel_rfl
def RdB (b A : Nat) (w : World) (x : Option (Ln × Bs)) (e : Ending) (w' : World) : Prop := match x with
  | some (l, r) => e = .returned (.tuple #[]) ∧ (∃ lw, L5 w' A lw ∧ LnAt w' (w.heap.size ≤ ·) lw l) ∧ RAt w' b r 0 ∧ Kept [b, A] w w'
  | none => e = .panicked faultC ∧ Kept [b, A] w w'
/-- What a text was saved as. -/
def Sav (w : World) (q : Nat) (s : Bs) : Prop := w.heap[q]? = some (.cells #[.string (str s)] 71 (0, 0))
theorem Sav.c0 {w : World} {q : Nat} {s : Bs} (h : Sav w q s) : w.cell? ⟨q, 0, none⟩ = some (.string (str s)) := by simp [World.cell?, show w.heap[q]? = _ from h]
theorem behind_vals {tag s : Bs} (h : statB (s.takeWhile letB) = false ∨ needP [32] (s.dropWhile letB) = none) : behindP tag s = (valsP 30 s).map fun p => (⟨tag, p.1, [], [], []⟩, p.2) := by
  unfold behindP
  rw [if_neg]
  rintro ⟨h1, h2⟩
  rcases h with h | h
  · rw [h] at h1; cases h1
  · have := needP_none h
    rw [this] at h2
    cases h2
theorem behind_stat {tag s r : Bs} (h : statB (s.takeWhile letB) = true) (h2 : needP [32] (s.dropWhile letB) = some r) : behindP tag s = match needP [91] r with
    | none => some (⟨tag, [], s.takeWhile letB, [], r.takeWhile plB⟩, r.dropWhile plB)
    | some r => match valsP 30 r with
      | none => none
      | some (l, r) => match needP [93] r with
        | none => none
        | some r => match needP [32] r with
          | none => none
          | some r => some (⟨tag, [], s.takeWhile letB, l, r.takeWhile plB⟩, r.dropWhile plB) := by
  obtain ⟨hp, hr, _⟩ := needP_some h2
  unfold behindP
  rw [if_pos ⟨h, hp⟩, show (s.dropWhile letB).drop 1 = r from hr.symm]
  rfl
set_option maxRecDepth 100000 in
set_option maxHeartbeats 8000000 in
theorem behind_any (w : World) (b A : Nat) (tag s : Bs) (hE : Env w) (hb : 11 ≤ b) (hA : 11 ≤ A) (hne : b ≠ A) (h : RAt w b s 0) (hL : L5 w A ⟨tag, (none, 0, 0), [], (none, 0, 0), []⟩) (hl : s.length ≤ 100000000) :
    Calls Tryz.prog 80 #[.pointer (some ⟨b, 0, none⟩), .pointer (some ⟨A, 0, none⟩)] w (RdB b A w (behindP tag s)) := by
  have hf0 := fld0 b
  have hfl1 := fldL A 1 (by omega)
  have hfl2 := fldL A 2 (by omega)
  have hfl3 := fldL A 3 (by omega)
  have hfl4 := fldL A 4 (by omega)
  have HB := hid h.lt
  have HA := hid hL.lt
  have HNE := hid hne
  have hZ : Below w.heap.size w (w.alloc (.cells #[.string (str s)] 71)) := (Below.refl _ _).alloc (Nat.le_refl _) _
  have HZ := hid hZ
  have HE := hid (hE.later hZ)
  have HL := hid (hL.later hZ)
  have HSv : Hid (Sav (w.alloc (.cells #[.string (str s)] 71)) w.heap.size s) := heap_alloc_new _ _
  have HS : Hid ((w.alloc (.cells #[.string (str s)] 71)).heap.size = w.heap.size + 1) := by simp [Hid]
  have HR := hid (h.later hZ)
  have C := run_letter (h.later hZ) (by omega : s.length ≤ 1000000000)
  have HD := hid (drop_le letB s)
  have c0 := h.c0
  have HX1 : Hid (statB (s.takeWhile letB) = false ∨ needP [32] (s.dropWhile letB) = none → behindP tag s = (valsP 30 s).map fun p => (⟨tag, p.1, [], [], []⟩, p.2)) := behind_vals
  have HX2 := hid (fun r => @behind_stat tag s r)
  generalize behindP tag s = X at *
  generalize s.takeWhile letB = t at *
  generalize s.dropWhile letB = r at *
  clear h hE hL hZ hne
  go_enter Tryz.func80, Tryz.ntmps80
  go_wp2_with fail
  refine C.mono ?_
  rintro e w1 ⟨rfl, k1, k2⟩
  have C2 := status_any t w1
  have K2 := hid k2
  have R1 := hid k1
  clear k1 k2 C c0
  rcases hst : statB t with _ | _
  · rw [hst] at C2
    have hX := hid (HX1.out (.inl hst))
    clear HX1 HX2 hst
    go_wp2_with fail
    refine C2.mono ?_
    rintro e w2 ⟨rfl, rfl⟩
    clear C2
    have sv : Sav w2 w.heap.size s := (K2.out.block _ (by have := HS.out; omega) (by simp; have := HB.out; omega)).trans HSv.out
    have sc := sv.c0
    have cb := R1.out.c0
    have fb := R1.out.fz 0
    have R2 := R1.out.set s
    have K3 := hid (K2.out.trans1 (Kept.set1 w2 b 0 (.string (str s))))
    have G := vals_all 30 _ b 0 s (HE.out.kept K3.out (by simpa using hb)) hb R2 rfl hl
    have hS4 : Hid (w.heap.size + 1 ≤ (w2.setCell ⟨b, 0, none⟩ (.string (str s))).heap.size) := by have := K3.out.size; have := HS.out; unfold Hid; omega
    clear R2 sv
    rcases hv : valsP 30 s with _ | ⟨l, r5⟩
    · rw [hv] at G hX
      go_wp2_with fail
      refine G.mono ?_
      rintro e w5 ⟨rfl, k1⟩
      rw [hX.out]
      exact ⟨rfl, rfl, kept2 ((Kept.ofBelow HZ.out [b]).trans1 (K3.out.trans1 k1))⟩
    · rw [hv] at G hX
      clear hv
      go_wp2_with fail
      refine G.mono ?_
      rintro e w5 ⟨u, rfl, k1, k2, k3⟩
      obtain ⟨ua, uc, rfl, _⟩ := k1.slice
      have L5' := (HL.out.kept K3.out (by simp; exact fun e => HNE.out e.symm)).kept k3 (by simp; exact fun e => HNE.out e.symm)
      have f3 := L5'.fz 1
      have c3 := L5'.cs.2.1
      simp only [Sl.v] at c3
      have L6 := hid (L5'.set1 (ua, l.length, uc))
      simp only [Sl.v] at L6
      have k4 := Kept.setA w5 A 1 (.slice ua l.length uc)
      have R6 := hid (k2.kept k4 (by simp; exact HNE.out))
      have K6 := hid ((kept2 (A := A) (K3.out.trans1 k3)).trans2 (kept3 k4))
      have V6 := hid ((k1.mono (N' := (w.heap.size ≤ ·)) (fun q _ hq => by have := hS4.out; omega)).kept k4 (by intro i hi; simp at hi; have := HA.out; omega))
      clear k1 k2 k3 k4 G L5'
      go_wp2_with fail
      go_end0
      rw [hX.out]
      refine ⟨rfl, ⟨_, L6.out, ?_⟩, R6.out, (kept2 (Kept.ofBelow HZ.out [b])).trans2 K6.out⟩
      exact ⟨rfl, rfl, rfl, V6.out, VsAt.nil _ _⟩
  · rw [hst] at C2
    rcases h32 : needP [32] r with _ | r3
    · have hX := hid (HX1.out (.inr h32))
      have D := takes_no R1.out [32] h32
      clear HX1 HX2 hst h32
      go_wp2_with fail
      refine C2.mono ?_
      rintro e w2 ⟨rfl, rfl⟩
      clear C2
      go_wp2_with fail
      refine D.mono ?_
      rintro e w2 ⟨rfl, k1, k2⟩
      have R1 := hid k1
      have K2 := hid (K2.out.trans1 k2)
      clear k1 k2 D
      have sv : Sav w2 w.heap.size s := (K2.out.block _ (by have := HS.out; omega) (by simp; have := HB.out; omega)).trans HSv.out
      have sc := sv.c0
      have cb := R1.out.c0
      have fb := R1.out.fz 0
      have R2 := R1.out.set s
      have K3 := hid (K2.out.trans1 (Kept.set1 w2 b 0 (.string (str s))))
      have G := vals_all 30 _ b 0 s (HE.out.kept K3.out (by simpa using hb)) hb R2 rfl hl
      have hS4 : Hid (w.heap.size + 1 ≤ (w2.setCell ⟨b, 0, none⟩ (.string (str s))).heap.size) := by have := K3.out.size; have := HS.out; unfold Hid; omega
      clear R2 sv
      rcases hv : valsP 30 s with _ | ⟨l, r5⟩
      · rw [hv] at G hX
        go_wp2_with fail
        refine G.mono ?_
        rintro e w5 ⟨rfl, k1⟩
        rw [hX.out]
        exact ⟨rfl, rfl, kept2 ((Kept.ofBelow HZ.out [b]).trans1 (K3.out.trans1 k1))⟩
      · rw [hv] at G hX
        clear hv
        go_wp2_with fail
        refine G.mono ?_
        rintro e w5 ⟨u, rfl, k1, k2, k3⟩
        obtain ⟨ua, uc, rfl, _⟩ := k1.slice
        have L5' := (HL.out.kept K3.out (by simp; exact fun e => HNE.out e.symm)).kept k3 (by simp; exact fun e => HNE.out e.symm)
        have f3 := L5'.fz 1
        have c3 := L5'.cs.2.1
        simp only [Sl.v] at c3
        have L6 := hid (L5'.set1 (ua, l.length, uc))
        simp only [Sl.v] at L6
        have k4 := Kept.setA w5 A 1 (.slice ua l.length uc)
        have R6 := hid (k2.kept k4 (by simp; exact HNE.out))
        have K6 := hid ((kept2 (A := A) (K3.out.trans1 k3)).trans2 (kept3 k4))
        have V6 := hid ((k1.mono (N' := (w.heap.size ≤ ·)) (fun q _ hq => by have := hS4.out; omega)).kept k4 (by intro i hi; simp at hi; have := HA.out; omega))
        clear k1 k2 k3 k4 G L5'
        go_wp2_with fail
        go_end0
        rw [hX.out]
        refine ⟨rfl, ⟨_, L6.out, ?_⟩, R6.out, (kept2 (Kept.ofBelow HZ.out [b])).trans2 K6.out⟩
        exact ⟨rfl, rfl, rfl, V6.out, VsAt.nil _ _⟩
    · have hX := hid (HX2.out r3 hst h32)
      have D := takes_yes R1.out [32] h32
      have hr3 : r3.length ≤ 100000000 := by have := needP_le h32; have := HD.out; omega
      clear HX1 HX2 hst h32
      go_wp2_with fail
      refine C2.mono ?_
      rintro e w2 ⟨rfl, rfl⟩
      clear C2
      go_wp2_with fail
      refine D.mono ?_
      rintro e w2 ⟨rfl, k1, k2⟩
      have K3 := hid (K2.out.trans1 k2)
      have L2 := HL.out.kept K3.out (by simp; exact fun e => HNE.out e.symm)
      have f2 := L2.fz 2
      have c2 := L2.cs.2.2.1
      have L3 := hid (L2.set2 t)
      have k3 := Kept.setA w2 A 2 (.string (str t))
      have R3 := hid (k1.kept k3 (by simp; exact HNE.out))
      have K4 := hid ((kept2 (A := A) K3.out).trans2 (kept3 k3))
      clear k1 k2 k3 D L2
      go_wp2_with fail
      generalize w2.setCell ⟨A, 2, none⟩ (.string (str t)) = w3 at *
      rcases h91 : needP [91] r3 with _ | r4
      · have D := takes_no R3.out [91] h91
        have hX2 : Hid (X = some (⟨tag, [], t, [], r3.takeWhile plB⟩, r3.dropWhile plB)) := by rw [Hid, hX.out, h91]
        clear h91 hX
        go_wp2_with fail
        refine D.mono ?_
        rintro e w4 ⟨rfl, k1, k2⟩
        have C := run_plain k1 (by omega)
        have K5 := hid (K4.out.trans2 (kept2 (A := A) k2))
        have L4 := hid (L3.out.kept k2 (by simp; exact fun e => HNE.out e.symm))
        clear k1 k2 D
        generalize r3.takeWhile plB = p at *
        generalize r3.dropWhile plB = q at *
        go_wp2_with fail
        refine C.mono ?_
        rintro e w5 ⟨rfl, k1, k2⟩
        have L5' := L4.out.kept k2 (by simp; exact fun e => HNE.out e.symm)
        have f4 := L5'.fz 4
        have c4 := L5'.cs.2.2.2.2
        have L6 := hid (L5'.set4 p)
        have k3 := Kept.setA w5 A 4 (.string (str p))
        have R6 := hid (k1.kept k3 (by simp; exact HNE.out))
        have K6 := hid ((K5.out.trans2 (kept2 (A := A) k2)).trans2 (kept3 k3))
        clear k1 k2 k3 C L5'
        go_wp2_with fail
        go_end0
        rw [hX2.out]
        refine ⟨rfl, ⟨_, L6.out, ?_⟩, R6.out, (kept2 (Kept.ofBelow HZ.out [b])).trans2 K6.out⟩
        exact ⟨rfl, rfl, rfl, VsAt.nil _ _, VsAt.nil _ _⟩
      · have D := takes_yes R3.out [91] h91
        have hr4 : r4.length ≤ 100000000 := by have := needP_le h91; omega
        have hX2 : Hid (X = match valsP 30 r4 with
          | none => none
          | some (l, r) => match needP [93] r with
            | none => none
            | some r => match needP [32] r with
              | none => none
              | some r => some (⟨tag, [], t, l, r.takeWhile plB⟩, r.dropWhile plB)) := by rw [Hid, hX.out, h91]
        clear h91 hX
        go_wp2_with fail
        refine D.mono ?_
        rintro e w4 ⟨rfl, k1, k2⟩
        have K5 := hid (K4.out.trans2 (kept2 (A := A) k2))
        have L4 := hid (L3.out.kept k2 (by simp; exact fun e => HNE.out e.symm))
        have G := vals_all 30 w4 b 0 r4 (HE.out.kept K5.out (by simp; omega)) hb k1 rfl hr4
        have hS4 : Hid (w.heap.size + 1 ≤ w4.heap.size) := by have := K5.out.size; have := HS.out; unfold Hid; omega
        clear k1 k2 D
        rcases hv : valsP 30 r4 with _ | ⟨l, r5⟩
        · rw [hv] at G hX2
          go_wp2_with fail
          refine G.mono ?_
          rintro e w5 ⟨rfl, k1⟩
          rw [hX2.out]
          exact ⟨rfl, rfl, (kept2 (Kept.ofBelow HZ.out [b])).trans2 (K5.out.trans2 (kept2 k1))⟩
        · rw [hv] at G hX2
          have hr5 : r5.length ≤ 100000000 := by have := shr_vals 30 _ _ _ hv; omega
          clear hv
          go_wp2_with fail
          refine G.mono ?_
          rintro e w5 ⟨u, rfl, k1, k2, k3⟩
          obtain ⟨ua, uc, rfl, _⟩ := k1.slice
          have L5' := L4.out.kept k3 (by simp; exact fun e => HNE.out e.symm)
          have f3 := L5'.fz 3
          have c3 := L5'.cs.2.2.2.1
          simp only [Sl.v] at c3
          have L6 := hid (L5'.set3 (ua, l.length, uc))
          simp only [Sl.v] at L6
          have k4 := Kept.setA w5 A 3 (.slice ua l.length uc)
          have R6 := hid (k2.kept k4 (by simp; exact HNE.out))
          have K6 := hid ((K5.out.trans2 (kept2 (A := A) k3)).trans2 (kept3 k4))
          have V6 := hid ((k1.mono (N' := (w.heap.size ≤ ·)) (fun q _ hq => by have := hS4.out; omega)).kept k4 (by intro i hi; simp at hi; have := HA.out; omega))
          clear k1 k2 k3 k4 G L5' L4 K5 K4
          go_wp2_with fail
          generalize w5.setCell ⟨A, 3, none⟩ (.slice ua l.length uc) = w6 at *
          rcases h93 : needP [93] r5 with _ | r6
          · have D := need_no R6.out [93] h93
            have hX3 : Hid (X = none) := by rw [Hid, hX2.out]; (try simp only); rw [h93]
            clear h93
            go_wp2_with fail
            refine D.mono ?_
            rintro e w7 ⟨rfl, k1⟩
            rw [hX3.out]
            exact ⟨rfl, rfl, (kept2 (Kept.ofBelow HZ.out [b])).trans2 (K6.out.trans2 (kept2 k1))⟩
          · have D := need_yes R6.out [93] h93
            have hr6 : r6.length ≤ 100000000 := by have := needP_le h93; omega
            go_wp2_with fail
            refine D.mono ?_
            rintro e w7 ⟨rfl, k1, k2⟩
            have K7 := hid (K6.out.trans2 (kept2 (A := A) k2))
            have L7 := hid (L6.out.kept k2 (by simp; exact fun e => HNE.out e.symm))
            have V7 := hid (V6.out.kept k2 (kept_fresh HB.out))
            clear D k2 L6 V6 K6 R6
            rcases h32' : needP [32] r6 with _ | r7
            · have D := need_no k1 [32] h32'
              have hX3 : Hid (X = none) := by rw [Hid, hX2.out]; (try simp only); rw [h93]; (try simp only); rw [h32']
              clear h93 h32' k1
              go_wp2_with fail
              refine D.mono ?_
              rintro e w8 ⟨rfl, k1⟩
              rw [hX3.out]
              exact ⟨rfl, rfl, (kept2 (Kept.ofBelow HZ.out [b])).trans2 (K7.out.trans2 (kept2 k1))⟩
            · have D := need_yes k1 [32] h32'
              have hX3 : Hid (X = some (⟨tag, [], t, l, r7.takeWhile plB⟩, r7.dropWhile plB)) := by rw [Hid, hX2.out]; (try simp only); rw [h93]; (try simp only); rw [h32']
              have hr7 : r7.length ≤ 100000000 := by have := needP_le h32'; omega
              clear h93 h32' k1 hX2
              go_wp2_with fail
              refine D.mono ?_
              rintro e w8 ⟨rfl, k1, k2⟩
              have K8 := hid (K7.out.trans2 (kept2 (A := A) k2))
              have L8 := hid (L7.out.kept k2 (by simp; exact fun e => HNE.out e.symm))
              have V8 := hid (V7.out.kept k2 (kept_fresh HB.out))
              have C := run_plain k1 (by omega)
              clear D k1 k2 L7 V7 K7
              generalize r7.takeWhile plB = p at *
              generalize r7.dropWhile plB = q at *
              go_wp2_with fail
              refine C.mono ?_
              rintro e w9 ⟨rfl, k1, k2⟩
              have L9 := L8.out.kept k2 (by simp; exact fun e => HNE.out e.symm)
              have f4 := L9.fz 4
              have c4 := L9.cs.2.2.2.2
              have LA := hid (L9.set4 p)
              have k3 := Kept.setA w9 A 4 (.string (str p))
              have RA := hid (k1.kept k3 (by simp; exact HNE.out))
              have KA := hid ((K8.out.trans2 (kept2 (A := A) k2)).trans2 (kept3 k3))
              have VA := hid ((V8.out.kept k2 (kept_fresh HB.out)).kept k3 (by intro i hi; simp at hi; have := HA.out; omega))
              clear k1 k2 k3 C L9
              go_wp2_with fail
              go_end0
              rw [hX3.out]
              refine ⟨rfl, ⟨_, LA.out, ?_⟩, RA.out, (kept2 (Kept.ofBelow HZ.out [b])).trans2 KA.out⟩
              exact ⟨rfl, rfl, rfl, VsAt.nil _ _, VA.out⟩
end Go.Proofs.YtpjcpdnolcehcaaGreatDoor
