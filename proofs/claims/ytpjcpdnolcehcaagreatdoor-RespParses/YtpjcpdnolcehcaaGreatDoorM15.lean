/- What this text holds: a line is read. -/
import Derived.Test.YtpjcpdnolcehcaaGreatDoorM14
namespace Go.Proofs.YtpjcpdnolcehcaaGreatDoor
open Go.RowKit
set_option linter.unusedVariables false
set_option linter.unusedSimpArgs false

abbrev zL : Obj := .cells #[.string ⟨#[]⟩, .slice none 0 0, .string ⟨#[]⟩, .slice none 0 0, .string ⟨#[]⟩] 28
theorem L5.zero (w : World) : L5 (w.alloc zL) w.heap.size ⟨[], (none, 0, 0), [], (none, 0, 0), []⟩ := L5.new w ⟨[], (none, 0, 0), [], (none, 0, 0), []⟩
theorem resL {f : Func} {k A : Nat} {r : Lw} {w : World} {tmps : Array Value} (hf : f.results = #[.cell k 28]) (ht : tmps[k]? = some (.pointer (some ⟨A, 0, none⟩))) (hA : L5 w A r) : (results f tmps).run Tryz.prog w = .ok (lV r) w := by
  obtain ⟨x0, x1, x2, x3, x4⟩ := hA.cs
  simp [results, hf, go_sem, ht, x0, x1, x2, x3, x4, lV, Lw.c]
def rowL (w : World) (A : Nat) (r : Lw) : World := w.setRow A r.c.toArray
theorem rowL_is {w : World} {A : Nat} {r' : Lw} (h : L5 w A r') (r : Lw) : L5 (rowL w A r) A r := setRow_heap w A _ _ 28 _ h
theorem rowL_self (w : World) (A : Nat) (r : Lw) : Kept [A] w (rowL w A r) := ⟨rfl, rfl, rfl, by simp [rowL], fun k _ hk => setRow_other w A k _ (fun e => hk (by simp [e]))⟩
theorem exec_store28 {a : Act} {x y : Operand} {A : Nat} {r r' : Lw} {w : World} {ds : Option Tmp} {ty : Nat} {pos : String} {af : Array Edge} {gd : Option (Nat × Bool)}
    (hx : a.eval x = .pointer (some ⟨A, 0, none⟩)) (hy : a.eval y = lV r) (hA : L5 w A r') :
    (execOp a.eval ⟨ds, .store 28 x y, ty, pos, af, gd⟩).run Tryz.prog w = .ok .skip (rowL w A r) := by
  have h := run_storeVar_row (P := Tryz.prog) w A 28 28 _ r.c.toArray hA (by kernel_rfl) rfl (by simp [Lw.c, Value.oneCell', Sl.v])
  simp [execOp, hx, hy, Instr.storeAt, Instr.sureAddr, lV, h, rowL]
theorem wpList_store28 {ops : Array Oper} {rest : List Oper} {Q : Exit → Act → World → Prop} {a : Act} {x y : Operand} {A : Nat} {r r' : Lw} {w : World} {ty : Nat} {pos : String} {af : Array Edge}
    (hx : a.eval x = .pointer (some ⟨A, 0, none⟩)) (hy : a.eval y = lV r) (hA : L5 w A r')
    (h : wpList Tryz.prog ops Q rest a (rowL w A r)) : wpList Tryz.prog ops Q (⟨none, .store 28 x y, ty, pos, af, none⟩ :: rest) a w := by
  refine wpList_plain rfl fun K hK => ?_
  unfold Oper.wp
  rw [exec_store28 hx hy hA]
  exact hK _ _ h
def RdN (b : Nat) (w : World) (x : Option (Ln × Bs)) (e : Ending) (w' : World) : Prop := match x with
  | some (l, r) => ∃ lw, e = .returned (lV lw) ∧ LnAt w' (w.heap.size ≤ ·) lw l ∧ RAt w' b r 0 ∧ Kept [b] w w'
  | none => e = .panicked faultC ∧ Kept [b] w w'
theorem fin_line {b : Nat} {w w2 : World} {row : Lw} {v : Ln} {r : Bs} {A : Nat} (hk : Kept [b] w w2) (hV : LnAt w2 (w.heap.size + 1 ≤ ·) row v) (hR : RAt w2 b r 0) (hA : A = w.heap.size) (hb : b < w.heap.size) :
    RdN b w (some (v, r)) (.returned (lV row)) (rowL w2 A row) := by
  subst hA
  have q := rowL_self w2 w.heap.size row
  have q2 := q.below (B := w.heap.size) (by simp) hk.size
  refine ⟨row, rfl, ?_, hR.low q2 hb, kept_lo hk q2⟩
  exact (hV.kept q (by intro i hi; simp at hi; omega)).mono (fun p _ hp => by omega)
theorem kept_new {A b : Nat} {u v w : World} (h : Kept [b] u v) (k : Kept [b, A] v w) (hA : u.heap.size ≤ A) : Kept [b] u w := h.trans k (fun i hi hm => by
  simp at hm ⊢
  rcases hm with hm | hm
  · exact hm
  · omega)
theorem lineP_is (s : Bs) : lineP s = match needP [32] (s.dropWhile letB) with
    | none => none
    | some r => match (if s.takeWhile letB = [43] then some (⟨[43], [], [], [], r.takeWhile plB⟩, r.dropWhile plB) else behindP (s.takeWhile letB) r) with
      | none => none
      | some (l, r) => (needP [13, 10] r).map fun r => (l, r) := rfl
set_option maxRecDepth 100000 in
set_option maxHeartbeats 8000000 in
theorem line_any (w : World) (b : Nat) (s : Bs) (hE : Env w) (hb : 11 ≤ b) (h : RAt w b s 0) (hl : s.length ≤ 100000000) :
    Calls Tryz.prog 59 #[.pointer (some ⟨b, 0, none⟩)] w (RdN b w (lineP s)) := by
  have hf0 := fld0 b
  have hfl0 := fun A => fldL A 0 (by omega)
  have hfl4 := fun A => fldL A 4 (by omega)
  have HB := hid h.lt
  have hZ : Below w.heap.size w (w.alloc zL) := (Below.refl _ _).alloc (Nat.le_refl _) _
  have HZ := hid hZ
  have HE := hid (hE.later hZ)
  have HL := hid (L5.zero w)
  have HS : Hid ((w.alloc zL).heap.size = w.heap.size + 1) := by simp [Hid]
  have C := run_letter (h.later hZ) (by omega : s.length ≤ 1000000000)
  have HD := hid (drop_le letB s)
  have HX := hid (lineP_is s)
  generalize lineP s = X at *
  generalize s.takeWhile letB = t at *
  generalize s.dropWhile letB = r at *
  clear h hE hZ
  go_enter Tryz.func59, Tryz.ntmps59
  go_wp2_with fail
  refine C.mono ?_
  rintro e w1 ⟨rfl, k1, k2⟩
  have ha : Below w1.heap.size w1 (w1.alloc (.cells #[.string (str t), .slice none 0 0, .string ⟨#[]⟩, .slice none 0 0, .string ⟨#[]⟩] 28)) := (Below.refl _ _).alloc (Nat.le_refl _) _
  have R1 := hid (k1.later ha)
  have HA := hid ha
  have LN := hid (L5.new w1 ⟨t, (none, 0, 0), [], (none, 0, 0), []⟩)
  have L0 := hid ((HL.out.kept k2 (by simp; have := HB.out; omega)).later ha)
  have E1 := hid ((HE.out.kept k2 (by simpa using hb)).later ha)
  have K1 := hid (((Kept.ofBelow HZ.out [b]).trans1 k2).trans1 (Kept.ofBelow ha [b]))
  have S1 : Hid (w.heap.size + 1 ≤ w1.heap.size) := by have := k2.size; have := HS.out; unfold Hid; omega
  have S2 : Hid ((w1.alloc (.cells #[.string (str t), .slice none 0 0, .string ⟨#[]⟩, .slice none 0 0, .string ⟨#[]⟩] 28)).heap.size = w1.heap.size + 1) := by simp [Hid]
  have LN' : Hid (L5 (w1.alloc (.cells #[.string (str t), .slice none 0 0, .string ⟨#[]⟩, .slice none 0 0, .string ⟨#[]⟩] 28)) w1.heap.size ⟨t, (none, 0, 0), [], (none, 0, 0), []⟩) := LN.out
  clear k1 k2 C ha HL LN
  go_wp2_with fail
  generalize (w1.alloc (.cells #[.string (str t), .slice none 0 0, .string ⟨#[]⟩, .slice none 0 0, .string ⟨#[]⟩] 28)) = W at *
  generalize w1.heap.size = A at *
  rcases h32 : needP [32] r with _ | r1
  · have D := need_no R1.out [32] h32
    have hX : Hid (X = none) := by rw [Hid, HX.out, h32]
    clear h32 HX
    go_wp2_with fail
    refine D.mono ?_
    rintro e w2 ⟨rfl, k1⟩
    rw [hX.out]
    exact ⟨rfl, rfl, K1.out.trans1 k1⟩
  · have D := need_yes R1.out [32] h32
    have hr1 : r1.length ≤ 100000000 := by have := needP_le h32; have := HD.out; omega
    have hX : Hid (X = match (if t = [43] then some (⟨[43], [], [], [], r1.takeWhile plB⟩, r1.dropWhile plB) else behindP t r1) with
      | none => none
      | some (l, r) => (needP [13, 10] r).map fun r => (l, r)) := by rw [Hid, HX.out, h32]
    clear h32 HX
    go_wp2_with fail
    refine D.mono ?_
    rintro e w2 ⟨rfl, k1, k2⟩
    have LN := LN'.out.kept k2 (by simp; have := S1.out; have := HB.out; omega)
    have L2 := hid (L0.out.kept k2 (by simp; have := HB.out; omega))
    have c0 := LN.cs.1
    have K2 := hid (K1.out.trans1 k2)
    have E2 := E1.out.kept k2 (by simpa using hb)
    have S3 : Hid (A < w2.heap.size) := LN.lt
    have R2 := hid k1
    clear k1 k2 D LN' L0 K1 R1
    by_cases h43 : t = [43]
    · have C := run_plain R2.out (by omega)
      have g1 : (str t).toList = ([43] : Bs) := by rw [toL]; exact h43
      have hX2 : Hid (X = match needP [13, 10] (r1.dropWhile plB) with
        | none => none
        | some q => some (⟨[43], [], [], [], r1.takeWhile plB⟩, q)) := by
        rw [Hid, hX.out, if_pos h43]
        simp only
        cases needP [13, 10] (r1.dropWhile plB) <;> rfl
      have ht43 := hid h43
      clear h43 hX
      generalize r1.takeWhile plB = p at *
      generalize r1.dropWhile plB = q at *
      go_wp2_with fail
      refine C.mono ?_
      rintro e w3 ⟨rfl, k1, k2⟩
      have L3 := LN.kept k2 (by simp; have := S1.out; have := HB.out; omega)
      have f4 := L3.fz 4
      have c4 := L3.cs.2.2.2.2
      have L4 := hid (L3.set4 p)
      have k3 := Kept.setA w3 A 4 (.string (str p))
      have R4 := hid (k1.kept k3 (by simp; have := S1.out; have := HB.out; omega))
      have K4 := hid (kept_new (K2.out.trans1 k2) (kept3 (b := b) k3) (by have := S1.out; omega))
      have L5' := hid ((L2.out.kept k2 (by simp; have := HB.out; omega)).kept k3 (by simp; have := S1.out; omega))
      clear k1 k2 k3 C LN L3 L2
      go_wp2_with fail
      generalize w3.setCell ⟨A, 4, none⟩ (.string (str p)) = w4 at *
      rcases h13 : needP [13, 10] q with _ | q2
      · have D := need_no R4.out [13, 10] h13
        have hX3 : Hid (X = none) := by rw [Hid, hX2.out, h13]
        clear h13 hX2
        go_wp2_with fail
        refine D.mono ?_
        rintro e w5 ⟨rfl, k1⟩
        rw [hX3.out]
        exact ⟨rfl, rfl, K4.out.trans1 k1⟩
      · have D := need_yes R4.out [13, 10] h13
        have hX3 : Hid (X = some (⟨[43], [], [], [], p⟩, q2)) := by rw [Hid, hX2.out, h13]
        clear h13 hX2
        go_wp2_with fail
        refine D.mono ?_
        rintro e w5 ⟨rfl, k1, k2⟩
        have LA := L4.out.kept k2 (by simp; have := S1.out; have := HB.out; omega)
        have LB := L5'.out.kept k2 (by simp; have := HB.out; omega)
        obtain ⟨x0, x1, x2, x3, x4⟩ := LA.cs
        simp only [Sl.v] at x1 x3
        have R5 := hid k1
        have K5 := hid (K4.out.trans1 k2)
        have LB' := hid LB
        clear k1 k2 D LA LB
        go_wp2_with (refine wpList_store28 (r := ⟨t, (none, 0, 0), [], (none, 0, 0), p⟩) rfl rfl LB'.out ?_)
        have p1 := rowL_is LB'.out ⟨t, (none, 0, 0), [], (none, 0, 0), p⟩
        refine bodyPost_ret (w := rowL w5 w.heap.size ⟨t, (none, 0, 0), [], (none, 0, 0), p⟩) (resL rfl rfl p1) rfl ?_
        rw [hX3.out]
        exact fin_line K5.out ⟨ht43.out, rfl, rfl, VsAt.nil _ _, VsAt.nil _ _⟩ R5.out rfl HB.out
    · have G := behind_any w2 b A t r1 E2 hb (by have := S1.out; have := HB.out; omega) (by have := S1.out; have := HB.out; omega) R2.out LN hr1
      have g1 : ((str t).toList == ([43] : Bs)) = false := by rw [toL, beq_eq_false_iff_ne]; exact h43
      have hX2 : Hid (X = match behindP t r1 with
        | none => none
        | some (l, r) => (needP [13, 10] r).map fun r => (l, r)) := by rw [Hid, hX.out, if_neg h43]; rfl
      clear h43 hX LN
      rcases hbh : behindP t r1 with _ | ⟨l, q⟩
      · rw [hbh] at G hX2
        go_wp2_with fail
        refine G.mono ?_
        rintro e w3 ⟨rfl, k1⟩
        rw [hX2.out]
        exact ⟨rfl, rfl, kept_new K2.out k1 (by have := S1.out; omega)⟩
      · rw [hbh] at G hX2
        go_wp2_with fail
        refine G.mono ?_
        rintro e w4 ⟨rfl, ⟨lw, L3, N3⟩, k1, k2⟩
        have K4 := hid (kept_new K2.out k2 (by have := S1.out; omega))
        have R4 := hid k1
        have L4 := hid L3
        have N4 := hid (N3.mono (N' := fun q => w.heap.size + 1 ≤ q ∧ A < q) (fun q _ hq => ⟨by have := S1.out; have := S3.out; omega, by have := S3.out; omega⟩))
        have L5' := hid (L2.out.kept k2 (by simp; have := HB.out; have := S1.out; omega))
        clear k1 k2 L3 N3 G L2
        rcases h13 : needP [13, 10] q with _ | q2
        · have D := need_no R4.out [13, 10] h13
          have hX3 : Hid (X = none) := by rw [Hid, hX2.out, h13]; rfl
          clear h13 hX2
          go_wp2_with fail
          refine D.mono ?_
          rintro e w5 ⟨rfl, k1⟩
          rw [hX3.out]
          exact ⟨rfl, rfl, K4.out.trans1 k1⟩
        · have D := need_yes R4.out [13, 10] h13
          have hX3 : Hid (X = some (l, q2)) := by rw [Hid, hX2.out, h13]; rfl
          clear h13 hX2
          go_wp2_with fail
          refine D.mono ?_
          rintro e w5 ⟨rfl, k1, k2⟩
          have LA := L4.out.kept k2 (by simp; have := S1.out; have := HB.out; omega)
          have LB := L5'.out.kept k2 (by simp; have := HB.out; omega)
          obtain ⟨lt, ⟨va, vb, vc⟩, ls, ⟨ca, cb, cc⟩, lx⟩ := lw
          obtain ⟨x0, x1, x2, x3, x4⟩ := LA.cs
          simp only [Sl.v] at x1 x3
          have R5 := hid k1
          have K5 := hid (K4.out.trans1 k2)
          have LB' := hid LB
          have N5 := hid ((N4.out.mono (N' := (w.heap.size + 1 ≤ ·)) (fun q _ hq => hq.1)).kept k2 (by intro i hi; simp at hi; have := HB.out; omega))
          clear k1 k2 D LA LB N4
          go_wp2_with (refine wpList_store28 (r := ⟨lt, (va, vb, vc), ls, (ca, cb, cc), lx⟩) rfl rfl LB'.out ?_)
          have p1 := rowL_is LB'.out ⟨lt, (va, vb, vc), ls, (ca, cb, cc), lx⟩
          refine bodyPost_ret (w := rowL w5 w.heap.size ⟨lt, (va, vb, vc), ls, (ca, cb, cc), lx⟩) (resL rfl rfl p1) rfl ?_
          rw [hX3.out]
          exact fin_line K5.out N5.out R5.out rfl HB.out
end Go.Proofs.YtpjcpdnolcehcaaGreatDoor
