/- What this text holds: a literal is let go; a command is refused at a mark. -/
import Derived.Test.YtikcbgoocljgnaaDoorM9
namespace Go.Proofs.YtikcbgoocljgnaaDoor
open Go.RowKit
set_option linter.unusedVariables false
set_option linter.unusedSimpArgs false

def pastLitF (F : Fd) (c : UInt8) : Fd :=
  if (foundP F.many F.ending c).1 = true then Fd.zero
  else if F.left - 1 = 0 then { F with left := F.left - 1, many := (foundP F.many F.ending c).2.1, ending := (foundP F.many F.ending c).2.2, nx := .pline }
  else { F with left := F.left - 1, many := (foundP F.many F.ending c).2.1, ending := (foundP F.many F.ending c).2.2 }
set_option maxRecDepth 100000 in
set_option maxHeartbeats 1000000 in
theorem pastLiteral_any {w : World} {b : Nat} {own : List Nat} {F : Fd} (h : FAt w b own F) (c : UInt8) (h2 : 1 ≤ F.left) (h3 : F.left ≤ 1000000) (h4 : F.many ≤ 1000000) :
    Calls Tryd.prog 61 #[.pointer (some ⟨b, 0, none⟩), .int .u8 c.toNat] w (StepTo w b own (pastLitF F c) 0 [] []) := by
  have HH := hid h
  obtain ⟨vt, vl, vu, f, rfl⟩ := h.al
  have c4 : (w.alloc (.cells #[.int .i64 0, .slice none 0 0, .slice none 0 0] 41)).cell? ⟨b, 4, none⟩ = some (.int .i64 F.left) := f.r4.cell 4 rfl
  have f4 := f.r4.free 4
  have hcast : ((F.left - 1 : Nat) : Int) = (F.left : Int) - 1 := by omega
  have r1 := f.r4.set 4 (.int .i64 ((F.left - 1 : Nat) : Int))
  have g1 := FTo.sets (r1.fin { F with left := F.left - 1 } rfl rfl rfl rfl f.tl) (kept1 _ b 4 _)
  rw [hcast] at g1
  obtain ⟨own1, hf1, hk1, ho1⟩ := g1
  have HC := hid (found_any hf1 c (by show F.many ≤ 100000000; omega))
  have HK := hid hk1
  have HO := hid ho1
  have HP : Hid (pastLitF F c = if (foundP F.many F.ending c).1 = true then Fd.zero else if F.left - 1 = 0 then { F with left := F.left - 1, many := (foundP F.many F.ending c).2.1, ending := (foundP F.many F.ending c).2.2, nx := .pline } else { F with left := F.left - 1, many := (foundP F.many F.ending c).2.1, ending := (foundP F.many F.ending c).2.2 }) := rfl
  simp only at HC
  clear f r1 hf1 hk1 ho1 h
  generalize foundP F.many F.ending c = r at *
  obtain ⟨rb, rm, re⟩ := r
  simp only at HC HP
  rw [HP.out]
  clear HP
  cases rb with
  | true =>
    simp only [if_true]
    go_enter Tryd.func61, Tryd.ntmps61
    go_wp2_with fail
    refine HC.out.mono ?_
    rintro e w2 ⟨rfl, own2, hf2, hk2, ho2⟩
    have HC2 := hid (restart_any hf2)
    have HF2 := hid hf2
    have HK2 := hid hk2
    have HO2 := hid ho2
    clear hf2 hk2 ho2 HC
    go_wp2_with fail
    refine HC2.out.mono ?_
    rintro e w3 ⟨rfl, hf3, hk3⟩
    obtain ⟨gR, u1, u2⟩ := none_out HH.out (FTo.trans HK.out HO.out (FTo.trans HK2.out HO2.out (FTo.one HF2.out hf3 hk3)))
    obtain ⟨x0, x1, x2, s0, s1, s2⟩ := row41 gR
    have HU := hid u1
    have HG := hid u2
    clear hf3 hk3 gR u1 u2 HC2
    go_wp2_with fail
    exact bodyPost_ret (results61_run _ rfl HU.out) rfl HG.out
  | false =>
    simp only [Bool.false_eq_true, if_false]
    by_cases hz : F.left - 1 = 0
    · have e0 : ((F.left : Int) - 1 == 0) = true := by simp; omega
      rw [if_pos hz]
      go_enter Tryd.func61, Tryd.ntmps61
      go_wp2_with fail
      refine HC.out.mono ?_
      rintro e w2 ⟨rfl, own2, ⟨vt2, vl2, vu2, f2, he2⟩, hk2, ho2⟩
      have d4 : w2.cell? ⟨b, 4, none⟩ = some (.int .i64 ((F.left - 1 : Nat) : Int)) := f2.r4.cell 4 rfl
      rw [hcast] at d4
      have d7 : w2.cell? ⟨b, 7, none⟩ = some (nxV b F.nx) := f2.r4.cell 7 rfl
      have j7 := f2.r4.free 7
      have r3 := f2.r4.set 7 (.func (.func 31) #[.pointer (some ⟨b, 0, none⟩)] #[])
      have g3 := FTo.at1 hk2 ho2 he2 (r3.fin { F with left := F.left - 1, many := rm, ending := re, nx := .pline } rfl rfl rfl rfl f2.tl) (kept1 w2 b 7 _)
      obtain ⟨gR, u1, u2⟩ := none_out HH.out (FTo.trans HK.out HO.out g3)
      obtain ⟨x0, x1, x2, s0, s1, s2⟩ := row41 gR
      have HU := hid u1
      have HG := hid u2
      have gR2 : w2.heap[w.heap.size]? = some (.cells #[.int .i64 0, .slice none 0 0, .slice none 0 0] 41 (0, 0)) := by
        have hbw : w.heap.size ≠ b := fun e => HH.out.nR (e ▸ HH.out.mem)
        rw [Below.heap_setCell _ _ _ _ hbw] at gR
        exact gR
      obtain ⟨y0, y1, y2, t0, t1, t2⟩ := row41 gR2
      have hbw : b ≠ w.heap.size := fun e => HH.out.nR (e ▸ HH.out.mem)
      clear f2 he2 hk2 ho2 r3 g3 gR u1 u2 HC gR2
      generalize nxV b F.nx = nv at *
      go_wp2_with fail
      exact bodyPost_ret (results61_run _ rfl HU.out) rfl HG.out
    · have e0 : ((F.left : Int) - 1 == 0) = false := by simp; omega
      rw [if_neg hz]
      go_enter Tryd.func61, Tryd.ntmps61
      go_wp2_with fail
      refine HC.out.mono ?_
      rintro e w2 ⟨rfl, g2⟩
      have d4 : w2.cell? ⟨b, 4, none⟩ = some (.int .i64 ((F.left - 1 : Nat) : Int)) := by
        obtain ⟨own2, ⟨vt2, vl2, vu2, f2, he2⟩, hk2, ho2⟩ := g2
        exact f2.r4.cell 4 rfl
      rw [hcast] at d4
      obtain ⟨gR, u1, u2⟩ := none_out HH.out (FTo.trans HK.out HO.out g2)
      obtain ⟨x0, x1, x2, s0, s1, s2⟩ := row41 gR
      have HU := hid u1
      have HG := hid u2
      clear g2 gR u1 u2 HC
      go_wp2_with fail
      exact bodyPost_ret (results61_run _ rfl HU.out) rfl HG.out
end Go.Proofs.YtikcbgoocljgnaaDoor
