/- What this text holds: a literal ends, is awaited; the way out of one that is let go. -/
import Derived.Test.YtikcbgoocljgnaaDoorM5
namespace Go.Proofs.YtikcbgoocljgnaaDoor
open Go.RowKit
set_option linter.unusedVariables false
set_option linter.unusedSimpArgs false

theorem FTo.at1 {w w1 W : World} {b : Nat} {own own1 : List Nat} {F : Fd} {vt vl vu : Value} (k1 : Kept own w w1) (ho : ∀ g ∈ own1, g ∈ own ∨ w.heap.size ≤ g) (he : own1 = own3 b vt vl vu) (f : FIn W b vt vl vu F) (k : Kept [b] w1 W) : FTo w b own F W := by
  subst he
  exact FTo.trans k1 ho (FTo.sets f k)
def endLitF (F : Fd) : Fd := { keepLitF F with nx := .line }
set_option maxRecDepth 100000 in
set_option maxHeartbeats 1000000 in
theorem endLiteral_any {w : World} {b : Nat} {own : List Nat} {F : Fd} (h : FAt w b own F) (h1 : F.lits.length ≤ 1000) :
    Calls Tryd.prog 50 #[.pointer (some ⟨b, 0, none⟩)] w fun e w' => e = .returned (.tuple #[]) ∧ FTo w b own (endLitF F) w' := by
  have HC := hid (keepLiteral_any h h1)
  clear h
  go_enter Tryd.func50, Tryd.ntmps50
  go_wp2_with fail
  refine HC.out.mono ?_
  rintro e w1 ⟨rfl, own1, ⟨vt, vl, vu, f, he⟩, hk, ho⟩
  have c7 : w1.cell? ⟨b, 7, none⟩ = some (nxV b (keepLitF F).nx) := f.r4.cell 7 rfl
  have f7 := f.r4.free 7
  have r1 := f.r4.set 7 (.func (.func 22) #[.pointer (some ⟨b, 0, none⟩)] #[])
  have HF := hid (FTo.at1 hk ho he (r1.fin (endLitF F) rfl rfl rfl rfl f.tl) (kept1 w1 b 7 _))
  clear f r1 hk ho he HC
  generalize nxV b (keepLitF F).nx = nv at *
  go_wp2_with fail
  go_end0
  exact ⟨rfl, HF.out⟩
def awaitF (F : Fd) (n : Nat) : Fd := if n = 0 then endLitF { F with left := 0, nx := .lit } else { F with left := n, nx := .lit }
set_option maxRecDepth 100000 in
set_option maxHeartbeats 1000000 in
theorem await_any {w : World} {b : Nat} {own : List Nat} {F : Fd} (h : FAt w b own F) (n : Nat) (h1 : F.lits.length ≤ 1000) (hn : n ≤ 1000000) :
    Calls Tryd.prog 39 #[.pointer (some ⟨b, 0, none⟩), .int .i64 n] w fun e w' => e = .returned (.tuple #[]) ∧ FTo w b own (awaitF F n) w' := by
  obtain ⟨vt, vl, vu, f, rfl⟩ := h
  have c4 : w.cell? ⟨b, 4, none⟩ = some (.int .i64 F.left) := f.r4.cell 4 rfl
  have c7 : w.cell? ⟨b, 7, none⟩ = some (nxV b F.nx) := f.r4.cell 7 rfl
  have f4 := f.r4.free 4
  have f7 := f.r4.free 7
  have r1 := (f.r4.set 4 (.int .i64 n)).set 7 (.func (.func 49) #[.pointer (some ⟨b, 0, none⟩)] #[])
  have k1 := (kept1 w b 4 (.int .i64 n)).trans (kept1 _ b 7 (.func (.func 49) #[.pointer (some ⟨b, 0, none⟩)] #[])) (fun _ _ h => h)
  have g1 := FTo.sets (r1.fin { F with left := n, nx := .lit } rfl rfl rfl rfl f.tl) k1
  by_cases h0 : n = 0
  · have e0 : ((n : Int) == 0) = true := by simp [h0]
    obtain ⟨own1, hf1, hk1, ho1⟩ := g1
    have HC := hid (endLiteral_any hf1 h1)
    have HX : Hid (awaitF F n = endLitF { F with left := n, nx := .lit }) := by unfold awaitF; rw [Hid, if_pos h0, h0]
    have HK := hid hk1
    have HO := hid ho1
    clear f r1 k1 hf1 hk1 ho1 h0
    generalize nxV b F.nx = nv at *
    go_enter Tryd.func39, Tryd.ntmps39
    go_wp2_with fail
    refine HC.out.mono ?_
    rintro e w2 ⟨rfl, g2⟩
    have HG := hid (FTo.trans HK.out HO.out g2)
    clear g2
    go_wp2_with fail
    go_end0
    rw [HX.out]
    exact ⟨rfl, HG.out⟩
  · have e0 : ((n : Int) == 0) = false := by simp [h0]
    have HX : Hid (awaitF F n = { F with left := n, nx := .lit }) := by unfold awaitF; rw [Hid, if_neg h0]
    have HF := hid g1
    clear f r1 k1 g1 h0
    generalize nxV b F.nx = nv at *
    go_enter Tryd.func39, Tryd.ntmps39
    go_wp2_with fail
    go_end0
    rw [HX.out]
    exact ⟨rfl, HF.out⟩
/-- The way out: does it end with this byte; how many, and is it ending? -/
def foundP (many : Nat) (ending : Bool) (c : UInt8) : Bool × Nat × Bool :=
  if c = 10 then (decide (50000 ≤ many), 0, false)
  else if c = 13 ∧ 50000 ≤ many ∧ ending = false then (false, many, true)
  else if c = 120 ∧ ending = false then (false, many + 1, ending)
  else if c = 120 then (false, 1, false)
  else (false, 0, false)
theorem beq_c (c k : UInt8) : ((c.toNat : Int) == (k.toNat : Int)) = decide (c = k) := by
  rw [Bool.eq_iff_iff]
  simp only [beq_iff_eq, decide_eq_true_eq]
  constructor
  · intro h; exact UInt8.toNat_inj.1 (by omega)
  · intro h; rw [h]
theorem is_c {c k : UInt8} (h : c = k) : ((c.toNat : Int) == (k.toNat : Int)) = true := by rw [beq_c]; simpa using h
theorem no_c {c k : UInt8} (h : ¬ c = k) : ((c.toNat : Int) == (k.toNat : Int)) = false := by rw [beq_c]; simpa using h
set_option maxRecDepth 100000 in
set_option maxHeartbeats 2000000 in
theorem found_any {w : World} {b : Nat} {own : List Nat} {F : Fd} (h : FAt w b own F) (c : UInt8) (hm : F.many ≤ 100000000) :
    Calls Tryd.prog 76 #[.pointer (some ⟨b, 5, none⟩), .int .u8 c.toNat] w fun e w' => e = .returned (.bool (foundP F.many F.ending c).1) ∧ FTo w b own { F with many := (foundP F.many F.ending c).2.1, ending := (foundP F.many F.ending c).2.2 } w' := by
  obtain ⟨vt, vl, vu, f, rfl⟩ := h
  have c5 : w.cell? ⟨b, 5, none⟩ = some (.int .i64 F.many) := f.r4.cell 5 rfl
  have c6 : w.cell? ⟨b, 6, none⟩ = some (.bool F.ending) := f.r4.cell 6 rfl
  have f5 := f.r4.free 5
  have f6 := f.r4.free 6
  have k0 : Kept [b] w w := Kept.refl _ _
  -- both cells, one of them, none
  have HB2 : Hid (∀ (m : Nat) (e : Bool), FTo w b (own3 b vt vl vu) { F with many := m, ending := e } ((w.setCell ⟨b, 5, none⟩ (.int .i64 m)).setCell ⟨b, 6, none⟩ (.bool e))) := fun m e =>
    FTo.sets (((f.r4.set 5 (.int .i64 m)).set 6 (.bool e)).fin { F with many := m, ending := e } rfl rfl rfl rfl f.tl) ((kept1 w b 5 _).trans (kept1 _ b 6 _) (fun _ _ h => h))
  have HB5 : Hid (∀ (m : Nat), FTo w b (own3 b vt vl vu) { F with many := m } (w.setCell ⟨b, 5, none⟩ (.int .i64 m))) := fun m =>
    FTo.sets ((f.r4.set 5 (.int .i64 m)).fin { F with many := m } rfl rfl rfl rfl f.tl) (kept1 w b 5 _)
  have HB6 : Hid (∀ (e : Bool), FTo w b (own3 b vt vl vu) { F with ending := e } (w.setCell ⟨b, 6, none⟩ (.bool e))) := fun e =>
    FTo.sets ((f.r4.set 6 (.bool e)).fin { F with ending := e } rfl rfl rfl rfl f.tl) (kept1 w b 6 _)
  clear f k0
  obtain ⟨T, L, sz, U, lf, m, e, nx⟩ := F
  simp only at *
  by_cases h10 : c = 10
  · have a10 : ((c.toNat : Int) == 10) = true := is_c h10
    have HF := hid (HB2.out 0 false)
    by_cases hg : 50000 ≤ m
    · have HP : Hid (foundP m e c = (true, 0, false)) := by unfold foundP; rw [Hid, if_pos h10]; simp [hg]
      have hg' : (50000 : Int) ≤ (m : Int) := by omega
      clear hg h10
      rw [HP.out]
      go_enter Tryd.func76, Tryd.ntmps76
      go_wp2_with fail
      go_ret
      exact ⟨rfl, HF.out⟩
    · have HP : Hid (foundP m e c = (false, 0, false)) := by unfold foundP; rw [Hid, if_pos h10]; simp [hg]
      have hg' : ¬ (50000 : Int) ≤ (m : Int) := by omega
      clear hg h10
      rw [HP.out]
      go_enter Tryd.func76, Tryd.ntmps76
      go_wp2_with fail
      go_ret
      exact ⟨rfl, HF.out⟩
  · have a10 : ((c.toNat : Int) == 10) = false := no_c h10
    by_cases h13 : c = 13
    · have a13 : ((c.toNat : Int) == 13) = true := is_c h13
      have a120 : ((c.toNat : Int) == 120) = false := no_c (c := c) (k := 120) (by rw [h13]; decide)
      by_cases hg : 50000 ≤ m
      · have hg' : (50000 : Int) ≤ (m : Int) := by omega
        cases e with
        | false =>
          have HP : Hid (foundP m false c = (false, m, true)) := by unfold foundP; rw [Hid, if_neg h10, if_pos ⟨h13, hg, rfl⟩]
          have HF := hid (HB6.out true)
          clear hg h10 h13
          rw [HP.out]
          go_enter Tryd.func76, Tryd.ntmps76
          go_wp2_with fail
          go_ret
          exact ⟨rfl, HF.out⟩
        | true =>
          have HP : Hid (foundP m true c = (false, 0, false)) := by unfold foundP; rw [Hid, if_neg h10]; simp [h13]
          have HF := hid (HB2.out 0 false)
          clear hg h10 h13
          rw [HP.out]
          go_enter Tryd.func76, Tryd.ntmps76
          go_wp2_with fail
          go_ret
          exact ⟨rfl, HF.out⟩
      · have HP : Hid (foundP m e c = (false, 0, false)) := by unfold foundP; rw [Hid, if_neg h10]; simp [h13, hg]
        have hg' : ¬ (50000 : Int) ≤ (m : Int) := by omega
        have HF := hid (HB2.out 0 false)
        clear hg h10 h13
        rw [HP.out]
        go_enter Tryd.func76, Tryd.ntmps76
        go_wp2_with fail
        go_ret
        exact ⟨rfl, HF.out⟩
    · have a13 : ((c.toNat : Int) == 13) = false := no_c h13
      by_cases h120 : c = 120
      · have a120 : ((c.toNat : Int) == 120) = true := is_c h120
        cases e with
        | false =>
          have HP : Hid (foundP m false c = (false, m + 1, false)) := by unfold foundP; rw [Hid, if_neg h10, if_neg (fun q => h13 q.1), if_pos ⟨h120, rfl⟩]
          have HF := hid (HB5.out (m + 1))
          clear h10 h13 h120
          rw [HP.out]
          go_enter Tryd.func76, Tryd.ntmps76
          go_wp2_with fail
          go_ret
          exact ⟨rfl, HF.out⟩
        | true =>
          have HP : Hid (foundP m true c = (false, 1, false)) := by unfold foundP; rw [Hid, if_neg h10, if_neg (fun q => h13 q.1)]; simp [h120]
          have HF := hid (HB2.out 1 false)
          clear h10 h13 h120
          rw [HP.out]
          go_enter Tryd.func76, Tryd.ntmps76
          go_wp2_with fail
          go_ret
          exact ⟨rfl, HF.out⟩
      · have a120 : ((c.toNat : Int) == 120) = false := no_c h120
        have HP : Hid (foundP m e c = (false, 0, false)) := by unfold foundP; rw [Hid, if_neg h10, if_neg (fun q => h13 q.1)]; simp [h120]
        have HF := hid (HB2.out 0 false)
        clear h10 h13 h120
        rw [HP.out]
        go_enter Tryd.func76, Tryd.ntmps76
        go_wp2_with fail
        go_ret
        exact ⟨rfl, HF.out⟩
end Go.Proofs.YtikcbgoocljgnaaDoor
