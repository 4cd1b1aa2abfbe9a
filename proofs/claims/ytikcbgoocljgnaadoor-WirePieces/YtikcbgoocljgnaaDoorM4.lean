/- What this text holds: a text is kept; how long the lines are; whether a literal may follow; a literal is let go. -/
import Derived.Test.YtikcbgoocljgnaaDoorM3
namespace Go.Proofs.YtikcbgoocljgnaaDoor
open Go.RowKit
set_option linter.unusedVariables false
set_option linter.unusedSimpArgs false

theorem cast_add (a b : Nat) : (a : Int) + (b : Int) = ((a + b : Nat) : Int) := by omega
set_option maxRecDepth 100000 in
set_option maxHeartbeats 1000000 in
theorem keepText_any {w : World} {b : Nat} {own : List Nat} {F : Fd} (h : FAt w b own F) (t ln : Bs) (h1 : F.texts.length ≤ 1000) (h2 : F.size ≤ 100000000) (h3 : ln.length ≤ 100000000) :
    Calls Tryd.prog 38 #[.pointer (some ⟨b, 0, none⟩), .string (str t), .string (str ln)] w fun e w' => e = .returned (.tuple #[]) ∧ FTo w b own { F with texts := F.texts ++ [t], size := F.size + ln.length, under := [] } w' := by
  obtain ⟨vt, vl, vu, f, rfl⟩ := h
  obtain ⟨v', w1, hr, ho, hk, hn⟩ := go_one_kept eS f.t (by omega) t w.heap.size rfl
  have r1 := f.r4.text f.tl hk ho
  have r2 := ((r1.set 0 v').set 2 (.int .i64 ((F.size + ln.length : Nat) : Int))).set 3 (.slice none 0 0)
  have hlt := f.lt
  have tl' : ∀ g, v'.ownBlock = some g → vl.ownBlock ≠ some g := fun g hg e => by
    rcases hn g hg with q | q
    · exact f.tl g q e
    · have := f.l.lt e; omega
  have hK : Kept (own3 b vt vl vu) w (((w1.setCell ⟨b, 0, none⟩ v').setCell ⟨b, 2, none⟩ (.int .i64 ((F.size + ln.length : Nat) : Int))).setCell ⟨b, 3, none⟩ (.slice none 0 0)) := by
    have hb : b ∈ own3 b vt vl vu := own3_mem.2 (.inl rfl)
    have k1 : Kept (own3 b vt vl vu) w w1 := hk.mono (fun i _ hi => own3_mem.2 (.inr (.inl (by rwa [Option.mem_toList] at hi))))
    exact ((k1.trans (Kept.setCell _ _ _ _ hb) (fun _ _ h => h)).trans (Kept.setCell _ _ _ _ hb) (fun _ _ h => h)).trans (Kept.setCell _ _ _ _ hb) (fun _ _ h => h)
  have HF : Hid (FTo w b (own3 b vt vl vu) { F with texts := F.texts ++ [t], size := F.size + ln.length, under := [] } (((w1.setCell ⟨b, 0, none⟩ v').setCell ⟨b, 2, none⟩ (.int .i64 ((F.size + ln.length : Nat) : Int))).setCell ⟨b, 3, none⟩ (.slice none 0 0))) := by
    refine ⟨own3 b v' vl (.slice none 0 0), ⟨v', vl, .slice none 0 0, ⟨?_, r2.t, r2.l, GO.nil _ _ _, tl'⟩, rfl⟩, hK, fun g hg => ?_⟩
    · rw [r2.row]; rfl
    · rcases own3_mem.1 hg with e | e | e | e
      · exact .inl (own3_mem.2 (.inl e))
      · rcases hn g e with q | q
        · exact .inl (own3_mem.2 (.inr (.inl q)))
        · exact .inr q
      · exact .inl (own3_mem.2 (.inr (.inr (.inl e))))
      · simp [Value.ownBlock] at e
  have c0 : w.cell? ⟨b, 0, none⟩ = some vt := f.r4.cell 0 rfl
  have d0 : w1.cell? ⟨b, 0, none⟩ = some vt := r1.cell 0 rfl
  have d2 : w1.cell? ⟨b, 2, none⟩ = some (.int .i64 F.size) := r1.cell 2 rfl
  have d3 : w1.cell? ⟨b, 3, none⟩ = some vu := r1.cell 3 rfl
  have f0 := r1.free 0
  have f2 := r1.free 2
  have f3 := r1.free 3
  have hz := str_size ln
  have HR : Hid ((Builtin.append_ #[34, 34] 34 #[vt, .slice (some ⟨w.heap.size, 0, none⟩) 1 1]).run Tryd.prog (w.alloc (.cells #[.string (str t)] 9)) = .ok v' w1) := hr
  obtain ⟨a0, k0, hv0⟩ := f.t.slice (n := F.texts.length) rfl
  obtain ⟨a1, k1, hv1⟩ := ho.slice (n := F.texts.length + 1) (by simp)
  subst hv0 hv1
  clear f r1 r2 hr ho hk hn tl' hK
  generalize F.size = sz at *
  rw [← cast_add] at HF
  go_enter Tryd.func38, Tryd.ntmps38
  go_wp2_with (at_builtin; refine wpList_append_run rfl rfl HR.out ?_)
  go_end0
  exact ⟨rfl, HF.out⟩
/-- May a literal not follow? -/
def refB (F : Fd) (m : Nat) : Bool := decide (50000 < m) || decide (F.lits.length = 20)
set_option maxRecDepth 100000 in
set_option maxHeartbeats 1000000 in
theorem refuses_any {w : World} {b : Nat} {own : List Nat} {F : Fd} (h : FAt w b own F) (m : Nat) (p : Bool) (h1 : F.lits.length ≤ 1000) (hm : m ≤ 1000000) :
    Calls Tryd.prog 36 #[.pointer (some ⟨b, 0, none⟩), .agg #[.int .i64 m, .bool p]] w fun e w' => e = .returned (.bool (refB F m)) ∧ Below w.heap.size w w' := by
  obtain ⟨vt, vl, vu, f, rfl⟩ := h
  have hal : Below w.heap.size w (w.alloc (.cells #[.int .i64 m, .bool p] 75)) := (Below.refl _ _).alloc (Nat.le_refl _) _
  have c1 : (w.alloc (.cells #[.int .i64 m, .bool p] 75)).cell? ⟨b, 1, none⟩ = some vl := (f.r4.later hal).cell 1 rfl
  have HB := hid hal
  obtain ⟨a0, k0, hv0⟩ := f.l.slice (n := F.lits.length) rfl
  subst hv0
  clear f hal
  unfold refB
  generalize F.lits.length = n at *
  by_cases hc : 50000 < m
  · have hc' : (50000 : Int) < (m : Int) := by omega
    rw [show decide (50000 < m) = true by simpa using hc]
    clear hc
    go_enter Tryd.func36, Tryd.ntmps36
    go_wp2_with fail
    go_ret
    exact ⟨rfl, HB.out⟩
  · have hc' : ¬ (50000 : Int) < (m : Int) := by omega
    rw [show decide (50000 < m) = false by simpa using hc, Bool.false_or]
    clear hc
    by_cases hd : n = 20
    · have hd' : ((n : Int) == 20) = true := by simp [hd]
      rw [show decide (n = 20) = true by simpa using hd]
      clear hd
      go_enter Tryd.func36, Tryd.ntmps36
      go_wp2_with fail
      go_ret
      exact ⟨rfl, HB.out⟩
    · have hd' : ((n : Int) == 20) = false := by simp; omega
      rw [show decide (n = 20) = false by simpa using hd]
      clear hd
      go_enter Tryd.func36, Tryd.ntmps36
      go_wp2_with fail
      go_ret
      exact ⟨rfl, HB.out⟩
theorem FTo.sets {w W : World} {b : Nat} {vt vl vu : Value} {F : Fd} (f : FIn W b vt vl vu F) (k : Kept [b] w W) : FTo w b (own3 b vt vl vu) F W :=
  ⟨_, ⟨vt, vl, vu, f, rfl⟩, k.mono (fun i _ hi => by rw [List.mem_singleton] at hi; exact own3_mem.2 (.inl hi)), fun g hg => .inl hg⟩
theorem kept1 (w : World) (b i : Nat) (v : Value) : Kept [b] w (w.setCell ⟨b, i, none⟩ v) := Kept.setCell _ _ _ _ (by simp)
def letGoF (F : Fd) (n : Nat) : Fd := { F with left := n, nx := if n = 0 then .pline else .plit }
set_option maxRecDepth 100000 in
set_option maxHeartbeats 1000000 in
theorem letGo_any {w : World} {b : Nat} {own : List Nat} {F : Fd} (h : FAt w b own F) (n : Nat) (hn : n ≤ 1000000) :
    Calls Tryd.prog 48 #[.pointer (some ⟨b, 0, none⟩), .int .i64 n] w fun e w' => e = .returned (.tuple #[]) ∧ FTo w b own (letGoF F n) w' := by
  obtain ⟨vt, vl, vu, f, rfl⟩ := h
  have c4 : w.cell? ⟨b, 4, none⟩ = some (.int .i64 F.left) := f.r4.cell 4 rfl
  have c7 : w.cell? ⟨b, 7, none⟩ = some (nxV b F.nx) := f.r4.cell 7 rfl
  have f4 := f.r4.free 4
  have f7 := f.r4.free 7
  have r1 := (f.r4.set 4 (.int .i64 n)).set 7 (.func (.func 61) #[.pointer (some ⟨b, 0, none⟩)] #[])
  have k1 := (kept1 w b 4 (.int .i64 n)).trans (kept1 _ b 7 (.func (.func 61) #[.pointer (some ⟨b, 0, none⟩)] #[])) (fun _ _ h => h)
  by_cases h0 : n = 0
  · have r2 := r1.set 7 (.func (.func 31) #[.pointer (some ⟨b, 0, none⟩)] #[])
    have k2 := k1.trans (kept1 _ b 7 (.func (.func 31) #[.pointer (some ⟨b, 0, none⟩)] #[])) (fun _ _ h => h)
    have HF := hid (FTo.sets (r2.fin (letGoF F n) (by simp [letGoF, h0]; rfl) rfl rfl rfl f.tl) k2)
    have e0 : ((n : Int) == 0) = true := by simp [h0]
    clear f r1 r2 k1 k2 h0
    generalize nxV b F.nx = nv at *
    go_enter Tryd.func48, Tryd.ntmps48
    go_wp2_with fail
    go_end0
    exact ⟨rfl, HF.out⟩
  · have HF := hid (FTo.sets (r1.fin (letGoF F n) (by simp [letGoF, h0]; rfl) rfl rfl rfl f.tl) k1)
    have e0 : ((n : Int) == 0) = false := by simp [h0]
    clear f r1 k1 h0
    generalize nxV b F.nx = nv at *
    go_enter Tryd.func48, Tryd.ntmps48
    go_wp2_with fail
    go_end0
    exact ⟨rfl, HF.out⟩
end Go.Proofs.YtikcbgoocljgnaaDoor
