/- What this text holds: a line of so many bytes a, as the statement makes it. -/
import Derived.Test.YtikcbgoocljgnaaDoorM28
namespace Go.Proofs.YtikcbgoocljgnaaDoor
open Go.RowKit
set_option linter.unusedVariables false
set_option linter.unusedSimpArgs false

theorem cs_many (k : Nat) (c : UInt8) : eB.cs (many k c) = List.replicate k (.int .u8 (c.toNat : Int)) := by
  induction k with
  | zero => rfl
  | succ k ih => rw [many_succ, List.replicate_succ, ← ih]; rfl
theorem made_bytes (k : Nat) (hk : k ≤ 1000000) (w : World) : (Instr.makeSlice 31 (.int .i64 k) (.int .i64 k)).run Tryd.prog w = .ok (.slice (some ⟨w.heap.size, 0, none⟩) k k) (w.alloc (.cells (eB.cs (many k 0)).toArray 5)) := by
  obtain ⟨i, hi, hz0, hz1, hz2⟩ := info_parts Tryd.info5
  have h := run_make (P := Tryd.prog) w 31 5 i _ Tryd.underlying31 hi hz0 .i64 .i64 k k (by omega) (by omega) (by rw [hz2]; omega) (by omega)
  rw [h, hz1, show (k : Int).toNat = k by omega]
  have e : madeCells (Value.int .u8 0).cells (k * 1) = (eB.cs (many k 0)).toArray := by
    apply Array.toList_inj.1
    have h1' := madeCells_same 1 k (.int .u8 0) (by omega)
    have h2 : (Value.int .u8 0).cells = Array.replicate 1 (.int .u8 0) := rfl
    rw [h2, Nat.mul_one, h1', cs_many]
    rfl
  rw [e]
theorem go_made {α : Type} (E : En α) (w : World) (l : List α) (hl : l.length ≤ 1000000) : GO E (w.alloc (.cells (E.cs l).toArray E.T)) w.heap.size (.slice (some ⟨w.heap.size, 0, none⟩) l.length l.length) l := by
  refine ⟨E.cs_len l, .inr ⟨w.heap.size, l.length, (E.cs l).toArray, rfl, Nat.le_refl _, heap_alloc_new _ _, Nat.le_refl _, by unfold maxLen; omega, ?_, ?_⟩⟩
  · simp [E.cs_len]
  · rw [← E.cs_len]; simp
/-- Bytes that a call made. -/
def BtIs (s : Bs) (w : World) (e : Ending) (w' : World) : Prop := ∃ g c, e = .returned (.slice (some ⟨g, 0, none⟩) s.length c) ∧ s.length ≤ c ∧ GA eB w' g 0 s ∧ w.heap.size ≤ g ∧ g < w'.heap.size ∧ Below w.heap.size w w'
theorem many_set (j k : Nat) (h : j < k) : (many j 97 ++ many (k - j) 0).set j 97 = many (j + 1) 97 ++ many (k - (j + 1)) 0 := by
  have e : many (k - j) 0 = 0 :: many (k - (j + 1)) 0 := by rw [show k - j = (k - (j + 1)) + 1 by omega]; rfl
  rw [e, List.set_append_right _ _ (by rw [many_len]; omega), many_len, Nat.sub_self, List.set_cons_zero, many_add j 1]
  simp [many]
set_option maxRecDepth 100000 in
set_option maxHeartbeats 2000000 in
theorem line_any (k : Nat) (hk : k ≤ 100000) (w : World) : Calls Tryd.prog 20 #[.int .i64 k] w (BtIs (many k 97 ++ [13, 10]) w) := by
  have hmk := made_bytes k (by omega) w
  have hgo := go_made eB w (many k 0) (by rw [many_len]; omega)
  rw [many_len] at hgo
  have hgo0 : GO eB (w.alloc (.cells (eB.cs (many k 0)).toArray 5)) w.heap.size (.slice (some ⟨w.heap.size, 0, none⟩) k k) (many 0 97 ++ many (k - 0) 0) := by rw [Nat.sub_zero]; exact hgo
  have HG := hid hgo0
  have HB : Hid (Below w.heap.size w (w.alloc (.cells (eB.cs (many k 0)).toArray 5))) := (Below.refl _ _).alloc (Nat.le_refl _) _
  clear hgo hgo0
  generalize w.alloc (.cells (eB.cs (many k 0)).toArray 5) = W at *
  go_enter Tryd.func20, Tryd.ntmps20
  go_wp2_with fail
  go_loopw [9] (fun i wr => ∃ j : Nat, j ≤ k ∧ i = .int .i64 j ∧ GO eB wr w.heap.size (.slice (some ⟨w.heap.size, 0, none⟩) k k) (many j 97 ++ many (k - j) 0) ∧ Below w.heap.size w wr) (fun i _ => k - (intOf i).toNat)
  case atStart => exact ⟨0, by omega, rfl, HG.out, HB.out⟩
  case round =>
    obtain ⟨j, hj, rfl, hg, hb⟩ := hrel
    have hlen : (many j 97 ++ many (k - j) 0).length = k := by rw [List.length_append, many_len, many_len]; omega
    by_cases hlt : j < k
    · have hlt' : (j : Int) < k := by omega
      have st := go_set eB hg hlen j (by rw [hlen]; exact hlt) 0 (by decide) 97 (.int .u8 97) rfl rfl
      simp only [show eB.k = 1 from rfl, Nat.mul_one, Nat.add_zero] at st
      rw [many_set j k hlt] at st
      obtain ⟨hfz, hg', _⟩ := st
      have hc : ∃ v, wr.cell? ⟨w.heap.size, j, none⟩ = some v := by
        have hx : j < (many j 97 ++ many (k - j) 0).length := by rw [hlen]; exact hlt
        have := World.ownsRow.cells hg rfl j _ (by
          have := eB.cs_at (many j 97 ++ many (k - j) 0) j 0 _ _ (List.getElem?_eq_getElem hx) rfl
          simpa [eB] using this)
        rw [Addr.add_mid, Nat.zero_add] at this
        exact ⟨_, this⟩
      obtain ⟨v, hc⟩ := hc
      have HG1 := hid hg'
      have HB1 := hid (hb.setCell (p := ⟨w.heap.size, j, none⟩) (Nat.le_refl _) (.int .u8 97))
      clear hg hb hg' hlen HG HB
      go_wp2_with fail
      go_roundw
      case rel => exact ⟨j + 1, by omega, by go_num, HG1.out, HB1.out⟩
      case measure => simp [intOf]; omega
    · have hlt' : ¬ (j : Int) < k := by omega
      have hjk : j = k := by omega
      subst hjk
      rw [Nat.sub_self, show many 0 (0 : UInt8) = [] from rfl, List.append_nil] at hg
      have hal : Below wr.heap.size wr (wr.alloc (.cells #[.int .u8 13, .int .u8 10] 5)) := (Below.refl _ _).alloc (Nat.le_refl _) _
      have hgl : GL eB (wr.alloc (.cells #[.int .u8 13, .int .u8 10] 5)) (.slice (some ⟨wr.heap.size, 0, none⟩) 2 2) [13, 10] := gl_lit eB wr [13, 10]
      obtain ⟨v', w', hr, ho, hbw, _⟩ := go_more eB (hg.later hal) (Nat.le_trans hb.size hal.size) hgl (by rw [many_len]; omega) (by simp) (by simp)
      have HR : Hid ((Builtin.append_ #[31, 31] 31 #[.slice (some ⟨w.heap.size, 0, none⟩) j j, .slice (some ⟨wr.heap.size, 0, none⟩) 2 2]).run Tryd.prog (wr.alloc (.cells #[.int .u8 13, .int .u8 10] 5)) = .ok v' w') := hr
      have hln : (many j 97 ++ [13, 10]).length = j + 2 := by simp [many_len]
      have HBt : Hid (BtIs (many j 97 ++ [13, 10]) w (.returned v') w') := by
        obtain ⟨g, c, hv, hB⟩ := ownsRow_some ho (by rw [hln]; omega)
        obtain ⟨a, c', hv', hcc, hr'⟩ := ho.gl
        rw [hv] at hv'
        simp only [Value.slice.injEq] at hv'
        obtain ⟨rfl, _, rfl⟩ := hv'
        rcases hr' with e | ⟨g', o', ha, hga, hgl'⟩
        · rw [e] at hln; simp at hln
        · simp only [Option.some.injEq, Addr.mk.injEq] at ha
          obtain ⟨rfl, rfl, _⟩ := ha
          exact ⟨g, c, by rw [hv], hcc, hga, hB, hgl', (hb.alloc hb.size _).trans hbw⟩
      obtain ⟨a9, c9, hv9⟩ := ho.slice (n := j + 2) hln
      subst hv9
      clear hg hal hgl hr ho hbw hb HG HB
      go_wp2_with (at_builtin; refine wpList_append_run rfl rfl HR.out ?_)
      go_ret
      exact HBt.out
/-- The same, with the length named. -/
def BtN (s : Bs) (n : Nat) (w : World) (e : Ending) (w' : World) : Prop := ∃ g c, e = .returned (.slice (some ⟨g, 0, none⟩) n c) ∧ n ≤ c ∧ GA eB w' g 0 s ∧ w.heap.size ≤ g ∧ g < w'.heap.size ∧ Below w.heap.size w w'
theorem line_at (k n : Nat) (hk : k ≤ 100000) (hn : k + 2 = n) (w : World) (i : Int) (hi : i = k) : Calls Tryd.prog 20 #[.int .i64 i] w (BtN (many k 97 ++ [13, 10]) n w) := by
  subst hi hn
  refine (line_any k hk w).mono ?_
  have hl : (many k 97 ++ [13, 10]).length = k + 2 := by rw [List.length_append, many_len]; rfl
  rintro e w' ⟨g, c, rfl, h1, h2⟩
  rw [hl] at h1 ⊢
  exact ⟨g, c, rfl, h1, h2⟩
theorem take_at {w0 w : World} {b : Nat} {own : List Nat} {F : Fd} (h : FS w0 w b own F) (g o c n : Nat) (s : Bs) (hn : s.length = n) (hc : n ≤ c) (hb : GA eB w g o s) (hno : g ∉ own) (hgl : g < w.heap.size) (hsl : n ≤ 1000000) {F' : Fd} {L : List Ev} (ht : takeP F s = (F', L)) :
    Calls Tryd.prog 12 #[.pointer (some ⟨b, 0, none⟩), .slice (some ⟨g, o, none⟩) n c] w (TkIs w0 w b own F' L) := by
  subst hn
  have C := take_fs h g o c s hc hb hno hgl hsl
  rw [ht] at C
  exact C
end Go.Proofs.YtikcbgoocljgnaaDoor
