/- What this text holds: lists of marks of one's own. -/
import Derived.Test.YtemgpghjolpneaaGreatDoorR1
import Derived.Test.YtemgpghjolpneaaGreatDoorP7
namespace Go.Proofs.YtemgpghjolpneaaGreatDoor
open Go.RowKit
set_option linter.unusedVariables false
set_option linter.unusedSimpArgs false

abbrev Mk := UInt8 × Nat
/-- The cells of marks. -/
def mcs (l : List Mk) : List Value := l.flatMap fun m => [.int .u8 (m.1.toNat : Int), .int .i64 (m.2 : Int)]
theorem mcs_append (l m : List Mk) : mcs (l ++ m) = mcs l ++ mcs m := by simp [mcs]
theorem mcs_one (l : List Mk) : ∀ v ∈ mcs l, v.oneCell' = true := by
  intro v hv
  simp only [mcs, List.mem_flatMap] at hv
  obtain ⟨x, _, hx⟩ := hv
  simp at hx
  rcases hx with rfl | rfl <;> rfl
theorem mcs_at : ∀ (l : List Mk) (j : Nat) (m : Mk), l[j]? = some m → (mcs l)[j * 2]? = some (.int .u8 (m.1.toNat : Int)) ∧ (mcs l)[j * 2 + 1]? = some (.int .i64 (m.2 : Int))
  | [], j, m, h => by simp at h
  | x :: l, 0, m, h => by simp at h; subst h; exact ⟨rfl, rfl⟩
  | x :: l, j + 1, m, h => by
    have := mcs_at l j m (by simpa using h)
    refine ⟨?_, ?_⟩
    · rw [show (j + 1) * 2 = j * 2 + 1 + 1 by omega]; exact this.1
    · rw [show (j + 1) * 2 + 1 = j * 2 + 1 + 1 + 1 by omega]; exact this.2
/-- Marks of one's own. -/
def MO (w : World) (B : Nat) (v : Value) (l : List Mk) : Prop := w.ownsRow B 88 2 v l.length (mcs l)
theorem MO.nil (w : World) (B : Nat) : MO w B (.slice none 0 0) [] := ⟨by simp [mcs], .inl ⟨rfl, rfl⟩⟩
theorem MO.later {w w' : World} {B : Nat} {v : Value} {l : List Mk} (h : MO w B v l) (hb : Below w.heap.size w w') : MO w' B v l :=
  ownsRow_block h (fun g hg => hb.block g (World.ownsRow.lt h g hg).2)
theorem MO.sliceN {w : World} {B : Nat} {v : Value} {l : List Mk} (h : MO w B v l) {n : Nat} (hn : l.length = n) : ∃ a c, v = .slice a n c := by
  subst hn
  rcases h.2 with ⟨h1, h2⟩ | ⟨g, cap, cur, h1, _⟩
  · exact ⟨none, 0, by rw [h1, h2]⟩
  · exact ⟨_, _, h1⟩
theorem Tryz.info88 : (Tryz.prog.info? 88).map (fun i => (i.zero, i.size, i.bytes)) = some (some (.agg #[.int .u8 0, .int .i64 0]), 2, 16) := by kernel_rfl
/-- One more mark. -/
theorem mo_one {w W : World} {B : Nat} {v : Value} {l : List Mk} (h : MO w B v l) (hb : Below w.heap.size w W) (hBw : B ≤ w.heap.size) (hl : l.length ≤ 10000000) (c : UInt8) (j n : Nat) (hn : W.heap.size = n) :
    ∃ v' w', (Builtin.append_ #[85, 85] 85 #[v, .slice (some ⟨n, 0, none⟩) 1 1]).run Tryz.prog (W.alloc (.cells #[.int .u8 (c.toNat : Int), .int .i64 (j : Int)] 88)) = .ok v' w' ∧ MO w' B v' (l ++ [(c, j)]) ∧ Below B w w' ∧
      (∀ x, w.heap.size ≤ x → x < n → w'.heap[x]? = W.heap[x]? ∧ v'.ownBlock ≠ some x) ∧ n < w'.heap.size := by
  subst hn
  obtain ⟨i, hi, hz0, hz1, hz2⟩ := info_parts Tryz.info88
  have hb1 : Below W.heap.size W (W.alloc (.cells #[.int .u8 (c.toNat : Int), .int .i64 (j : Int)] 88)) := (Below.refl _ _).alloc (Nat.le_refl _) _
  have hb2 := hb.trans (hb1.mono hb.size)
  have hlt := World.ownsRow.lt h
  obtain ⟨v', w', hr, ho', hg, _, hbl⟩ := run_append_own_at (P := Tryz.prog) _ B 85 85 88 i _ 2 16 Tryz.underlying85 hi hz0 hz1 hz2 rfl (by omega) v l.length (mcs l) (h.later hb2)
    ⟨W.heap.size, 0, none⟩ 1 1 (mcs [(c, j)]) rfl (fun k x hx => by
      rw [Addr.add_mid]
      simp only [World.cell?, heap_alloc_new, Nat.zero_add]
      match k, hx with
      | 0, hx => simp [mcs] at hx; subst hx; rfl
      | 1, hx => simp [mcs] at hx; subst hx; rfl
      | k + 2, hx => simp [mcs] at hx) (mcs_one _) (by unfold maxLen; omega) (by omega) (Nat.le_trans hBw hb2.size)
  rw [← mcs_append] at ho'
  refine ⟨v', w', hr, by rw [MO, List.length_append]; exact ho', ?_, ?_, ?_⟩
  · exact (hb2.mono hBw).trans ((Below.refl B _).grown hg (Nat.le_trans hBw hb2.size) (fun k hk => (hlt k hk).1))
  · intro x h1 h2
    refine ⟨?_, ?_⟩
    · rw [hg.block x (by simp; omega) (fun e => by have := (hlt x e.symm).2; omega)]
      exact heap_alloc_old _ _ h2
    · intro e
      rcases hbl with h3 | h3
      · rw [h3] at e
        have := (hlt x e).2; omega
      · rw [h3] at e
        simp at e
        omega
  · have := hg.size
    simp at this
    omega
end Go.Proofs.YtemgpghjolpneaaGreatDoor
