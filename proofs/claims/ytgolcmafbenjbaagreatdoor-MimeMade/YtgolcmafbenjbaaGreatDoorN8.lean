/- What this text holds: spans in memory, of one's own; how the walk between borders stands. -/
import Derived.Test.YtgolcmafbenjbaaGreatDoorN7
namespace Go.Proofs.YtgolcmafbenjbaaGreatDoor
open Go.RowKit
set_option linter.unusedVariables false
set_option linter.unusedSimpArgs false

/-- One more of any kind to a row of one's own. -/
theorem vo_one {w : World} {B T t k by_ : Nat} {z : Value} (ut : Tryz.prog.underlying t = some (.slice T)) (inf : (Tryz.prog.info? T).map (fun i => (i.zero, i.size, i.bytes)) = some (some z, k, by_)) (hz : z.cells.size = k) (hk : 0 < k) (hby : by_ ≤ 1000)
    {v : Value} {n : Nat} {xs : List Value} (h : w.ownsRow B T k v n xs) (hBw : B ≤ w.heap.size) (hl : n ≤ 10000000) (r : List Value) (hr : r.length = k) (h1 : ∀ x ∈ r, x.oneCell' = true) (q : Nat) (hq : w.heap.size = q) :
    ∃ v' w', (Builtin.append_ #[t, t] t #[v, .slice (some ⟨q, 0, none⟩) 1 1]).run Tryz.prog (w.alloc (.cells r.toArray T)) = .ok v' w' ∧ w'.ownsRow B T k v' (n + 1) (xs ++ r) ∧ Kept v.ownBlock.toList w w' ∧ Below B w w' ∧ (∀ g, v'.ownBlock = some g → v.ownBlock = some g ∨ w.heap.size ≤ g) := by
  subst hq
  obtain ⟨i, hi, hz0, hz1, hz2⟩ := info_parts inf
  have hb : Below w.heap.size w (w.alloc (.cells r.toArray T)) := (Below.refl _ _).alloc (Nat.le_refl _) _
  have h' := ownsRow_block (w' := w.alloc (.cells r.toArray T)) h (fun g hg => hb.block g (h.lt g hg).2)
  obtain ⟨v', w', hrun, ho', hg, hx, hy⟩ := run_append_own_at (P := Tryz.prog) (w.alloc (.cells r.toArray T)) B t t T i _ k by_ ut hi hz0 hz1 hz2 hz hk v n xs h'
    ⟨w.heap.size, 0, none⟩ 1 1 r (by rw [hr]; omega) (fun j x hx => by
      rw [Addr.add_mid]
      simp only [World.cell?, heap_alloc_new, Nat.zero_add]
      simp [hx]) h1 (by unfold maxLen; omega) (by
        have : (n + 1) * by_ ≤ 10000001 * 1000 := Nat.mul_le_mul (by omega) hby
        omega) (Nat.le_trans hBw hb.size)
  have hkb := (Kept.ofBelow hb v.ownBlock.toList).trans (Kept.ofGrown hg v.ownBlock.toList (fun k e => by simp [e])) (fun i _ hi => hi)
  refine ⟨v', w', hrun, ho', hkb, (hb.mono hBw).trans ((Below.refl B _).grown hg (Nat.le_trans hBw hb.size) (fun k hk => (h'.lt k hk).1)), fun g hg' => ?_⟩
  rcases hy with hy | hy
  · rw [hy] at hg'; exact .inl hg'
  · rw [hy] at hg'
    simp at hg'
    omega

/-- Spans' cells. -/
def sc (l : List (Nat × Nat)) : List Value := l.flatMap fun t => [.int .i64 t.1, .int .i64 t.2]
theorem sc_append (l m : List (Nat × Nat)) : sc (l ++ m) = sc l ++ sc m := by simp [sc]
theorem sc_one (t : Nat × Nat) : sc [t] = [.int .i64 t.1, .int .i64 t.2] := rfl
theorem sc_at : ∀ (l : List (Nat × Nat)) (j : Nat) (t : Nat × Nat), l[j]? = some t → (sc l)[j * 2]? = some (.int .i64 t.1) ∧ (sc l)[j * 2 + 1]? = some (.int .i64 t.2)
  | [], j, t, h => by simp at h
  | q :: l, 0, t, h => by simp at h; subst h; exact ⟨rfl, rfl⟩
  | q :: l, j + 1, t, h => by
    have := sc_at l j t (by simpa using h)
    have e : sc (q :: l) = [.int .i64 q.1, .int .i64 q.2] ++ sc l := by simp [sc]
    rw [e, show (j + 1) * 2 = j * 2 + 2 by omega, List.getElem?_append_right (by simp), List.getElem?_append_right (by simp)]
    simpa using this
/-- Spans of one's own. -/
def SpO (w : World) (B : Nat) (v : Value) (l : List (Nat × Nat)) : Prop := w.ownsRow B 62 2 v l.length (sc l)
theorem SpO.nil (w : World) (B : Nat) : SpO w B (.slice none 0 0) [] := ⟨by simp [sc], .inl ⟨rfl, rfl⟩⟩
theorem SpO.sliceN {w : World} {B : Nat} {v : Value} {l : List (Nat × Nat)} (h : SpO w B v l) {n : Nat} (hn : l.length = n) : ∃ a c, v = .slice a n c := by
  subst hn
  rcases h.2 with ⟨h1, h2⟩ | ⟨g, cap, cur, h1, _⟩
  · exact ⟨none, 0, by rw [h1, h2]⟩
  · exact ⟨_, _, h1⟩
theorem SpO.kept {S : List Nat} {w w' : World} {B : Nat} {v : Value} {l : List (Nat × Nat)} (h : SpO w B v l) (k : Kept S w w') (hn : ∀ g, v.ownBlock = some g → g ∉ S) : SpO w' B v l :=
  ownsRow_block h (fun g hg => k.block g (World.ownsRow.lt h g hg).2 (hn g hg))
/-- Spans lie in memory. -/
def SpL (w : World) (v : Value) (l : List (Nat × Nat)) : Prop := ∃ a c, v = .slice a l.length c ∧ l.length ≤ c ∧ (l = [] ∨ ∃ g o, a = some ⟨g, o, none⟩ ∧ g < w.heap.size ∧ ∀ j t, l[j]? = some t → w.cell? ⟨g, o + j * 2, none⟩ = some (.int .i64 t.1) ∧ w.cell? ⟨g, o + j * 2 + 1, none⟩ = some (.int .i64 t.2))
theorem SpL.later {w w' : World} {v : Value} {l : List (Nat × Nat)} (h : SpL w v l) (hb : Below w.heap.size w w') : SpL w' v l := by
  obtain ⟨a, c, rfl, hc, h⟩ := h
  refine ⟨a, c, rfl, hc, ?_⟩
  rcases h with h | ⟨g, o, rfl, hg, h⟩
  · exact .inl h
  · exact .inr ⟨g, o, rfl, Nat.lt_of_lt_of_le hg hb.size, fun j t ht => ⟨(World.cell?_of_block (hb.block g hg)).trans (h j t ht).1, (World.cell?_of_block (hb.block g hg)).trans (h j t ht).2⟩⟩
theorem SpO.spl {w : World} {B : Nat} {v : Value} {l : List (Nat × Nat)} (h : SpO w B v l) : SpL w v l := by
  rcases id h.2 with ⟨rfl, h0⟩ | ⟨g, cap, cur, rfl, _, hg, hc, _⟩
  · have := List.eq_nil_of_length_eq_zero h0
    subst this
    exact ⟨none, 0, rfl, by simp, .inl rfl⟩
  · refine ⟨_, cap, rfl, hc, .inr ⟨g, 0, rfl, lt_of_some hg, fun j t ht => ?_⟩⟩
    have h2 := sc_at l j t ht
    have c0 := World.ownsRow.cells h rfl _ _ h2.1
    have c1 := World.ownsRow.cells h rfl _ _ h2.2
    rw [Addr.add_mid] at c0 c1
    exact ⟨c0, c1⟩
theorem Tryz.info62 : (Tryz.prog.info? 62).map (fun i => (i.zero, i.size, i.bytes)) = some (some (.agg #[.int .i64 0, .int .i64 0]), 2, 16) := by kernel_rfl

/-- How the walk between borders stands: the message at P and at M, what is left at R and at L, the line at A, the texts so far in v. -/
structure BtAt (w0 W : World) (P R L M A : Nat) (v : Value) (m : Bs) (f b p e : Nat) (done : List (Nat × Nat)) : Prop where
  o : SpO W w0.heap.size v done
  r : I2 W R f b
  a : I2 W A p e
  l : I2 W L e b
  g : G1 W P m
  h : G1 W M m
  below : Below w0.heap.size w0 W
  nv : ∀ k, v.ownBlock = some k → k ≠ P ∧ k ≠ R ∧ k ≠ L ∧ k ≠ M ∧ k ≠ A
  aw : w0.heap.size ≤ A ∧ w0.heap.size ≤ L ∧ w0.heap.size ≤ R
  ne : R ≠ L ∧ P ≠ L ∧ M ≠ L ∧ R ≠ A ∧ L ≠ A ∧ R ≠ P ∧ R ≠ M
theorem BtAt.later {w0 W W' : World} {P R L M A : Nat} {v : Value} {m : Bs} {f b p e : Nat} {done : List (Nat × Nat)} (h : BtAt w0 W P R L M A v m f b p e done) (hb : Below W.heap.size W W') : BtAt w0 W' P R L M A v m f b p e done :=
  ⟨ownsRow_block h.o (fun g hg => hb.block g (World.ownsRow.lt h.o g hg).2), h.r.later hb, h.a.later hb, h.l.later hb, h.g.later hb, h.h.later hb, h.below.trans (hb.mono h.below.size), h.nv, h.aw, h.ne⟩
/-- The next line. -/
theorem BtAt.step {w0 W W2 : World} {P R L M A : Nat} {v : Value} {m : Bs} {f b p e e2 : Nat} {done : List (Nat × Nat)} (h : BtAt w0 W P R L M A v m f b p e done)
    (hk : Kept [L] (W.alloc (.cells #[.int .i64 p, .int .i64 e] 62)) W2) (hl : I2 W2 L e2 b) : BtAt w0 (puti W2 W.heap.size e e2) P R L M W.heap.size v m f b e e2 done := by
  have h1 := h.later ((Below.refl _ W).alloc (Nat.le_refl _) (.cells #[.int .i64 p, .int .i64 e] 62))
  have hn := h.ne
  have hs := puti_self W2 W.heap.size e e2
  have lr := h.r.lt
  have ll := h.l.lt
  have lg := h.g.lt
  have lh := h.h.lt
  have hBW := h.below.size
  have hnew := (i2_new W p e).kept hk (by rw [List.mem_singleton]; omega)
  refine ⟨(h1.o.kept hk ?_).kept hs ?_, (h1.r.kept hk ?_).kept hs ?_, puti_is hnew _ _, hl.kept hs ?_, (h1.g.kept hk ?_).kept hs ?_, (h1.h.kept hk ?_).kept hs ?_, ?_, ?_, ⟨hBW, h.aw.2⟩, ⟨hn.1, hn.2.1, hn.2.2.1, by omega, by omega, hn.2.2.2.2.2⟩⟩
  · intro g hg; rw [List.mem_singleton]; exact (h.nv g hg).2.2.1
  · intro g hg; rw [List.mem_singleton]; have := (World.ownsRow.lt h.o g hg).2; omega
  · rw [List.mem_singleton]; exact hn.1
  · rw [List.mem_singleton]; omega
  · rw [List.mem_singleton]; omega
  · rw [List.mem_singleton]; exact hn.2.1
  · rw [List.mem_singleton]; omega
  · rw [List.mem_singleton]; exact hn.2.2.1
  · rw [List.mem_singleton]; omega
  · have b1 := below_kept h1.below hk (by simp; exact h.aw.2.1) h1.below.size
    exact puti_below _ _ _ b1 hBW b1.size
  · intro k hk'
    have := h.nv k hk'
    have := (World.ownsRow.lt h.o k hk').2
    exact ⟨by omega, by omega, by omega, by omega, by omega⟩
/-- One text more. -/
theorem BtAt.more {w0 W : World} {P R L M A : Nat} {v : Value} {m : Bs} {f b p e : Nat} {done : List (Nat × Nat)} (h : BtAt w0 W P R L M A v m f b p e done) (t : Nat × Nat) (hd : done.length ≤ 10000000) (q : Nat) (hq : W.heap.size = q) :
    ∃ v' W', (Builtin.append_ #[90, 90] 90 #[v, .slice (some ⟨q, 0, none⟩) 1 1]).run Tryz.prog (W.alloc (.cells #[.int .i64 t.1, .int .i64 t.2] 62)) = .ok v' W' ∧ BtAt w0 W' P R L M A v' m f b p e (done ++ [t]) := by
  obtain ⟨v', W', hr, ho, hk, hb, hv⟩ := vo_one Tryz.underlying90 Tryz.info62 rfl (by omega) (by omega) h.o h.below.size hd [.int .i64 t.1, .int .i64 t.2] rfl (by simp [Value.oneCell']) q hq
  refine ⟨v', W', hr, ?_⟩
  have hnv := h.nv
  have ng : ∀ k, v.ownBlock = some k → k ≠ P ∧ k ≠ R ∧ k ≠ L ∧ k ≠ M ∧ k ≠ A := hnv
  have mem : ∀ X, (∀ k, v.ownBlock = some k → k ≠ X) → X ∉ v.ownBlock.toList := by
    intro X hX hm
    rw [Option.mem_toList] at hm
    exact hX X hm rfl
  refine ⟨?_, h.r.kept hk (mem _ (fun k e => (hnv k e).2.1)), h.a.kept hk (mem _ (fun k e => (hnv k e).2.2.2.2)), h.l.kept hk (mem _ (fun k e => (hnv k e).2.2.1)), h.g.kept hk (mem _ (fun k e => (hnv k e).1)), h.h.kept hk (mem _ (fun k e => (hnv k e).2.2.2.1)), h.below.trans hb, ?_, h.aw, h.ne⟩
  · unfold SpO
    rw [sc_append, sc_one, List.length_append]
    exact ho
  · intro k hk'
    rcases hv k hk' with h1 | h1
    · exact hnv k h1
    · have := h.r.lt
      have := h.a.lt
      have := h.l.lt
      have := h.g.lt
      have := h.h.lt
      exact ⟨by omega, by omega, by omega, by omega, by omega⟩
/-- A text begins. -/
theorem BtAt.from {w0 W : World} {P R L M A : Nat} {v : Value} {m : Bs} {f b p e : Nat} {done : List (Nat × Nat)} (h : BtAt w0 W P R L M A v m f b p e done) (f' : Nat) : BtAt w0 (W.setCell ⟨R, 0, none⟩ (.int .i64 f')) P R L M A v m f' b p e done := by
  have hn := h.ne
  have hs : Kept [R] W (W.setCell ⟨R, 0, none⟩ (.int .i64 f')) := Kept.setCell _ _ _ _ (by simp)
  refine ⟨h.o.kept hs ?_, h.r.set0 _, h.a.other _ hn.2.2.2.1, h.l.other _ hn.1, h.g.other _ hn.2.2.2.2.2.1, h.h.other _ hn.2.2.2.2.2.2, below_kept h.below hs (by simp; exact h.aw.2.2) h.below.size, h.nv, h.aw, h.ne⟩
  intro g hg
  rw [List.mem_singleton]
  exact (h.nv g hg).2.1
end Go.Proofs.YtgolcmafbenjbaaGreatDoor
