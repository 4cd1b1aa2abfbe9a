/- What this text holds: a feed as it lies in memory, and its small calls. -/
import Derived.Test.YtikcbgoocljgnaaDoorM1
namespace Go.Proofs.YtikcbgoocljgnaaDoor
open Go.RowKit
set_option linter.unusedVariables false
set_option linter.unusedSimpArgs false

/-- One more element: what has turned, and where it lies. -/
theorem go_one_kept {α : Type} (E : En α) {w : World} {v : Value} {l : List α} (h : GO E w 0 v l) (hl : l.length ≤ 10000000) (x : α) (n : Nat) (hn : w.heap.size = n) :
    ∃ v' w', (Builtin.append_ #[E.t, E.t] E.t #[v, .slice (some ⟨n, 0, none⟩) 1 1]).run Tryd.prog (w.alloc (.cells (E.enc x).toArray E.T)) = .ok v' w' ∧ GO E w' 0 v' (l ++ [x]) ∧ Kept v.ownBlock.toList w w' ∧ (∀ g, v'.ownBlock = some g → v.ownBlock = some g ∨ w.heap.size ≤ g) := by
  subst hn
  have hb : Below w.heap.size w (w.alloc (.cells (E.enc x).toArray E.T)) := (Below.refl _ _).alloc (Nat.le_refl _) _
  obtain ⟨i, hi, hz0, hz1, hz2⟩ := info_parts E.inf
  obtain ⟨v', w', hr, ho', hg, _, hbl⟩ := run_append_own_at (P := Tryd.prog) (w.alloc (.cells (E.enc x).toArray E.T)) 0 E.t E.t E.T i _ E.k E.by_ E.ut hi hz0 hz1 hz2 E.hz E.hk v l.length (E.cs l) (h.later hb)
      ⟨w.heap.size, 0, none⟩ 1 1 (E.cs [x]) (E.cs_len [x]) (fun j u hu => by
        rw [Addr.add_mid]
        simp only [World.cell?, heap_alloc_new, Nat.zero_add]
        simp [En.cs] at hu
        simp [hu]) (E.cs_one [x]) (by unfold maxLen; omega) (by
          have : (l.length + 1) * E.by_ ≤ 11000000 * 1000 := Nat.mul_le_mul (by omega) E.hby
          omega) (Nat.zero_le _)
  rw [← E.cs_append, show l.length + 1 = (l ++ [x]).length by simp] at ho'
  refine ⟨v', w', hr, ho', ?_, ?_⟩
  · have k1 : Kept v.ownBlock.toList w (w.alloc (.cells (E.enc x).toArray E.T)) := Kept.alloc _ _ _
    exact k1.trans (Kept.ofGrown hg _ (fun k hk => by rw [hk]; simp)) (fun _ _ hi => hi)
  · intro g e
    rcases hbl with h3 | h3
    · left; rw [← h3]; exact e
    · right
      rw [h3] at e
      simp at e
      omega
theorem GO.kept {α : Type} {E : En α} {w w' : World} {v : Value} {l : List α} {S : List Nat} (h : GO E w 0 v l) (k : Kept S w w') (hS : ∀ g, v.ownBlock = some g → g ∉ S) : GO E w' 0 v l :=
  ownsRow_block h (fun g hg => k.block g (World.ownsRow.lt h g hg).2 (hS g hg))
theorem GO.lt {α : Type} {E : En α} {w : World} {v : Value} {l : List α} (h : GO E w 0 v l) {g : Nat} (hg : v.ownBlock = some g) : g < w.heap.size := (World.ownsRow.lt h g hg).2
theorem GO.ty {α β : Type} {E : En α} {D : En β} {w : World} {v u : Value} {l : List α} {m : List β} (h : GO E w 0 v l) (k : GO D w 0 u m) (hT : E.T ≠ D.T) {g : Nat} (hg : v.ownBlock = some g) : u.ownBlock ≠ some g := by
  intro e
  rcases h.2 with ⟨rfl, _⟩ | ⟨g1, c1, r1, rfl, _, h1, _⟩
  · simp [Value.ownBlock] at hg
  · simp [Value.ownBlock] at hg
    subst hg
    rcases k.2 with ⟨rfl, _⟩ | ⟨g2, c2, r2, rfl, _, h2, _⟩
    · simp [Value.ownBlock] at e
    · simp [Value.ownBlock] at e
      subst e
      rw [h1] at h2
      simp at h2
      exact hT h2.2

/-- What is to be done with the next byte. -/
inductive Nx where
  | no | line | lit | pline | plit
/-- A feed. -/
structure Fd where
  texts : List Bs
  lits : List Bs
  size : Nat
  under : Bs
  left : Nat
  many : Nat
  ending : Bool
  nx : Nx
def Fd.zero : Fd := ⟨[], [], 0, [], 0, 0, false, .no⟩
def nxV (b : Nat) : Nx → Value
  | .no => .nilFunc
  | .line => .func (.func 22) #[.pointer (some ⟨b, 0, none⟩)] #[]
  | .lit => .func (.func 49) #[.pointer (some ⟨b, 0, none⟩)] #[]
  | .pline => .func (.func 31) #[.pointer (some ⟨b, 0, none⟩)] #[]
  | .plit => .func (.func 61) #[.pointer (some ⟨b, 0, none⟩)] #[]
def fC (b : Nat) (vt vl vu : Value) (F : Fd) : Array Value := #[vt, vl, .int .i64 F.size, vu, .int .i64 F.left, .int .i64 F.many, .bool F.ending, nxV b F.nx]
/-- Where a feed lies: its block, its texts, its literals, its bytes. -/
structure FIn (w : World) (b : Nat) (vt vl vu : Value) (F : Fd) : Prop where
  row : w.heap[b]? = some (.cells (fC b vt vl vu F) 57 (0, 0))
  t : GO eS w 0 vt F.texts
  l : GO eS w 0 vl F.lits
  u : GO eB w 0 vu F.under
  tl : ∀ g, vt.ownBlock = some g → vl.ownBlock ≠ some g
def own3 (b : Nat) (vt vl vu : Value) : List Nat := b :: (vt.ownBlock.toList ++ vl.ownBlock.toList ++ vu.ownBlock.toList)
/-- A feed, and all blocks that it may turn. -/
def FAt (w : World) (b : Nat) (own : List Nat) (F : Fd) : Prop := ∃ vt vl vu, FIn w b vt vl vu F ∧ own = own3 b vt vl vu
/-- What a call leaves of a feed. -/
def FTo (w : World) (b : Nat) (own : List Nat) (F : Fd) (w' : World) : Prop := ∃ own', FAt w' b own' F ∧ Kept own w w' ∧ ∀ g ∈ own', g ∈ own ∨ w.heap.size ≤ g
theorem own3_mem {b : Nat} {vt vl vu : Value} {g : Nat} : g ∈ own3 b vt vl vu ↔ g = b ∨ vt.ownBlock = some g ∨ vl.ownBlock = some g ∨ vu.ownBlock = some g := by
  simp [own3, Option.mem_toList, or_assoc]
theorem FIn.ne_t {w : World} {b : Nat} {vt vl vu : Value} {F : Fd} (h : FIn w b vt vl vu F) : vt.ownBlock ≠ some b := h.t.ne (by decide) h.row
theorem FIn.ne_l {w : World} {b : Nat} {vt vl vu : Value} {F : Fd} (h : FIn w b vt vl vu F) : vl.ownBlock ≠ some b := h.l.ne (by decide) h.row
theorem FIn.ne_u {w : World} {b : Nat} {vt vl vu : Value} {F : Fd} (h : FIn w b vt vl vu F) : vu.ownBlock ≠ some b := h.u.ne (by decide) h.row
theorem FIn.lt {w : World} {b : Nat} {vt vl vu : Value} {F : Fd} (h : FIn w b vt vl vu F) : b < w.heap.size := lt_of_some h.row
theorem FAt.kept {w w' : World} {b : Nat} {own S : List Nat} {F : Fd} (h : FAt w b own F) (k : Kept S w w') (hS : ∀ g ∈ own, g ∉ S) : FAt w' b own F := by
  obtain ⟨vt, vl, vu, f, rfl⟩ := h
  have hm : ∀ g, g ∈ own3 b vt vl vu → g ∉ S := hS
  refine ⟨vt, vl, vu, ⟨?_, f.t.kept k (fun g hg => hm g (own3_mem.2 (.inr (.inl hg)))), f.l.kept k (fun g hg => hm g (own3_mem.2 (.inr (.inr (.inl hg))))), f.u.kept k (fun g hg => hm g (own3_mem.2 (.inr (.inr (.inr hg))))), f.tl⟩, rfl⟩
  rw [k.block b f.lt (hm b (own3_mem.2 (.inl rfl)))]
  exact f.row
theorem FAt.below {w w' : World} {b : Nat} {own : List Nat} {F : Fd} (h : FAt w b own F) (k : Below w.heap.size w w') : FAt w' b own F := h.kept (Kept.ofBelow k []) (fun _ _ => by simp)
theorem FAt.lt {w : World} {b : Nat} {own : List Nat} {F : Fd} (h : FAt w b own F) : ∀ g ∈ own, g < w.heap.size := by
  obtain ⟨vt, vl, vu, f, rfl⟩ := h
  intro g hg
  rcases own3_mem.1 hg with rfl | e | e | e
  · exact f.lt
  · exact f.t.lt e
  · exact f.l.lt e
  · exact f.u.lt e
theorem FTo.trans {w w1 w2 : World} {b : Nat} {own own1 : List Nat} {F : Fd} (k : Kept own w w1) (ho : ∀ g ∈ own1, g ∈ own ∨ w.heap.size ≤ g) (h : FTo w1 b own1 F w2) : FTo w b own F w2 := by
  obtain ⟨own2, f, k2, h2⟩ := h
  refine ⟨own2, f, k.trans k2 (fun i hi hm => by rcases ho i hm with e | e; exact e; omega), fun g hg => ?_⟩
  rcases h2 g hg with e | e
  · exact ho g e
  · right; have := k.size; omega
/-- The cells of a feed. -/
theorem FIn.cells {w : World} {b : Nat} {vt vl vu : Value} {F : Fd} (h : FIn w b vt vl vu F) :
    w.cell? ⟨b, 0, none⟩ = some vt ∧ w.cell? ⟨b, 1, none⟩ = some vl ∧ w.cell? ⟨b, 2, none⟩ = some (.int .i64 F.size) ∧ w.cell? ⟨b, 3, none⟩ = some vu ∧ w.cell? ⟨b, 4, none⟩ = some (.int .i64 F.left) ∧ w.cell? ⟨b, 5, none⟩ = some (.int .i64 F.many) ∧ w.cell? ⟨b, 6, none⟩ = some (.bool F.ending) ∧ w.cell? ⟨b, 7, none⟩ = some (nxV b F.nx) ∧ (∀ i, w.frozen? ⟨b, i, none⟩ = false) := by
  have hr := h.row
  refine ⟨?_, ?_, ?_, ?_, ?_, ?_, ?_, ?_, fun i => ?_⟩ <;> simp [World.cell?, World.frozen?, hr, fC]
/-- A cell of a feed's row is turned. -/
theorem FIn.set {w : World} {b : Nat} {vt vl vu : Value} {F : Fd} (h : FIn w b vt vl vu F) {F' : Fd} (i : Nat) (v : Value) (hr : (fC b vt vl vu F).setIfInBounds i v = fC b vt vl vu F') (ht : F'.texts = F.texts) (hl : F'.lits = F.lits) (hu : F'.under = F.under) : FIn (w.setCell ⟨b, i, none⟩ v) b vt vl vu F' := by
  refine ⟨?_, ?_, ?_, ?_, h.tl⟩
  · rw [heap_setCell_same _ _ _ _ _ _ h.row, hr]
  · rw [ht]; exact h.t.setOther (by decide) h.row _ _
  · rw [hl]; exact h.l.setOther (by decide) h.row _ _
  · rw [hu]; exact h.u.setOther (by decide) h.row _ _
end Go.Proofs.YtikcbgoocljgnaaDoor
