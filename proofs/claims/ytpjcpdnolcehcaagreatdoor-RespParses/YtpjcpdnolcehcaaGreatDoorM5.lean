/- What this text holds: values and lines as they lie in memory. -/
import Derived.Test.YtpjcpdnolcehcaaGreatDoorM4
namespace Go.Proofs.YtpjcpdnolcehcaaGreatDoor
open Go.RowKit
set_option linter.unusedVariables false
set_option linter.unusedSimpArgs false

def blk : Value → Option Nat
  | .slice (some a) _ _ => some a.block
  | _ => none
abbrev nilV : Value := .slice none 0 0
/-- A list lies in memory, in a block of which N speaks. -/
def LAt {α : Type} (E : En α) (w : World) (N : Nat → Prop) (v : Value) (l : List α) : Prop := GL E w v l ∧ (l ≠ [] → ∀ g, blk v = some g → N g)
theorem LAt.nil {α : Type} (E : En α) (w : World) (N : Nat → Prop) : LAt E w N nilV [] := ⟨(GO.nil E w 0).gl, fun h => absurd rfl h⟩
theorem LAt.kept {α : Type} {E : En α} {S : List Nat} {w w' : World} {N : Nat → Prop} {v : Value} {l : List α} (h : LAt E w N v l) (hk : Kept S w w') (hS : ∀ i ∈ S, ¬ N i) : LAt E w' N v l := by
  obtain ⟨⟨a, c, rfl, hc, h⟩, hN⟩ := h
  refine ⟨⟨a, c, rfl, hc, ?_⟩, hN⟩
  rcases h with h | ⟨g, o, rfl, h, hg⟩
  · exact .inl h
  · by_cases h0 : l = []
    · exact .inl h0
    · have := hN h0 g rfl
      exact .inr ⟨g, o, rfl, fun j i x v h1 h2 => hk.cell (h j i x v h1 h2) (fun hm => hS g hm this), Nat.lt_of_lt_of_le hg hk.size⟩
theorem LAt.mono {α : Type} {E : En α} {w : World} {N N' : Nat → Prop} {v : Value} {l : List α} (h : LAt E w N v l) (hN : ∀ q, q < w.heap.size → N q → N' q) : LAt E w N' v l := by
  obtain ⟨⟨a, c, rfl, hc, h⟩, hN1⟩ := h
  refine ⟨⟨a, c, rfl, hc, h⟩, fun h0 g hg => ?_⟩
  rcases h with h | ⟨g', o, rfl, h, hl⟩
  · exact absurd h h0
  · have e : g' = g := by simpa [blk] using hg
    subst e
    exact hN _ hl (hN1 h0 _ rfl)
theorem LAt.slice {α : Type} {E : En α} {w : World} {N : Nat → Prop} {v : Value} {l : List α} (h : LAt E w N v l) : ∃ a c, v = .slice a l.length c ∧ l.length ≤ c := by
  obtain ⟨⟨a, c, rfl, hc, h⟩, hN⟩ := h
  exact ⟨a, c, rfl, hc⟩
theorem LAt.at_ {α : Type} {E : En α} {w : World} {N : Nat → Prop} {v : Value} {l : List α} (h : LAt E w N v l) (h0 : l ≠ []) : ∃ g o c, v = .slice (some ⟨g, o, none⟩) l.length c ∧ l.length ≤ c ∧ GA E w g o l ∧ N g ∧ g < w.heap.size := by
  obtain ⟨⟨a, c, rfl, hc, h⟩, hN⟩ := h
  rcases h with h | ⟨g, o, rfl, h, hg⟩
  · exact absurd h h0
  · exact ⟨g, o, c, rfl, hc, h, hN h0 g rfl, hg⟩
/-- A row says what a value says, but for its kids. -/
def VH (w : World) (N : Nat → Prop) (r : Rw) (v : Vl) : Prop := r.k = v.k ∧ r.x = v.x ∧ r.n = v.n ∧ LAt eI w N (Sl.v r.frm) v.frm
/-- Values lie in memory. -/
inductive VsAt (w : World) (N : Nat → Prop) : Value → List Vl → Prop
  | mk (u : Value) (ks : List Vl) (rows : List (Rw × Vl)) : LAt eV w N u (rows.map (·.1)) → ks = rows.map (·.2) → (∀ p ∈ rows, VH w N p.1 p.2) → (∀ p ∈ rows, VsAt w N (Sl.v p.1.kids) p.2.kids) → VsAt w N u ks
structure VAt (w : World) (N : Nat → Prop) (r : Rw) (v : Vl) : Prop where
  h : VH w N r v
  k : VsAt w N (Sl.v r.kids) v.kids
def vV (r : Rw) : Value := .agg r.c.toArray
theorem VsAt.open_ {w : World} {N : Nat → Prop} {u : Value} {ks : List Vl} (h : VsAt w N u ks) : ∃ rows : List (Rw × Vl), LAt eV w N u (rows.map (·.1)) ∧ ks = rows.map (·.2) ∧ ∀ p ∈ rows, VAt w N p.1 p.2 := by
  cases h with | mk _ _ rows h1 h2 h3 h4 => exact ⟨rows, h1, h2, fun p hp => ⟨h3 p hp, h4 p hp⟩⟩
theorem VsAt.of {w : World} {N : Nat → Prop} {u : Value} {rows : List (Rw × Vl)} (h : LAt eV w N u (rows.map (·.1))) (h2 : ∀ p ∈ rows, VAt w N p.1 p.2) : VsAt w N u (rows.map (·.2)) :=
  .mk u _ rows h rfl (fun p hp => (h2 p hp).h) (fun p hp => (h2 p hp).k)
theorem VsAt.nil (w : World) (N : Nat → Prop) : VsAt w N nilV [] := VsAt.of (rows := []) (LAt.nil eV w N) (fun p hp => by cases hp)
theorem VH.kept {S : List Nat} {w w' : World} {N : Nat → Prop} {r : Rw} {v : Vl} (h : VH w N r v) (hk : Kept S w w') (hS : ∀ i ∈ S, ¬ N i) : VH w' N r v := ⟨h.1, h.2.1, h.2.2.1, h.2.2.2.kept hk hS⟩
theorem VsAt.kept {S : List Nat} {w w' : World} {N : Nat → Prop} {u : Value} {ks : List Vl} (h : VsAt w N u ks) (hk : Kept S w w') (hS : ∀ i ∈ S, ¬ N i) : VsAt w' N u ks := by
  induction h with
  | mk u ks rows h1 h2 h3 h4 ih => exact .mk u ks rows (h1.kept hk hS) h2 (fun p hp => (h3 p hp).kept hk hS) ih
theorem VsAt.mono {w : World} {N N' : Nat → Prop} {u : Value} {ks : List Vl} (h : VsAt w N u ks) (hN : ∀ q, q < w.heap.size → N q → N' q) : VsAt w N' u ks := by
  induction h with
  | mk u ks rows h1 h2 h3 h4 ih => exact .mk u ks rows (h1.mono hN) h2 (fun p hp => ⟨(h3 p hp).1, (h3 p hp).2.1, (h3 p hp).2.2.1, (h3 p hp).2.2.2.mono hN⟩) ih
theorem VsAt.later {w w' : World} {N : Nat → Prop} {u : Value} {ks : List Vl} (h : VsAt w N u ks) (hb : Below w.heap.size w w') : VsAt w' N u ks := h.kept (Kept.ofBelow hb []) (by simp)
theorem VsAt.slice {w : World} {N : Nat → Prop} {u : Value} {ks : List Vl} (h : VsAt w N u ks) : ∃ a c, u = .slice a ks.length c ∧ ks.length ≤ c := by
  obtain ⟨rows, h1, rfl, h3⟩ := h.open_
  simpa using h1.slice
theorem VAt.kept {S : List Nat} {w w' : World} {N : Nat → Prop} {r : Rw} {v : Vl} (h : VAt w N r v) (hk : Kept S w w') (hS : ∀ i ∈ S, ¬ N i) : VAt w' N r v := ⟨h.h.kept hk hS, h.k.kept hk hS⟩
theorem VAt.mono {w : World} {N N' : Nat → Prop} {r : Rw} {v : Vl} (h : VAt w N r v) (hN : ∀ q, q < w.heap.size → N q → N' q) : VAt w N' r v := ⟨⟨h.h.1, h.h.2.1, h.h.2.2.1, h.h.2.2.2.mono hN⟩, h.k.mono hN⟩
theorem VAt.later {w w' : World} {N : Nat → Prop} {r : Rw} {v : Vl} (h : VAt w N r v) (hb : Below w.heap.size w w') : VAt w' N r v := h.kept (Kept.ofBelow hb []) (by simp)
/-- A row of a value without kids and From. -/
theorem VAt.plain (w : World) (N : Nat → Prop) (k : Int) (x : Bs) (n : Int) : VAt w N ⟨k, x, n, (none, 0, 0), (none, 0, 0)⟩ (.mk k x n [] []) := ⟨⟨rfl, rfl, rfl, LAt.nil _ _ _⟩, VsAt.nil _ _⟩

/-- Values of one's own. -/
structure VO (w : World) (B : Nat) (v : Value) (rows : List (Rw × Vl)) : Prop where
  o : GO eV w B v (rows.map (·.1))
  each : ∀ p ∈ rows, VAt w (fun q => B ≤ q ∧ v.ownBlock ≠ some q) p.1 p.2
theorem VO.nil (w : World) (B : Nat) : VO w B nilV [] := ⟨GO.nil eV w B, by simp⟩
theorem VO.kept {S : List Nat} {w w' : World} {B : Nat} {v : Value} {rows : List (Rw × Vl)} (h : VO w B v rows) (hk : Kept S w w') (hS : ∀ i ∈ S, i < B) : VO w' B v rows := by
  refine ⟨ownsRow_block h.o (fun g hg => hk.block g (World.ownsRow.lt h.o g hg).2 (fun hm => ?_)), fun p hp => (h.each p hp).kept hk (fun i hi hN => ?_)⟩
  · have := hS g hm
    have := (World.ownsRow.lt h.o g hg).1
    omega
  · have := hS i hi
    have := hN.1
    omega
theorem VO.vs {w : World} {B : Nat} {v : Value} {rows : List (Rw × Vl)} (h : VO w B v rows) : VsAt w (B ≤ ·) v (rows.map (·.2)) := by
  refine VsAt.of ⟨h.o.gl, fun h0 g hg => ?_⟩ (fun p hp => (h.each p hp).mono (fun q _ hq => hq.1))
  rcases h.o.2 with ⟨rfl, h1⟩ | ⟨g', c, cur, rfl, hB, _⟩
  · cases hg
  · have e : g' = g := by simpa [blk] using hg
    subst e
    exact hB
theorem VO.slice {w : World} {B : Nat} {v : Value} {rows : List (Rw × Vl)} (h : VO w B v rows) : ∃ a c, v = .slice a rows.length c := h.o.slice (by simp)
theorem own_new {w w' : World} {v v' : Value} {B : Nat} {rows rows' : List Rw} (hg : w.grownBy w' v.ownBlock) (h' : GO eV w' B v' rows') (hn : ∀ q, v'.ownBlock = some q → v.ownBlock = some q ∨ w.heap.size ≤ q) (q : Nat) (hq : q < w.heap.size) (h : v.ownBlock ≠ some q) : v'.ownBlock ≠ some q := fun e => by
  rcases hn q e with h2 | h2
  · exact h h2
  · omega
end Go.Proofs.YtpjcpdnolcehcaaGreatDoor
