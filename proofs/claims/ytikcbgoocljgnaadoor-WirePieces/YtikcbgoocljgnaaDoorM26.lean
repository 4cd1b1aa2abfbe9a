/- What this text holds: the bytes of a command. -/
import Derived.Test.YtikcbgoocljgnaaDoorM25
namespace Go.Proofs.YtikcbgoocljgnaaDoor
open Go.RowKit
set_option linter.unusedVariables false
set_option linter.unusedSimpArgs false

/-- One text, its mark and its literal. -/
def pieceB (p : Bs × Bs) : Bs := p.1 ++ markB (decB p.2.length) ++ [13, 10] ++ p.2
def preB (T L : List Bs) (k : Nat) : Bs := ((T.zip L).take k).flatMap pieceB
theorem preB_zero (T L : List Bs) : preB T L 0 = [] := by simp [preB]
theorem preB_succ (T L : List Bs) (k : Nat) (hT : k < T.length) (hL : k < L.length) : preB T L (k + 1) = preB T L k ++ pieceB (T[k], L[k]) := by
  unfold preB
  have hz : k < (T.zip L).length := by rw [List.length_zip]; omega
  rw [List.take_succ_eq_append_getElem hz, List.flatMap_append, List.getElem_zip]
  simp
theorem bytes_pre : ∀ (L T : List Bs) (h : T.length = L.length + 1), bytesP decB T L = preB T L L.length ++ T[L.length] ++ [13, 10]
  | [], T, h => by
    match T, h with
    | [t], _ => simp [bytesP, preB]
  | x :: L, T, h => by
    match T, h with
    | t :: T, h =>
      have ih := bytes_pre L T (by simpa using h)
      rw [bytesP, ih]
      simp [preB, pieceB]
/-- A command's bytes. -/
def cmdB (T L : List Bs) : Bs := if T.length = L.length + 1 then bytesP decB T L else []
theorem lens_get : ∀ (l : List Bs) (j : Nat) (h : j < l.length), l[j].length ≤ lens l
  | a :: l, 0, h => by simp [lens]
  | a :: l, j + 1, h => by
    have := lens_get l j (by simpa using h)
    simp [lens] at *
    omega
theorem lens_take : ∀ (l : List Bs) (k : Nat), lens (l.take k) ≤ lens l
  | [], k => by simp [lens]
  | a :: l, 0 => by simp [lens]
  | a :: l, k + 1 => by
    have := lens_take l k
    simp [lens] at *
    omega
theorem piece_len (p : Bs × Bs) (h : p.2.length ≤ 50000) : (pieceB p).length ≤ p.1.length + p.2.length + 10 := by
  have := (digs_ok p.2.length h).2.2.1
  simp [pieceB, markB, decB]
  omega
theorem preB_len (T L : List Bs) (hs : lens L ≤ 50000) : ∀ k, k ≤ T.length → k ≤ L.length → (preB T L k).length ≤ lens (T.take k) + lens (L.take k) + 10 * k
  | 0, _, _ => by simp [preB_zero, lens]
  | k + 1, h1, h2 => by
    have ih := preB_len T L hs k (by omega) (by omega)
    have hp := piece_len (T[k], L[k]) (by have := lens_get L k (by omega); simp only; omega)
    rw [preB_succ T L k (by omega) (by omega), List.length_append, List.take_succ_eq_append_getElem (by omega), List.take_succ_eq_append_getElem (by omega)]
    simp only [lens, List.map_append, List.map_cons, List.map_nil, List.sum_append, List.sum_cons, List.sum_nil] at *
    omega

/-- A builder of one's own. -/
structure BB (B : Nat) (w0 wr : World) (s : Bs) : Prop where
  b : Go.Lib.IsBuilder 60 5 B B (Go.Lib.byteCells s) wr
  k : Below B w0 wr
  h : B ≤ wr.heap.size
theorem bld_later {B b : Nat} {bs : List Value} {w w' : World} (h : Go.Lib.IsBuilder 60 5 B b bs w) (hb : Below w.heap.size w w') : Go.Lib.IsBuilder 60 5 B b bs w' := by
  have key : ∀ p, Go.Lib.BuilderAt 60 5 B b p bs w → Go.Lib.BuilderAt 60 5 B b p bs w' := by
    rintro p ⟨h1, v, h2, h3, h4⟩
    refine ⟨h1, v, (hb.block b (lt_of_some h2)).trans h2, ?_, h4⟩
    exact ownsRow_block h3 (fun g hg => hb.block g (World.ownsRow.lt h3 g hg).2)
  exact h.elim (fun e => .inl (key _ e)) (fun e => .inr (key _ e))
theorem BB.later {B : Nat} {w0 w w' : World} {s : Bs} (h : BB B w0 w s) (hb : Below w.heap.size w w') : BB B w0 w' s :=
  ⟨bld_later h.b hb, h.k.trans (hb.mono h.h), Nat.le_trans h.h hb.size⟩
theorem BB.new (w : World) : BB w.heap.size w (w.alloc (.cells #[.pointer none, .slice none 0 0] 60)) [] := by
  refine ⟨.inl ⟨Nat.le_refl _, .slice none 0 0, heap_alloc_new _ _, ⟨by simp [Go.Lib.byteCells], .inl ⟨rfl, rfl⟩⟩, by simp [Value.ownBlock]⟩, (Below.refl _ _).alloc (Nat.le_refl _) _, by simp⟩
theorem write_any {B : Nat} {w0 w : World} {s : Bs} (h : BB B w0 w s) (t : Bs) (hl : s.length + t.length ≤ 1000000000) :
    Calls Tryd.prog 23 #[.pointer (some ⟨B, 0, none⟩), .string (str t)] w fun e w' => e = .returned (.tuple #[.int .i64 (str t).size, .nilIface]) ∧ BB B w0 w' (s ++ t) := by
  refine (Tryd.Builder_WriteString B B _ (str t) w h.b (by rw [Go.Lib.byteCells_length, str_size]; omega) h.h).mono ?_
  rintro e w' ⟨rfl, hb, hk⟩
  refine ⟨rfl, .inr ?_, h.k.trans hk, Nat.le_trans h.h hk.size⟩
  have e : Go.Lib.byteCells (s ++ t) = Go.Lib.byteCells s ++ Go.Lib.strCells (str t) := by simp [Go.Lib.byteCells, Go.Lib.strCells, str_data]
  rw [e]
  exact hb
theorem string_any {B : Nat} {w0 w : World} {s : Bs} (h : BB B w0 w s) : Calls Tryd.prog 25 #[.pointer (some ⟨B, 0, none⟩)] w fun e w' => e = .returned (.string (str s)) ∧ Below B w0 w' := by
  refine (Tryd.Builder_String_any B B s w h.b h.h).mono ?_
  rintro e w' ⟨rfl, hk⟩
  exact ⟨rfl, h.k.trans hk⟩
end Go.Proofs.YtikcbgoocljgnaaDoor
