/- What this text holds: one element more; strings between quotes, and strings by their length. -/
import Derived.Test.YtpjcpdnolcehcaaGreatDoorM5
namespace Go.Proofs.YtpjcpdnolcehcaaGreatDoor
open Go.RowKit
set_option linter.unusedVariables false
set_option linter.unusedSimpArgs false

theorem kept_lo {b : Nat} {w0 w w' : World} (k : Kept [b] w0 w) (h : Below w0.heap.size w w') : Kept [b] w0 w' := ⟨h.os.trans k.os, h.tape.trans k.tape, h.output.trans k.output, Nat.le_trans k.size h.size, fun i hi hn => (h.block i hi).trans (k.block i hi hn)⟩
theorem RAt.low {w w' : World} {b B : Nat} {s : Bs} {o : Nat} (h : RAt w b s o) (hb : Below B w w') (hB : b < B) : RAt w' b s o := (hb.block b hB).trans h
theorem vo_one {w : World} {B T t k by_ : Nat} {z : Value} (ut : Tryz.prog.underlying t = some (.slice T)) (inf : (Tryz.prog.info? T).map (fun i => (i.zero, i.size, i.bytes)) = some (some z, k, by_)) (hz : z.cells.size = k) (hk : 0 < k) (hby : by_ ≤ 1000)
    {v : Value} {n : Nat} {xs : List Value} (h : w.ownsRow B T k v n xs) (hBw : B ≤ w.heap.size) (hl : n ≤ 10000000000) (r : List Value) (hr : r.length = k) (h1 : ∀ x ∈ r, x.oneCell' = true) (q : Nat) (hq : w.heap.size = q) :
    ∃ v' w', (Builtin.append_ #[t, t] t #[v, .slice (some ⟨q, 0, none⟩) 1 1]).run Tryz.prog (w.alloc (.cells r.toArray T)) = .ok v' w' ∧ w'.ownsRow B T k v' (n + 1) (xs ++ r) ∧ Kept v.ownBlock.toList w w' ∧ Below B w w' ∧ (∀ g, v'.ownBlock = some g → v.ownBlock = some g ∨ w.heap.size ≤ g) := by
  subst hq
  obtain ⟨i, hi, hz0, hz1, hz2⟩ := info_parts inf
  have hb : Below w.heap.size w (w.alloc (.cells r.toArray T)) := (Below.refl _ _).alloc (Nat.le_refl _) _
  have h' := ownsRow_block (w' := w.alloc (.cells r.toArray T)) h (fun g hg => hb.block g (h.lt g hg).2)
  obtain ⟨v', w', hrun, ho', hg, hx, hy⟩ := run_append_own_at (P := Tryz.prog) (w.alloc (.cells r.toArray T)) B t t T i _ k by_ ut hi hz0 hz1 hz2 hz hk v n xs h'
    ⟨w.heap.size, 0, none⟩ 1 1 r (by rw [hr]; omega) (fun j x hx => by
      rw [Addr.add_mid]
      simp only [World.cell?, heap_alloc_new, Nat.zero_add]
      simp [hx]) h1 (by unfold maxLen; omega) (by
        have : (n + 1) * by_ ≤ 10000000001 * 1000 := Nat.mul_le_mul (by omega) hby
        omega) (Nat.le_trans hBw hb.size)
  have hkb := (Kept.ofBelow hb v.ownBlock.toList).trans (Kept.ofGrown hg v.ownBlock.toList (fun k e => by simp [e])) (fun i _ hi => hi)
  refine ⟨v', w', hrun, ho', hkb, (hb.mono hBw).trans ((Below.refl B _).grown hg (Nat.le_trans hBw hb.size) (fun k hk => (h'.lt k hk).1)), fun g hg' => ?_⟩
  rcases hy with hy | hy
  · rw [hy] at hg'; exact .inl hg'
  · rw [hy] at hg'
    simp at hg'
    omega

theorem cs_str (m : Bs) : eB.cs m = Go.Lib.strCells (str m) := by
  have h : Go.Lib.strCells (str m) = m.map fun b => Value.int .u8 b.toNat := rfl
  rw [h]
  induction m with
  | nil => rfl
  | cons a m ih =>
    rw [List.map_cons, ← ih rfl]
    rfl
theorem go_str_more {w : World} {B : Nat} {v : Value} {l : Bs} (h : GO eB w B v l) (m : Bs) (hl : l.length + m.length ≤ 1000000000) (hB : B ≤ w.heap.size) :
    ∃ v' w', (Builtin.append_ #[58, 9] 58 #[v, .string (str m)]).run Tryz.prog w = .ok v' w' ∧ GO eB w' B v' (l ++ m) ∧ Below B w w' := by
  obtain ⟨i, hi, hz0, hz1, hz2⟩ := info_parts Tryz.info5
  obtain ⟨v', w', hr, ho, hg, _⟩ := Go.Lib.run_append_own_string (P := Tryz.prog) w B 58 9 58 5 i Tryz.underlying58 Tryz.underlying9 hi hz0 hz1 hz2 v l.length (eB.cs l) h (str m) (by rw [str_size]; unfold maxLen; omega) (by rw [str_size]; omega) hB
  have e : eB.cs (l ++ m) = eB.cs l ++ Go.Lib.strCells (str m) := by rw [eB.cs_append, cs_str m]
  refine ⟨v', w', hr, ?_, (Below.refl B w).grown hg hB (fun k hk => (World.ownsRow.lt h k hk).1)⟩
  unfold GO
  rw [e, List.length_append]
  rw [str_size] at ho
  exact ho

/-- One value more. -/
theorem VO.more {w : World} {B : Nat} {v : Value} {rows : List (Rw × Vl)} (h : VO w B v rows) (hB : B ≤ w.heap.size) (r : Rw) (x : Vl) (hr : VAt w (fun q => B ≤ q ∧ v.ownBlock ≠ some q) r x) (hl : rows.length ≤ 1000000000) (q : Nat) (hq : w.heap.size = q) :
    ∃ v' w', (Builtin.append_ #[26, 26] 26 #[v, .slice (some ⟨q, 0, none⟩) 1 1]).run Tryz.prog (w.alloc (.cells r.c.toArray 43)) = .ok v' w' ∧ VO w' B v' (rows ++ [(r, x)]) ∧ Below B w w' ∧ Kept v.ownBlock.toList w w' := by
  have ho := h.o
  unfold GO at ho
  obtain ⟨v', w', hrun, ho', hk, hb, hv⟩ := vo_one Tryz.underlying26 eV.inf rfl (by decide) (by decide) ho hB (by simp; omega) r.c rfl (eV.one r) q hq
  refine ⟨v', w', hrun, ⟨?_, ?_⟩, hb, hk⟩
  · show w'.ownsRow B eV.T eV.k v' _ _
    rw [show ((rows ++ [(r, x)]).map (·.1)).length = (rows.map (·.1)).length + 1 by simp, show eV.cs ((rows ++ [(r, x)]).map (·.1)) = eV.cs (rows.map (·.1)) ++ r.c by simp [En.cs, eV]]
    exact ho'
  · have hall : ∀ (s : Rw) (y : Vl), VAt w (fun q => B ≤ q ∧ v.ownBlock ≠ some q) s y → VAt w' (fun q => B ≤ q ∧ v'.ownBlock ≠ some q) s y := by
      intro s y hs
      have e1 := hs.mono (N' := fun q => (B ≤ q ∧ v.ownBlock ≠ some q) ∧ v'.ownBlock ≠ some q) (fun q hq hN => ⟨hN, fun e => by
        rcases hv q e with h2 | h2
        · exact hN.2 h2
        · omega⟩)
      have e2 := e1.kept hk (fun i hi hN => by
        rw [Option.mem_toList] at hi
        exact hN.1.2 hi)
      exact e2.mono (fun q _ hN => ⟨hN.1.1, hN.2⟩)
    intro s hs
    rcases List.mem_append.1 hs with hs | hs
    · exact hall s.1 s.2 (h.each s hs)
    · simp at hs
      subst hs
      exact hall r x hr

/-- What a reading of a string answers. -/
def RdS (b o : Nat) (w : World) (x : Option (Bs × Bs)) (e : Ending) (w' : World) : Prop := match x with
  | some (v, r) => e = .returned (.string (str v)) ∧ RAt w' b r o ∧ Kept [b] w w'
  | none => e = .panicked faultC ∧ Kept [b] w w'
theorem quoted_len : ∀ (n : Nat) (s t r : Bs), s.length ≤ n → quotedP s = some (t, r) → t.length + r.length ≤ s.length
  | _, [], t, r, _, h => by simp [quotedP] at h
  | 0, c :: s, t, r, hn, h => by simp at hn
  | n + 1, c :: s, t, r, hn, h => by
    unfold quotedP at h
    simp only [List.length_cons] at hn
    split at h
    · simp at h; obtain ⟨rfl, rfl⟩ := h; simp
    · split at h
      · split at h
        · cases h
        · rename_i d s'
          rw [Option.map_eq_some_iff] at h
          obtain ⟨p, hp, he⟩ := h
          simp only [Prod.mk.injEq] at he
          obtain ⟨rfl, rfl⟩ := he
          have := quoted_len n s' p.1 p.2 (by simp at hn; omega) hp
          simp
          omega
      · rw [Option.map_eq_some_iff] at h
        obtain ⟨p, hp, he⟩ := h
        simp only [Prod.mk.injEq] at he
        obtain ⟨rfl, rfl⟩ := he
        have := quoted_len n s p.1 p.2 (by omega) hp
        simp
        omega
theorem need1 (c d : UInt8) (s : Bs) : needP [c] (d :: s) = if c = d then some s else none := by
  simp [needP, List.isPrefixOf, Bool.beq_eq_decide_eq]
theorem need1_nil (c : UInt8) : needP [c] [] = none := rfl
/-- How the reading goes on: with what is told so far. -/
def QInv (s acc r : Bs) : Prop := quotedP s = (quotedP r).map (fun p => (acc ++ p.1, p.2)) ∧ acc.length + r.length ≤ s.length
theorem QInv.start (s : Bs) : QInv s [] s := ⟨by simp, by simp⟩
theorem QInv.end_ {s acc r r' : Bs} (h : QInv s acc r) (hn : needP [34] r = some r') : quotedP s = some (acc, r') := by
  cases r with
  | nil => cases hn
  | cons c r =>
    rw [need1] at hn
    split at hn
    · rename_i e
      cases hn
      subst e
      have q : quotedP (34 :: r') = some ([], r') := by
        unfold quotedP
        simp
      rw [h.1, q]
      simp
    · cases hn
theorem QInv.esc {s acc r r1 : Bs} (h : QInv s acc r) (hn : needP [34] r = none) (h2 : needP [92] r = some r1) : (r1 = [] → quotedP s = none) ∧ (∀ d r2, r1 = d :: r2 → QInv s (acc ++ [d]) r2) := by
  cases r with
  | nil => cases h2
  | cons c r =>
    rw [need1] at h2 hn
    split at h2
    · rename_i e
      cases h2
      subst e
      constructor
      · rintro rfl
        rw [h.1]
        simp [quotedP]
      · rintro d r2 rfl
        refine ⟨?_, by have := h.2; simp at this ⊢; omega⟩
        rw [h.1]
        simp [quotedP, Function.comp_def]
    · cases h2
theorem QInv.plain {s acc r : Bs} (h : QInv s acc r) (hn : needP [34] r = none) (h2 : needP [92] r = none) : (r = [] → quotedP s = none) ∧ (∀ d r2, r = d :: r2 → QInv s (acc ++ [d]) r2) := by
  constructor
  · rintro rfl
    rw [h.1]
    rfl
  · rintro d r2 rfl
    rw [need1] at h2 hn
    refine ⟨?_, by have := h.2; simp at this ⊢; omega⟩
    rw [h.1]
    have e1 : ¬ d = 34 := fun e => by rw [e] at hn; simp at hn
    have e2 : ¬ d = 92 := fun e => by rw [e] at h2; simp at h2
    have q : quotedP (d :: r2) = (quotedP r2).map (fun p => (d :: p.1, p.2)) := by
      conv => lhs; unfold quotedP
      rw [if_neg e1, if_neg e2]
    rw [q]
    simp [Function.comp_def]
end Go.Proofs.YtpjcpdnolcehcaaGreatDoor
