/- What this text holds: the reader of a set's text: an end, a span, all spans. -/
import Derived.Test.YtiiegjdclpkeeaaDoorM14
namespace Go.Proofs.YtiiegjdclpkeeaaDoor
open Go.RowKit
set_option linter.unusedVariables false
set_option linter.unusedSimpArgs false

/-- The reader at block b. -/
def RdAt (w : World) (B b U : Nat) (l : Bs) (S : List Sp) (fr mn : Bool) : Prop := (∃ v, w.heap[b]? = some (.cells #[.string (str l), v, .bool fr, .bool mn] 52 (0, 0)) ∧ GO eSp w B v S ∧ ∀ g, v.ownBlock = some g → g < U) ∧ B ≤ b ∧ Env w ∧ 3 ≤ B
theorem RdAt.c0 {w : World} {B b U : Nat} {l : Bs} {S : List Sp} {fr mn : Bool} (h : RdAt w B b U l S fr mn) : w.cell? ⟨b, 0, none⟩ = some (.string (str l)) ∧ w.frozen? ⟨b, 0, none⟩ = false := by
  obtain ⟨⟨v, hc, _⟩, _⟩ := h
  exact ⟨by simp [World.cell?, hc], by simp [World.frozen?, hc]⟩
theorem RdAt.set0 {w : World} {B b U : Nat} {l : Bs} {S : List Sp} {fr mn : Bool} (h : RdAt w B b U l S fr mn) (r : Bs) : RdAt (w.setCell ⟨b, 0, none⟩ (.string (str r))) B b U r S fr mn ∧ Kept [b] w (w.setCell ⟨b, 0, none⟩ (.string (str r))) := by
  obtain ⟨⟨v, hc, ho, hU⟩, hB, hE, h4⟩ := h
  have hb : Below B w (w.setCell ⟨b, 0, none⟩ (.string (str r))) := (Below.refl B w).setCell hB _
  exact ⟨⟨⟨v, by rw [heap_setCell_same _ _ _ _ _ _ hc]; rfl, ho.setOther (by decide) hc 0 _, hU⟩, hB, hE.keep hb h4, h4⟩, Kept.setCell [b] w _ _ (by simp)⟩
theorem RdAt.set2 {w : World} {B b U : Nat} {l : Bs} {S : List Sp} {fr mn : Bool} (h : RdAt w B b U l S fr mn) : (w.cell? ⟨b, 2, none⟩ = some (.bool fr) ∧ w.frozen? ⟨b, 2, none⟩ = false) ∧ RdAt (w.setCell ⟨b, 2, none⟩ (.bool true)) B b U l S true mn ∧ Kept [b] w (w.setCell ⟨b, 2, none⟩ (.bool true)) := by
  obtain ⟨⟨v, hc, ho, hU⟩, hB, hE, h4⟩ := h
  have hb : Below B w (w.setCell ⟨b, 2, none⟩ (.bool true)) := (Below.refl B w).setCell hB _
  exact ⟨⟨by simp [World.cell?, hc], by simp [World.frozen?, hc]⟩, ⟨⟨v, by rw [heap_setCell_same _ _ _ _ _ _ hc]; rfl, ho.setOther (by decide) hc 2 _, hU⟩, hB, hE.keep hb h4, h4⟩, Kept.setCell [b] w _ _ (by simp)⟩
theorem RdAt.later {w w' : World} {B b U : Nat} {l : Bs} {S : List Sp} {fr mn : Bool} (h : RdAt w B b U l S fr mn) (hb : Below w.heap.size w w') : RdAt w' B b U l S fr mn := by
  obtain ⟨⟨v, hc, ho, hU⟩, hB, hE, h4⟩ := h
  exact ⟨⟨v, (hb.block b (lt_of_some hc)).trans hc, ho.later hb, hU⟩, hB, hE.later hb, h4⟩
theorem RdAt.le {w : World} {B b U : Nat} {l : Bs} {S : List Sp} {fr mn : Bool} (h : RdAt w B b U l S fr mn) : B ≤ w.heap.size := by
  obtain ⟨⟨v, hc, ho, hU⟩, hB, hE, h4⟩ := h
  have := lt_of_some hc
  omega
theorem RdAt.top {w : World} {B b U : Nat} {l : Bs} {S : List Sp} {fr mn : Bool} (h : RdAt w B b U l S fr mn) : RdAt w B b w.heap.size l S fr mn := by
  obtain ⟨⟨v, hc, ho, hU⟩, r⟩ := h
  exact ⟨⟨v, hc, ho, fun g hg => (World.ownsRow.lt ho g hg).2⟩, r⟩
theorem RdAt.raise {w : World} {B b U U' : Nat} {l : Bs} {S : List Sp} {fr mn : Bool} (h : RdAt w B b U l S fr mn) (hU' : U ≤ U') : RdAt w B b U' l S fr mn := by
  obtain ⟨⟨v, hc, ho, hU⟩, r⟩ := h
  exact ⟨⟨v, hc, ho, fun g hg => Nat.lt_of_lt_of_le (hU g hg) hU'⟩, r⟩
/-- What is written elsewhere leaves it. -/
theorem RdAt.other {w : World} {B b U z : Nat} {l : Bs} {S : List Sp} {fr mn : Bool} (h : RdAt w B b U l S fr mn) (hz : U ≤ z) (hne : z ≠ b) (hBz : B ≤ z) (o : Nat) (u : Value) : RdAt (w.setCell ⟨z, o, none⟩ u) B b U l S fr mn := by
  obtain ⟨⟨v, hc, ho, hU⟩, hB, hE, h4⟩ := h
  have hb : Below B w (w.setCell ⟨z, o, none⟩ u) := (Below.refl B w).setCell hBz _
  exact ⟨⟨v, by rw [Below.heap_setCell _ _ _ _ (fun e => hne e.symm)]; exact hc, ownsRow_setCell_other ho (fun e => by have := hU z e; omega) _, hU⟩, hB, hE.keep hb h4, h4⟩
theorem parse_digits : ∀ (l : Bs) (acc : Nat), acc < 18446744073709551616 → l.all dgB = true → Go.Lib.parseUint10 acc l = if valF acc l < 18446744073709551616 then .ok (valF acc l) else .range
  | [], acc, h, _ => by simp [Go.Lib.parseUint10, valF, h]
  | c :: r, acc, h, ha => by
    simp only [List.all_cons, Bool.and_eq_true] at ha
    have hc : 48 ≤ c.toNat ∧ c.toNat ≤ 57 := by have := ha.1; unfold dgB at this; simpa using this
    have hv : valF acc (c :: r) = valF (10 * acc + (c.toNat - 48)) r := rfl
    have hge := valF_ge r (10 * acc + (c.toNat - 48))
    simp only [Go.Lib.parseUint10]
    rw [if_pos hc, hv]
    by_cases h1 : 1844674407370955162 ≤ acc
    · rw [if_pos h1, if_neg (by omega)]
    · rw [if_neg h1]
      by_cases h2 : 18446744073709551616 ≤ acc * 10 + (c.toNat - 48)
      · rw [if_pos h2, if_neg (by omega)]
      · rw [if_neg h2, parse_digits r _ (by omega) ha.2, Nat.mul_comm acc 10]
/-- What the library's reader answers to digits. -/
theorem atoi_digits {l : Bs} (hne : l ≠ []) (ha : l.all dgB = true) : Go.Lib.atoiAll l = (if (valN l : Int) ≤ mi then .ok (valN l : Int) else .range) ∧ Go.Lib.atoiSat l = mi := by
  cases l with
  | nil => exact absurd rfl hne
  | cons c r =>
    have hc : 48 ≤ c.toNat ∧ c.toNat ≤ 57 := by
      simp only [List.all_cons, Bool.and_eq_true] at ha
      have := ha.1; unfold dgB at this; simpa using this
    have hp := parse_digits (c :: r) 0 (by omega) ha
    refine ⟨?_, ?_⟩
    · unfold Go.Lib.atoiAll
      simp only
      rw [if_neg (by omega)]
      unfold Go.Lib.parseMag
      rw [if_neg (by simp), hp]
      show _ = if (valF 0 (c :: r) : Int) ≤ mi then Go.Lib.NumEnd.ok (valF 0 (c :: r) : Int) else .range
      generalize valF 0 (c :: r) = v
      unfold mi
      by_cases h1 : v < 18446744073709551616
      · rw [if_pos h1]
        simp only
        by_cases h2 : 9223372036854775808 ≤ v
        · rw [if_pos ⟨by omega, h2⟩, if_neg (by omega)]
        · rw [if_neg (by omega), if_neg (by omega), if_neg (by omega), if_pos (by omega)]
      · rw [if_neg h1, if_neg (by omega)]
    · unfold Go.Lib.atoiSat
      rw [if_neg (by simp; omega)]
      rfl
/-- The library's reader, of digits: the number, and whether it is too great for the machine. -/
def AtoiIs (d : Bs) (w : World) (e : Ending) (w' : World) : Prop := (∃ ev : Value, e = .returned (.tuple #[.int .i64 (numC d), ev]) ∧ (ev = .nilIface ∧ (valN d : Int) ≤ mi ∨ (∃ N, ev = .iface 115 (.pointer (some ⟨N, 0, none⟩))) ∧ mi < (valN d : Int))) ∧ Below w.heap.size w w'
theorem atoi_any {d : Bs} {w : World} (hE : Env w) (hne : d ≠ []) (ha : d.all dgB = true) (hl : d.length ≤ 10000000) : Calls Tryd.prog 61 #[.string (str d)] w (AtoiIs d w) := by
  obtain ⟨h1, h2⟩ := atoi_digits hne ha
  have hs := str_size d
  by_cases hv : (valN d : Int) ≤ mi
  · rw [if_pos hv] at h1
    refine (Tryd.strconv_Atoi_ok (str d) (by omega) (valN d) h1 w).mono ?_
    rintro e w' ⟨rfl, hw⟩
    refine ⟨⟨.nilIface, ?_, .inl ⟨rfl, hv⟩⟩, ?_⟩
    · unfold numC; rw [show min (valN d : Int) mi = valN d by omega]
    · rcases hw with rfl | ⟨t, rfl⟩
      · exact Below.refl _ _
      · exact Go.Lib.bytesWorld_below _ _ _
  · rw [if_neg hv] at h1
    obtain ⟨_, tp, p, hvar⟩ := hE
    refine (Tryd.strconv_Atoi_range_var (str d) (by omega) h1 tp p w hvar).mono ?_
    rintro e w' ⟨N, rfl, _, _, hb⟩
    refine ⟨⟨.iface 115 (.pointer (some ⟨N, 0, none⟩)), ?_, .inr ⟨⟨N, rfl⟩, by omega⟩⟩, hb⟩
    show Ending.returned (.tuple #[.int .i64 (Go.Lib.atoiSat d), _]) = _
    rw [h2]
    unfold numC
    rw [show min (valN d : Int) mi = mi by omega]
/-- What end answers. -/
def EndIs (l : Bs) (w : World) (B b U : Nat) (S : List Sp) (fr mn : Bool) (e : Ending) (w' : World) : Prop :=
  match endP l with
  | none => e = .returned (.tuple #[.int .i64 0, .bool false]) ∧ (∃ l', RdAt w' B b U l' S fr mn) ∧ Kept [b] w w'
  | some (v, r) => e = .returned (.tuple #[.int .i64 v, .bool true]) ∧ RdAt w' B b U r S (fr || decide (mx < v)) mn ∧ Kept [b] w w'
end Go.Proofs.YtiiegjdclpkeeaaDoor
