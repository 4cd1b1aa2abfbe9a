/- What this text holds: what matches a pattern: the program's rows. -/
import Derived.Test.YtkmggkcipgfhdaaDoorM9
namespace Go.Proofs.YtkmggkcipgfhdaaDoor
open Go.RowKit
set_option linter.unusedVariables false
set_option linter.unusedSimpArgs false

/-- A row's cells. -/
def rowC (n : Nat) (F : Nat → Bool) : Array Value := ((List.range (n + 1)).map fun k => Value.bool (F k)).toArray
theorem rowC_size (n : Nat) (F : Nat → Bool) : (rowC n F).size = n + 1 := by simp [rowC]
theorem rowC_at {n k : Nat} (F : Nat → Bool) (h : k ≤ n) : (rowC n F)[k]? = some (.bool (F k)) := by simp [rowC, show k < n + 1 by omega]
def upd (F : Nat → Bool) (i : Nat) (v : Bool) : Nat → Bool := fun k => if k = i then v else F k
theorem rowC_congr {n : Nat} {F G : Nat → Bool} (h : ∀ k ≤ n, F k = G k) : rowC n F = rowC n G := by
  unfold rowC
  congr 1
  apply List.map_congr_left
  intro k hk
  rw [h k (by have := List.mem_range.1 hk; omega)]
theorem rowC_set (n i : Nat) (F : Nat → Bool) (v : Bool) : (rowC n F).setIfInBounds i (.bool v) = rowC n (upd F i v) := by
  apply Array.ext
  · simp [rowC]
  · intro k h1 h2
    have hk : k < n + 1 := by simpa [rowC] using h2
    simp only [rowC, Array.getElem_setIfInBounds, List.getElem_toArray, List.getElem_map, List.getElem_range, upd]
    by_cases e : i = k
    · subst e; simp
    · simp [e, Ne.symm e]
/-- A row lies in memory. -/
structure RAt (w : World) (B g n : Nat) (F : Nat → Bool) : Prop where
  blk : w.heap[g]? = some (.cells (rowC n F) 4 (0, 0))
  base : B ≤ g
theorem RAt.cell {w : World} {B g n : Nat} {F : Nat → Bool} (h : RAt w B g n F) {k : Nat} (hk : k ≤ n) : w.cell? ⟨g, k, none⟩ = some (.bool (F k)) ∧ w.frozen? ⟨g, k, none⟩ = false := by
  constructor
  · simp only [World.cell?, h.blk]; exact rowC_at F hk
  · simp [World.frozen?, h.blk]
theorem RAt.set {w : World} {B g n : Nat} {F : Nat → Bool} (h : RAt w B g n F) (k : Nat) (v : Bool) : RAt (w.setCell ⟨g, k, none⟩ (.bool v)) B g n (upd F k v) := by
  refine ⟨?_, h.base⟩
  rw [heap_setCell_same _ _ _ _ _ _ h.blk, rowC_set]
theorem RAt.congr {w : World} {B g n : Nat} {F G : Nat → Bool} (h : RAt w B g n F) (e : ∀ k ≤ n, F k = G k) : RAt w B g n G := ⟨by rw [← rowC_congr e]; exact h.blk, h.base⟩
theorem RAt.drewN {w : World} {B g n : Nat} {F : Nat → Bool} (h : RAt w B g n F) (q : Nat) : RAt (w.drewN q) B g n F := ⟨h.blk, h.base⟩

/-- What a star makes of a row. -/
def sp (F : Nat → Bool) (name : List UInt8) (within : Bool) : Nat → Bool
  | 0 => F 0
  | k + 1 => F (k + 1) || (sp F name within k && !(within && (name.getD k 0 == 47)))
/-- The row on the way. -/
def spTo (F : Nat → Bool) (name : List UInt8) (within : Bool) (i : Nat) : Nat → Bool := fun k => if k ≤ i then sp F name within k else F k

theorem spTo_set {F : Nat → Bool} {name : List UInt8} {within : Bool} {k : Nat} (h : sp F name within (k + 1) = true) (j : Nat) : upd (spTo F name within k) (k + 1) true j = spTo F name within (k + 1) j := by
  by_cases e : j = k + 1
  · subst e; simp [spTo, upd, h]
  · simp only [upd, if_neg e, spTo]
    by_cases h : j ≤ k
    · simp [h, show j ≤ k + 1 by omega]
    · simp [h, show ¬ j ≤ k + 1 by omega]
theorem spTo_keep {F : Nat → Bool} {name : List UInt8} {within : Bool} {k : Nat} (h : sp F name within (k + 1) = F (k + 1)) (j : Nat) : spTo F name within k j = spTo F name within (k + 1) j := by
  unfold spTo
  by_cases e : j = k + 1
  · subst e; simp [h]
  · by_cases h : j ≤ k
    · simp [h, show j ≤ k + 1 by omega]
    · simp [h, show ¬ j ≤ k + 1 by omega]

set_option maxRecDepth 100000 in
set_option maxHeartbeats 1000000 in
theorem spread_any {w : World} {B g c : Nat} {F : Nat → Bool} (name : ByteArray) (hs : name.size ≤ 100000) (h : RAt w B g name.size F) (within : Bool) :
    Calls Tryd.prog 55 #[.slice (some ⟨g, 0, none⟩) (name.size + 1) c, .string name, .bool within] w fun e w' => e = .returned (.tuple #[]) ∧ RAt w' B g name.size (sp F name.data.toList within) ∧ Below B w w' := by
  have H := hid h
  have hB := h.base
  clear h
  go_enter Tryd.func55, Tryd.ntmps55
  go_wp2_with fail
  go_loopw [9] (fun i wr => ∃ k : Nat, k ≤ name.size ∧ i = .int .i64 k ∧ RAt wr B g name.size (spTo F name.data.toList within k) ∧ Below B w wr) (fun i _ => name.size - (intOf i).toNat)
  case atStart => exact ⟨0, by omega, rfl, H.out.congr (fun k _ => by unfold spTo; split; (rename_i h; rw [Nat.le_zero.1 h]; rfl); rfl), Below.refl _ _⟩
  case round =>
    obtain ⟨k, hk, rfl, hr, hb⟩ := hrel
    have HR := hid hr
    have HB := hid hb
    clear hr hb
    by_cases hlt : k < name.size
    · have hlt' : (k : Int) < name.size := by omega
      have hlt2 : (k : Int) < ((name.size + 1 : Nat) : Int) := by omega
      have hlt3 : k < name.size + 1 := by omega
      obtain ⟨c1, _⟩ := HR.out.cell (show k ≤ name.size by omega)
      obtain ⟨c2, f2⟩ := HR.out.cell (show k + 1 ≤ name.size by omega)
      have e1 : spTo F name.data.toList within k k = sp F name.data.toList within k := by simp [spTo]
      rw [e1] at c1
      have HG : Hid (name.data.toList.getD k 0 = name[k]) := by
        unfold Hid
        rw [List.getD_eq_getElem?_getD, List.getElem?_eq_getElem (by rw [← Go.Lib.size_eq]; exact hlt)]
        rfl
      clear e1
      rcases Bool.eq_false_or_eq_true (sp F name.data.toList within k) with hsp | hsp
      · rw [hsp] at c1
        cases within with
        | true =>
          rcases Bool.eq_false_or_eq_true ((name[k].toNat : Int) == (((⟨#[47]⟩ : ByteArray)[0]'(by decide)).toNat : Int)) with h47 | h47
          · have HK : Hid (sp F name.data.toList true (k + 1) = F (k + 1)) := by
              have h47' : (name[k].toNat : Int) = 47 := by rw [beq_iff_eq] at h47; exact h47
              have : (name.data.toList.getD k 0 == 47) = true := by
                rw [HG.out, beq_iff_eq]
                exact UInt8.toNat_inj.1 (by show name[k].toNat = 47; omega)
              rw [Hid, sp, this]
              simp
            go_wp2_with fail
            go_quiet (fail)
            go_wp2_with fail
            go_roundw
            case rel => exact ⟨k + 1, by omega, by go_num, (HR.out.drewN _).congr (fun j _ => spTo_keep HK.out j), below_drewN HB.out _⟩
            case measure => simp [intOf]; omega
          · have HK : Hid (sp F name.data.toList true (k + 1) = true) := by
              have : (name.data.toList.getD k 0 == 47) = false := by
                rw [HG.out, beq_eq_false_iff_ne]
                intro e
                rw [e] at h47
                exact absurd h47 (by decide)
              rw [Hid, sp, this, hsp]
              simp
            go_wp2_with fail
            go_quiet (fail)
            go_wp2_with fail
            go_roundw
            case rel =>
              have hset := (HR.out.set (k + 1) true).congr (fun j _ => spTo_set HK.out j)
              exact ⟨k + 1, by omega, by go_num, ⟨hset.blk, hset.base⟩, (HB.out.setCell hB _).trans ⟨rfl, rfl, rfl, Nat.le_refl _, fun _ _ => rfl⟩⟩
            case measure => simp [intOf]; omega
        | false =>
          have HK : Hid (sp F name.data.toList false (k + 1) = true) := by simp [Hid, sp, hsp]
          go_wp2_with fail
          go_quiet (fail)
          go_wp2_with fail
          go_roundw
          case rel =>
            have hset := (HR.out.set (k + 1) true).congr (fun j _ => spTo_set HK.out j)
            exact ⟨k + 1, by omega, by go_num, ⟨hset.blk, hset.base⟩, (HB.out.setCell hB _).trans ⟨rfl, rfl, rfl, Nat.le_refl _, fun _ _ => rfl⟩⟩
          case measure => simp [intOf]; omega
      · rw [hsp] at c1
        have HK : Hid (sp F name.data.toList within (k + 1) = F (k + 1)) := by simp [Hid, sp, hsp]
        go_wp2_with fail
        go_quiet (fail)
        go_wp2_with fail
        go_roundw
        case rel => exact ⟨k + 1, by omega, by go_num, (HR.out.drewN _).congr (fun j _ => spTo_keep HK.out j), below_drewN HB.out _⟩
        case measure => simp [intOf]; omega
    · go_wp2_with fail
      go_end0
      exact ⟨rfl, HR.out.congr (fun j hj => by simp [spTo, show j ≤ k by omega]), HB.out⟩
end Go.Proofs.YtkmggkcipgfhdaaDoor
