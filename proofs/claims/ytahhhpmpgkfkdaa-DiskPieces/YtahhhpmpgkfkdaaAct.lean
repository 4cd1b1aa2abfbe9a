/- What this text holds: the bytes of a call that a play makes. -/
import Derived.Test.YtahhhpmpgkfkdaaOps
namespace Go.Proofs.Ytahhhpmpgkfkdaa
open Go.RowKit
set_option linter.unusedVariables false

/-- The bytes of a call. -/
def abytes (n by_ : Int) : List Int := if 0 ≤ n then rep (min n 512).toNat by_ else ((rep 512 by_).set 0 (n % 256)).set 500 (n % 256)
theorem abytes_length (n by_ : Int) : (abytes n by_).length ≤ 512 := by
  unfold abytes
  split
  · rw [rep_length]; omega
  · rw [List.length_set, List.length_set, rep_length]; omega

/-- What such a call ends in. -/
def MadeBytes (w : World) (l : List Int) (e : Ending) (w' : World) : Prop :=
  ∃ g, e = .returned (.slice (some ⟨g, 0, none⟩) l.length 512) ∧ w.heap.size ≤ g ∧ (∀ j v, (bc l)[j]? = some v → w'.cell? ⟨g, j, none⟩ = some v) ∧ Below w.heap.size w w'

theorem of_cell {w1 : World} {g : Nat} {c : Int} (h : w1.heap[g]? = some (.cells (bc (rep 512 c)).toArray 5 (0, 0))) (k : Nat) (hk : k < 512) : w1.cell? ⟨g, k, none⟩ = some (.int .u8 c) := by
  have e : (bc (rep 512 c))[k]? = some (.int .u8 c) := by rw [bc_rep, List.getElem?_replicate, if_pos hk]
  simp only [World.cell?, h]
  simpa using e

theorem of_take {w1 : World} {g : Nat} {c : Int} (h : w1.heap[g]? = some (.cells (bc (rep 512 c)).toArray 5 (0, 0))) (m : Nat) (hm : m ≤ 512) : ∀ j v, (bc (rep m c))[j]? = some v → w1.cell? ⟨g, j, none⟩ = some v := by
  intro j v hv
  rw [← rep_take 512 m c hm] at hv
  have := bc_take_at hv
  simp only [World.cell?, h]
  simpa using this

set_option maxRecDepth 100000 in
set_option maxHeartbeats 2000000 in
theorem bytes_pos (kind at_ n by_ : Int) (kv : Value) (w : World) (hn : 0 ≤ n) (hn2 : n ≤ 9223372036854775807) :
    Calls Try.prog 35 #[.agg #[.int .i64 kind, .int .i64 at_, .int .i64 n, .int .u8 by_, kv]] w (MadeBytes w (abytes n by_)) := by
  by_cases h512 : n ≤ 512
  · obtain ⟨m, rfl⟩ : ∃ m : Nat, n = m := ⟨n.toNat, by omega⟩
    have hab : abytes m by_ = rep m by_ := by unfold abytes; rw [if_pos hn, show (min (m : Int) 512).toNat = m by omega]
    rw [hab]
    clear hab
    go_enter Try.func35, Try.ntmps35
    go_wp2_with (go_at_call 18; refine (of_512 _ _).mono ?_; rintro e w1 ⟨g, rfl, hgB, hgg, hb⟩; have hn3 : w1.cell? ⟨w.heap.size, 2, none⟩ = some (.int .i64 m) := (hb.cell (by simp)).trans (by simp); have HB := hid hb; have HG := hid hgg; clear hb hgg)
    go_ret
    refine ⟨g, by rw [rep_length]; rfl, ?_, of_take HG.out m (by omega), ?_⟩
    · simp at hgB; omega
    · exact ((Below.refl _ _).alloc (Nat.le_refl _) _).trans (HB.out.mono (by simp))
  · have hab : abytes n by_ = rep 512 by_ := by unfold abytes; rw [if_pos hn, show (min n 512).toNat = 512 by omega]
    rw [hab]
    clear hab
    go_enter Try.func35, Try.ntmps35
    go_wp2_with (go_at_call 18; refine (of_512 _ _).mono ?_; rintro e w1 ⟨g, rfl, hgB, hgg, hb⟩; have hn3 : w1.cell? ⟨w.heap.size, 2, none⟩ = some (.int .i64 n) := (hb.cell (by simp)).trans (by simp); have HB := hid hb; have HG := hid hgg; clear hb hgg)
    go_ret
    refine ⟨g, by rw [rep_length]; rfl, ?_, of_take HG.out 512 (by omega), ?_⟩
    · simp at hgB; omega
    · exact ((Below.refl _ _).alloc (Nat.le_refl _) _).trans (HB.out.mono (by simp))

set_option maxRecDepth 100000 in
set_option maxHeartbeats 2000000 in
theorem bytes_neg (kind at_ n by_ : Int) (kv : Value) (w : World) (hn : n < 0) (hn2 : -9223372036854775808 ≤ n) :
    Calls Try.prog 35 #[.agg #[.int .i64 kind, .int .i64 at_, .int .i64 n, .int .u8 by_, kv]] w (MadeBytes w (abytes n by_)) := by
  have hab : abytes n by_ = ((rep 512 by_).set 0 (n % 256)).set 500 (n % 256) := by unfold abytes; rw [if_neg (by omega)]
  rw [hab]
  clear hab
  go_enter Try.func35, Try.ntmps35
  go_wp2_with fail
  refine (of_512 _ _).mono ?_
  rintro e w1 ⟨g, rfl, hgB, hgg, hb⟩
  have hn3 : w1.cell? ⟨w.heap.size, 2, none⟩ = some (.int .i64 n) := (hb.cell (by simp)).trans (by simp)
  have h00 := of_cell hgg 0 (by omega)
  have h50 := of_cell hgg 500 (by omega)
  have hf : ∀ k, w1.frozen? ⟨g, k, none⟩ = false := fun k => by simp [World.frozen?, hgg]
  have hne : w.heap.size < g := by simp at hgB; omega
  have hne2 : ¬ g = w.heap.size := by omega
  have hne3 : ¬ w.heap.size = g := by omega
  have HB := hid hb
  have HG := hid hgg
  clear hb hgg hgB
  go_wp2_with fail
  go_ret
  refine ⟨g, by rw [List.length_set, List.length_set, rep_length]; rfl, by omega, ?_, ?_⟩
  · intro j v hv
    have h1 : ∀ k v, (bc (rep 512 by_))[k]? = some v → w1.cell? ⟨g, k, none⟩ = some v := of_take HG.out 512 (by omega)
    simp only [bc, List.map_set] at hv
    rw [List.getElem?_set] at hv
    by_cases e5 : 500 = j
    · subst e5
      rw [if_pos rfl, if_pos (by simp [rep_length])] at hv
      rw [World.cell?_setCell_same _ _ _ (by rw [World.cell?_setCell_other _ _ _ _ (by simp)]; exact h50)]
      exact hv
    · rw [if_neg e5, List.getElem?_set] at hv
      rw [World.cell?_setCell_other _ _ _ _ (by simp)]
      by_cases e0 : 0 = j
      · subst e0
        rw [if_pos rfl, if_pos (by simp [rep_length])] at hv
        rw [World.cell?_setCell_same _ _ _ h00]
        exact hv
      · rw [if_neg e0] at hv
        rw [World.cell?_setCell_other _ _ _ _ (by simp)]
        exact h1 j v hv
  · exact ((((Below.refl _ _).alloc (Nat.le_refl _) _).trans (HB.out.mono (by simp))).setCell (by simp; omega) _).setCell (by simp; omega) _
end Go.Proofs.Ytahhhpmpgkfkdaa
