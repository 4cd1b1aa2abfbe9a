/- What this text holds: 'Of': a sector of one byte. -/
import Derived.Test.YtambgimfbdecpaaDSmall
namespace Go.Proofs.Ytambgimfbdecpaa
open Go.RowKit

theorem Try.info5 : (Try.prog.info? 5).map (fun i => (i.zero, i.size, i.bytes)) = some (some (.int .u8 0), 1, 1) := by kernel_rfl

/-- A new slice of bytes. -/
def NewBytes (w w' : World) (v : Value) (l : List Int) : Prop :=
  ∃ g, v = .slice (some ⟨g, 0, none⟩) l.length l.length ∧ w.heap.size ≤ g ∧ w'.heap[g]? = some (.cells (bc l).toArray 5 (0, 0))

theorem madeCells_same (m n : Nat) (v : Value) (hm : 0 < m) : (madeCells (Array.replicate m v) n).toList = List.replicate n v := by
  apply List.ext_getElem?
  intro j
  by_cases hj : j < n
  · have : j % m < m := Nat.mod_lt _ hm
    simp [madeCells, hj, this]
  · simp [madeCells, hj]

/-- n times one byte: a word of its own, so that no simp writes it out. -/
def rep (n : Nat) (c : Int) : List Int := List.replicate n c
theorem rep_length (n : Nat) (c : Int) : (rep n c).length = n := by simp [rep]
theorem bc_rep (n : Nat) (c : Int) : bc (rep n c) = List.replicate n (.int .u8 c) := by simp [bc, rep]

theorem made_bytes (w : World) : (Instr.makeSlice 46 (.int .i64 512) (.int .i64 512)).run Try.prog w = .ok (.slice (some ⟨w.heap.size, 0, none⟩) 512 512) (w.alloc (.cells (bc (rep 512 0)).toArray 5)) := by
  obtain ⟨i, hi, hz0, hz1, hz2⟩ := info_parts Try.info5
  have h := run_make (P := Try.prog) w 46 5 i (.int .u8 0) Try.underlying46 hi hz0 .i64 .i64 512 512 (by omega) (by omega) (by rw [hz2]; omega) (by omega)
  rw [h, hz1, show Int.toNat 512 * 1 = 512 from rfl, show Int.toNat 512 = 512 from rfl]
  have e : madeCells (Value.int .u8 0).cells 512 = (bc (rep 512 0)).toArray := by
    apply Array.toList_inj.1
    show (madeCells (Array.replicate 1 (Value.int .u8 0)) _).toList = _
    rw [madeCells_same _ _ _ (by omega), bc_rep]
  rw [e]

def ofCells (c : Int) (k : Nat) : List Int := rep k c ++ rep (512 - k) 0
theorem ofCells_set (c : Int) (k : Nat) (h : k < 512) : (bc (ofCells c k)).set k (.int .u8 c) = bc (ofCells c (k + 1)) := by
  have e : 512 - k = (512 - (k + 1)) + 1 := by omega
  simp only [ofCells, bc_append, bc_rep]
  rw [List.set_append_right _ _ (by simp), e, List.replicate_succ' (n := k)]
  simp [List.replicate_succ]
theorem ofCells_zero (c : Int) : ofCells c 0 = rep 512 0 := rfl
theorem ofCells_512 (c : Int) : ofCells c 512 = rep 512 c := by show rep 512 c ++ [] = _; simp
theorem ofCells_len (c : Int) (k : Nat) (h : k ≤ 512) : (bc (ofCells c k)).length = 512 := by
  simp [bc_length, ofCells, rep_length]; omega

end Go.Proofs.Ytambgimfbdecpaa
