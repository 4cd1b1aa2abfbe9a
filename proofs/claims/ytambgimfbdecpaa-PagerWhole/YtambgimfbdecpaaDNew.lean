/- What this text holds: 'blank' and 'New': a disk of noughts. -/
import Derived.Test.YtambgimfbdecpaaDInfos
namespace Go.Proofs.Ytambgimfbdecpaa
open Go.RowKit
theorem made_secs (n : Nat) (hn : n ≤ 4096) (w : World) : (Instr.makeSlice 77 (.int .i64 n) (.int .i64 n)).run Try.prog w = .ok (.slice (some ⟨w.heap.size, 0, none⟩) n n) (w.alloc (.cells (bc (rep (n * 512) 0)).toArray 96)) := by
  obtain ⟨i, hi, hz0, hz1, hz2⟩ := info_parts Try.info96
  have h := run_make (P := Try.prog) w 77 96 i _ Try.underlying77 hi hz0 .i64 .i64 n n (by omega) (by omega) (by rw [hz2]; omega) (by omega)
  rw [h, hz1, Int.toNat_natCast]
  have e : madeCells zSec.cells (n * 512) = (bc (rep (n * 512) 0)).toArray := by
    apply Array.toList_inj.1
    show (madeCells (Array.replicate 512 (Value.int .u8 0)) _).toList = _
    rw [madeCells_same _ _ _ (by omega), bc_rep]
  rw [e]

set_option maxRecDepth 100000 in
set_option maxHeartbeats 1000000 in
theorem blank_any (n : Nat) (w : World) (hn : n ≤ 4096) :
    Calls Try.prog 40 #[.int .i64 n] w fun e w' => ∃ g, e = .returned (.agg #[.slice (some ⟨g, 0, none⟩) n n]) ∧ w.heap.size ≤ g ∧ w'.heap[g]? = some (.cells (bc (rep (n * 512) 0)).toArray 96 (0, 0)) ∧ Below w.heap.size w w' := by
  have hmk := made_secs n hn
  go_enter Try.func40, Try.ntmps40
  go_wp2
  refine bodyPost_ret (v := .agg #[.slice (some ⟨w.heap.size + 1, 0, none⟩) n n]) (by simp [results, Try.results40, go_sem]) rfl ⟨_, rfl, by omega, ?_, ?_⟩
  · exact heap_alloc2_new _ _ _
  · exact ((Below.refl _ _).alloc (Nat.le_refl _) _).alloc (by simp) _

theorem ownsRow_whole {w : World} {g B n size : Nat} {e : TypeId} {xs : List Value} (h : w.heap[g]? = some (.cells xs.toArray e (0, 0))) (hg : B ≤ g) (hl : xs.length = n * size) (hn : n ≤ maxLen) :
    w.ownsRow B e size (.slice (some ⟨g, 0, none⟩) n n) n xs :=
  ⟨hl, .inr ⟨g, n, xs.toArray, rfl, hg, h, Nat.le_refl _, hn, by simpa using hl, by simp [← hl]⟩⟩

/-- A disk of noughts. -/
def DS.blank (n : Nat) : DS := { n := n, secs := rep (n * 512) 0, waits := [], fuse := -1, gone := false, steps := 0 }
theorem DS.blank_good (n : Nat) (h1 : 1 ≤ n) (h2 : n ≤ 4096) : (DS.blank n).good := by
  refine ⟨h1, h2, ?_, ?_, ?_, ?_, ?_, ?_, ?_⟩ <;> simp [DS.blank, rep_length]

set_option maxRecDepth 100000 in
set_option maxHeartbeats 1000000 in
theorem new_yes (n : Nat) (w : World) (h1 : 1 ≤ n) (h2 : n ≤ 4096) :
    Calls Try.prog 9 #[.int .i64 n] w fun e w' => ∃ b own, e = .returned (.tuple #[.pointer (some ⟨b, 0, none⟩), .int .i64 0]) ∧ Disk w' w.heap.size b own (DS.blank n) ∧ Below w.heap.size w w' := by
  have g1 : ¬ (n : Int) < 1 := by omega
  have g2 : ¬ (4096 : Int) < n := by omega
  go_enter Try.func9, Try.ntmps9
  go_wp2_with (go_at_call 40; refine (blank_any n _ h2).mono ?_; rintro e w1 ⟨g, rfl, hg, hh, hb⟩)
  go_ret2
  have hlt : g < w1.heap.size := (Array.getElem?_eq_some_iff.1 hh).1
  have hr := ownsRow_whole (B := w.heap.size) (n := n) (size := 512) hh hg (by simp [bc_length, rep_length]) (by unfold maxLen; omega)
  refine ⟨w1.heap.size, [w1.heap.size, g], rfl, ⟨g, n, .slice none 0 0, ?_, by simp [Value.ownBlock]⟩, hb.alloc hb.size _⟩
  refine { blk := heap_alloc_new _ _, secs := hr.alloc _, waits := World.ownsRow_nil _ _ _ _, ne1 := by omega, ne2 := by simp [Value.ownBlock], ne3 := by simp [Value.ownBlock], hB := hb.size, good := DS.blank_good n h1 h2 }

set_option maxHeartbeats 1000000 in
theorem new_no (n : Int) (w : World) (h : n < 1 ∨ 4096 < n) :
    Calls Try.prog 9 #[.int .i64 n] w fun e w' => e = .returned (.tuple #[.pointer none, .int .i64 2]) ∧ w' = w := by
  rcases h with h | h
  · go_enter Try.func9, Try.ntmps9
    go_wp2
    go_ret2
    exact ⟨rfl, rfl⟩
  · have h' : ¬ n < 1 := by omega
    go_enter Try.func9, Try.ntmps9
    go_wp2
    go_ret2
    exact ⟨rfl, rfl⟩
end Go.Proofs.Ytambgimfbdecpaa
