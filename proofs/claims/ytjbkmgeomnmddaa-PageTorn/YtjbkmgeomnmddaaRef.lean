/- What this text holds: the document's own numbers and noughts. -/
import Derived.Test.YtjbkmgeomnmddaaArgs
namespace Go.Proofs.Ytjbkmgeomnmddaa
open Go.RowKit
set_option linter.unusedVariables false

theorem made_noughts (n : Nat) (hn : n ≤ 5000) (w : World) : (Instr.makeSlice 22 (.int .i64 n) (.int .i64 n)).run Try.prog w = .ok (.slice (some ⟨w.heap.size, 0, none⟩) n n) (w.alloc (.cells (bc (rep n 0)).toArray 5)) := by
  obtain ⟨i, hi, hz0, hz1, hz2⟩ := info_parts Try.info5
  have h := run_make (P := Try.prog) w 22 5 i (.int .u8 0) Try.underlying22 hi hz0 .i64 .i64 n n (by omega) (by omega) (by rw [hz2]; omega) (by omega)
  rw [h, hz1, Nat.mul_one, Int.toNat_natCast]
  have e : madeCells (Value.int .u8 0).cells n = (bc (rep n 0)).toArray := by
    apply Array.toList_inj.1
    show (madeCells (Array.replicate 1 (Value.int .u8 0)) _).toList = _
    rw [madeCells_same _ _ _ (by omega), bc_rep]
  rw [e]
theorem bAt_new (w : World) (l : List Int) : BAt (w.alloc (.cells (bc l).toArray 5)) (some ⟨w.heap.size, 0, none⟩) l := by
  intro j x hx
  refine ⟨_, rfl, ?_⟩
  rw [Addr.add_mid, Nat.zero_add]
  have hh := heap_alloc_new w (.cells (bc l).toArray 5)
  have e : (bc l)[j]? = some (.int .u8 x) := by rw [bc, List.getElem?_map, hx]; rfl
  simp only [World.cell?, hh]
  simpa using e

theorem conv_one (v : Int) (w : World) : (convert 22 9 (.slice (some ⟨w.heap.size, 0, none⟩) 1 1)).run Try.prog (w.alloc (.cells #[.int .u8 v] 5)) = .ok (.string (strOf [v])) (w.alloc (.cells #[.int .u8 v] 5)) :=
  conv_bytes (bAt_new w [v]) rfl
theorem strOf_cons (v : Int) (l : List Int) : strOf [v] ++ strOf l = strOf (v :: l) := by rw [← strOf_append]; rfl

set_option maxRecDepth 100000 in
set_option maxHeartbeats 1000000 in
theorem rnumber_any (x : Int) (n : Nat) (w : World) (h0 : 0 ≤ x) (h1 : x ≤ 9223372036854775807) (hn : n ≤ 8) :
    Calls Try.prog 25 #[.int .i64 x, .int .i64 n] w fun e w' => e = .returned (.string (strOf (numB n x))) ∧ Below w.heap.size w w' := by
  go_enter Try.func25, Try.ntmps25
  go_wp2_with fail
  go_loopw [0, 5, 6] (fun x' s i wr => ∃ k : Nat, k ≤ n ∧ i = .int .i64 k ∧ x' = .int .i64 (x / 256 ^ k) ∧ s = .string (strOf (numB k x)) ∧ Below w.heap.size w wr) (fun _ _ i _ => n - (intOf i).toNat)
  case atStart => exact ⟨0, by omega, rfl, by rw [Int.pow_zero, Int.ediv_one], rfl, Below.refl _ _⟩
  case round =>
    obtain ⟨k, hk, rfl, rfl, rfl, hb⟩ := hrel
    by_cases hlt : k < n
    · have hcv := fun v => conv_one v wr
      have hz1 : ∀ v : Int, (strOf [v]).size = 1 := fun v => strOf_size [v]
      have hz2 : (strOf (numB k x)).size = k := by rw [strOf_size, numB_length]
      have hy0 : 0 ≤ x / 256 ^ k := Int.ediv_nonneg h0 (Int.pow_nonneg (by decide))
      have hy1 : x / 256 ^ k ≤ 9223372036854775807 := Int.le_trans (Int.ediv_le_self _ h0) h1
      have hS := hid (show strOf [x / 256 ^ k % 256] ++ strOf (numB k x) = strOf (numB (k + 1) x) from strOf_cons _ _)
      have hY := hid (show x / 256 ^ k / 256 = x / 256 ^ (k + 1) by rw [Int.pow_succ, Int.ediv_ediv_of_nonneg (Int.pow_nonneg (by decide))])
      have HB := hid hb
      clear hb
      generalize strOf (numB k x) = S at hz2 hS ⊢
      generalize x / 256 ^ k = y at hy0 hy1 hS hY ⊢
      go_wp2_with fail
      exact ⟨⟨k + 1, by omega, by go_num, by rw [hY.out], by rw [hS.out], HB.out.alloc HB.out.size _⟩, by simp [intOf]; omega⟩
    · have e : k = n := by omega
      subst e
      go_wp2_with fail
      go_ret
      exact ⟨rfl, hb⟩
set_option maxRecDepth 100000 in
set_option maxHeartbeats 1000000 in
theorem rnoughts_any (n : Nat) (w : World) (hn : n ≤ 5000) :
    Calls Try.prog 26 #[.int .i64 n] w fun e w' => e = .returned (.string (strOf (rep n 0))) ∧ Below w.heap.size w w' := by
  have hmk := made_noughts n hn w
  have hcv := conv_bytes (c := n) (bAt_new w (rep n 0)) (rep_length n 0)
  have hB := hid ((Below.refl _ w).alloc (Nat.le_refl _) (.cells (bc (rep n 0)).toArray 5))
  generalize w.alloc (.cells (bc (rep n 0)).toArray 5) = W at hmk hcv hB
  go_enter Try.func26, Try.ntmps26
  go_wp2_with fail
  go_ret
  exact ⟨rfl, hB.out⟩
end Go.Proofs.Ytjbkmgeomnmddaa
