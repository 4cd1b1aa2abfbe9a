/- What this text holds: 'without': pages but one. -/
import Derived.Test.YtambgimfbdecpaaGBegun
namespace Go.Proofs.Ytambgimfbdecpaa
open Go.RowKit Go.Maps
set_option linter.unusedVariables false

def withoutL (ps : List (Int × ByteArray)) (n : Int) : List (Int × ByteArray) := ps.filter fun x => x.1 != n
theorem without_step (ps : List (Int × ByteArray)) (n : Int) (k : Nat) (hk : k < ps.length) : withoutL (ps.take (k + 1)) n = if (ps[k]).1 = n then withoutL (ps.take k) n else withoutL (ps.take k) n ++ [ps[k]] := by
  unfold withoutL
  rw [List.take_succ_eq_append_getElem hk, List.filter_append]
  by_cases h : (ps[k]).1 = n
  · rw [if_pos h, List.filter_cons_of_neg (by simpa using h), List.filter_nil, List.append_nil]
  · rw [if_neg h, List.filter_cons_of_pos (by simpa using h), List.filter_nil]
theorem withoutL_length (ps : List (Int × ByteArray)) (n : Int) : (withoutL ps n).length ≤ ps.length := List.length_filter_le _ _

def WithoutP (w : World) (ps : List (Int × ByteArray)) (n : Int) (e : Ending) (w' : World) : Prop := ∃ v', e = .returned v' ∧ PgsAt w' w.heap.size v' (withoutL ps n) ∧ Below w.heap.size w w'

set_option maxRecDepth 100000 in
set_option maxHeartbeats 4000000 in
theorem without_any {w : World} {B : Nat} {v : Value} {ps : List (Int × ByteArray)} (h : PgsAt w B v ps) (n : Int) (hl : ps.length ≤ 100) :
    Calls Try.prog 30 #[v, .int .i64 n] w (WithoutP w ps n) := by
  have HH := hid h
  obtain ⟨va, vc, hsh⟩ := h.shape
  subst hsh
  clear h
  go_enter Try.func30, Try.ntmps30
  go_wp2_with fail
  go_loopw [10, 5] (fun q hv wr => ∃ k : Nat, k ≤ ps.length ∧ q = .int .i64 k ∧ PgsAt wr w.heap.size hv (withoutL (ps.take k) n) ∧ Below w.heap.size w wr) (fun q _ _ => ps.length - (intOf q).toNat)
  case atStart => exact ⟨0, by omega, rfl, World.ownsRow_nil _ _ _ _, Below.refl _ _⟩
  case round =>
    obtain ⟨k, hkl, rfl, hPg, hBel⟩ := hrel
    have HPG := hid hPg
    have HBL := hid hBel
    clear hPg hBel
    by_cases hlt : k < ps.length
    · have hlt' : (k : Int) < ps.length := by omega
      obtain ⟨g, c, hsh, hob, hc1, hc2⟩ := (HH.out.keep (Kept.ofBelow HBL.out []) (by simp)).get k hlt
      simp only [Value.slice.injEq, true_and] at hsh
      obtain ⟨rfl, rfl⟩ := hsh
      have hst := without_step ps n k hlt
      obtain ⟨X, hX⟩ : ∃ X, X = ps[k] := ⟨_, rfl⟩
      obtain ⟨x, y⟩ := X
      rw [← hX] at hc1 hc2 hst
      simp only at hc1 hc2 hst
      have HST := hid hst
      clear hst hX
      have HPG0 := hid (HPG.out.keep (Kept.alloc [] wr (.cells #[.int .i64 x, .string y] 65)) (by simp))
      have HB0 := hid (HBL.out.alloc HBL.out.size (.cells #[.int .i64 x, .string y] 65))
      by_cases hx : x = n
      · have hx' : (x != n) = false := by simp [hx]
        have hst2 := HST.out
        rw [if_pos hx] at hst2
        have HST2 := hid hst2
        clear hst2 hx
        go_wp2_with fail
        go_roundw
        case rel => exact ⟨k + 1, by omega, by go_num, by rw [HST2.out]; exact HPG0.out, HB0.out⟩
        case measure => simp [intOf]; omega
      · have hx' : (x != n) = true := by simpa using hx
        have hst2 := HST.out
        rw [if_neg hx] at hst2
        have HST2 := hid hst2
        obtain ⟨v', w6, hrun, hpg6, hk6, hloc6⟩ := pgs_append HPG0.out HB0.out.size (x, y) (by have := withoutL_length (ps.take k) n; rw [List.length_take] at this; omega)
        have HPG6 := hid hpg6
        have HB6 := hid (below_kept HB0.out hk6 (fun i hi => by simp only [Option.mem_toList] at hi; exact (HPG0.out.lt i hi).1) HB0.out.size)
        have e1 : (wr.alloc (.cells #[.int .i64 x, .string y] 65)).heap.size = wr.heap.size + 1 := by simp
        rw [e1] at hrun
        have HRun := hid hrun
        clear hrun hpg6 hk6 hloc6 hst2 hx e1
        go_wp2_with (first | (at_builtin; refine wpList_append_run rfl rfl HRun.out ?_))
        go_roundw
        case rel => exact ⟨k + 1, by omega, by go_num, by rw [HST2.out]; exact HPG6.out, HB6.out⟩
        case measure => simp [intOf]; omega
    · obtain rfl : k = ps.length := by omega
      rw [List.take_length] at HPG
      have hlt' : ¬ ((ps.length : Nat) : Int) < (ps.length : Nat) := by omega
      go_wp2_with fail
      go_ret
      exact ⟨_, rfl, HPG.out, HBL.out⟩
end Go.Proofs.Ytambgimfbdecpaa
