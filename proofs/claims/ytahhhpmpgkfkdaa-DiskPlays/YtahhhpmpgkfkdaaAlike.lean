/- What this text holds: both disks tell the same ('alike'). -/
import Derived.Test.YtahhhpmpgkfkdaaDo
namespace Go.Proofs.Ytahhhpmpgkfkdaa
open Go.RowKit
set_option linter.unusedVariables false

set_option maxRecDepth 100000 in
set_option maxHeartbeats 4000000 in
theorem alike_any {w0 w : World} {b r k : Nat} {own rown : List Nat} {D : DS} (h : Both w0 w b r k own rown D) :
    Calls Try.prog 21 #[.pointer (some ⟨b, 0, none⟩), .pointer (some ⟨r, 0, none⟩)] w (DoPost w0 b r k) := by
  obtain ⟨gl, lc, rv, hR, hrown⟩ := h.p.r
  obtain ⟨bs, sc, wv, hD, hown⟩ := h.p.d
  obtain ⟨ra, rc, rfl⟩ := hR.wvSlice
  obtain ⟨c0, c1, c2, c3, c4⟩ := hR.cells
  have hn1 := hR.good.n1
  have hn2 := hR.good.n2
  have hwl := hR.good.wl
  have hSz := hid (fun X hX => size_any (hD.keep (w' := X) (Kept.ofBelow hX []) (by simp)))
  have hWt := hid (fun X hX => waiting_any (hD.keep (w' := X) (Kept.ofBelow hX []) (by simp)))
  have hSt := hid (fun X hX => steps_any (hD.keep (w' := X) (Kept.ofBelow hX []) (by simp)))
  have HR := hid hR
  have HH := hid h
  have HB0 := hid ((Below.refl w.heap.size w).drew)
  clear h hR hD hrown hown
  go_enter Try.func21, Try.ntmps21
  go_wp2_with fail
  go_region_held3 (fun w' => w'.cell? ⟨r, 0, none⟩ = some (.slice (some ⟨gl, 0, none⟩) D.n lc) ∧ w'.cell? ⟨r, 1, none⟩ = some (.slice ra D.waits.length rc) ∧ w'.cell? ⟨r, 2, none⟩ = some (.int .i64 D.steps)) (first | assumption | go_keep) (first | (go_at_call 25; refine (hSz.out _ HB0.out).mono ?_; rintro e w3 ⟨rfl, rfl⟩) | (go_at_call 24; refine (hWt.out _ HB0.out).mono ?_; rintro e w3 ⟨rfl, rfl⟩) | (go_at_call 28; refine (hSt.out _ HB0.out).mono ?_; rintro e w3 ⟨rfl, rfl⟩))
  have HP0 := hid HH.out.p.drew
  clear hSz hWt hSt HB0 HR c1 c2 c3 c4
  go_wp2_with fail
  go_loopw [5] (fun q wr => ∃ j : Nat, j ≤ 12 ∧ j ≤ D.n ∧ q = .int .i64 j ∧ Hid (Pair w0 wr b r own rown D D) ∧ wr.cell? ⟨r, 0, none⟩ = some (.slice (some ⟨gl, 0, none⟩) D.n lc)) (fun q _ => 12 - (intOf q).toNat)
  case atStart => exact ⟨0, by omega, by omega, rfl, HP0, c0⟩
  case round =>
    obtain ⟨j, h12, hjn, rfl, hp, cr⟩ := hrel
    clear HP0 c0
    by_cases hlt : j < D.n ∧ j < 12
    · obtain ⟨hlt, hl2⟩ := hlt
      have hlt' : (j : Int) < D.n := by omega
      have hl2' : (j : Int) < 12 := by omega
      go_wp2_with fail
      refine (read_all hp.out.d j).mono ?_
      rintro e w1 ⟨a1, len1, cap1, rfl, hcv, hb1⟩
      have hp1 := hp.out.later hb1
      have cr1 := cell_later hb1 cr
      have HRR := hid (rread_all hp1.r j)
      have HP1 := hid hp1
      clear hp1 hb1 hp cr
      go_wp2_with (first | (go_at_call 11; refine (no_any _ _).mono ?_; rintro e w3 ⟨rfl, rfl⟩) | (go_at_call 37; refine HRR.out.mono ?_; rintro e w2 ⟨rfl, rfl⟩))
      go_roundw
      case rel => exact ⟨j + 1, by omega, by omega, by go_num, HP1, cr1⟩
      case measure => simp [intOf]; omega
    · by_cases h40 : j < D.n
      · have h40' : ¬ (j : Int) < 12 := by omega
        have h41' : (j : Int) < D.n := by omega
        clear hlt
        go_wp2_with fail
        go_ret
        exact ⟨rfl, own, rown, D, hp.out, HH.out.s, HH.out.w⟩
      · have h40' : ¬ (j : Int) < D.n := by omega
        clear hlt
        go_wp2_with fail
        go_ret
        exact ⟨rfl, own, rown, D, hp.out, HH.out.s, HH.out.w⟩
end Go.Proofs.Ytahhhpmpgkfkdaa
