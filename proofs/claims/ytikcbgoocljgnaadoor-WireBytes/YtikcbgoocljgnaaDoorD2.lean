/- What this text holds: the bytes of a command: the document's walk. -/
import Derived.Test.YtikcbgoocljgnaaDoorD1
namespace Go.Proofs.YtikcbgoocljgnaaDoor
open Go.RowKit
set_option linter.unusedVariables false
set_option linter.unusedSimpArgs false

set_option maxRecDepth 100000 in
set_option maxHeartbeats 4000000 in
theorem rbytes_any {w : World} {vt vl : Value} {T L : List Bs} (hT : GL eS w vt T) (hL : GL eS w vl L) (hTl : T.length ≤ 1000) (hLl : L.length ≤ 1000) (hs : lens T ≤ 50000) (hs2 : lens L ≤ 50000) :
    Calls Tryd.prog 17 #[.agg #[vt, vl]] w (TxtIs (cmdB T L) w) := by
  obtain ⟨a0, c0, rfl, hc0, h0⟩ := hT
  obtain ⟨a1, c1, rfl, hc1, h1⟩ := hL
  have hal : Below w.heap.size w (w.alloc (.cells #[.slice a0 T.length c0, .slice a1 L.length c1] 36)) := (Below.refl _ _).alloc (Nat.le_refl _) _
  have hrow := heap_alloc_new w (.cells #[.slice a0 T.length c0, .slice a1 L.length c1] 36)
  have r0 := row_at hrow 0 (v := .slice a0 T.length c0) rfl
  have r1 := row_at hrow 1 (v := .slice a1 L.length c1) rfl
  unfold TxtIs
  by_cases hlen : T.length = L.length + 1
  · obtain ⟨tl, htl, hX, htls⟩ : ∃ tl, T[L.length]? = some tl ∧ cmdB T L = preB T L L.length ++ tl ++ [13, 10] ∧ tl.length ≤ lens T := ⟨T[L.length], List.getElem?_eq_getElem (by omega), by rw [cmdB, if_pos hlen, bytes_pre L T hlen], lens_get T L.length (by omega)⟩
    have HX := hid hX
    have HTL := hid htl
    clear hX htl
    have hq : ((T.length : Int) != (L.length : Int) + 1) = false := by simp; omega
    have hq2 : ((T.length : Int) == (L.length : Int) + 1) = true := by simp; omega
    have hTne : T ≠ [] := fun e => by rw [e] at hlen; simp at hlen
    obtain ⟨g, o, rfl, hga, hg⟩ := h0.resolve_left hTne
    have HT2 : Hid (L.length < T.length) := by rw [Hid, hlen]; omega
    have HG1 : Hid (GA eS (w.alloc (.cells #[.slice (some ⟨g, o, none⟩) T.length c0, .slice a1 L.length c1] 36)) g o T) := hga.later hal
    have HB1 := hid hal
    have HPl : Hid (∀ k, k ≤ L.length → (preB T L k).length ≤ 200000) := fun k hk => by
      have h1 := preB_len T L hs2 k (by omega) hk
      have h2 := lens_take T k
      have h3 := lens_take L k
      omega
    have p0 := preB_zero T L
    clear hga hal hrow hlen h0 hTne
    by_cases hL0 : L = []
    · have hlt' : ¬ (0 : Int) < L.length := by rw [hL0]; simp
      have HP0 : Hid (preB T L L.length = []) := by rw [hL0]; exact preB_zero T []
      clear h1 hL0
      go_enter Tryd.func17, Tryd.ntmps17
      go_wp2_with fail
      go_loopw [3, 4] (fun sv i wr => sv = .string (str (preB T L L.length)) ∧ i = .int .i64 0 ∧ Below (w.heap.size + 1) (w.alloc (.cells #[.slice (some ⟨g, o, none⟩) T.length c0, .slice a1 L.length c1] 36)) wr) (fun _ _ _ => 0)
      case atStart => exact ⟨by rw [HP0.out]; rfl, rfl, Below.refl _ _⟩
      case round =>
        obtain ⟨rfl, rfl, hbb⟩ := hrel
        have HBr := hid hbb
        clear hbb
        have ct : wr.cell? ⟨g, o + L.length, none⟩ = some (.string (str tl)) := Below.cell HBr.out (HG1.out.s L.length tl HTL.out) (by show g < w.heap.size + 1; omega)
        have cr0 : wr.cell? ⟨w.heap.size, 0, none⟩ = some (.slice (some ⟨g, o, none⟩) T.length c0) := Below.cell HBr.out r0 (by show w.heap.size < w.heap.size + 1; omega)
        have cr1 : wr.cell? ⟨w.heap.size, 1, none⟩ = some (.slice a1 L.length c1) := Below.cell HBr.out r1 (by show w.heap.size < w.heap.size + 1; omega)
        have ht : (str tl).size ≤ 50000 := by rw [str_size]; omega
        have hp9 : (str (preB T L L.length)).size ≤ 200000 := by rw [str_size]; exact HPl.out _ (Nat.le_refl _)
        have hlt3 : (L.length : Int) < T.length := by have := HT2.out; omega
        have HF : Hid (str (preB T L L.length) ++ str tl ++ ⟨#[13, 10]⟩ = str (cmdB T L)) := by
          have e : (⟨#[13, 10]⟩ : ByteArray) = str [13, 10] := rfl
          rw [Hid, HX.out, e, app_str, app_str]
        generalize preB T L L.length = pre at *
        go_wp2_with fail
        go_ret
        rw [← HF.out]
        exact ⟨rfl, HB1.out.trans (HBr.out.mono (by omega))⟩
    · obtain ⟨g1, o1, rfl, hga1, hg1⟩ := h1.resolve_left hL0
      have HA1 : Hid (GA eS (w.alloc (.cells #[.slice (some ⟨g, o, none⟩) T.length c0, .slice (some ⟨g1, o1, none⟩) L.length c1] 36)) g1 o1 L) := hga1.later HB1.out
      clear h1 hL0 hga1
      go_enter Tryd.func17, Tryd.ntmps17
      go_wp2_with fail
      go_loopw [3, 4] (fun sv i wr => ∃ k : Nat, k ≤ L.length ∧ sv = .string (str (preB T L k)) ∧ i = .int .i64 k ∧ Below (w.heap.size + 1) (w.alloc (.cells #[.slice (some ⟨g, o, none⟩) T.length c0, .slice (some ⟨g1, o1, none⟩) L.length c1] 36)) wr ∧ w.heap.size + 1 ≤ wr.heap.size) (fun _ i _ => L.length - (intOf i).toNat)
      case atStart => exact ⟨0, by omega, by rw [p0]; rfl, rfl, Below.refl _ _, by simp⟩
      case round =>
        obtain ⟨k, hk, rfl, rfl, hbb, hwz⟩ := hrel
        have HBr := hid hbb
        clear hbb
        by_cases hlt : k < L.length
        · have hlt' : (k : Int) < L.length := by omega
          have hkT : k < T.length := Nat.lt_trans hlt HT2.out
          have hkT' : (k : Int) < T.length := by omega
          have cl : wr.cell? ⟨g1, o1 + k, none⟩ = some (.string (str L[k])) := Below.cell HBr.out (HA1.out.s k L[k] (List.getElem?_eq_getElem hlt)) (by show g1 < w.heap.size + 1; omega)
          have ct : wr.cell? ⟨g, o + k, none⟩ = some (.string (str T[k])) := Below.cell HBr.out (HG1.out.s k T[k] (List.getElem?_eq_getElem hkT)) (by show g < w.heap.size + 1; omega)
          have cr0 : wr.cell? ⟨w.heap.size, 0, none⟩ = some (.slice (some ⟨g, o, none⟩) T.length c0) := Below.cell HBr.out r0 (by show w.heap.size < w.heap.size + 1; omega)
          have cr1 : wr.cell? ⟨w.heap.size, 1, none⟩ = some (.slice (some ⟨g1, o1, none⟩) L.length c1) := Below.cell HBr.out r1 (by show w.heap.size < w.heap.size + 1; omega)
          have hLk := lens_get L k hlt
          have hTk := lens_get T k hkT
          have hp9 : (str (preB T L k)).size ≤ 200000 := by rw [str_size]; exact HPl.out k hk
          have HPs : Hid (str (preB T L k) ++ str T[k] ++ ⟨#[123]⟩ ++ str (decB L[k].length) ++ ⟨#[43, 125, 13, 10]⟩ ++ str L[k] = str (preB T L (k + 1))) := by
            have e1 : (⟨#[123]⟩ : ByteArray) = str [123] := rfl
            have e2 : (⟨#[43, 125, 13, 10]⟩ : ByteArray) = str [43, 125, 13, 10] := rfl
            rw [Hid, preB_succ T L k hkT hlt, e1, e2, app_str, app_str, app_str, app_str, app_str]
            simp [pieceB, markB]
          have hxz := str_size L[k]
          have HM : Hid (∀ W, Calls Tryd.prog 26 #[.int .i64 (L[k].length : Int)] W (TxtIs (decB L[k].length) W)) := fun W => rdigits_any L[k].length (by omega) W
          have hml : (str (decB L[k].length)).size ≤ 1000 := by
            rw [str_size]
            have := (digs_ok L[k].length (by omega)).2.2.1
            unfold decB
            omega
          have hts : (str T[k]).size ≤ 50000 := by rw [str_size]; omega
          have hxs : (str L[k]).size ≤ 50000 := by rw [str_size]; omega
          generalize decB L[k].length = mk at *
          generalize T[k] = t at *
          generalize L[k] = x at *
          generalize preB T L k = pre at *
          unfold TxtIs at HM
          have HDr : Hid (Below wr.heap.size wr wr.drew) := drewN_below wr 1 _
          have hz0 : w.heap.size < wr.heap.size := hwz
          have hzg : g < wr.heap.size := by omega
          have hzg1 : g1 < wr.heap.size := by omega
          have i1 : (⟨#[123]⟩ : ByteArray).size = 1 := rfl
          have i2 : (⟨#[43, 125, 13, 10]⟩ : ByteArray).size = 4 := rfl
          have s1 : ¬ 9223372036854775807 < (str pre).size + (str t).size := by omega
          have s2 : ¬ 9223372036854775807 < (str pre ++ str t).size + 1 := by rw [ByteArray.size_append]; omega
          have s2' : ¬ 9223372036854775807 < (str pre).size + (str t).size + 1 := by omega
          have s3 : ¬ 9223372036854775807 < (str pre ++ str t ++ ⟨#[123]⟩).size + (str mk).size := by rw [ByteArray.size_append, ByteArray.size_append]; omega
          have s3' : ¬ 9223372036854775807 < (str pre).size + (str t).size + 1 + (str mk).size := by omega
          have s4 : ¬ 9223372036854775807 < (str pre ++ str t ++ ⟨#[123]⟩ ++ str mk).size + 4 := by rw [ByteArray.size_append, ByteArray.size_append, ByteArray.size_append]; omega
          have s4' : ¬ 9223372036854775807 < (str pre).size + (str t).size + 1 + (str mk).size + 4 := by omega
          have s5 : ¬ 9223372036854775807 < (str pre ++ str t ++ ⟨#[123]⟩ ++ str mk ++ ⟨#[43, 125, 13, 10]⟩).size + (str x).size := by rw [ByteArray.size_append, ByteArray.size_append, ByteArray.size_append, ByteArray.size_append]; omega
          have s5' : ¬ 9223372036854775807 < (str pre).size + (str t).size + 1 + (str mk).size + 4 + (str x).size := by omega
          have s6 : ¬ 9223372036854775807 < (str pre ++ str t ++ ⟨#[123]⟩ ++ str mk ++ ⟨#[43, 125, 13, 10]⟩).size + x.length := by rw [← hxz]; exact s5
          have s6' : ¬ 9223372036854775807 < (str pre).size + (str t).size + 1 + (str mk).size + 4 + x.length := by rw [← hxz]; exact s5'
          go_wp2_with fail
          go_region_held3 (fun w' => w'.cell? ⟨w.heap.size, 0, none⟩ = some (.slice (some ⟨g, o, none⟩) T.length c0) ∧ w'.cell? ⟨w.heap.size, 1, none⟩ = some (.slice (some ⟨g1, o1, none⟩) L.length c1) ∧ w'.cell? ⟨g, o + k, none⟩ = some (.string (str t)) ∧ w'.cell? ⟨g1, o1 + k, none⟩ = some (.string (str x))) (first | exact ⟨cr0, cr1, ct, cl⟩ | exact ⟨cr5, cr6, ct5, cl5⟩ | go_keep) ((go_at_call 26; refine (HM.out _).mono ?_; rintro e w5 ⟨rfl, hb5⟩; have hb5' := HDr.out.trans hb5; have cr5 := Below.cell hb5' cr0 (by exact hz0); have cr6 := Below.cell hb5' cr1 (by exact hz0); have ct5 := Below.cell hb5' ct (by exact hzg); have cl5 := Below.cell hb5' cl (by exact hzg1)))
          all_goals
            go_wp2_with fail
            go_roundw
            case rel => exact ⟨k + 1, by omega, by rw [← HPs.out], by go_num, HBr.out.trans (hb5'.mono (by omega)), by have := hb5'.size; omega⟩
            case measure => simp [intOf]; omega
        · have hlt' : ¬ (k : Int) < L.length := by omega
          have hkL : k = L.length := by omega
          subst hkL
          have ct : wr.cell? ⟨g, o + L.length, none⟩ = some (.string (str tl)) := Below.cell HBr.out (HG1.out.s L.length tl HTL.out) (by show g < w.heap.size + 1; omega)
          have cr0 : wr.cell? ⟨w.heap.size, 0, none⟩ = some (.slice (some ⟨g, o, none⟩) T.length c0) := Below.cell HBr.out r0 (by show w.heap.size < w.heap.size + 1; omega)
          have cr1 : wr.cell? ⟨w.heap.size, 1, none⟩ = some (.slice (some ⟨g1, o1, none⟩) L.length c1) := Below.cell HBr.out r1 (by show w.heap.size < w.heap.size + 1; omega)
          have ht : (str tl).size ≤ 50000 := by rw [str_size]; omega
          have hp9 : (str (preB T L L.length)).size ≤ 200000 := by rw [str_size]; exact HPl.out _ (Nat.le_refl _)
          have hlt3 : (L.length : Int) < T.length := by have := HT2.out; omega
          have HF : Hid (str (preB T L L.length) ++ str tl ++ ⟨#[13, 10]⟩ = str (cmdB T L)) := by
            have e : (⟨#[13, 10]⟩ : ByteArray) = str [13, 10] := rfl
            rw [Hid, HX.out, e, app_str, app_str]
          generalize preB T L L.length = pre at *
          go_wp2_with fail
          go_ret
          rw [← HF.out]
          exact ⟨rfl, HB1.out.trans (HBr.out.mono (by omega))⟩
  · have HX : Hid (cmdB T L = []) := by rw [Hid, cmdB, if_neg hlen]
    have hq : ((T.length : Int) != (L.length : Int) + 1) = true := by simp; omega
    have hq2 : ((T.length : Int) == (L.length : Int) + 1) = false := by simp; omega
    have HB := hid hal
    clear h0 h1 hlen hal hrow
    generalize T.length = n at *
    generalize L.length = m at *
    rw [HX.out]
    go_enter Tryd.func17, Tryd.ntmps17
    go_wp2_with fail
    go_ret
    exact ⟨rfl, HB.out⟩
end Go.Proofs.YtikcbgoocljgnaaDoor
