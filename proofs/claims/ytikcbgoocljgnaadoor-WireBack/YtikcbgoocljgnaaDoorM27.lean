/- What this text holds: the bytes of a command: the program's walk. -/
import Derived.Test.YtikcbgoocljgnaaDoorM26
namespace Go.Proofs.YtikcbgoocljgnaaDoor
open Go.RowKit
set_option linter.unusedVariables false
set_option linter.unusedSimpArgs false

theorem Below.cell {B : Nat} {w w' : World} (h : Below B w w') {p : Addr} {v : Value} (hc : w.cell? p = some v) (hp : p.block < B) : w'.cell? p = some v :=
  (World.cell?_of_block (h.block p.block hp)).trans hc
set_option maxRecDepth 100000 in
set_option maxHeartbeats 2000000 in
theorem bytes_any {w : World} (hE : Env w) {vt vl : Value} {T L : List Bs} (hT : GL eS w vt T) (hL : GL eS w vl L) (hTl : T.length ≤ 1000) (hLl : L.length ≤ 1000) (hs : lens T ≤ 50000) (hs2 : lens L ≤ 50000) :
    Calls Tryd.prog 16 #[.agg #[vt, vl]] w (TxtIs (cmdB T L) w) := by
  obtain ⟨a0, c0, rfl, hc0, h0⟩ := hT
  obtain ⟨a1, c1, rfl, hc1, h1⟩ := hL
  have hal : Below w.heap.size w (w.alloc (.cells #[.slice a0 T.length c0, .slice a1 L.length c1] 36)) := (Below.refl _ _).alloc (Nat.le_refl _) _
  have hrow := heap_alloc_new w (.cells #[.slice a0 T.length c0, .slice a1 L.length c1] 36)
  have r0 := row_at hrow 0 (v := .slice a0 T.length c0) rfl
  have r1 := row_at hrow 1 (v := .slice a1 L.length c1) rfl
  unfold TxtIs
  by_cases hlen : T.length = L.length + 1
  · obtain ⟨tl, htl, hX, htls⟩ : ∃ tl, T[L.length]? = some tl ∧ cmdB T L = preB T L L.length ++ tl ++ [13, 10] ∧ tl.length ≤ lens T := ⟨T[L.length], List.getElem?_eq_getElem (by omega), by rw [cmdB, if_pos hlen, bytes_pre L T hlen], lens_get T L.length (by omega)⟩
    have HX := hid hX
    have HTL := hid htl
    clear hX htl
    have hq : ((T.length : Int) != (L.length : Int) + 1) = false := by simp; omega
    have hq2 : ((T.length : Int) == (L.length : Int) + 1) = true := by simp; omega
    have hq3 : ((T.length : Int) = (L.length : Int) + 1) := by omega
    have hTne : T ≠ [] := fun e => by rw [e] at hlen; simp at hlen
    obtain ⟨g, o, rfl, hga, hg⟩ := h0.resolve_left hTne
    have HG := hid hga
    have HE := hid hE
    have HL := hid hlen
    have HNew := hid (BB.new (w.alloc (.cells #[.slice (some ⟨g, o, none⟩) T.length c0, .slice a1 L.length c1] 36)))
    rw [World.size_alloc] at HNew
    have HT2 : Hid (L.length < T.length) := by rw [Hid, hlen]; omega
    have HG1 : Hid (GA eS (w.alloc (.cells #[.slice (some ⟨g, o, none⟩) T.length c0, .slice a1 L.length c1] 36)) g o T) := hga.later hal
    have HB1 := hid hal
    have HPl : Hid (∀ k, k ≤ L.length → (preB T L k).length ≤ 200000) := fun k hk => by
      have h1 := preB_len T L hs2 k (by omega) hk
      have h2 := lens_take T k
      have h3 := lens_take L k
      omega
    have HE1 : Hid (Env (w.alloc (.cells #[.slice (some ⟨g, o, none⟩) T.length c0, .slice a1 L.length c1] 36))) := hE.later hal
    have hE1p : 1 ≤ w.heap.size := hE.pos
    have p0 := preB_zero T L
    clear hga hal hrow hlen hE h0 HE hTne HG hq3
    by_cases hL0 : L = []
    · have hlt' : ¬ (0 : Int) < L.length := by rw [hL0]; simp
      have HP0 : Hid (preB T L L.length = []) := by rw [hL0]; exact preB_zero T []
      clear h1 hL0
      go_enter Tryd.func16, Tryd.ntmps16
      go_wp2_with fail
      go_loopw [19] (fun i wr => i = .int .i64 0 ∧ BB (w.heap.size + 1) (w.alloc (.cells #[.slice (some ⟨g, o, none⟩) T.length c0, .slice a1 L.length c1] 36)) wr []) (fun _ _ => 0)
      case atStart => exact ⟨rfl, HNew.out⟩
      case round =>
        obtain ⟨rfl, hbb⟩ := hrel
        rw [← HP0.out] at hbb
        have HBr := hid hbb
        clear hbb
        -- behind the loop
        have ct : wr.cell? ⟨g, o + L.length, none⟩ = some (.string (str tl)) := Below.cell HBr.out.k (HG1.out.s L.length tl HTL.out) (by show g < w.heap.size + 1; omega)
        have cr0 : wr.cell? ⟨w.heap.size, 0, none⟩ = some (.slice (some ⟨g, o, none⟩) T.length c0) := Below.cell HBr.out.k r0 (by show w.heap.size < w.heap.size + 1; omega)
        have ht : (str tl).size ≤ 50000 := by rw [str_size]; omega
        have e1 : str tl ++ ⟨#[13, 10]⟩ = str (tl ++ [13, 10]) := by rw [← app_str]; rfl
        have HWr := hid (write_any HBr.out (tl ++ [13, 10]) (by have := HPl.out L.length (Nat.le_refl _); simp; omega))
        have hlt3 : (L.length : Int) < T.length := by have := HT2.out; omega
        go_wp2_with fail
        refine HWr.out.mono ?_
        rintro e w5 ⟨rfl, hb5⟩
        have HS := hid (string_any hb5)
        clear hb5
        go_wp2_with fail
        refine HS.out.mono ?_
        rintro e w6 ⟨rfl, hb6⟩
        have HB6 := hid hb6
        clear hb6
        go_wp2_with fail
        go_ret
        rw [HX.out, List.append_assoc]
        exact ⟨rfl, HB1.out.trans (HB6.out.mono (by omega))⟩
    · obtain ⟨g1, o1, rfl, hga1, hg1⟩ := h1.resolve_left hL0
      have HA1 : Hid (GA eS (w.alloc (.cells #[.slice (some ⟨g, o, none⟩) T.length c0, .slice (some ⟨g1, o1, none⟩) L.length c1] 36)) g1 o1 L) := hga1.later HB1.out
      clear h1 hL0 hga1
      go_enter Tryd.func16, Tryd.ntmps16
      go_wp2_with fail
      go_loopw [19] (fun i wr => ∃ k : Nat, k ≤ L.length ∧ i = .int .i64 k ∧ BB (w.heap.size + 1) (w.alloc (.cells #[.slice (some ⟨g, o, none⟩) T.length c0, .slice (some ⟨g1, o1, none⟩) L.length c1] 36)) wr (preB T L k)) (fun i _ => L.length - (intOf i).toNat)
      case atStart => exact ⟨0, by omega, rfl, by rw [p0]; exact HNew.out⟩
      case round =>
        obtain ⟨k, hk, rfl, hbb⟩ := hrel
        have HBr := hid hbb
        clear hbb
        by_cases hlt : k < L.length
        · have hlt' : (k : Int) < L.length := by omega
          have hkT : k < T.length := Nat.lt_trans hlt HT2.out
          have hkT' : (k : Int) < T.length := by omega
          have cl : wr.cell? ⟨g1, o1 + k, none⟩ = some (.string (str L[k])) := Below.cell HBr.out.k (HA1.out.s k L[k] (List.getElem?_eq_getElem hlt)) (by show g1 < w.heap.size + 1; omega)
          have ct0 := HG1.out.s k T[k] (List.getElem?_eq_getElem hkT)
          have ct : wr.cell? ⟨g, o + k, none⟩ = some (.string (str T[k])) := Below.cell HBr.out.k ct0 (by show g < w.heap.size + 1; omega)
          have cr0 : wr.cell? ⟨w.heap.size, 0, none⟩ = some (.slice (some ⟨g, o, none⟩) T.length c0) := Below.cell HBr.out.k r0 (by show w.heap.size < w.heap.size + 1; omega)
          have hLk := lens_get L k hlt
          have hTk := lens_get T k hkT
          have HPs : Hid (preB T L (k + 1) = preB T L k ++ pieceB (T[k], L[k])) := preB_succ T L k hkT hlt
          have HPl2 := hid (HPl.out k hk)
          have HM : Hid (∀ W, Below wr.heap.size wr W → Calls Tryd.prog 24 #[.string (str L[k])] W (TxtIs (markB (decB L[k].length)) W)) := fun W hW => markOf_any ((HE1.out.keep HBr.out.k (by omega)).later hW) L[k] (by omega)
          have hml : (str (markB (decB L[k].length))).size ≤ 1000 := by
            rw [str_size]
            have := (digs_ok L[k].length (by omega)).2.2.1
            simp [markB, decB]
            omega
          have hts : (str T[k]).size ≤ 50000 := by rw [str_size]; omega
          have hxs : (str L[k]).size ≤ 50000 := by rw [str_size]; omega
          have e1 : str T[k] ++ str (markB (decB L[k].length)) ++ ⟨#[13, 10]⟩ ++ str L[k] = str (pieceB (T[k], L[k])) := by
            have e : (⟨#[13, 10]⟩ : ByteArray) = str [13, 10] := rfl
            rw [e, app_str, app_str, app_str]
            rfl
          have hpl := piece_len (T[k], L[k]) (by simp only; omega)
          generalize pieceB (T[k], L[k]) = pc at *
          generalize markB (decB L[k].length) = mk at *
          generalize T[k] = t at *
          generalize L[k] = x at *
          have HW : Hid (∀ W, Below wr.heap.size wr W → Calls Tryd.prog 23 #[.pointer (some ⟨w.heap.size + 1, 0, none⟩), .string (str pc)] W fun e w' => e = .returned (.tuple #[.int .i64 (str pc).size, .nilIface]) ∧ BB (w.heap.size + 1) (w.alloc (.cells #[.slice (some ⟨g, o, none⟩) T.length c0, .slice (some ⟨g1, o1, none⟩) L.length c1] 36)) w' (preB T L k ++ pc)) := fun W hW => write_any (HBr.out.later hW) pc (by have := HPl2.out; simp only at hpl; omega)
          unfold TxtIs at HM
          have HDr : Hid (Below wr.heap.size wr wr.drew) := drewN_below wr 1 _
          have hz0 : w.heap.size < wr.heap.size := HBr.out.h
          have hzg : g < wr.heap.size := by omega
          have HCt := hid ct0
          have s1 : ¬ 9223372036854775807 < (str t).size + (str mk).size := by omega
          have s2 : ¬ 9223372036854775807 < (str t).size + (str mk).size + 2 := by omega
          have s3 : ¬ 9223372036854775807 < (str t).size + (str mk).size + 2 + (str x).size := by omega
          have s4 : ¬ 9223372036854775807 < (str t ++ str mk).size + 2 := by rw [ByteArray.size_append]; omega
          have s5 : ¬ 9223372036854775807 < (str t ++ str mk ++ ⟨#[13, 10]⟩).size + (str x).size := by rw [ByteArray.size_append, ByteArray.size_append]; have : (⟨#[13, 10]⟩ : ByteArray).size = 2 := rfl; omega
          clear ct0
          go_wp2_with fail
          go_region_held3 (fun w' => w'.cell? ⟨w.heap.size, 0, none⟩ = some (.slice (some ⟨g, o, none⟩) T.length c0) ∧ w'.cell? ⟨g, o + k, none⟩ = some (.string (str t))) (first | exact ⟨cr0, ct⟩ | exact ⟨cr5, ct5⟩ | exact ⟨cr6, ct6⟩ | go_keep) ((first | (go_at_call 24; refine (HM.out _ (by repeat (first | exact Below.refl _ _ | refine Below.drew ?_))).mono ?_; rintro e w5 ⟨rfl, hb5⟩; have hb5' := HDr.out.trans hb5; have cr5 := Below.cell hb5' cr0 (by exact hz0); have ct5 := Below.cell hb5' ct (by exact hzg)) | (go_at_call 23; refine (HW.out _ hb5').mono ?_; rintro e w6 ⟨rfl, hb6⟩; have cr6 := Below.cell hb6.k r0 (by show w.heap.size < w.heap.size + 1; omega); have ct6 := Below.cell hb6.k HCt.out (by show g < w.heap.size + 1; omega))))
          all_goals
            go_wp2_with fail
            go_roundw
            case rel => exact ⟨k + 1, by omega, by go_num, by rw [HPs.out]; exact hb6⟩
            case measure => simp [intOf]; omega
        · have hlt' : ¬ (k : Int) < L.length := by omega
          have hkL : k = L.length := by omega
          subst hkL
          -- behind the loop
          have ct : wr.cell? ⟨g, o + L.length, none⟩ = some (.string (str tl)) := Below.cell HBr.out.k (HG1.out.s L.length tl HTL.out) (by show g < w.heap.size + 1; omega)
          have cr0 : wr.cell? ⟨w.heap.size, 0, none⟩ = some (.slice (some ⟨g, o, none⟩) T.length c0) := Below.cell HBr.out.k r0 (by show w.heap.size < w.heap.size + 1; omega)
          have ht : (str tl).size ≤ 50000 := by rw [str_size]; omega
          have e1 : str tl ++ ⟨#[13, 10]⟩ = str (tl ++ [13, 10]) := by rw [← app_str]; rfl
          have HWr := hid (write_any HBr.out (tl ++ [13, 10]) (by have := HPl.out L.length (Nat.le_refl _); simp; omega))
          have hlt3 : (L.length : Int) < T.length := by have := HT2.out; omega
          go_wp2_with fail
          refine HWr.out.mono ?_
          rintro e w5 ⟨rfl, hb5⟩
          have HS := hid (string_any hb5)
          clear hb5
          go_wp2_with fail
          refine HS.out.mono ?_
          rintro e w6 ⟨rfl, hb6⟩
          have HB6 := hid hb6
          clear hb6
          go_wp2_with fail
          go_ret
          rw [HX.out, List.append_assoc]
          exact ⟨rfl, HB1.out.trans (HB6.out.mono (by omega))⟩

  · have HX : Hid (cmdB T L = []) := by rw [Hid, cmdB, if_neg hlen]
    have hq : ((T.length : Int) != (L.length : Int) + 1) = true := by simp; omega
    have hq2 : ((T.length : Int) == (L.length : Int) + 1) = false := by simp; omega
    have HB := hid hal
    clear h0 h1 hlen hal hrow
    generalize T.length = n at *
    generalize L.length = m at *
    rw [HX.out]
    go_enter Tryd.func16, Tryd.ntmps16
    go_wp2_with fail
    go_ret
    exact ⟨rfl, HB.out⟩
end Go.Proofs.YtikcbgoocljgnaaDoor
