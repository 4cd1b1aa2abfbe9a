/- What this text holds: words are read. -/
import Derived.Test.YtpjcpdnolcehcaaGreatDoorM10
namespace Go.Proofs.YtpjcpdnolcehcaaGreatDoor
open Go.RowKit
set_option linter.unusedVariables false
set_option linter.unusedSimpArgs false

theorem Kept.below1 {b : Nat} {w w1 w2 : World} (h : Kept [b] w w1) (k : Below w1.heap.size w1 w2) : Kept [b] w w2 := h.trans1 (Kept.ofBelow k [b])
set_option maxRecDepth 100000 in
set_option maxHeartbeats 4000000 in
theorem word_any {d : Nat} (hK : KidOk d) (w : World) (b o : Nat) (s : Bs) (hE : Env w) (hb : 11 ≤ b) (h : RAt w b s o) (ho : o + d = 30) (hl : s.length ≤ 100000000) :
    Calls Tryz.prog 121 #[.pointer (some ⟨b, 0, none⟩)] w (RdV b o w (wordP (kidP d) s)) := by
  have hf0 := fld0 b
  have HO := hid ho
  have HB := hid h.lt
  have HZ := hid (below_zero w)
  have HV := hid (V5.zero w)
  have HE := hid (hE.later HZ.out)
  have HS : Hid ((w.alloc zO).heap.size = w.heap.size + 1) := by simp [Hid]
  have C := run_letter (h.later HZ.out) (by omega : s.length ≤ 1000000000)
  have HD := hid (drop_le letB s)
  have HT := hid (take_le letB s)
  have HX : Hid (wordP (kidP d) s = match needP [91] (s.dropWhile letB) with
    | some r => sectP (s.takeWhile letB) (kidP d 93 r)
    | none => if (s.takeWhile letB).all dgB then (numP (s.takeWhile letB)).map fun n => (.mk 1 [] n [] [], s.dropWhile letB)
      else if s.takeWhile letB = nilT then some (.mk 0 [] 0 [] [], s.dropWhile letB) else some (.mk 2 (s.takeWhile letB) 0 [] [], s.dropWhile letB)) := rfl
  clear h ho hE
  generalize wordP (kidP d) s = X at *
  generalize s.takeWhile letB = t at *
  generalize s.dropWhile letB = r at *
  go_enter Tryz.func121, Tryz.ntmps121
  go_wp2_with fail
  refine C.mono ?_
  rintro e w1 ⟨rfl, k1, k2⟩
  have ht : t.length ≤ 1000000000 := by have := HT.out; omega
  rcases h91 : needP [91] r with _ | r1
  · have D := takes_no k1 [91] h91
    have HX2 : Hid (X = if t.all dgB then (numP t).map fun n => (.mk 1 [] n [] [], r)
      else if t = nilT then some (.mk 0 [] 0 [] [], r) else some (.mk 2 t 0 [] [], r)) := by rw [Hid, HX.out, h91]
    have K2 := hid k2
    have hts := str_size t
    clear k1 k2 C h91 HX
    go_wp2_with fail
    refine D.mono ?_
    rintro e w2 ⟨rfl, k1, k3⟩
    have R2 := hid k1
    have K3 := hid (K2.out.trans1 k3)
    have F := only_digit t ht w2
    clear k1 k3 D K2
    rcases hdg : t.all dgB with _ | _
    · rw [hdg] at F
      by_cases hnil : t = nilT
      · have hX : Hid (X = some (.mk 0 [] 0 [] [], r)) := by rw [Hid, HX2.out, hdg, if_neg (by simp), if_pos hnil]
        have g1 : (str t).toList = ([78, 73, 76] : Bs) := by rw [toL]; exact hnil
        clear HX2 hnil hdg
        go_wp2_with fail
        refine F.mono ?_
        rintro e w3 ⟨rfl, k4⟩
        have K4 := hid (K3.out.below1 k4)
        have R4 := hid (R2.out.later k4)
        clear k4 F K3 R2
        go_wp2_with fail
        refine (nilv_any _).mono ?_
        rintro e w6 ⟨rfl, k5⟩
        have K5 := hid (K4.out.below1 k5)
        have R5 := hid (R4.out.later k5)
        have A4 := HV.out.kept K5.out (by simp; have := HB.out; omega)
        clear k5
        go_wp2_with (refine wpList_store43 (r := ⟨0, [], 0, (none, 0, 0), (none, 0, 0)⟩) rfl rfl A4 ?_)
        have p1 := row5_is A4 ⟨0, [], 0, (none, 0, 0), (none, 0, 0)⟩
        refine bodyPost_ret (w := row5 w6 w.heap.size ⟨0, [], 0, (none, 0, 0), (none, 0, 0)⟩) (resV rfl rfl p1) rfl ?_
        rw [hX.out]
        exact fin_row ((Kept.ofBelow HZ.out [b]).trans1 K5.out) (VAt.plain _ _ _ _ _) R5.out rfl HB.out
      · have hX : Hid (X = some (.mk 2 t 0 [] [], r)) := by rw [Hid, HX2.out, hdg, if_neg (by simp), if_neg hnil]
        have g1 : ((str t).toList == ([78, 73, 76] : Bs)) = false := by rw [toL, beq_eq_false_iff_ne]; exact hnil
        clear HX2 hnil hdg
        go_wp2_with fail
        refine F.mono ?_
        rintro e w3 ⟨rfl, k4⟩
        have K4 := hid (K3.out.below1 k4)
        have R4 := hid (R2.out.later k4)
        clear k4 F K3 R2
        go_wp2_with fail
        refine (atomv_any t _).mono ?_
        rintro e w6 ⟨rfl, k5⟩
        have K5 := hid (K4.out.below1 k5)
        have R5 := hid (R4.out.later k5)
        have A4 := HV.out.kept K5.out (by simp; have := HB.out; omega)
        clear k5
        go_wp2_with (refine wpList_store43 (r := ⟨2, t, 0, (none, 0, 0), (none, 0, 0)⟩) rfl rfl A4 ?_)
        have p1 := row5_is A4 ⟨2, t, 0, (none, 0, 0), (none, 0, 0)⟩
        refine bodyPost_ret (w := row5 w6 w.heap.size ⟨2, t, 0, (none, 0, 0), (none, 0, 0)⟩) (resV rfl rfl p1) rfl ?_
        rw [hX.out]
        exact fin_row ((Kept.ofBelow HZ.out [b]).trans1 K5.out) (VAt.plain _ _ _ _ _) R5.out rfl HB.out
    · rw [hdg] at F
      rcases hn : numP t with _ | n
      · have hX : Hid (X = none) := by rw [Hid, HX2.out, hdg, if_pos rfl, hn]; rfl
        clear HX2 hdg
        go_wp2_with fail
        refine F.mono ?_
        rintro e w3 ⟨rfl, k4⟩
        have K4 := hid (K3.out.below1 k4)
        have E4 := HE.out.kept K4.out (by simpa using hb)
        have G := asnum_no E4 ht hn
        clear k4 F R2 hn E4
        go_wp2_with fail
        refine G.mono ?_
        rintro e w4 ⟨rfl, k5⟩
        rw [hX.out]
        exact ⟨rfl, rfl, (Kept.ofBelow HZ.out [b]).trans1 (K4.out.below1 k5)⟩
      · have hX : Hid (X = some (.mk 1 [] n [] [], r)) := by rw [Hid, HX2.out, hdg, if_pos rfl, hn]; rfl
        clear HX2 hdg
        go_wp2_with fail
        refine F.mono ?_
        rintro e w3 ⟨rfl, k4⟩
        have K5 := hid (K3.out.below1 k4)
        have R5 := hid (R2.out.later k4)
        have G := asnum_yes (w := w3) ht hn
        clear k4 F R2 hn K3
        go_wp2_with fail
        refine G.mono ?_
        rintro e w4 ⟨rfl, k4⟩
        have K4 := hid (K5.out.below1 k4)
        have R4 := hid (R5.out.later k4)
        clear k4 G K5 R5
        go_wp2_with fail
        refine (numv_any n _).mono ?_
        rintro e w6 ⟨rfl, k5⟩
        have K5 := hid (K4.out.below1 k5)
        have R5 := hid (R4.out.later k5)
        have A4 := HV.out.kept K5.out (by simp; have := HB.out; omega)
        clear k5
        go_wp2_with (refine wpList_store43 (r := ⟨1, [], n, (none, 0, 0), (none, 0, 0)⟩) rfl rfl A4 ?_)
        have p1 := row5_is A4 ⟨1, [], n, (none, 0, 0), (none, 0, 0)⟩
        refine bodyPost_ret (w := row5 w6 w.heap.size ⟨1, [], n, (none, 0, 0), (none, 0, 0)⟩) (resV rfl rfl p1) rfl ?_
        rw [hX.out]
        exact fin_row ((Kept.ofBelow HZ.out [b]).trans1 K5.out) (VAt.plain _ _ _ _ _) R5.out rfl HB.out
  · have D := takes_yes k1 [91] h91
    have HX2 : Hid (X = sectP t (kidP d 93 r1)) := by rw [Hid, HX.out, h91]
    have K2 := hid k2
    have hr1 : r1.length ≤ 100000000 := by have := needP_le h91; have := HD.out; omega
    clear k1 k2 C h91 HX
    go_wp2_with fail
    refine D.mono ?_
    rintro e w2 ⟨rfl, k1, k3⟩
    have K4 := hid (K2.out.trans1 k3)
    have G := section_any hK w2 b o r1 t (HE.out.kept K4.out (by simpa using hb)) hb k1 HO.out hr1
    rw [← HX2.out] at G
    clear k1 k3 D K2 HX2
    rcases X with _ | ⟨v, r2⟩
    · go_wp2_with fail
      refine G.mono ?_
      rintro e w4 ⟨rfl, k5⟩
      exact ⟨rfl, rfl, (Kept.ofBelow HZ.out [b]).trans1 (K4.out.trans1 k5)⟩
    · go_wp2_with fail
      refine G.mono ?_
      rintro e w4 ⟨row, rfl, k5, k6, k7⟩
      have R5 := hid k6
      have KV := hid (k5.mono (N' := (w.heap.size + 1 ≤ ·)) (fun q _ hq => by have := K4.out.size; have := HS.out; omega))
      have K5 := hid (K4.out.trans1 k7)
      have A4 := HV.out.kept K5.out (by simp; have := HB.out; omega)
      clear k5 k6 k7 G
      go_wp2_with (refine wpList_store43 (r := row) rfl rfl A4 ?_)
      have p1 := row5_is A4 row
      refine bodyPost_ret (w := row5 w4 w.heap.size row) (resV rfl rfl p1) rfl ?_
      exact fin_row ((Kept.ofBelow HZ.out [b]).trans1 K5.out) KV.out R5.out rfl HB.out
end Go.Proofs.YtpjcpdnolcehcaaGreatDoor
