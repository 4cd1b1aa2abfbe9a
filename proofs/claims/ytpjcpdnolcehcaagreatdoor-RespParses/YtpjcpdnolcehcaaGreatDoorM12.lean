/- What this text holds: values are read. -/
import Derived.Test.YtpjcpdnolcehcaaGreatDoorM11
namespace Go.Proofs.YtpjcpdnolcehcaaGreatDoor
open Go.RowKit
set_option linter.unusedVariables false
set_option linter.unusedSimpArgs false

set_option maxRecDepth 100000 in
set_option maxHeartbeats 4000000 in
theorem value_any {d : Nat} (hK : KidOk d) : ValOk d := by
  intro w b o s hE hb h ho hl
  have hf0 := fld0 b
  have HO := hid ho
  have HB := hid h.lt
  have HZ := hid (below_zero w)
  have HV := hid (V5.zero w)
  have HE := hid (hE.later HZ.out)
  have HS : Hid ((w.alloc zO).heap.size = w.heap.size + 1) := by simp [Hid]
  have HR := hid (h.later HZ.out)
  have HX : Hid (valueP d s = bodyP (kidP d) s) := valueP_is d s
  generalize valueP d s = X at *
  clear h ho hE
  rcases h34 : needP [34] s with _ | r
  · have C := takes_no HR.out [34] h34
    rcases h123 : needP [123] s with _ | r
    · rcases h40 : needP [40] s with _ | r
      · have hX : Hid (X = wordP (kidP d) s) := by rw [Hid, HX.out]; unfold bodyP; rw [h34, h123, h40]
        clear h34 HX
        go_enter Tryz.func112, Tryz.ntmps112
        go_wp2_with fail
        refine C.mono ?_
        rintro e w1 ⟨rfl, k1, k2⟩
        have D := takes_no k1 [123] h123
        have K2 := hid k2
        clear k1 k2 C h123
        go_wp2_with fail
        refine D.mono ?_
        rintro e w2 ⟨rfl, k1, k2⟩
        have D := takes_no k1 [40] h40
        have K3 := hid (K2.out.trans1 k2)
        clear k1 k2 h40 K2
        go_wp2_with fail
        refine D.mono ?_
        rintro e w3 ⟨rfl, k1, k2⟩
        have K4 := hid (K3.out.trans1 k2)
        have G := word_any hK w3 b o s (HE.out.kept K4.out (by simpa using hb)) hb k1 HO.out hl
        rw [← hX.out] at G
        clear k1 k2 D K3 hX
        rcases X with _ | ⟨v, r2⟩
        · go_wp2_with fail
          refine G.mono ?_
          rintro e w4 ⟨rfl, k5⟩
          exact ⟨rfl, rfl, (Kept.ofBelow HZ.out [b]).trans1 (K4.out.trans1 k5)⟩
        · go_wp2_with fail
          refine G.mono ?_
          rintro e w4 ⟨row, rfl, k5, k6, k7⟩
          have R5 := hid k6
          have KV := hid (k5.mono (N' := (w.heap.size + 1 ≤ ·)) (fun q _ hq => by have := K4.out.size; have := HS.out; omega))
          have K5 := hid (K4.out.trans1 k7)
          have A4 := HV.out.kept K5.out (by simp; have := HB.out; omega)
          clear k5 k6 k7 G
          go_wp2_with (refine wpList_store43 (r := row) rfl rfl A4 ?_)
          have p1 := row5_is A4 row
          refine bodyPost_ret (w := row5 w4 w.heap.size row) (resV rfl rfl p1) rfl ?_
          exact fin_row ((Kept.ofBelow HZ.out [b]).trans1 K5.out) KV.out R5.out rfl HB.out
      · have hX : Hid (X = (kidP d 41 r).map fun p => (.mk 4 [] 0 p.1 [], p.2)) := by rw [Hid, HX.out]; unfold bodyP; rw [h34, h123, h40]
        have hrl : r.length ≤ 100000000 := by have := needP_le h40; omega
        clear h34 HX
        go_enter Tryz.func112, Tryz.ntmps112
        go_wp2_with fail
        refine C.mono ?_
        rintro e w1 ⟨rfl, k1, k2⟩
        have D := takes_no k1 [123] h123
        have K2 := hid k2
        clear k1 k2 C h123
        go_wp2_with fail
        refine D.mono ?_
        rintro e w2 ⟨rfl, k1, k2⟩
        have D := takes_yes k1 [40] h40
        have K3 := hid (K2.out.trans1 k2)
        clear k1 k2 h40 K2
        go_wp2_with fail
        refine D.mono ?_
        rintro e w3 ⟨rfl, k1, k2⟩
        have K4 := hid (K3.out.trans1 k2)
        have G := hK w3 b o r 41 (HE.out.kept K4.out (by simpa using hb)) hb k1 HO.out hrl
        clear k1 k2 D K3
        rcases hk : kidP d 41 r with _ | ⟨l, r2⟩
        · rw [hk] at G hX
          go_wp2_with fail
          refine G.mono ?_
          rintro e w4 ⟨rfl, k5⟩
          rw [hX.out]
          exact ⟨rfl, rfl, (Kept.ofBelow HZ.out [b]).trans1 (K4.out.trans1 k5)⟩
        · rw [hk] at G hX
          go_wp2_with fail
          refine G.mono ?_
          rintro e w4 ⟨u, rfl, k5, k6, k7⟩
          obtain ⟨ua, uc, rfl, _⟩ := k5.slice
          have R5 := hid k6
          have k55 := k5.mono (N' := (w.heap.size + 1 ≤ ·)) (fun q _ hq => by have := K4.out.size; have := HS.out; omega)
          have KV := hid (VAt.list (u := (ua, l.length, uc)) k55)
          have K5 := hid (K4.out.trans1 k7)
          have A4 := HV.out.kept K5.out (by simp; have := HB.out; omega)
          clear k5 k6 k7 G k55
          go_wp2_with (refine wpList_store43 (r := ⟨4, [], 0, (ua, l.length, uc), (none, 0, 0)⟩) rfl rfl A4 ?_)
          have p1 := row5_is A4 ⟨4, [], 0, (ua, l.length, uc), (none, 0, 0)⟩
          refine bodyPost_ret (w := row5 w4 w.heap.size ⟨4, [], 0, (ua, l.length, uc), (none, 0, 0)⟩) (resV rfl rfl p1) rfl ?_
          rw [hX.out]
          exact fin_row ((Kept.ofBelow HZ.out [b]).trans1 K5.out) KV.out R5.out rfl HB.out
    · have hX : Hid (X = (countedP r).map fun p => (.mk 3 p.1 0 [] [], p.2)) := by rw [Hid, HX.out]; unfold bodyP; rw [h34, h123]
      have hrl : r.length ≤ 100000000 := by have := needP_le h123; omega
      clear h34 HX
      go_enter Tryz.func112, Tryz.ntmps112
      go_wp2_with fail
      refine C.mono ?_
      rintro e w1 ⟨rfl, k1, k2⟩
      have D := takes_yes k1 [123] h123
      have K2 := hid k2
      clear k1 k2 C h123
      go_wp2_with fail
      refine D.mono ?_
      rintro e w2 ⟨rfl, k1, k2⟩
      have K4 := hid (K2.out.trans1 k2)
      have G := counted_any (HE.out.kept K4.out (by simpa using hb)) hb k1 hrl
      clear k1 k2 K2 D
      rcases hk : countedP r with _ | ⟨l, r2⟩
      · rw [hk] at G hX
        go_wp2_with fail
        refine G.mono ?_
        rintro e w4 ⟨rfl, k5⟩
        rw [hX.out]
        exact ⟨rfl, rfl, (Kept.ofBelow HZ.out [b]).trans1 (K4.out.trans1 k5)⟩
      · rw [hk] at G hX
        go_wp2_with fail
        refine G.mono ?_
        rintro e w5 ⟨rfl, k5, k6⟩
        have R5 := hid k5
        have K5 := hid (K4.out.trans1 k6)
        clear k5 k6 G
        go_wp2_with fail
        refine (textv_any l _).mono ?_
        rintro e w4 ⟨rfl, k5⟩
        have R6 := hid (R5.out.later k5)
        have K6 := hid (K5.out.below1 k5)
        have A4 := HV.out.kept K6.out (by simp; have := HB.out; omega)
        clear k5
        go_wp2_with (refine wpList_store43 (r := ⟨3, l, 0, (none, 0, 0), (none, 0, 0)⟩) rfl rfl A4 ?_)
        have p1 := row5_is A4 ⟨3, l, 0, (none, 0, 0), (none, 0, 0)⟩
        refine bodyPost_ret (w := row5 w4 w.heap.size ⟨3, l, 0, (none, 0, 0), (none, 0, 0)⟩) (resV rfl rfl p1) rfl ?_
        rw [hX.out]
        exact fin_row ((Kept.ofBelow HZ.out [b]).trans1 K6.out) (VAt.plain _ _ _ _ _) R6.out rfl HB.out
  · have C := takes_yes HR.out [34] h34
    have hX : Hid (X = (quotedP r).map fun p => (.mk 3 p.1 0 [] [], p.2)) := by rw [Hid, HX.out]; unfold bodyP; rw [h34]
    have hrl : r.length ≤ 100000000 := by have := needP_le h34; omega
    clear h34 HX
    go_enter Tryz.func112, Tryz.ntmps112
    go_wp2_with fail
    refine C.mono ?_
    rintro e w2 ⟨rfl, k1, k2⟩
    have K4 := hid k2
    have G := quoted_any k1 hrl
    clear k1 k2 C
    rcases hk : quotedP r with _ | ⟨l, r2⟩
    · rw [hk] at G hX
      go_wp2_with fail
      refine G.mono ?_
      rintro e w4 ⟨rfl, k5⟩
      rw [hX.out]
      exact ⟨rfl, rfl, (Kept.ofBelow HZ.out [b]).trans1 (K4.out.trans1 k5)⟩
    · rw [hk] at G hX
      go_wp2_with fail
      refine G.mono ?_
      rintro e w5 ⟨rfl, k5, k6⟩
      have R5 := hid k5
      have K5 := hid (K4.out.trans1 k6)
      clear k5 k6 G
      go_wp2_with fail
      refine (textv_any l _).mono ?_
      rintro e w4 ⟨rfl, k5⟩
      have R6 := hid (R5.out.later k5)
      have K6 := hid (K5.out.below1 k5)
      have A4 := HV.out.kept K6.out (by simp; have := HB.out; omega)
      clear k5
      go_wp2_with (refine wpList_store43 (r := ⟨3, l, 0, (none, 0, 0), (none, 0, 0)⟩) rfl rfl A4 ?_)
      have p1 := row5_is A4 ⟨3, l, 0, (none, 0, 0), (none, 0, 0)⟩
      refine bodyPost_ret (w := row5 w4 w.heap.size ⟨3, l, 0, (none, 0, 0), (none, 0, 0)⟩) (resV rfl rfl p1) rfl ?_
      rw [hX.out]
      exact fin_row ((Kept.ofBelow HZ.out [b]).trans1 K6.out) (VAt.plain _ _ _ _ _) R6.out rfl HB.out
end Go.Proofs.YtpjcpdnolcehcaaGreatDoor
