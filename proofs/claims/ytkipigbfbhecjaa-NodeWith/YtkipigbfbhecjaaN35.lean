/- What this text holds: slices.Concat of items and of pages. -/
import Derived.Test.YtkipigbfbhecjaaN34
namespace Go.Proofs.Ytkipigbfbhecjaa
open Go.RowKit
set_option linter.unusedVariables false
set_option linter.unusedSimpArgs false


set_option maxRecDepth 100000 in
set_option maxHeartbeats 1000000 in
theorem growi_any (w : World) (n : Nat) (hn : n ≤ 1000000) : Calls Try.prog 72 #[.slice none 0 0, .int .i64 n] w fun r w' => ∃ v, r = .returned v ∧ w'.ownsRow w.heap.size 51 3 v 0 [] ∧ Below w.heap.size w w' := by
  by_cases h0 : 0 < n
  · obtain ⟨c, w', hrun, ho, hc1, hc2, hb⟩ := grow_run Try.underlying23 Try.info51 rfl (by omega) (by omega) w n h0 hn
    unfold maxLen at hc2
    have HR := hid hrun
    have HO := hid ho
    have HB := hid hb
    have h0' : (0 : Int) < n := by omega
    clear hrun ho hb
    generalize w.heap.size = B at *
    go_enter Try.func72, Try.ntmps72
    go_wp2_with (at_builtin; refine wpList_append_run rfl rfl (HR.out _) ?_)
    go_ret
    exact ⟨_, rfl, HO.out, HB.out⟩
  · obtain rfl : n = 0 := by omega
    go_enter Try.func72, Try.ntmps72
    go_wp2_with fail
    go_ret
    exact ⟨_, rfl, World.ownsRow_nil _ _ _ _, Below.refl _ _⟩

set_option maxRecDepth 100000 in
set_option maxHeartbeats 2000000 in
theorem concati_any {w : World} (b k c : Nat) (ss : List Seg) (hk : ss.length = k) (hk9 : k ≤ 10) (hkc : k ≤ c ∧ c ≤ 10)
    (hc : ∀ j (h : j < ss.length), w.cell? ⟨b, j, none⟩ = some ss[j].v) (hs : ∀ s ∈ ss, s.ok w 3) (ht : tot ss ≤ 1000000) :
    Calls Try.prog 49 #[.slice (some ⟨b, 0, none⟩) k c] w fun r w' => ∃ a' c', r = .returned (.slice a' (tot ss) c') ∧ At w' a' (flat ss) ∧ (tot ss ≤ c' ∧ c' ≤ maxLen) ∧ Below w.heap.size w w' := by
  have HC := hid hc
  have HS := hid hs
  have HT := hid ht
  have HK := hid hk
  obtain ⟨hkc1, hkc2⟩ := hkc
  clear hc hs ht hk
  go_enter Try.func49, Try.ntmps49
  go_wp2_with fail
  go_loop [3, 11] (fun s i => ∃ j : Nat, j ≤ k ∧ i = .int .i64 j ∧ s = .int .i64 ((tot (ss.take j) : Nat) : Int)) (fun _ i => k - (intOf i).toNat)
  case atStart => exact ⟨0, by omega, rfl, rfl⟩
  case round =>
    obtain ⟨j, hj, rfl, rfl⟩ := hrel
    by_cases hlt : j < k
    · have hlt' : (j : Int) < k := by omega
      have hjl : j < ss.length := by rw [HK.out]; exact hlt
      have hcell := HC.out j hjl
      have h1 := tot_take ss j hjl
      have h2 := tot_take_le ss (j + 1)
      have h3 := HT.out
      have HE := hid h1
      unfold Seg.v at hcell
      have hcap := (HS.out _ (List.getElem_mem hjl)).cap
      unfold maxLen at hcap
      obtain ⟨hcap1, hcap2⟩ := hcap
      generalize ss[j] = s at *
      obtain ⟨sa, sm, sc, scs⟩ := s
      simp only at hcell hcap1 hcap2 h1 HE
      have h4 : tot (ss.take j) + sm ≤ 1000000 := by omega
      clear h1 h2 h3
      generalize hz : tot (ss.take j) = z at *
      clear hz
      go_wp2_with fail
      go_round
      case rel => exact ⟨j + 1, by omega, by go_num, by rw [HE.out]; go_num⟩
      case measure => simp [intOf]; omega
    · obtain rfl : j = k := by omega
      have hlt' : ¬ (j : Int) < j := by omega
      have hfull : ss.take j = ss := List.take_of_length_le (by rw [HK.out]; exact Nat.le_refl _)
      have HF := hid hfull
      rw [hfull]
      clear hfull
      have HG := hid (growi_any w (tot ss) HT.out)
      have hT := HT.out
      go_wp2_with fail
      refine HG.out.mono ?_
      rintro e w1 ⟨v, rfl, ho, hb⟩
      have HI : Hid (∃ w2 : World, w2 = w1 ∧ w1.ownsRow w.heap.size 51 3 v 0 [] ∧ Below w.heap.size w w1) := ⟨_, rfl, ho, hb⟩
      clear ho hb HG
      generalize hB : w.heap.size = B at *
      generalize hN : tot ss = N at *
      have HN := hid hN
      clear hN
      go_wp2_with fail
      go_loopw [6, 27] (fun x i wr => ∃ q : Nat, q ≤ j ∧ i = .int .i64 q ∧ wr.ownsRow B 51 3 x (tot (ss.take q)) (flat (ss.take q)) ∧ Below B w wr) (fun _ i _ => j - (intOf i).toNat)
      case atStart => obtain ⟨_, _, ho, hb⟩ := HI.out; exact ⟨0, by omega, rfl, ho, hb⟩
      case round =>
        clear HI
        obtain ⟨q, hq, rfl, ho, hb⟩ := hrel
        by_cases hlt2 : q < j
        · have hlt2' : (q : Int) < j := by omega
          have hjl : q < ss.length := by rw [HK.out]; exact hlt2
          have hcell0 := HC.out q hjl
          have hcell : wr.cell? ⟨b, q, none⟩ = some ss[q].v := (hb.cell (hB ▸ World.block_lt_of_cell? w _ hcell0)).trans hcell0
          have hsk := HS.out _ (List.getElem_mem hjl)
          have hsr : ss[q].ok wr 3 := ⟨hsk.at_.later (hB ▸ hb), hsk.len, hsk.one, hsk.cap⟩
          have h1 := tot_take ss q hjl
          have h2 := tot_take_le ss (q + 1)
          have hBw : B ≤ wr.heap.size := Nat.le_trans (hB ▸ Nat.le_refl _) hb.size
          obtain ⟨v', w', hrun, ho', hb'⟩ := app_seg (ty := 23) Try.underlying23 Try.info51 rfl (by omega) (by omega) ho hBw hsr (by have := HN.out; have := HT.out; omega)
          have HRun := hid hrun
          have HO : Hid (w'.ownsRow B 51 3 v' (tot (ss.take (q + 1))) (flat (ss.take (q + 1)))) := by rw [h1, flat_take ss q hjl]; exact ho'
          have HB := hid (hb.trans hb')
          have hcap := hsk.cap
          unfold maxLen at hcap
          obtain ⟨hcap1, hcap2⟩ := hcap
          clear hrun ho' hb' ho hb hcell0 hsk hsr h1 h2
          unfold Seg.v at hcell
          generalize ss[q] = s at *
          obtain ⟨sa, sm, sc, scs⟩ := s
          simp only at hcell hcap1 hcap2 HRun
          go_wp2_with (at_builtin; refine wpList_append_run rfl rfl HRun.out ?_)
          go_roundw
          case rel => exact ⟨q + 1, by omega, by go_num, HO.out, HB.out⟩
          case measure => simp [intOf]; omega
        · obtain rfl : q = j := by omega
          have hlt2' : ¬ (q : Int) < q := by omega
          have HO := hid ho
          have HB := hid hb
          clear ho hb
          go_wp2_with fail
          go_ret
          have ho := HO.out
          rw [HF.out] at ho
          obtain ⟨a', c', e1, h1, h2, h3⟩ := own_parts ho
          subst e1
          exact ⟨a', c', rfl, h1, ⟨h2, h3⟩, hB ▸ HB.out⟩

set_option maxRecDepth 100000 in
set_option maxHeartbeats 1000000 in
theorem growd_any (w : World) (n : Nat) (hn : n ≤ 1000000) : Calls Try.prog 73 #[.slice none 0 0, .int .i64 n] w fun r w' => ∃ v, r = .returned v ∧ w'.ownsRow w.heap.size 3 1 v 0 [] ∧ Below w.heap.size w w' := by
  by_cases h0 : 0 < n
  · obtain ⟨c, w', hrun, ho, hc1, hc2, hb⟩ := grow_run Try.underlying24 Try.info3 rfl (by omega) (by omega) w n h0 hn
    unfold maxLen at hc2
    have HR := hid hrun
    have HO := hid ho
    have HB := hid hb
    have h0' : (0 : Int) < n := by omega
    clear hrun ho hb
    generalize w.heap.size = B at *
    go_enter Try.func73, Try.ntmps73
    go_wp2_with (at_builtin; refine wpList_append_run rfl rfl (HR.out _) ?_)
    go_ret
    exact ⟨_, rfl, HO.out, HB.out⟩
  · obtain rfl : n = 0 := by omega
    go_enter Try.func73, Try.ntmps73
    go_wp2_with fail
    go_ret
    exact ⟨_, rfl, World.ownsRow_nil _ _ _ _, Below.refl _ _⟩

set_option maxRecDepth 100000 in
set_option maxHeartbeats 2000000 in
theorem concatd_any {w : World} (b k c : Nat) (ss : List Seg) (hk : ss.length = k) (hk9 : k ≤ 10) (hkc : k ≤ c ∧ c ≤ 10)
    (hc : ∀ j (h : j < ss.length), w.cell? ⟨b, j, none⟩ = some ss[j].v) (hs : ∀ s ∈ ss, s.ok w 1) (ht : tot ss ≤ 1000000) :
    Calls Try.prog 50 #[.slice (some ⟨b, 0, none⟩) k c] w fun r w' => ∃ a' c', r = .returned (.slice a' (tot ss) c') ∧ At w' a' (flat ss) ∧ (tot ss ≤ c' ∧ c' ≤ maxLen) ∧ Below w.heap.size w w' := by
  have HC := hid hc
  have HS := hid hs
  have HT := hid ht
  have HK := hid hk
  obtain ⟨hkc1, hkc2⟩ := hkc
  clear hc hs ht hk
  go_enter Try.func50, Try.ntmps50
  go_wp2_with fail
  go_loop [3, 11] (fun s i => ∃ j : Nat, j ≤ k ∧ i = .int .i64 j ∧ s = .int .i64 ((tot (ss.take j) : Nat) : Int)) (fun _ i => k - (intOf i).toNat)
  case atStart => exact ⟨0, by omega, rfl, rfl⟩
  case round =>
    obtain ⟨j, hj, rfl, rfl⟩ := hrel
    by_cases hlt : j < k
    · have hlt' : (j : Int) < k := by omega
      have hjl : j < ss.length := by rw [HK.out]; exact hlt
      have hcell := HC.out j hjl
      have h1 := tot_take ss j hjl
      have h2 := tot_take_le ss (j + 1)
      have h3 := HT.out
      have HE := hid h1
      unfold Seg.v at hcell
      have hcap := (HS.out _ (List.getElem_mem hjl)).cap
      unfold maxLen at hcap
      obtain ⟨hcap1, hcap2⟩ := hcap
      generalize ss[j] = s at *
      obtain ⟨sa, sm, sc, scs⟩ := s
      simp only at hcell hcap1 hcap2 h1 HE
      have h4 : tot (ss.take j) + sm ≤ 1000000 := by omega
      clear h1 h2 h3
      generalize hz : tot (ss.take j) = z at *
      clear hz
      go_wp2_with fail
      go_round
      case rel => exact ⟨j + 1, by omega, by go_num, by rw [HE.out]; go_num⟩
      case measure => simp [intOf]; omega
    · obtain rfl : j = k := by omega
      have hlt' : ¬ (j : Int) < j := by omega
      have hfull : ss.take j = ss := List.take_of_length_le (by rw [HK.out]; exact Nat.le_refl _)
      have HF := hid hfull
      rw [hfull]
      clear hfull
      have HG := hid (growd_any w (tot ss) HT.out)
      have hT := HT.out
      go_wp2_with fail
      refine HG.out.mono ?_
      rintro e w1 ⟨v, rfl, ho, hb⟩
      have HI : Hid (∃ w2 : World, w2 = w1 ∧ w1.ownsRow w.heap.size 3 1 v 0 [] ∧ Below w.heap.size w w1) := ⟨_, rfl, ho, hb⟩
      clear ho hb HG
      generalize hB : w.heap.size = B at *
      generalize hN : tot ss = N at *
      have HN := hid hN
      clear hN
      go_wp2_with fail
      go_loopw [6, 27] (fun x i wr => ∃ q : Nat, q ≤ j ∧ i = .int .i64 q ∧ wr.ownsRow B 3 1 x (tot (ss.take q)) (flat (ss.take q)) ∧ Below B w wr) (fun _ i _ => j - (intOf i).toNat)
      case atStart => obtain ⟨_, _, ho, hb⟩ := HI.out; exact ⟨0, by omega, rfl, ho, hb⟩
      case round =>
        clear HI
        obtain ⟨q, hq, rfl, ho, hb⟩ := hrel
        by_cases hlt2 : q < j
        · have hlt2' : (q : Int) < j := by omega
          have hjl : q < ss.length := by rw [HK.out]; exact hlt2
          have hcell0 := HC.out q hjl
          have hcell : wr.cell? ⟨b, q, none⟩ = some ss[q].v := (hb.cell (hB ▸ World.block_lt_of_cell? w _ hcell0)).trans hcell0
          have hsk := HS.out _ (List.getElem_mem hjl)
          have hsr : ss[q].ok wr 1 := ⟨hsk.at_.later (hB ▸ hb), hsk.len, hsk.one, hsk.cap⟩
          have h1 := tot_take ss q hjl
          have h2 := tot_take_le ss (q + 1)
          have hBw : B ≤ wr.heap.size := Nat.le_trans (hB ▸ Nat.le_refl _) hb.size
          obtain ⟨v', w', hrun, ho', hb'⟩ := app_seg (ty := 24) Try.underlying24 Try.info3 rfl (by omega) (by omega) ho hBw hsr (by have := HN.out; have := HT.out; omega)
          have HRun := hid hrun
          have HO : Hid (w'.ownsRow B 3 1 v' (tot (ss.take (q + 1))) (flat (ss.take (q + 1)))) := by rw [h1, flat_take ss q hjl]; exact ho'
          have HB := hid (hb.trans hb')
          have hcap := hsk.cap
          unfold maxLen at hcap
          obtain ⟨hcap1, hcap2⟩ := hcap
          clear hrun ho' hb' ho hb hcell0 hsk hsr h1 h2
          unfold Seg.v at hcell
          generalize ss[q] = s at *
          obtain ⟨sa, sm, sc, scs⟩ := s
          simp only at hcell hcap1 hcap2 HRun
          go_wp2_with (at_builtin; refine wpList_append_run rfl rfl HRun.out ?_)
          go_roundw
          case rel => exact ⟨q + 1, by omega, by go_num, HO.out, HB.out⟩
          case measure => simp [intOf]; omega
        · obtain rfl : q = j := by omega
          have hlt2' : ¬ (q : Int) < q := by omega
          have HO := hid ho
          have HB := hid hb
          clear ho hb
          go_wp2_with fail
          go_ret
          have ho := HO.out
          rw [HF.out] at ho
          obtain ⟨a', c', e1, h1, h2, h3⟩ := own_parts ho
          subst e1
          exact ⟨a', c', rfl, h1, ⟨h2, h3⟩, hB ▸ HB.out⟩
end Go.Proofs.Ytkipigbfbhecjaa
