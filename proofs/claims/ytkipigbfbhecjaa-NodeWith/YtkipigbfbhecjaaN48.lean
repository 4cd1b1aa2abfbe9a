/- What this text holds: With, of the program: a key that is taken out of a leaf. -/
import Derived.Test.YtkipigbfbhecjaaN45
import Derived.Test.YtkipigbfbhecjaaN47
namespace Go.Proofs.Ytkipigbfbhecjaa
open Go.RowKit
set_option linter.unusedVariables false
set_option linter.unusedSimpArgs false

set_option maxRecDepth 100000 in
set_option maxHeartbeats 8000000 in
theorem with_del {w : World} {v : Value} {n : Nd} {i : Nat} {key : ByteArray} (h : NAt w v n) (sm : n.small) (hl : n.leaf = true) (hr : rightB n = true) (hi : i < n.keys.length) :
    Calls Try.prog 26 #[v, .int .i64 i, .string key, .slice none 0 0] w fun e w' => ∃ v', e = .returned v' ∧ NAt w' v' ⟨true, n.keys.take i ++ n.keys.drop (i + 1), n.items.take i ++ n.items.drop (i + 1), []⟩ ∧ Below w.heap.size w w' := by
  obtain ⟨ka, kp, ia, ep, da, dp, rfl, hk, hI, hd, ⟨k1, k2⟩, ⟨i1, i2⟩, ⟨d1, d2⟩⟩ := h.at_
  have HKs := hid h.ks
  have HIs := hid h.is_
  have hri := ri_of hr
  have hin := (hri.leaf hl).1
  unfold maxLen at k2 i2 d2
  unfold nv at h ⊢
  rw [hl] at h ⊢
  generalize hkn : n.keys.length = kn at *
  generalize hen : n.items.length = en at *
  generalize hdn : n.kids.length = dn at *
  obtain ⟨m, rfl⟩ : ∃ m, kn = m + 1 := ⟨kn - 1, by omega⟩
  obtain rfl : en = m + 1 := by omega
  have HKn := hid hkn
  have HEn := hid hen
  have HRt := hid hr
  have HEK := hid hin
  have hm7 : m + 1 ≤ 70000 := by have := sm.k; omega
  have HNW := hid (h.later (below_two w (.cells #[.bool true, .slice ka (m + 1) kp, .slice ia (m + 1) ep, .slice da dn dp] 26) (.cells #[.bool false, .slice none 0 0, .slice none 0 0, .slice none 0 0] 26)))
  have HB0 := hid (below_two w (.cells #[.bool true, .slice ka (m + 1) kp, .slice ia (m + 1) ep, .slice da dn dp] 26) (.cells #[.bool false, .slice none 0 0, .slice none 0 0, .slice none 0 0] 26))
  have HK := hid (hk.later HB0.out)
  have HI := hid (hI.later HB0.out)
  have e0 : (w.alloc (.cells #[.bool true, .slice ka (m + 1) kp, .slice ia (m + 1) ep, .slice da dn dp] 26)).heap.size = w.heap.size + 1 := by simp
  have hbx : ((w.alloc (.cells #[.bool true, .slice ka (m + 1) kp, .slice ia (m + 1) ep, .slice da dn dp] 26)).alloc (.cells #[.bool false, .slice none 0 0, .slice none 0 0, .slice none 0 0] 26)).heap[w.heap.size]? = some (.cells #[.bool true, .slice ka (m + 1) kp, .slice ia (m + 1) ep, .slice da dn dp] 26 (0, 0)) := (Below.heap_alloc _ _ _ (by rw [e0]; omega)).trans (heap_alloc_new w _)
  have hzx : ((w.alloc (.cells #[.bool true, .slice ka (m + 1) kp, .slice ia (m + 1) ep, .slice da dn dp] 26)).alloc (.cells #[.bool false, .slice none 0 0, .slice none 0 0, .slice none 0 0] 26)).heap[w.heap.size + 1]? = some (.cells #[.bool false, .slice none 0 0, .slice none 0 0, .slice none 0 0] 26 (0, 0)) := by
    have := heap_alloc_new (w.alloc (.cells #[.bool true, .slice ka (m + 1) kp, .slice ia (m + 1) ep, .slice da dn dp] 26)) (.cells #[.bool false, .slice none 0 0, .slice none 0 0, .slice none 0 0] 26)
    rw [e0] at this
    exact this
  have HBX := hid hbx
  have HZX := hid hzx
  have hsz2 : ((w.alloc (.cells #[.bool true, .slice ka (m + 1) kp, .slice ia (m + 1) ep, .slice da dn dp] 26)).alloc (.cells #[.bool false, .slice none 0 0, .slice none 0 0, .slice none 0 0] 26)).heap.size = w.heap.size + 1 + 1 := by simp
  have HSm := hid sm
  have hi' : (i : Int) ≤ (m : Int) + 1 := by omega
  have hi0 : (0 : Int) ≤ i := by omega
  have hi1 : (i : Int) < (m : Int) + 1 := by omega
  have hw1 : IntKind.i64.wrap ((i : Int) + 1) = (i : Int) + 1 := by rw [IntKind.wrap_i64]; omega
  obtain ⟨x0, x1, x2, x3⟩ := (cells4 hbx).1
  clear hbx hzx e0 hk hI hd h hkn hen hdn hri hr sm hin hl
  go_enter Try.func26, Try.ntmps26
  go_wp2_with fail
  generalize (w.alloc (.cells #[.bool true, .slice ka (m + 1) kp, .slice ia (m + 1) ep, .slice da dn dp] 26)).alloc (.cells #[.bool false, .slice none 0 0, .slice none 0 0, .slice none 0 0] 26) = W at *
  generalize hBe : w.heap.size = b0 at *
  generalize hR : b0 + 1 = R at *
  have hb0W : b0 < W.heap.size := by omega
  have hRW : R < W.heap.size := by omega
  have hRb : b0 ≤ R := by omega
  clear hR hsz2
  refine (right_any HNW.out HSm.out).mono ?_
  rw [HRt.out]
  rintro e w1 ⟨rfl, hb1⟩
  have HK1 := hid (HK.out.later hb1)
  have HI1 := hid (HI.out.later hb1)
  have HB1 := hid (HB0.out.trans (hb1.mono (Nat.le_of_lt hb0W)))
  have HZ1 := hid ((hb1.block R hRW).trans HZX.out)
  have y0 := cell_later hb1 x0
  have y1 := cell_later hb1 x1
  have y2 := cell_later hb1 x2
  have y3 := cell_later hb1 x3
  have hRw1 : R < w1.heap.size := blk_lt HZ1.out
  have hbw1 : b0 ≤ w1.heap.size := by omega
  clear hb1 x0 x1 x2 x3 HK HI HZX HB0 HNW HBX
  go_wp2_with fail
  refine (leaf_own (HK1.out) (HI1.out) HKn.out HEn.out (by omega) (by omega)).mono ?_
  rintro e w2 ⟨vk, vi, rfl, hok, hoi, hb2⟩
  obtain ⟨vka, vkc, e1, _, ex1, ex2⟩ := own_parts hok
  obtain ⟨via, vic, e2, _, ex3, ex4⟩ := own_parts hoi
  subst e1
  subst e2
  unfold maxLen at ex2 ex4
  have HB2 := hid (HB1.out.trans (hb2.mono hbw1))
  have HZ2 := hid ((hb2.block R hRw1).trans HZ1.out)
  have hB1 : w1.heap.size ≤ w2.heap.size := hb2.size
  generalize hB1e : w1.heap.size = B1 at *
  have HCB := hid (heap_alloc_new w2 (.cells #[.bool true, .slice vka (m + 1) vkc, .slice via (m + 1) vic, .slice none 0 0] 26))
  have HBt := hid (below_box w2 (.cells #[.bool true, .slice vka (m + 1) vkc, .slice via (m + 1) vic, .slice none 0 0] 26))
  have HOk4 := hid (own_later hok HBt.out)
  have HOi4 := hid (own_later hoi HBt.out)
  have HZ4 := hid ((HBt.out.block R (blk_lt HZ2.out)).trans HZ2.out)
  have HB4 := hid (HB2.out.trans (HBt.out.mono (by omega)))
  obtain ⟨d0, d1_, d2_, d3_⟩ := (cells4 HCB.out).1
  clear hok hoi HBt hb2 HB1 HB2 HZ1 HZ2 HK1 HI1 y0 y1 y2 y3
  go_wp2_with fail
  clear d0 d1_ d2_ d3_
  have hsz4 : (w2.alloc (.cells #[.bool true, .slice vka (m + 1) vkc, .slice via (m + 1) vic, .slice none 0 0] 26)).heap.size = w2.heap.size + 1 := by simp
  generalize w2.alloc (.cells #[.bool true, .slice vka (m + 1) vkc, .slice via (m + 1) vic, .slice none 0 0] 26) = w4 at *
  generalize hb2e : w2.heap.size = b2 at *
  have hB4 : B1 ≤ w4.heap.size := by omega
  clear hsz4
  refine (deletek_any HOk4.out (show i ≤ m by omega) (by omega) (kc_oneCell _)).mono ?_
  rintro e w5 ⟨vk', rfl, hok5, hbel5, hoth5⟩
  have hC5 := hoth5 b2 _ _ _ (by decide) HCB.out
  have HOi5 := hid (hoth5.own (by decide) HOi4.out)
  have HZ5 := hid (hoth5 R _ _ _ (by decide) HZ4.out)
  have HB5 := hid (HB4.out.trans (hbel5.mono (by omega)))
  have hB5 : B1 ≤ w5.heap.size := Nat.le_trans hB4 hbel5.size
  obtain ⟨ka5, kc5, ek5, _⟩ := own_parts hok5
  subst ek5
  obtain ⟨⟨c0, c1, c2, c3⟩, hfc⟩ := cells4 hC5
  have fc1 := hfc 1
  have c6 : (w5.setCell ⟨b2, 1, none⟩ (.slice ka5 m kc5)).heap[b2]? = some (.cells #[.bool true, .slice ka5 m kc5, .slice via (m + 1) vic, .slice none 0 0] 26 (0, 0)) := by
    rw [heap_setCell_same _ _ _ _ _ _ hC5]; rfl
  have HC6 := hid c6
  have HOk6 := hid (own_set (j := 1) (u := .slice ka5 m kc5) hC5 hok5 (by decide))
  have HOi6 := hid (own_set (j := 1) (u := .slice ka5 m kc5) hC5 HOi5.out (by decide))
  have HZ6 := hid ((Below.heap_setCell w5 ⟨b2, 1, none⟩ (.slice ka5 m kc5) R (by show R ≠ b2; omega)).trans HZ5.out)
  have HB6 := hid (HB5.out.setCell (p := ⟨b2, 1, none⟩) (by show b0 ≤ b2; omega) (.slice ka5 m kc5))
  have hB6 : B1 ≤ (w5.setCell ⟨b2, 1, none⟩ (.slice ka5 m kc5)).heap.size := by simpa using hB5
  obtain ⟨c60, c61, c62, c63⟩ := (cells4 c6).1
  clear hfc hoth5 hbel5 hok5 HOk4 HOi4 HZ4 HB4 hC5 c6 HOi5 HZ5 HB5 HCB
  go_wp2_with fail
  clear c60 c61 c62 c63 c0 c1 c2 c3 fc1
  generalize w5.setCell ⟨b2, 1, none⟩ (.slice ka5 m kc5) = w6 at *
  refine (deletei_any HOi6.out (show i ≤ m by omega) (by omega) (ic_oneCell _)).mono ?_
  rintro e w7 ⟨vi', rfl, hoi7, hbel7, hoth7⟩
  have hC7 := hoth7 b2 _ _ _ (by decide) HC6.out
  have hOk7 := hoth7.own (by decide) HOk6.out
  have hZ7 := hoth7 R _ _ _ (by decide) HZ6.out
  have hB7 := HB6.out.trans (hbel7.mono (by omega))
  obtain ⟨ia7, ic7, ei7, _⟩ := own_parts hoi7
  subst ei7
  obtain ⟨⟨c0, c1, c2, c3⟩, hfc⟩ := cells4 hC7
  have fc2 := hfc 2
  have c8 : (w7.setCell ⟨b2, 2, none⟩ (.slice ia7 m ic7)).heap[b2]? = some (.cells #[.bool true, .slice ka5 m kc5, .slice ia7 m ic7, .slice none 0 0] 26 (0, 0)) := by
    rw [heap_setCell_same _ _ _ _ _ _ hC7]; rfl
  have HOk8 := hid (own_set (j := 2) (u := .slice ia7 m ic7) hC7 hOk7 (by decide))
  have HOi8 := hid (own_set (j := 2) (u := .slice ia7 m ic7) hC7 hoi7 (by decide))
  have hZ8 := (Below.heap_setCell w7 ⟨b2, 2, none⟩ (.slice ia7 m ic7) R (by show R ≠ b2; omega)).trans hZ7
  have HZ8 := hid hZ8
  have HB8 := hid (hB7.setCell (p := ⟨b2, 2, none⟩) (by show b0 ≤ b2; omega) (.slice ia7 m ic7))
  obtain ⟨c80, c81, c82, c83⟩ := (cells4 c8).1
  obtain ⟨⟨z0, z1, z2, z3⟩, hfz⟩ := cells4 hZ8
  have fz0 := hfz 0
  have fz1 := hfz 1
  have fz2 := hfz 2
  have fz3 := hfz 3
  clear hfc hfz hoth7 hbel7 hoi7 hOk7 hZ7 hB7 hC7 HC6 HOk6 HOi6 HZ6 HB6 hZ8 c8
  go_wp2_with fail
  generalize w7.setCell ⟨b2, 2, none⟩ (.slice ia7 m ic7) = w8 at *
  refine bodyPost_ret (results_cell26 rfl rfl (set4 HZ8.out _ _ _ _)) rfl ?_
  have hkz := kept_set4 w8 R (.bool true) (.slice ka5 m kc5) (.slice ia7 m ic7) (.slice none 0 0)
  have hSz : ∀ k ∈ [R], ∀ cs t m, w8.heap[k]? = some (.cells cs t m) → t = 26 := fun k hk cs t m hh => by
    simp only [List.mem_singleton] at hk
    subst hk
    rw [HZ8.out] at hh
    simp at hh
    exact hh.2.1.symm
  have ho1 := own_kept hkz HOk8.out (fun k hm cs t m hh => by rw [hSz k hm cs t m hh]; decide)
  have ho2 := own_kept hkz HOi8.out (fun k hm cs t m hh => by rw [hSz k hm cs t m hh]; decide)
  obtain ⟨pa, pc, pe, hp1, hp2, hp3⟩ := own_parts ho1
  obtain ⟨qa, qc, qe, hq1, hq2, hq3⟩ := own_parts ho2
  simp only [Value.slice.injEq, true_and] at pe qe
  obtain ⟨rfl, rfl⟩ := pe
  obtain ⟨rfl, rfl⟩ := qe
  have ekc : kc (n.keys.take i ++ n.keys.drop (i + 1)) = (kc n.keys).take (i * 1) ++ (kc n.keys).drop ((i + 1) * 1) := by simp [kc]
  have eic : ic (n.items.take i ++ n.items.drop (i + 1)) = (ic n.items).take (i * 3) ++ (ic n.items).drop ((i + 1) * 3) := by
    rw [← ic_take, ← ic_drop]
    simp [ic]
  have lk : (n.keys.take i ++ n.keys.drop (i + 1)).length = m := by
    have := HKn.out
    simp only [List.length_append, List.length_take, List.length_drop]; omega
  have li : (n.items.take i ++ n.items.drop (i + 1)).length = m := by
    have := HEn.out
    simp only [List.length_append, List.length_take, List.length_drop]; omega
  refine ⟨_, rfl, ⟨⟨ka5, kc5, ia7, ic7, none, 0, ?_, by rw [ekc]; exact hp1, by rw [eic]; exact hq1, .inl rfl, by rw [lk]; exact ⟨hp2, hp3⟩, by rw [li]; exact ⟨hq2, hq3⟩, ⟨Nat.le_refl _, Nat.zero_le _⟩⟩, ?_, ?_⟩, ?_⟩
  · simp only [nv, lk, li, List.length_nil]
  · intro y hy
    rcases List.mem_append.1 hy with hy | hy
    · exact HKs.out y (List.mem_of_mem_take hy)
    · exact HKs.out y (List.mem_of_mem_drop hy)
  · intro y hy
    rcases List.mem_append.1 hy with hy | hy
    · exact HIs.out y (List.mem_of_mem_take hy)
    · exact HIs.out y (List.mem_of_mem_drop hy)
  · rw [hBe]
    exact HB8.out.trans (below_set4 hRb _ _ _ _)
end Go.Proofs.Ytkipigbfbhecjaa
