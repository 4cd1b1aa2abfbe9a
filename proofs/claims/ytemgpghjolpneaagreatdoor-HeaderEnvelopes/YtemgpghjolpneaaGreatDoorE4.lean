/- What this text holds: the document's envelope. -/
import Derived.Test.YtemgpghjolpneaaGreatDoorE3
namespace Go.Proofs.YtemgpghjolpneaaGreatDoor
open Go.RowKit
set_option linter.unusedVariables false
set_option linter.unusedSimpArgs false

theorem exec_load27 {a : Act} {x : Operand} {A : Nat} {c : Array Value} {w : World} {ds : Option Tmp} {ty : Nat} {pos : String} {af : Array Edge} {gd : Option (Nat × Bool)}
    (hx : a.eval x = .pointer (some ⟨A, 0, none⟩)) (hA : w.heap[A]? = some (.cells c 27 (0, 0))) (h1 : c.size = 10) :
    (execOp a.eval ⟨ds, .load 27 x, ty, pos, af, gd⟩).run Tryz.prog w = .ok (.value (.agg c)) w := by
  simp [execOp, hx, Instr.loadAt, Instr.sureAddr, load27 hA h1]
theorem wpList_load27 {ops : Array Oper} {rest : List Oper} {Q : Exit → Act → World → Prop} {a : Act} {x : Operand} {A : Nat} {c : Array Value} {w : World} {d : Option Tmp} {ty : Nat} {pos : String} {af : Array Edge}
    (hx : a.eval x = .pointer (some ⟨A, 0, none⟩)) (hA : w.heap[A]? = some (.cells c 27 (0, 0))) (h1 : c.size = 10)
    (h : wpList Tryz.prog ops Q rest (a.put d (.agg c)) w) : wpList Tryz.prog ops Q (⟨d, .load 27 x, ty, pos, af, none⟩ :: rest) a w := by
  refine wpList_plain rfl fun K hK => ?_
  unfold Oper.wp
  rw [exec_load27 hx hA h1]
  exact hK _ _ h
theorem row_cell {w : World} {A : Nat} {cs : Array Value} (h : w.heap[A]? = some (.cells cs 27 (0, 0))) (i : Nat) {v : Value} (hi : cs[i]? = some v) : w.cell? ⟨A, i, none⟩ = some v := by simp [World.cell?, h, hi]
theorem row_free {w : World} {A : Nat} {cs : Array Value} (h : w.heap[A]? = some (.cells cs 27 (0, 0))) (i : Nat) : w.frozen? ⟨A, i, none⟩ = false := by simp [World.frozen?, h]
set_option maxRecDepth 100000 in
theorem results8_run {w : World} {A : Nat} {v0 v1 v2 v3 v4 v5 v6 v7 v8 v9 : Value} (tmps : Array Value) (h2 : tmps[2]? = some (.pointer (some ⟨A, 0, none⟩))) (h : w.heap[A]? = some (.cells #[v0, v1, v2, v3, v4, v5, v6, v7, v8, v9] 27 (0, 0))) :
    (results Tryz.f8 tmps).run Tryz.prog w = .ok (.agg #[v0, v1, v2, v3, v4, v5, v6, v7, v8, v9]) w := by
  obtain ⟨x0, x1, x2, x3, x4, x5, x6, x7, x8, x9⟩ := cells10 h
  simp [results, Tryz.results8, go_sem, h2, x0, x1, x2, x3, x4, x5, x6, x7, x8, x9]
set_option maxRecDepth 100000 in
set_option maxHeartbeats 2000000 in
theorem renvelope_any {w : World} {vl : Value} {l : List (Bs × Bs)} (h : RL w vl 2 (l.map fR)) (hl : l.length ≤ 1000000) (hf : ∀ f ∈ l, f.1.length ≤ 10000000 ∧ f.2.length ≤ 10000) :
    Calls Tryz.prog 8 #[vl] w fun e w' => (∃ v, e = .returned v ∧ EvV w' v l) ∧ Below w.heap.size w w' := by
  have HRL := hid h
  have HT : Hid (∀ n W, low n = n → n.length ≤ 1000 → RL W vl 2 (l.map fR) → Calls Tryz.prog 21 #[vl, .string (str n)] W fun e w' => (∃ v, e = .returned v ∧ ∃ B, W.heap.size ≤ B ∧ RO w' B 9 1 v ((textP l n).map sR)) ∧ Below W.heap.size W w') := fun n W h1 h2 h => one_any n h1 h2 h hl (fun f hf' => ⟨(hf f hf').1, by have := (hf f hf').2; omega⟩)
  have HA : Hid (∀ n W, RL W vl 2 (l.map fR) → Calls Tryz.prog 20 #[vl, .string (str n)] W fun e w' => (∃ v, e = .returned v ∧ ∃ B, W.heap.size ≤ B ∧ RO w' B 42 3 v ((addrP l n).map adR)) ∧ Below W.heap.size W w') := fun n W h => rpeople_any n h hl hf
  have HAl : Hid (∀ n, (addrP l n).length ≤ 10000) := fun n => addr_len n (fun f hf' => (hf f hf').2)
  have HX3 : Hid ((addrP l nSend).length = 0 → eitherP (addrP l nSend) (addrP l nFrom) = addrP l nFrom) := fun h => by unfold eitherP; rw [if_pos (List.eq_nil_of_length_eq_zero h)]
  have HX4 : Hid ((addrP l nRepl).length = 0 → eitherP (addrP l nRepl) (addrP l nFrom) = addrP l nFrom) := fun h => by unfold eitherP; rw [if_pos (List.eq_nil_of_length_eq_zero h)]
  have HY3 : Hid (¬ (addrP l nSend).length = 0 → eitherP (addrP l nSend) (addrP l nFrom) = addrP l nSend) := fun h => by unfold eitherP; rw [if_neg (fun e => h (by rw [e]; rfl))]
  have HY4 : Hid (¬ (addrP l nRepl).length = 0 → eitherP (addrP l nRepl) (addrP l nFrom) = addrP l nRepl) := fun h => by unfold eitherP; rw [if_neg (fun e => h (by rw [e]; rfl))]
  have hal : Below w.heap.size w (w.alloc (.cells #[.slice none 0 0, .slice none 0 0, .slice none 0 0, .slice none 0 0, .slice none 0 0, .slice none 0 0, .slice none 0 0, .slice none 0 0, .slice none 0 0, .slice none 0 0] 27)) := (Below.refl _ _).alloc (Nat.le_refl _) _
  have HB0 := hid hal
  have HZ0 := hid (heap_alloc_new w (.cells #[.slice none 0 0, .slice none 0 0, .slice none 0 0, .slice none 0 0, .slice none 0 0, .slice none 0 0, .slice none 0 0, .slice none 0 0, .slice none 0 0, .slice none 0 0] 27))
  obtain ⟨hw, a, c, rfl, hc, hr⟩ := h
  rw [List.length_map] at *
  clear hal hr hw hf
  go_enter Tryz.func8, Tryz.ntmps8
  go_wp2_with fail
  refine (HA.out nFrom _ (HRL.out.later HB0.out)).mono ?_
  rintro e w1 ⟨⟨vF, rfl, BF, _, ho⟩, hb⟩
  have OF_1 := hid ho
  have HB1 := hid (HB0.out.trans (hb.mono HB0.out.size))
  have HZ1 : Hid (w1.heap[w.heap.size]? = some (.cells #[.slice none 0 0, .slice none 0 0, .slice none 0 0, .slice none 0 0, .slice none 0 0, .slice none 0 0, .slice none 0 0, .slice none 0 0, .slice none 0 0, .slice none 0 0] 27 (0, 0))) := by rw [Hid, hb.block _ (lt_of_some HZ0.out)]; exact HZ0.out
  obtain ⟨aF, cF, hv⟩ := ho.sliceN (n := (addrP l nFrom).length) (by simp)
  subst hv
  clear ho hb HB0 HZ0
  go_wp2_with fail
  refine (HT.out nDate _ (by decide) (by decide) (HRL.out.later HB1.out)).mono ?_
  rintro e w2 ⟨⟨v0, rfl, B0, _, ho⟩, hb⟩
  have O0_2 := hid ho
  have OF_2 := hid (OF_1.out.later hb)
  have HB2 := hid (HB1.out.trans (hb.mono HB1.out.size))
  have HZ2 : Hid (w2.heap[w.heap.size]? = some (.cells #[.slice none 0 0, .slice none 0 0, .slice none 0 0, .slice none 0 0, .slice none 0 0, .slice none 0 0, .slice none 0 0, .slice none 0 0, .slice none 0 0, .slice none 0 0] 27 (0, 0))) := by rw [Hid, hb.block _ (lt_of_some HZ1.out)]; exact HZ1.out
  obtain ⟨a0, c0, hv⟩ := ho.sliceN (n := (textP l nDate).length) (by simp)
  subst hv
  clear ho hb OF_1 HB1 HZ1
  go_wp2_with fail
  refine (HT.out nSubj _ (by decide) (by decide) (HRL.out.later HB2.out)).mono ?_
  rintro e w3 ⟨⟨v1, rfl, B1, _, ho⟩, hb⟩
  have O1_3 := hid ho
  have OF_3 := hid (OF_2.out.later hb)
  have O0_3 := hid (O0_2.out.later hb)
  have HB3 := hid (HB2.out.trans (hb.mono HB2.out.size))
  have HZ3 : Hid (w3.heap[w.heap.size]? = some (.cells #[.slice none 0 0, .slice none 0 0, .slice none 0 0, .slice none 0 0, .slice none 0 0, .slice none 0 0, .slice none 0 0, .slice none 0 0, .slice none 0 0, .slice none 0 0] 27 (0, 0))) := by rw [Hid, hb.block _ (lt_of_some HZ2.out)]; exact HZ2.out
  obtain ⟨a1, c1, hv⟩ := ho.sliceN (n := (textP l nSubj).length) (by simp)
  subst hv
  clear ho hb OF_2 O0_2 HB2 HZ2
  go_wp2_with fail
  refine (HA.out nSend _ (HRL.out.later HB3.out)).mono ?_
  rintro e w4 ⟨⟨v3, rfl, B3, _, ho⟩, hb⟩
  have O3_4 := hid ho
  have OF_4 := hid (OF_3.out.later hb)
  have O0_4 := hid (O0_3.out.later hb)
  have O1_4 := hid (O1_3.out.later hb)
  have HB4 := hid (HB3.out.trans (hb.mono HB3.out.size))
  have HZ4 : Hid (w4.heap[w.heap.size]? = some (.cells #[.slice none 0 0, .slice none 0 0, .slice none 0 0, .slice none 0 0, .slice none 0 0, .slice none 0 0, .slice none 0 0, .slice none 0 0, .slice none 0 0, .slice none 0 0] 27 (0, 0))) := by rw [Hid, hb.block _ (lt_of_some HZ3.out)]; exact HZ3.out
  obtain ⟨a3, c3, hv⟩ := ho.sliceN (n := (addrP l nSend).length) (by simp)
  subst hv
  clear ho hb OF_3 O0_3 O1_3 HB3 HZ3
  go_wp2_with fail
  refine (HA.out nRepl _ (HRL.out.later HB4.out)).mono ?_
  rintro e w5 ⟨⟨v4, rfl, B4, _, ho⟩, hb⟩
  have O4_5 := hid ho
  have OF_5 := hid (OF_4.out.later hb)
  have O0_5 := hid (O0_4.out.later hb)
  have O1_5 := hid (O1_4.out.later hb)
  have O3_5 := hid (O3_4.out.later hb)
  have HB5 := hid (HB4.out.trans (hb.mono HB4.out.size))
  have HZ5 : Hid (w5.heap[w.heap.size]? = some (.cells #[.slice none 0 0, .slice none 0 0, .slice none 0 0, .slice none 0 0, .slice none 0 0, .slice none 0 0, .slice none 0 0, .slice none 0 0, .slice none 0 0, .slice none 0 0] 27 (0, 0))) := by rw [Hid, hb.block _ (lt_of_some HZ4.out)]; exact HZ4.out
  obtain ⟨a4, c4, hv⟩ := ho.sliceN (n := (addrP l nRepl).length) (by simp)
  subst hv
  clear ho hb OF_4 O0_4 O1_4 O3_4 HB4 HZ4
  go_wp2_with fail
  refine (HA.out nTo _ (HRL.out.later HB5.out)).mono ?_
  rintro e w6 ⟨⟨v5, rfl, B5, _, ho⟩, hb⟩
  have O5_6 := hid ho
  have OF_6 := hid (OF_5.out.later hb)
  have O0_6 := hid (O0_5.out.later hb)
  have O1_6 := hid (O1_5.out.later hb)
  have O3_6 := hid (O3_5.out.later hb)
  have O4_6 := hid (O4_5.out.later hb)
  have HB6 := hid (HB5.out.trans (hb.mono HB5.out.size))
  have HZ6 : Hid (w6.heap[w.heap.size]? = some (.cells #[.slice none 0 0, .slice none 0 0, .slice none 0 0, .slice none 0 0, .slice none 0 0, .slice none 0 0, .slice none 0 0, .slice none 0 0, .slice none 0 0, .slice none 0 0] 27 (0, 0))) := by rw [Hid, hb.block _ (lt_of_some HZ5.out)]; exact HZ5.out
  obtain ⟨a5, c5, hv⟩ := ho.sliceN (n := (addrP l nTo).length) (by simp)
  subst hv
  clear ho hb OF_5 O0_5 O1_5 O3_5 O4_5 HB5 HZ5
  go_wp2_with fail
  refine (HA.out nCc _ (HRL.out.later HB6.out)).mono ?_
  rintro e w7 ⟨⟨v6, rfl, B6, _, ho⟩, hb⟩
  have O6_7 := hid ho
  have OF_7 := hid (OF_6.out.later hb)
  have O0_7 := hid (O0_6.out.later hb)
  have O1_7 := hid (O1_6.out.later hb)
  have O3_7 := hid (O3_6.out.later hb)
  have O4_7 := hid (O4_6.out.later hb)
  have O5_7 := hid (O5_6.out.later hb)
  have HB7 := hid (HB6.out.trans (hb.mono HB6.out.size))
  have HZ7 : Hid (w7.heap[w.heap.size]? = some (.cells #[.slice none 0 0, .slice none 0 0, .slice none 0 0, .slice none 0 0, .slice none 0 0, .slice none 0 0, .slice none 0 0, .slice none 0 0, .slice none 0 0, .slice none 0 0] 27 (0, 0))) := by rw [Hid, hb.block _ (lt_of_some HZ6.out)]; exact HZ6.out
  obtain ⟨a6, c6, hv⟩ := ho.sliceN (n := (addrP l nCc).length) (by simp)
  subst hv
  clear ho hb OF_6 O0_6 O1_6 O3_6 O4_6 O5_6 HB6 HZ6
  go_wp2_with fail
  refine (HA.out nBcc _ (HRL.out.later HB7.out)).mono ?_
  rintro e w8 ⟨⟨v7, rfl, B7, _, ho⟩, hb⟩
  have O7_8 := hid ho
  have OF_8 := hid (OF_7.out.later hb)
  have O0_8 := hid (O0_7.out.later hb)
  have O1_8 := hid (O1_7.out.later hb)
  have O3_8 := hid (O3_7.out.later hb)
  have O4_8 := hid (O4_7.out.later hb)
  have O5_8 := hid (O5_7.out.later hb)
  have O6_8 := hid (O6_7.out.later hb)
  have HB8 := hid (HB7.out.trans (hb.mono HB7.out.size))
  have HZ8 : Hid (w8.heap[w.heap.size]? = some (.cells #[.slice none 0 0, .slice none 0 0, .slice none 0 0, .slice none 0 0, .slice none 0 0, .slice none 0 0, .slice none 0 0, .slice none 0 0, .slice none 0 0, .slice none 0 0] 27 (0, 0))) := by rw [Hid, hb.block _ (lt_of_some HZ7.out)]; exact HZ7.out
  obtain ⟨a7, c7, hv⟩ := ho.sliceN (n := (addrP l nBcc).length) (by simp)
  subst hv
  clear ho hb OF_7 O0_7 O1_7 O3_7 O4_7 O5_7 O6_7 HB7 HZ7
  go_wp2_with fail
  refine (HT.out nInRe _ (by decide) (by decide) (HRL.out.later HB8.out)).mono ?_
  rintro e w9 ⟨⟨v8, rfl, B8, _, ho⟩, hb⟩
  have O8_9 := hid ho
  have OF_9 := hid (OF_8.out.later hb)
  have O0_9 := hid (O0_8.out.later hb)
  have O1_9 := hid (O1_8.out.later hb)
  have O3_9 := hid (O3_8.out.later hb)
  have O4_9 := hid (O4_8.out.later hb)
  have O5_9 := hid (O5_8.out.later hb)
  have O6_9 := hid (O6_8.out.later hb)
  have O7_9 := hid (O7_8.out.later hb)
  have HB9 := hid (HB8.out.trans (hb.mono HB8.out.size))
  have HZ9 : Hid (w9.heap[w.heap.size]? = some (.cells #[.slice none 0 0, .slice none 0 0, .slice none 0 0, .slice none 0 0, .slice none 0 0, .slice none 0 0, .slice none 0 0, .slice none 0 0, .slice none 0 0, .slice none 0 0] 27 (0, 0))) := by rw [Hid, hb.block _ (lt_of_some HZ8.out)]; exact HZ8.out
  obtain ⟨a8, c8, hv⟩ := ho.sliceN (n := (textP l nInRe).length) (by simp)
  subst hv
  clear ho hb OF_8 O0_8 O1_8 O3_8 O4_8 O5_8 O6_8 O7_8 HB8 HZ8
  go_wp2_with fail
  refine (HT.out nId _ (by decide) (by decide) (HRL.out.later HB9.out)).mono ?_
  rintro e w10 ⟨⟨v9, rfl, B9, _, ho⟩, hb⟩
  have O9_10 := hid ho
  have OF_10 := hid (OF_9.out.later hb)
  have O0_10 := hid (O0_9.out.later hb)
  have O1_10 := hid (O1_9.out.later hb)
  have O3_10 := hid (O3_9.out.later hb)
  have O4_10 := hid (O4_9.out.later hb)
  have O5_10 := hid (O5_9.out.later hb)
  have O6_10 := hid (O6_9.out.later hb)
  have O7_10 := hid (O7_9.out.later hb)
  have O8_10 := hid (O8_9.out.later hb)
  have HB10 := hid (HB9.out.trans (hb.mono HB9.out.size))
  have HZ10 : Hid (w10.heap[w.heap.size]? = some (.cells #[.slice none 0 0, .slice none 0 0, .slice none 0 0, .slice none 0 0, .slice none 0 0, .slice none 0 0, .slice none 0 0, .slice none 0 0, .slice none 0 0, .slice none 0 0] 27 (0, 0))) := by rw [Hid, hb.block _ (lt_of_some HZ9.out)]; exact HZ9.out
  obtain ⟨a9, c9, hv⟩ := ho.sliceN (n := (textP l nId).length) (by simp)
  subst hv
  clear ho hb OF_9 O0_9 O1_9 O3_9 O4_9 O5_9 O6_9 O7_9 O8_9 HB9 HZ9
  have hl1 := HAl.out nSend
  have hl2 := HAl.out nRepl
  have HBk := hid HB10.out.size
  by_cases h3 : (addrP l nSend).length = 0
  · have H3 := hid h3
    have e3 : (((addrP l nSend).length : Int) == 0) = true := by simp [h3]
    clear h3
    by_cases h4 : (addrP l nRepl).length = 0
    · have H4 := hid h4
      have e4 : (((addrP l nRepl).length : Int) == 0) = true := by simp [h4]
      clear h4
      have hba : Below w10.heap.size w10 (w10.alloc (.cells #[.slice a0 (textP l nDate).length c0, .slice a1 (textP l nSubj).length c1, .slice aF (addrP l nFrom).length cF, .slice aF (addrP l nFrom).length cF, .slice aF (addrP l nFrom).length cF, .slice a5 (addrP l nTo).length c5, .slice a6 (addrP l nCc).length c6, .slice a7 (addrP l nBcc).length c7, .slice a8 (textP l nInRe).length c8, .slice a9 (textP l nId).length c9] 27)) := (Below.refl _ _).alloc (Nat.le_refl _) _
      have HR : Hid ((w10.alloc (.cells #[.slice a0 (textP l nDate).length c0, .slice a1 (textP l nSubj).length c1, .slice aF (addrP l nFrom).length cF, .slice aF (addrP l nFrom).length cF, .slice aF (addrP l nFrom).length cF, .slice a5 (addrP l nTo).length c5, .slice a6 (addrP l nCc).length c6, .slice a7 (addrP l nBcc).length c7, .slice a8 (textP l nInRe).length c8, .slice a9 (textP l nId).length c9] 27)).heap[w.heap.size]? = some (.cells #[.slice none 0 0, .slice none 0 0, .slice none 0 0, .slice none 0 0, .slice none 0 0, .slice none 0 0, .slice none 0 0, .slice none 0 0, .slice none 0 0, .slice none 0 0] 27 (0, 0))) := by rw [Hid, heap_alloc_old _ _ (lt_of_some HZ10.out)]; exact HZ10.out
      have PF := hid (OF_10.out.later hba)
      have P0 := hid (O0_10.out.later hba)
      have P1 := hid (O1_10.out.later hba)
      have P3 := hid (O3_10.out.later hba)
      have P4 := hid (O4_10.out.later hba)
      have P5 := hid (O5_10.out.later hba)
      have P6 := hid (O6_10.out.later hba)
      have P7 := hid (O7_10.out.later hba)
      have P8 := hid (O8_10.out.later hba)
      have P9 := hid (O9_10.out.later hba)
      have HBs : Hid (Below w.heap.size w (w10.alloc (.cells #[.slice a0 (textP l nDate).length c0, .slice a1 (textP l nSubj).length c1, .slice aF (addrP l nFrom).length cF, .slice aF (addrP l nFrom).length cF, .slice aF (addrP l nFrom).length cF, .slice a5 (addrP l nTo).length c5, .slice a6 (addrP l nCc).length c6, .slice a7 (addrP l nBcc).length c7, .slice a8 (textP l nInRe).length c8, .slice a9 (textP l nId).length c9] 27))) := HB10.out.trans (hba.mono HB10.out.size)
      have HU2 : Hid ((#[.slice a0 (textP l nDate).length c0, .slice a1 (textP l nSubj).length c1, .slice aF (addrP l nFrom).length cF, .slice aF (addrP l nFrom).length cF, .slice aF (addrP l nFrom).length cF, .slice a5 (addrP l nTo).length c5, .slice a6 (addrP l nCc).length c6, .slice a7 (addrP l nBcc).length c7, .slice a8 (textP l nInRe).length c8, .slice a9 (textP l nId).length c9] : Array Value).all (·.oneCell') = true) := by rw [Hid]; simp [Value.oneCell']
      have HF := hid (setRow_heap (w10.alloc (.cells #[.slice a0 (textP l nDate).length c0, .slice a1 (textP l nSubj).length c1, .slice aF (addrP l nFrom).length cF, .slice aF (addrP l nFrom).length cF, .slice aF (addrP l nFrom).length cF, .slice a5 (addrP l nTo).length c5, .slice a6 (addrP l nCc).length c6, .slice a7 (addrP l nBcc).length c7, .slice a8 (textP l nInRe).length c8, .slice a9 (textP l nId).length c9] 27)) w.heap.size _ #[.slice a0 (textP l nDate).length c0, .slice a1 (textP l nSubj).length c1, .slice aF (addrP l nFrom).length cF, .slice aF (addrP l nFrom).length cF, .slice aF (addrP l nFrom).length cF, .slice a5 (addrP l nTo).length c5, .slice a6 (addrP l nCc).length c6, .slice a7 (addrP l nBcc).length c7, .slice a8 (textP l nInRe).length c8, .slice a9 (textP l nId).length c9] 27 _ HR.out)
      clear hba OF_10 O0_10 O1_10 O3_10 O4_10 O5_10 O6_10 O7_10 O8_10 O9_10
      go_wp2_with (refine wpList_store27 (A := w.heap.size) (c := #[.slice a0 (textP l nDate).length c0, .slice a1 (textP l nSubj).length c1, .slice aF (addrP l nFrom).length cF, .slice aF (addrP l nFrom).length cF, .slice aF (addrP l nFrom).length cF, .slice a5 (addrP l nTo).length c5, .slice a6 (addrP l nCc).length c6, .slice a7 (addrP l nBcc).length c7, .slice a8 (textP l nInRe).length c8, .slice a9 (textP l nId).length c9]) rfl rfl HR.out rfl rfl HU2.out ?_)
      refine bodyPost_ret (w := (w10.alloc (.cells #[.slice a0 (textP l nDate).length c0, .slice a1 (textP l nSubj).length c1, .slice aF (addrP l nFrom).length cF, .slice aF (addrP l nFrom).length cF, .slice aF (addrP l nFrom).length cF, .slice a5 (addrP l nTo).length c5, .slice a6 (addrP l nCc).length c6, .slice a7 (addrP l nBcc).length c7, .slice a8 (textP l nInRe).length c8, .slice a9 (textP l nId).length c9] 27)).setRow w.heap.size #[.slice a0 (textP l nDate).length c0, .slice a1 (textP l nSubj).length c1, .slice aF (addrP l nFrom).length cF, .slice aF (addrP l nFrom).length cF, .slice aF (addrP l nFrom).length cF, .slice a5 (addrP l nTo).length c5, .slice a6 (addrP l nCc).length c6, .slice a7 (addrP l nBcc).length c7, .slice a8 (textP l nInRe).length c8, .slice a9 (textP l nId).length c9]) (results8_run _ rfl HF.out) rfl ?_
      exact ⟨⟨_, rfl, _, _, _, _, _, _, _, _, _, _, rfl, (P0.out.setRow (by decide) HR.out _).rl, (P1.out.setRow (by decide) HR.out _).rl, (P8.out.setRow (by decide) HR.out _).rl, (P9.out.setRow (by decide) HR.out _).rl, (PF.out.setRow (by decide) HR.out _).rl, by rw [HX3.out H3.out]; exact (PF.out.setRow (by decide) HR.out _).rl, by rw [HX4.out H4.out]; exact (PF.out.setRow (by decide) HR.out _).rl, (P5.out.setRow (by decide) HR.out _).rl, (P6.out.setRow (by decide) HR.out _).rl, (P7.out.setRow (by decide) HR.out _).rl⟩, below_setRow HBs.out (Nat.le_refl _) _⟩
    · have H4 := hid h4
      have e4 : (((addrP l nRepl).length : Int) == 0) = false := by simp; simpa using h4
      clear h4
      have hba : Below w10.heap.size w10 (w10.alloc (.cells #[.slice a0 (textP l nDate).length c0, .slice a1 (textP l nSubj).length c1, .slice aF (addrP l nFrom).length cF, .slice aF (addrP l nFrom).length cF, .slice a4 (addrP l nRepl).length c4, .slice a5 (addrP l nTo).length c5, .slice a6 (addrP l nCc).length c6, .slice a7 (addrP l nBcc).length c7, .slice a8 (textP l nInRe).length c8, .slice a9 (textP l nId).length c9] 27)) := (Below.refl _ _).alloc (Nat.le_refl _) _
      have HR : Hid ((w10.alloc (.cells #[.slice a0 (textP l nDate).length c0, .slice a1 (textP l nSubj).length c1, .slice aF (addrP l nFrom).length cF, .slice aF (addrP l nFrom).length cF, .slice a4 (addrP l nRepl).length c4, .slice a5 (addrP l nTo).length c5, .slice a6 (addrP l nCc).length c6, .slice a7 (addrP l nBcc).length c7, .slice a8 (textP l nInRe).length c8, .slice a9 (textP l nId).length c9] 27)).heap[w.heap.size]? = some (.cells #[.slice none 0 0, .slice none 0 0, .slice none 0 0, .slice none 0 0, .slice none 0 0, .slice none 0 0, .slice none 0 0, .slice none 0 0, .slice none 0 0, .slice none 0 0] 27 (0, 0))) := by rw [Hid, heap_alloc_old _ _ (lt_of_some HZ10.out)]; exact HZ10.out
      have PF := hid (OF_10.out.later hba)
      have P0 := hid (O0_10.out.later hba)
      have P1 := hid (O1_10.out.later hba)
      have P3 := hid (O3_10.out.later hba)
      have P4 := hid (O4_10.out.later hba)
      have P5 := hid (O5_10.out.later hba)
      have P6 := hid (O6_10.out.later hba)
      have P7 := hid (O7_10.out.later hba)
      have P8 := hid (O8_10.out.later hba)
      have P9 := hid (O9_10.out.later hba)
      have HBs : Hid (Below w.heap.size w (w10.alloc (.cells #[.slice a0 (textP l nDate).length c0, .slice a1 (textP l nSubj).length c1, .slice aF (addrP l nFrom).length cF, .slice aF (addrP l nFrom).length cF, .slice a4 (addrP l nRepl).length c4, .slice a5 (addrP l nTo).length c5, .slice a6 (addrP l nCc).length c6, .slice a7 (addrP l nBcc).length c7, .slice a8 (textP l nInRe).length c8, .slice a9 (textP l nId).length c9] 27))) := HB10.out.trans (hba.mono HB10.out.size)
      have HU2 : Hid ((#[.slice a0 (textP l nDate).length c0, .slice a1 (textP l nSubj).length c1, .slice aF (addrP l nFrom).length cF, .slice aF (addrP l nFrom).length cF, .slice a4 (addrP l nRepl).length c4, .slice a5 (addrP l nTo).length c5, .slice a6 (addrP l nCc).length c6, .slice a7 (addrP l nBcc).length c7, .slice a8 (textP l nInRe).length c8, .slice a9 (textP l nId).length c9] : Array Value).all (·.oneCell') = true) := by rw [Hid]; simp [Value.oneCell']
      have HF := hid (setRow_heap (w10.alloc (.cells #[.slice a0 (textP l nDate).length c0, .slice a1 (textP l nSubj).length c1, .slice aF (addrP l nFrom).length cF, .slice aF (addrP l nFrom).length cF, .slice a4 (addrP l nRepl).length c4, .slice a5 (addrP l nTo).length c5, .slice a6 (addrP l nCc).length c6, .slice a7 (addrP l nBcc).length c7, .slice a8 (textP l nInRe).length c8, .slice a9 (textP l nId).length c9] 27)) w.heap.size _ #[.slice a0 (textP l nDate).length c0, .slice a1 (textP l nSubj).length c1, .slice aF (addrP l nFrom).length cF, .slice aF (addrP l nFrom).length cF, .slice a4 (addrP l nRepl).length c4, .slice a5 (addrP l nTo).length c5, .slice a6 (addrP l nCc).length c6, .slice a7 (addrP l nBcc).length c7, .slice a8 (textP l nInRe).length c8, .slice a9 (textP l nId).length c9] 27 _ HR.out)
      clear hba OF_10 O0_10 O1_10 O3_10 O4_10 O5_10 O6_10 O7_10 O8_10 O9_10
      go_wp2_with (refine wpList_store27 (A := w.heap.size) (c := #[.slice a0 (textP l nDate).length c0, .slice a1 (textP l nSubj).length c1, .slice aF (addrP l nFrom).length cF, .slice aF (addrP l nFrom).length cF, .slice a4 (addrP l nRepl).length c4, .slice a5 (addrP l nTo).length c5, .slice a6 (addrP l nCc).length c6, .slice a7 (addrP l nBcc).length c7, .slice a8 (textP l nInRe).length c8, .slice a9 (textP l nId).length c9]) rfl rfl HR.out rfl rfl HU2.out ?_)
      refine bodyPost_ret (w := (w10.alloc (.cells #[.slice a0 (textP l nDate).length c0, .slice a1 (textP l nSubj).length c1, .slice aF (addrP l nFrom).length cF, .slice aF (addrP l nFrom).length cF, .slice a4 (addrP l nRepl).length c4, .slice a5 (addrP l nTo).length c5, .slice a6 (addrP l nCc).length c6, .slice a7 (addrP l nBcc).length c7, .slice a8 (textP l nInRe).length c8, .slice a9 (textP l nId).length c9] 27)).setRow w.heap.size #[.slice a0 (textP l nDate).length c0, .slice a1 (textP l nSubj).length c1, .slice aF (addrP l nFrom).length cF, .slice aF (addrP l nFrom).length cF, .slice a4 (addrP l nRepl).length c4, .slice a5 (addrP l nTo).length c5, .slice a6 (addrP l nCc).length c6, .slice a7 (addrP l nBcc).length c7, .slice a8 (textP l nInRe).length c8, .slice a9 (textP l nId).length c9]) (results8_run _ rfl HF.out) rfl ?_
      exact ⟨⟨_, rfl, _, _, _, _, _, _, _, _, _, _, rfl, (P0.out.setRow (by decide) HR.out _).rl, (P1.out.setRow (by decide) HR.out _).rl, (P8.out.setRow (by decide) HR.out _).rl, (P9.out.setRow (by decide) HR.out _).rl, (PF.out.setRow (by decide) HR.out _).rl, by rw [HX3.out H3.out]; exact (PF.out.setRow (by decide) HR.out _).rl, by rw [HY4.out H4.out]; exact (P4.out.setRow (by decide) HR.out _).rl, (P5.out.setRow (by decide) HR.out _).rl, (P6.out.setRow (by decide) HR.out _).rl, (P7.out.setRow (by decide) HR.out _).rl⟩, below_setRow HBs.out (Nat.le_refl _) _⟩
  · have H3 := hid h3
    have e3 : (((addrP l nSend).length : Int) == 0) = false := by simp; simpa using h3
    clear h3
    by_cases h4 : (addrP l nRepl).length = 0
    · have H4 := hid h4
      have e4 : (((addrP l nRepl).length : Int) == 0) = true := by simp [h4]
      clear h4
      have hba : Below w10.heap.size w10 (w10.alloc (.cells #[.slice a0 (textP l nDate).length c0, .slice a1 (textP l nSubj).length c1, .slice aF (addrP l nFrom).length cF, .slice a3 (addrP l nSend).length c3, .slice aF (addrP l nFrom).length cF, .slice a5 (addrP l nTo).length c5, .slice a6 (addrP l nCc).length c6, .slice a7 (addrP l nBcc).length c7, .slice a8 (textP l nInRe).length c8, .slice a9 (textP l nId).length c9] 27)) := (Below.refl _ _).alloc (Nat.le_refl _) _
      have HR : Hid ((w10.alloc (.cells #[.slice a0 (textP l nDate).length c0, .slice a1 (textP l nSubj).length c1, .slice aF (addrP l nFrom).length cF, .slice a3 (addrP l nSend).length c3, .slice aF (addrP l nFrom).length cF, .slice a5 (addrP l nTo).length c5, .slice a6 (addrP l nCc).length c6, .slice a7 (addrP l nBcc).length c7, .slice a8 (textP l nInRe).length c8, .slice a9 (textP l nId).length c9] 27)).heap[w.heap.size]? = some (.cells #[.slice none 0 0, .slice none 0 0, .slice none 0 0, .slice none 0 0, .slice none 0 0, .slice none 0 0, .slice none 0 0, .slice none 0 0, .slice none 0 0, .slice none 0 0] 27 (0, 0))) := by rw [Hid, heap_alloc_old _ _ (lt_of_some HZ10.out)]; exact HZ10.out
      have PF := hid (OF_10.out.later hba)
      have P0 := hid (O0_10.out.later hba)
      have P1 := hid (O1_10.out.later hba)
      have P3 := hid (O3_10.out.later hba)
      have P4 := hid (O4_10.out.later hba)
      have P5 := hid (O5_10.out.later hba)
      have P6 := hid (O6_10.out.later hba)
      have P7 := hid (O7_10.out.later hba)
      have P8 := hid (O8_10.out.later hba)
      have P9 := hid (O9_10.out.later hba)
      have HBs : Hid (Below w.heap.size w (w10.alloc (.cells #[.slice a0 (textP l nDate).length c0, .slice a1 (textP l nSubj).length c1, .slice aF (addrP l nFrom).length cF, .slice a3 (addrP l nSend).length c3, .slice aF (addrP l nFrom).length cF, .slice a5 (addrP l nTo).length c5, .slice a6 (addrP l nCc).length c6, .slice a7 (addrP l nBcc).length c7, .slice a8 (textP l nInRe).length c8, .slice a9 (textP l nId).length c9] 27))) := HB10.out.trans (hba.mono HB10.out.size)
      have HU2 : Hid ((#[.slice a0 (textP l nDate).length c0, .slice a1 (textP l nSubj).length c1, .slice aF (addrP l nFrom).length cF, .slice a3 (addrP l nSend).length c3, .slice aF (addrP l nFrom).length cF, .slice a5 (addrP l nTo).length c5, .slice a6 (addrP l nCc).length c6, .slice a7 (addrP l nBcc).length c7, .slice a8 (textP l nInRe).length c8, .slice a9 (textP l nId).length c9] : Array Value).all (·.oneCell') = true) := by rw [Hid]; simp [Value.oneCell']
      have HF := hid (setRow_heap (w10.alloc (.cells #[.slice a0 (textP l nDate).length c0, .slice a1 (textP l nSubj).length c1, .slice aF (addrP l nFrom).length cF, .slice a3 (addrP l nSend).length c3, .slice aF (addrP l nFrom).length cF, .slice a5 (addrP l nTo).length c5, .slice a6 (addrP l nCc).length c6, .slice a7 (addrP l nBcc).length c7, .slice a8 (textP l nInRe).length c8, .slice a9 (textP l nId).length c9] 27)) w.heap.size _ #[.slice a0 (textP l nDate).length c0, .slice a1 (textP l nSubj).length c1, .slice aF (addrP l nFrom).length cF, .slice a3 (addrP l nSend).length c3, .slice aF (addrP l nFrom).length cF, .slice a5 (addrP l nTo).length c5, .slice a6 (addrP l nCc).length c6, .slice a7 (addrP l nBcc).length c7, .slice a8 (textP l nInRe).length c8, .slice a9 (textP l nId).length c9] 27 _ HR.out)
      clear hba OF_10 O0_10 O1_10 O3_10 O4_10 O5_10 O6_10 O7_10 O8_10 O9_10
      go_wp2_with (refine wpList_store27 (A := w.heap.size) (c := #[.slice a0 (textP l nDate).length c0, .slice a1 (textP l nSubj).length c1, .slice aF (addrP l nFrom).length cF, .slice a3 (addrP l nSend).length c3, .slice aF (addrP l nFrom).length cF, .slice a5 (addrP l nTo).length c5, .slice a6 (addrP l nCc).length c6, .slice a7 (addrP l nBcc).length c7, .slice a8 (textP l nInRe).length c8, .slice a9 (textP l nId).length c9]) rfl rfl HR.out rfl rfl HU2.out ?_)
      refine bodyPost_ret (w := (w10.alloc (.cells #[.slice a0 (textP l nDate).length c0, .slice a1 (textP l nSubj).length c1, .slice aF (addrP l nFrom).length cF, .slice a3 (addrP l nSend).length c3, .slice aF (addrP l nFrom).length cF, .slice a5 (addrP l nTo).length c5, .slice a6 (addrP l nCc).length c6, .slice a7 (addrP l nBcc).length c7, .slice a8 (textP l nInRe).length c8, .slice a9 (textP l nId).length c9] 27)).setRow w.heap.size #[.slice a0 (textP l nDate).length c0, .slice a1 (textP l nSubj).length c1, .slice aF (addrP l nFrom).length cF, .slice a3 (addrP l nSend).length c3, .slice aF (addrP l nFrom).length cF, .slice a5 (addrP l nTo).length c5, .slice a6 (addrP l nCc).length c6, .slice a7 (addrP l nBcc).length c7, .slice a8 (textP l nInRe).length c8, .slice a9 (textP l nId).length c9]) (results8_run _ rfl HF.out) rfl ?_
      exact ⟨⟨_, rfl, _, _, _, _, _, _, _, _, _, _, rfl, (P0.out.setRow (by decide) HR.out _).rl, (P1.out.setRow (by decide) HR.out _).rl, (P8.out.setRow (by decide) HR.out _).rl, (P9.out.setRow (by decide) HR.out _).rl, (PF.out.setRow (by decide) HR.out _).rl, by rw [HY3.out H3.out]; exact (P3.out.setRow (by decide) HR.out _).rl, by rw [HX4.out H4.out]; exact (PF.out.setRow (by decide) HR.out _).rl, (P5.out.setRow (by decide) HR.out _).rl, (P6.out.setRow (by decide) HR.out _).rl, (P7.out.setRow (by decide) HR.out _).rl⟩, below_setRow HBs.out (Nat.le_refl _) _⟩
    · have H4 := hid h4
      have e4 : (((addrP l nRepl).length : Int) == 0) = false := by simp; simpa using h4
      clear h4
      have hba : Below w10.heap.size w10 (w10.alloc (.cells #[.slice a0 (textP l nDate).length c0, .slice a1 (textP l nSubj).length c1, .slice aF (addrP l nFrom).length cF, .slice a3 (addrP l nSend).length c3, .slice a4 (addrP l nRepl).length c4, .slice a5 (addrP l nTo).length c5, .slice a6 (addrP l nCc).length c6, .slice a7 (addrP l nBcc).length c7, .slice a8 (textP l nInRe).length c8, .slice a9 (textP l nId).length c9] 27)) := (Below.refl _ _).alloc (Nat.le_refl _) _
      have HR : Hid ((w10.alloc (.cells #[.slice a0 (textP l nDate).length c0, .slice a1 (textP l nSubj).length c1, .slice aF (addrP l nFrom).length cF, .slice a3 (addrP l nSend).length c3, .slice a4 (addrP l nRepl).length c4, .slice a5 (addrP l nTo).length c5, .slice a6 (addrP l nCc).length c6, .slice a7 (addrP l nBcc).length c7, .slice a8 (textP l nInRe).length c8, .slice a9 (textP l nId).length c9] 27)).heap[w.heap.size]? = some (.cells #[.slice none 0 0, .slice none 0 0, .slice none 0 0, .slice none 0 0, .slice none 0 0, .slice none 0 0, .slice none 0 0, .slice none 0 0, .slice none 0 0, .slice none 0 0] 27 (0, 0))) := by rw [Hid, heap_alloc_old _ _ (lt_of_some HZ10.out)]; exact HZ10.out
      have PF := hid (OF_10.out.later hba)
      have P0 := hid (O0_10.out.later hba)
      have P1 := hid (O1_10.out.later hba)
      have P3 := hid (O3_10.out.later hba)
      have P4 := hid (O4_10.out.later hba)
      have P5 := hid (O5_10.out.later hba)
      have P6 := hid (O6_10.out.later hba)
      have P7 := hid (O7_10.out.later hba)
      have P8 := hid (O8_10.out.later hba)
      have P9 := hid (O9_10.out.later hba)
      have HBs : Hid (Below w.heap.size w (w10.alloc (.cells #[.slice a0 (textP l nDate).length c0, .slice a1 (textP l nSubj).length c1, .slice aF (addrP l nFrom).length cF, .slice a3 (addrP l nSend).length c3, .slice a4 (addrP l nRepl).length c4, .slice a5 (addrP l nTo).length c5, .slice a6 (addrP l nCc).length c6, .slice a7 (addrP l nBcc).length c7, .slice a8 (textP l nInRe).length c8, .slice a9 (textP l nId).length c9] 27))) := HB10.out.trans (hba.mono HB10.out.size)
      have HU2 : Hid ((#[.slice a0 (textP l nDate).length c0, .slice a1 (textP l nSubj).length c1, .slice aF (addrP l nFrom).length cF, .slice a3 (addrP l nSend).length c3, .slice a4 (addrP l nRepl).length c4, .slice a5 (addrP l nTo).length c5, .slice a6 (addrP l nCc).length c6, .slice a7 (addrP l nBcc).length c7, .slice a8 (textP l nInRe).length c8, .slice a9 (textP l nId).length c9] : Array Value).all (·.oneCell') = true) := by rw [Hid]; simp [Value.oneCell']
      have HF := hid (setRow_heap (w10.alloc (.cells #[.slice a0 (textP l nDate).length c0, .slice a1 (textP l nSubj).length c1, .slice aF (addrP l nFrom).length cF, .slice a3 (addrP l nSend).length c3, .slice a4 (addrP l nRepl).length c4, .slice a5 (addrP l nTo).length c5, .slice a6 (addrP l nCc).length c6, .slice a7 (addrP l nBcc).length c7, .slice a8 (textP l nInRe).length c8, .slice a9 (textP l nId).length c9] 27)) w.heap.size _ #[.slice a0 (textP l nDate).length c0, .slice a1 (textP l nSubj).length c1, .slice aF (addrP l nFrom).length cF, .slice a3 (addrP l nSend).length c3, .slice a4 (addrP l nRepl).length c4, .slice a5 (addrP l nTo).length c5, .slice a6 (addrP l nCc).length c6, .slice a7 (addrP l nBcc).length c7, .slice a8 (textP l nInRe).length c8, .slice a9 (textP l nId).length c9] 27 _ HR.out)
      clear hba OF_10 O0_10 O1_10 O3_10 O4_10 O5_10 O6_10 O7_10 O8_10 O9_10
      go_wp2_with (refine wpList_store27 (A := w.heap.size) (c := #[.slice a0 (textP l nDate).length c0, .slice a1 (textP l nSubj).length c1, .slice aF (addrP l nFrom).length cF, .slice a3 (addrP l nSend).length c3, .slice a4 (addrP l nRepl).length c4, .slice a5 (addrP l nTo).length c5, .slice a6 (addrP l nCc).length c6, .slice a7 (addrP l nBcc).length c7, .slice a8 (textP l nInRe).length c8, .slice a9 (textP l nId).length c9]) rfl rfl HR.out rfl rfl HU2.out ?_)
      refine bodyPost_ret (w := (w10.alloc (.cells #[.slice a0 (textP l nDate).length c0, .slice a1 (textP l nSubj).length c1, .slice aF (addrP l nFrom).length cF, .slice a3 (addrP l nSend).length c3, .slice a4 (addrP l nRepl).length c4, .slice a5 (addrP l nTo).length c5, .slice a6 (addrP l nCc).length c6, .slice a7 (addrP l nBcc).length c7, .slice a8 (textP l nInRe).length c8, .slice a9 (textP l nId).length c9] 27)).setRow w.heap.size #[.slice a0 (textP l nDate).length c0, .slice a1 (textP l nSubj).length c1, .slice aF (addrP l nFrom).length cF, .slice a3 (addrP l nSend).length c3, .slice a4 (addrP l nRepl).length c4, .slice a5 (addrP l nTo).length c5, .slice a6 (addrP l nCc).length c6, .slice a7 (addrP l nBcc).length c7, .slice a8 (textP l nInRe).length c8, .slice a9 (textP l nId).length c9]) (results8_run _ rfl HF.out) rfl ?_
      exact ⟨⟨_, rfl, _, _, _, _, _, _, _, _, _, _, rfl, (P0.out.setRow (by decide) HR.out _).rl, (P1.out.setRow (by decide) HR.out _).rl, (P8.out.setRow (by decide) HR.out _).rl, (P9.out.setRow (by decide) HR.out _).rl, (PF.out.setRow (by decide) HR.out _).rl, by rw [HY3.out H3.out]; exact (P3.out.setRow (by decide) HR.out _).rl, by rw [HY4.out H4.out]; exact (P4.out.setRow (by decide) HR.out _).rl, (P5.out.setRow (by decide) HR.out _).rl, (P6.out.setRow (by decide) HR.out _).rl, (P7.out.setRow (by decide) HR.out _).rl⟩, below_setRow HBs.out (Nat.le_refl _) _⟩
end Go.Proofs.YtemgpghjolpneaaGreatDoor
