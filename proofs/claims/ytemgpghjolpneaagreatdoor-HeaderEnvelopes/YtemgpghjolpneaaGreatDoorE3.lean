/- What this text holds: envelopes as they lie in memory; the program's, the document's, and whether two are the same. -/
import Derived.Test.YtemgpghjolpneaaGreatDoorE2
import Derived.Laws.CopyOwn
namespace Go.Proofs.YtemgpghjolpneaaGreatDoor
open Go.RowKit
set_option linter.unusedVariables false
set_option linter.unusedSimpArgs false

def nFrom : Bs := [102, 114, 111, 109]
def nDate : Bs := [100, 97, 116, 101]
def nSubj : Bs := [115, 117, 98, 106, 101, 99, 116]
def nSend : Bs := [115, 101, 110, 100, 101, 114]
def nRepl : Bs := [114, 101, 112, 108, 121, 45, 116, 111]
def nTo : Bs := [116, 111]
def nCc : Bs := [99, 99]
def nBcc : Bs := [98, 99, 99]
def nInRe : Bs := [105, 110, 45, 114, 101, 112, 108, 121, 45, 116, 111]
def nId : Bs := [109, 101, 115, 115, 97, 103, 101, 45, 105, 100]
/-- An envelope in memory: what is told of these fields. -/
def EvV (w : World) (v : Value) (l : List (Bs × Bs)) : Prop := ∃ v0 v1 v2 v3 v4 v5 v6 v7 v8 v9, v = .agg #[v0, v1, v2, v3, v4, v5, v6, v7, v8, v9] ∧
  RL w v0 1 ((textP l nDate).map sR) ∧ RL w v1 1 ((textP l nSubj).map sR) ∧ RL w v8 1 ((textP l nInRe).map sR) ∧ RL w v9 1 ((textP l nId).map sR) ∧
  RL w v2 3 ((addrP l nFrom).map adR) ∧ RL w v3 3 ((eitherP (addrP l nSend) (addrP l nFrom)).map adR) ∧ RL w v4 3 ((eitherP (addrP l nRepl) (addrP l nFrom)).map adR) ∧
  RL w v5 3 ((addrP l nTo).map adR) ∧ RL w v6 3 ((addrP l nCc).map adR) ∧ RL w v7 3 ((addrP l nBcc).map adR)
theorem ads_len : ∀ (n : Nat) (s : Bs), s.length ≤ n → (adsP s).length ≤ s.length
  | 0, s, h => by
    have : s = [] := List.eq_nil_of_length_eq_zero (by omega)
    subst this; exact Nat.le_refl _
  | n + 1, s, h => by
    by_cases h0 : s = []
    · subst h0; exact Nat.le_refl _
    · have hl := List.length_pos_iff.2 h0
      have h1 := pieP_lt _ none [] s (Nat.le_refl _)
      have h2 := ads_len n (pieP none [] s).2.2 (by omega)
      rw [adsP_step s h0, List.length_append]
      split
      · simp; omega
      · simp; omega
theorem addr_len {l : List (Bs × Bs)} (n : Bs) (hf : ∀ f ∈ l, f.2.length ≤ 10000) : (addrP l n).length ≤ 10000 := by
  unfold addrP
  exact Nat.le_trans (ads_len _ _ (Nat.le_refl _)) (firstF_len n 10000 hf)
theorem text_len (l : List (Bs × Bs)) (n : Bs) : (textP l n).length ≤ 1 := by
  unfold textP
  split <;> simp
theorem either_len {l m : List Ad} (h : l.length ≤ 10000) (h' : m.length ≤ 10000) : (eitherP l m).length ≤ 10000 := by
  unfold eitherP
  split <;> assumption
theorem RO.setRow {w : World} {B T k A : Nat} {X : Array Value} {fr : Nat × Nat} {v : Value} {L : List (List Bs)} (h : RO w B T k v L) (hT : 27 ≠ T) (hA : w.heap[A]? = some (.cells X 27 fr)) (cs : Array Value) : RO (w.setRow A cs) B T k v L :=
  ⟨h.1, ownsRow_block h.2 (fun g hg => setRow_other w A g cs (fun e => h.ne hT hA (by rw [hg, e])))⟩
/-- Ten cells laid as a whole. -/
theorem exec_store27 {a : Act} {x y : Operand} {A : Nat} {c c' : Array Value} {w : World} {ds : Option Tmp} {ty : Nat} {pos : String} {af : Array Edge} {gd : Option (Nat × Bool)}
    (hx : a.eval x = .pointer (some ⟨A, 0, none⟩)) (hy : a.eval y = .agg c) (hA : w.heap[A]? = some (.cells c' 27 (0, 0))) (h1 : c.size = 10) (h2 : c'.size = 10) (h3 : c.all (·.oneCell') = true) :
    (execOp a.eval ⟨ds, .store 27 x y, ty, pos, af, gd⟩).run Tryz.prog w = .ok .skip (w.setRow A c) := by
  have h := run_storeVar_row (P := Tryz.prog) w A 27 27 _ c hA (by rw [h1]; kernel_rfl) (by rw [h1, h2]) h3
  simp [execOp, hx, hy, Instr.storeAt, Instr.sureAddr, h]
theorem wpList_store27 {ops : Array Oper} {rest : List Oper} {Q : Exit → Act → World → Prop} {a : Act} {x y : Operand} {A : Nat} {c c' : Array Value} {w : World} {ty : Nat} {pos : String} {af : Array Edge}
    (hx : a.eval x = .pointer (some ⟨A, 0, none⟩)) (hy : a.eval y = .agg c) (hA : w.heap[A]? = some (.cells c' 27 (0, 0))) (h1 : c.size = 10) (h2 : c'.size = 10) (h3 : c.all (·.oneCell') = true)
    (h : wpList Tryz.prog ops Q rest a (w.setRow A c)) : wpList Tryz.prog ops Q (⟨none, .store 27 x y, ty, pos, af, none⟩ :: rest) a w := by
  refine wpList_plain rfl fun K hK => ?_
  unfold Oper.wp
  rw [exec_store27 hx hy hA h1 h2 h3]
  exact hK _ _ h
theorem cells10 {w : World} {A : Nat} {v0 v1 v2 v3 v4 v5 v6 v7 v8 v9 : Value} (h : w.heap[A]? = some (.cells #[v0, v1, v2, v3, v4, v5, v6, v7, v8, v9] 27 (0, 0))) :
    w.cell? ⟨A, 0, none⟩ = some v0 ∧ w.cell? ⟨A, 1, none⟩ = some v1 ∧ w.cell? ⟨A, 2, none⟩ = some v2 ∧ w.cell? ⟨A, 3, none⟩ = some v3 ∧ w.cell? ⟨A, 4, none⟩ = some v4 ∧ w.cell? ⟨A, 5, none⟩ = some v5 ∧ w.cell? ⟨A, 6, none⟩ = some v6 ∧ w.cell? ⟨A, 7, none⟩ = some v7 ∧ w.cell? ⟨A, 8, none⟩ = some v8 ∧ w.cell? ⟨A, 9, none⟩ = some v9 := by
  refine ⟨?_, ?_, ?_, ?_, ?_, ?_, ?_, ?_, ?_, ?_⟩ <;> simp [World.cell?, h]
theorem load27 {w : World} {A : Nat} {c : Array Value} (h : w.heap[A]? = some (.cells c 27 (0, 0))) (hc : c.size = 10) : (loadVar 27 ⟨A, 0, none⟩).run Tryz.prog w = .ok (.agg c) w :=
  run_loadVar_row (P := Tryz.prog) w A 27 27 c (0, 0) _ h Tryz.underlying27 rfl (by rw [hc]; kernel_rfl)
set_option maxRecDepth 100000 in
theorem results6_run {w : World} {A : Nat} {v0 v1 v2 v3 v4 v5 v6 v7 v8 v9 : Value} (tmps : Array Value) (h2 : tmps[2]? = some (.pointer (some ⟨A, 0, none⟩))) (h : w.heap[A]? = some (.cells #[v0, v1, v2, v3, v4, v5, v6, v7, v8, v9] 27 (0, 0))) :
    (results Tryz.f6 tmps).run Tryz.prog w = .ok (.agg #[v0, v1, v2, v3, v4, v5, v6, v7, v8, v9]) w := by
  obtain ⟨x0, x1, x2, x3, x4, x5, x6, x7, x8, x9⟩ := cells10 h
  simp [results, Tryz.results6, go_sem, h2, x0, x1, x2, x3, x4, x5, x6, x7, x8, x9]
set_option maxRecDepth 100000 in
set_option maxHeartbeats 2000000 in
theorem envelope_any {w : World} (he : Env w) {vl : Value} {l : List (Bs × Bs)} (h : RL w vl 2 (l.map fR)) (hl : l.length ≤ 1000000) (hf : ∀ f ∈ l, f.1.length ≤ 10000000 ∧ f.2.length ≤ 10000) :
    Calls Tryz.prog 6 #[vl] w fun e w' => (∃ v, e = .returned v ∧ EvV w' v l) ∧ Below w.heap.size w w' := by
  have HRL := hid h
  have HE := hid he
  have HT : Hid (∀ n W, Env W → RL W vl 2 (l.map fR) → Calls Tryz.prog 17 #[vl, .string (str n)] W fun e w' => (∃ v, e = .returned v ∧ ∃ B, W.heap.size ≤ B ∧ RO w' B 9 1 v ((textP l n).map sR)) ∧ Below W.heap.size W w') := fun n W e h => text_any e n h hl (fun f hf' => ⟨(hf f hf').1, by have := (hf f hf').2; omega⟩)
  have HA : Hid (∀ n W, RL W vl 2 (l.map fR) → Calls Tryz.prog 16 #[vl, .string (str n)] W fun e w' => (∃ v, e = .returned v ∧ ∃ B, W.heap.size ≤ B ∧ RO w' B 42 3 v ((addrP l n).map adR)) ∧ Below W.heap.size W w') := fun n W h => addrs_any n h hl (fun f hf' => ⟨(hf f hf').1, by have := (hf f hf').2; omega⟩)
  have HAl : Hid (∀ n, (addrP l n).length ≤ 10000) := fun n => addr_len n (fun f hf' => (hf f hf').2)
  have HTl : Hid (∀ n, (textP l n).length ≤ 1) := fun n => text_len l n
  have hal : Below w.heap.size w (w.alloc (.cells #[.slice none 0 0, .slice none 0 0, .slice none 0 0, .slice none 0 0, .slice none 0 0, .slice none 0 0, .slice none 0 0, .slice none 0 0, .slice none 0 0, .slice none 0 0] 27)) := (Below.refl _ _).alloc (Nat.le_refl _) _
  have HB0 := hid hal
  have HZ0 := hid (heap_alloc_new w (.cells #[.slice none 0 0, .slice none 0 0, .slice none 0 0, .slice none 0 0, .slice none 0 0, .slice none 0 0, .slice none 0 0, .slice none 0 0, .slice none 0 0, .slice none 0 0] 27))
  obtain ⟨hw, a, c, rfl, hc, hr⟩ := h
  rw [List.length_map] at *
  clear hal hr hw he hf
  go_enter Tryz.func6, Tryz.ntmps6
  go_wp2_with fail
  refine (HA.out nFrom _ (HRL.out.later HB0.out)).mono ?_
  rintro e w1 ⟨⟨vF, rfl, BF, _, ho⟩, hb⟩
  have OF_1 := hid ho
  have HB1 := hid (HB0.out.trans (hb.mono HB0.out.size))
  have HZ1 : Hid (w1.heap[w.heap.size]? = some (.cells #[.slice none 0 0, .slice none 0 0, .slice none 0 0, .slice none 0 0, .slice none 0 0, .slice none 0 0, .slice none 0 0, .slice none 0 0, .slice none 0 0, .slice none 0 0] 27 (0, 0))) := by rw [Hid, hb.block _ (lt_of_some HZ0.out)]; exact HZ0.out
  obtain ⟨aF, cF, hv⟩ := ho.sliceN (n := (addrP l nFrom).length) (by simp)
  subst hv
  clear ho hb HB0 HZ0
  go_wp2_with fail
  refine (HT.out nDate _ (HE.out.later HB1.out) (HRL.out.later HB1.out)).mono ?_
  rintro e w2 ⟨⟨v0, rfl, B0, _, ho⟩, hb⟩
  have O0_2 := hid ho
  have OF_2 := hid (OF_1.out.later hb)
  have HB2 := hid (HB1.out.trans (hb.mono HB1.out.size))
  have HZ2 : Hid (w2.heap[w.heap.size]? = some (.cells #[.slice none 0 0, .slice none 0 0, .slice none 0 0, .slice none 0 0, .slice none 0 0, .slice none 0 0, .slice none 0 0, .slice none 0 0, .slice none 0 0, .slice none 0 0] 27 (0, 0))) := by rw [Hid, hb.block _ (lt_of_some HZ1.out)]; exact HZ1.out
  obtain ⟨a0, c0, hv⟩ := ho.sliceN (n := (textP l nDate).length) (by simp)
  subst hv
  clear ho hb OF_1 HB1 HZ1
  go_wp2_with fail
  refine (HT.out nSubj _ (HE.out.later HB2.out) (HRL.out.later HB2.out)).mono ?_
  rintro e w3 ⟨⟨v1, rfl, B1, _, ho⟩, hb⟩
  have O1_3 := hid ho
  have OF_3 := hid (OF_2.out.later hb)
  have O0_3 := hid (O0_2.out.later hb)
  have HB3 := hid (HB2.out.trans (hb.mono HB2.out.size))
  have HZ3 : Hid (w3.heap[w.heap.size]? = some (.cells #[.slice none 0 0, .slice none 0 0, .slice none 0 0, .slice none 0 0, .slice none 0 0, .slice none 0 0, .slice none 0 0, .slice none 0 0, .slice none 0 0, .slice none 0 0] 27 (0, 0))) := by rw [Hid, hb.block _ (lt_of_some HZ2.out)]; exact HZ2.out
  obtain ⟨a1, c1, hv⟩ := ho.sliceN (n := (textP l nSubj).length) (by simp)
  subst hv
  clear ho hb OF_2 O0_2 HB2 HZ2
  go_wp2_with fail
  refine (HA.out nSend _ (HRL.out.later HB3.out)).mono ?_
  rintro e w4 ⟨⟨vS, rfl, BS, _, ho⟩, hb⟩
  have OS_4 := hid ho
  have OF_4 := hid (OF_3.out.later hb)
  have O0_4 := hid (O0_3.out.later hb)
  have O1_4 := hid (O1_3.out.later hb)
  have HB4 := hid (HB3.out.trans (hb.mono HB3.out.size))
  have HZ4 : Hid (w4.heap[w.heap.size]? = some (.cells #[.slice none 0 0, .slice none 0 0, .slice none 0 0, .slice none 0 0, .slice none 0 0, .slice none 0 0, .slice none 0 0, .slice none 0 0, .slice none 0 0, .slice none 0 0] 27 (0, 0))) := by rw [Hid, hb.block _ (lt_of_some HZ3.out)]; exact HZ3.out
  obtain ⟨aS, cS, hv⟩ := ho.sliceN (n := (addrP l nSend).length) (by simp)
  subst hv
  clear ho hb OF_3 O0_3 O1_3 HB3 HZ3
  go_wp2_with fail
  refine (either_any OS_4.out OF_4.out (Nat.le_trans (HAl.out _) (by omega)) (Nat.le_trans (HAl.out _) (by omega))).mono ?_
  rintro e w5 ⟨⟨v3, rfl, B3, ho⟩, hb⟩
  have O3_5 := hid ho
  have OF_5 := hid (OF_4.out.later hb)
  have O0_5 := hid (O0_4.out.later hb)
  have O1_5 := hid (O1_4.out.later hb)
  have OS_5 := hid (OS_4.out.later hb)
  have HB5 := hid (HB4.out.trans (hb.mono HB4.out.size))
  have HZ5 : Hid (w5.heap[w.heap.size]? = some (.cells #[.slice none 0 0, .slice none 0 0, .slice none 0 0, .slice none 0 0, .slice none 0 0, .slice none 0 0, .slice none 0 0, .slice none 0 0, .slice none 0 0, .slice none 0 0] 27 (0, 0))) := by rw [Hid, hb.block _ (lt_of_some HZ4.out)]; exact HZ4.out
  obtain ⟨a3, c3, hv⟩ := ho.sliceN (n := (eitherP (addrP l nSend) (addrP l nFrom)).length) (by simp)
  subst hv
  clear ho hb OF_4 O0_4 O1_4 OS_4 HB4 HZ4
  go_wp2_with fail
  refine (HA.out nRepl _ (HRL.out.later HB5.out)).mono ?_
  rintro e w6 ⟨⟨vR, rfl, BR, _, ho⟩, hb⟩
  have OR_6 := hid ho
  have OF_6 := hid (OF_5.out.later hb)
  have O0_6 := hid (O0_5.out.later hb)
  have O1_6 := hid (O1_5.out.later hb)
  have OS_6 := hid (OS_5.out.later hb)
  have O3_6 := hid (O3_5.out.later hb)
  have HB6 := hid (HB5.out.trans (hb.mono HB5.out.size))
  have HZ6 : Hid (w6.heap[w.heap.size]? = some (.cells #[.slice none 0 0, .slice none 0 0, .slice none 0 0, .slice none 0 0, .slice none 0 0, .slice none 0 0, .slice none 0 0, .slice none 0 0, .slice none 0 0, .slice none 0 0] 27 (0, 0))) := by rw [Hid, hb.block _ (lt_of_some HZ5.out)]; exact HZ5.out
  obtain ⟨aR, cR, hv⟩ := ho.sliceN (n := (addrP l nRepl).length) (by simp)
  subst hv
  clear ho hb OF_5 O0_5 O1_5 OS_5 O3_5 HB5 HZ5
  go_wp2_with fail
  refine (either_any OR_6.out OF_6.out (Nat.le_trans (HAl.out _) (by omega)) (Nat.le_trans (HAl.out _) (by omega))).mono ?_
  rintro e w7 ⟨⟨v4, rfl, B4, ho⟩, hb⟩
  have O4_7 := hid ho
  have OF_7 := hid (OF_6.out.later hb)
  have O0_7 := hid (O0_6.out.later hb)
  have O1_7 := hid (O1_6.out.later hb)
  have OS_7 := hid (OS_6.out.later hb)
  have O3_7 := hid (O3_6.out.later hb)
  have OR_7 := hid (OR_6.out.later hb)
  have HB7 := hid (HB6.out.trans (hb.mono HB6.out.size))
  have HZ7 : Hid (w7.heap[w.heap.size]? = some (.cells #[.slice none 0 0, .slice none 0 0, .slice none 0 0, .slice none 0 0, .slice none 0 0, .slice none 0 0, .slice none 0 0, .slice none 0 0, .slice none 0 0, .slice none 0 0] 27 (0, 0))) := by rw [Hid, hb.block _ (lt_of_some HZ6.out)]; exact HZ6.out
  obtain ⟨a4, c4, hv⟩ := ho.sliceN (n := (eitherP (addrP l nRepl) (addrP l nFrom)).length) (by simp)
  subst hv
  clear ho hb OF_6 O0_6 O1_6 OS_6 O3_6 OR_6 HB6 HZ6
  go_wp2_with fail
  refine (HA.out nTo _ (HRL.out.later HB7.out)).mono ?_
  rintro e w8 ⟨⟨v5, rfl, B5, _, ho⟩, hb⟩
  have O5_8 := hid ho
  have OF_8 := hid (OF_7.out.later hb)
  have O0_8 := hid (O0_7.out.later hb)
  have O1_8 := hid (O1_7.out.later hb)
  have OS_8 := hid (OS_7.out.later hb)
  have O3_8 := hid (O3_7.out.later hb)
  have OR_8 := hid (OR_7.out.later hb)
  have O4_8 := hid (O4_7.out.later hb)
  have HB8 := hid (HB7.out.trans (hb.mono HB7.out.size))
  have HZ8 : Hid (w8.heap[w.heap.size]? = some (.cells #[.slice none 0 0, .slice none 0 0, .slice none 0 0, .slice none 0 0, .slice none 0 0, .slice none 0 0, .slice none 0 0, .slice none 0 0, .slice none 0 0, .slice none 0 0] 27 (0, 0))) := by rw [Hid, hb.block _ (lt_of_some HZ7.out)]; exact HZ7.out
  obtain ⟨a5, c5, hv⟩ := ho.sliceN (n := (addrP l nTo).length) (by simp)
  subst hv
  clear ho hb OF_7 O0_7 O1_7 OS_7 O3_7 OR_7 O4_7 HB7 HZ7
  go_wp2_with fail
  refine (HA.out nCc _ (HRL.out.later HB8.out)).mono ?_
  rintro e w9 ⟨⟨v6, rfl, B6, _, ho⟩, hb⟩
  have O6_9 := hid ho
  have OF_9 := hid (OF_8.out.later hb)
  have O0_9 := hid (O0_8.out.later hb)
  have O1_9 := hid (O1_8.out.later hb)
  have OS_9 := hid (OS_8.out.later hb)
  have O3_9 := hid (O3_8.out.later hb)
  have OR_9 := hid (OR_8.out.later hb)
  have O4_9 := hid (O4_8.out.later hb)
  have O5_9 := hid (O5_8.out.later hb)
  have HB9 := hid (HB8.out.trans (hb.mono HB8.out.size))
  have HZ9 : Hid (w9.heap[w.heap.size]? = some (.cells #[.slice none 0 0, .slice none 0 0, .slice none 0 0, .slice none 0 0, .slice none 0 0, .slice none 0 0, .slice none 0 0, .slice none 0 0, .slice none 0 0, .slice none 0 0] 27 (0, 0))) := by rw [Hid, hb.block _ (lt_of_some HZ8.out)]; exact HZ8.out
  obtain ⟨a6, c6, hv⟩ := ho.sliceN (n := (addrP l nCc).length) (by simp)
  subst hv
  clear ho hb OF_8 O0_8 O1_8 OS_8 O3_8 OR_8 O4_8 O5_8 HB8 HZ8
  go_wp2_with fail
  refine (HA.out nBcc _ (HRL.out.later HB9.out)).mono ?_
  rintro e w10 ⟨⟨v7, rfl, B7, _, ho⟩, hb⟩
  have O7_10 := hid ho
  have OF_10 := hid (OF_9.out.later hb)
  have O0_10 := hid (O0_9.out.later hb)
  have O1_10 := hid (O1_9.out.later hb)
  have OS_10 := hid (OS_9.out.later hb)
  have O3_10 := hid (O3_9.out.later hb)
  have OR_10 := hid (OR_9.out.later hb)
  have O4_10 := hid (O4_9.out.later hb)
  have O5_10 := hid (O5_9.out.later hb)
  have O6_10 := hid (O6_9.out.later hb)
  have HB10 := hid (HB9.out.trans (hb.mono HB9.out.size))
  have HZ10 : Hid (w10.heap[w.heap.size]? = some (.cells #[.slice none 0 0, .slice none 0 0, .slice none 0 0, .slice none 0 0, .slice none 0 0, .slice none 0 0, .slice none 0 0, .slice none 0 0, .slice none 0 0, .slice none 0 0] 27 (0, 0))) := by rw [Hid, hb.block _ (lt_of_some HZ9.out)]; exact HZ9.out
  obtain ⟨a7, c7, hv⟩ := ho.sliceN (n := (addrP l nBcc).length) (by simp)
  subst hv
  clear ho hb OF_9 O0_9 O1_9 OS_9 O3_9 OR_9 O4_9 O5_9 O6_9 HB9 HZ9
  go_wp2_with fail
  refine (HT.out nInRe _ (HE.out.later HB10.out) (HRL.out.later HB10.out)).mono ?_
  rintro e w11 ⟨⟨v8, rfl, B8, _, ho⟩, hb⟩
  have O8_11 := hid ho
  have OF_11 := hid (OF_10.out.later hb)
  have O0_11 := hid (O0_10.out.later hb)
  have O1_11 := hid (O1_10.out.later hb)
  have OS_11 := hid (OS_10.out.later hb)
  have O3_11 := hid (O3_10.out.later hb)
  have OR_11 := hid (OR_10.out.later hb)
  have O4_11 := hid (O4_10.out.later hb)
  have O5_11 := hid (O5_10.out.later hb)
  have O6_11 := hid (O6_10.out.later hb)
  have O7_11 := hid (O7_10.out.later hb)
  have HB11 := hid (HB10.out.trans (hb.mono HB10.out.size))
  have HZ11 : Hid (w11.heap[w.heap.size]? = some (.cells #[.slice none 0 0, .slice none 0 0, .slice none 0 0, .slice none 0 0, .slice none 0 0, .slice none 0 0, .slice none 0 0, .slice none 0 0, .slice none 0 0, .slice none 0 0] 27 (0, 0))) := by rw [Hid, hb.block _ (lt_of_some HZ10.out)]; exact HZ10.out
  obtain ⟨a8, c8, hv⟩ := ho.sliceN (n := (textP l nInRe).length) (by simp)
  subst hv
  clear ho hb OF_10 O0_10 O1_10 OS_10 O3_10 OR_10 O4_10 O5_10 O6_10 O7_10 HB10 HZ10
  go_wp2_with fail
  refine (HT.out nId _ (HE.out.later HB11.out) (HRL.out.later HB11.out)).mono ?_
  rintro e w12 ⟨⟨v9, rfl, B9, _, ho⟩, hb⟩
  have O9_12 := hid ho
  have OF_12 := hid (OF_11.out.later hb)
  have O0_12 := hid (O0_11.out.later hb)
  have O1_12 := hid (O1_11.out.later hb)
  have OS_12 := hid (OS_11.out.later hb)
  have O3_12 := hid (O3_11.out.later hb)
  have OR_12 := hid (OR_11.out.later hb)
  have O4_12 := hid (O4_11.out.later hb)
  have O5_12 := hid (O5_11.out.later hb)
  have O6_12 := hid (O6_11.out.later hb)
  have O7_12 := hid (O7_11.out.later hb)
  have O8_12 := hid (O8_11.out.later hb)
  have HB12 := hid (HB11.out.trans (hb.mono HB11.out.size))
  have HZ12 : Hid (w12.heap[w.heap.size]? = some (.cells #[.slice none 0 0, .slice none 0 0, .slice none 0 0, .slice none 0 0, .slice none 0 0, .slice none 0 0, .slice none 0 0, .slice none 0 0, .slice none 0 0, .slice none 0 0] 27 (0, 0))) := by rw [Hid, hb.block _ (lt_of_some HZ11.out)]; exact HZ11.out
  obtain ⟨a9, c9, hv⟩ := ho.sliceN (n := (textP l nId).length) (by simp)
  subst hv
  clear ho hb OF_11 O0_11 O1_11 OS_11 O3_11 OR_11 O4_11 O5_11 O6_11 O7_11 O8_11 HB11 HZ11
  have HU : Hid ((#[.slice a0 (textP l nDate).length c0, .slice a1 (textP l nSubj).length c1, .slice aF (addrP l nFrom).length cF, .slice a3 (eitherP (addrP l nSend) (addrP l nFrom)).length c3, .slice a4 (eitherP (addrP l nRepl) (addrP l nFrom)).length c4, .slice a5 (addrP l nTo).length c5, .slice a6 (addrP l nCc).length c6, .slice a7 (addrP l nBcc).length c7, .slice a8 (textP l nInRe).length c8, .slice a9 (textP l nId).length c9] : Array Value).all (·.oneCell') = true) := by rw [Hid]; simp [Value.oneCell']
  go_wp2_with (refine wpList_store27 (A := w.heap.size) (c := #[.slice a0 (textP l nDate).length c0, .slice a1 (textP l nSubj).length c1, .slice aF (addrP l nFrom).length cF, .slice a3 (eitherP (addrP l nSend) (addrP l nFrom)).length c3, .slice a4 (eitherP (addrP l nRepl) (addrP l nFrom)).length c4, .slice a5 (addrP l nTo).length c5, .slice a6 (addrP l nCc).length c6, .slice a7 (addrP l nBcc).length c7, .slice a8 (textP l nInRe).length c8, .slice a9 (textP l nId).length c9]) rfl rfl HZ12.out rfl rfl HU.out ?_)
  have HW := hid (setRow_heap w12 w.heap.size _ #[.slice a0 (textP l nDate).length c0, .slice a1 (textP l nSubj).length c1, .slice aF (addrP l nFrom).length cF, .slice a3 (eitherP (addrP l nSend) (addrP l nFrom)).length c3, .slice a4 (eitherP (addrP l nRepl) (addrP l nFrom)).length c4, .slice a5 (addrP l nTo).length c5, .slice a6 (addrP l nCc).length c6, .slice a7 (addrP l nBcc).length c7, .slice a8 (textP l nInRe).length c8, .slice a9 (textP l nId).length c9] 27 _ HZ12.out)
  refine bodyPost_ret (w := w12.setRow w.heap.size #[.slice a0 (textP l nDate).length c0, .slice a1 (textP l nSubj).length c1, .slice aF (addrP l nFrom).length cF, .slice a3 (eitherP (addrP l nSend) (addrP l nFrom)).length c3, .slice a4 (eitherP (addrP l nRepl) (addrP l nFrom)).length c4, .slice a5 (addrP l nTo).length c5, .slice a6 (addrP l nCc).length c6, .slice a7 (addrP l nBcc).length c7, .slice a8 (textP l nInRe).length c8, .slice a9 (textP l nId).length c9]) (results6_run _ rfl HW.out) rfl ?_
  exact ⟨⟨_, rfl, _, _, _, _, _, _, _, _, _, _, rfl, (O0_12.out.setRow (by decide) HZ12.out _).rl, (O1_12.out.setRow (by decide) HZ12.out _).rl, (O8_12.out.setRow (by decide) HZ12.out _).rl, (O9_12.out.setRow (by decide) HZ12.out _).rl, (OF_12.out.setRow (by decide) HZ12.out _).rl, (O3_12.out.setRow (by decide) HZ12.out _).rl, (O4_12.out.setRow (by decide) HZ12.out _).rl, (O5_12.out.setRow (by decide) HZ12.out _).rl, (O6_12.out.setRow (by decide) HZ12.out _).rl, (O7_12.out.setRow (by decide) HZ12.out _).rl⟩, below_setRow HB12.out (Nat.le_refl _) _⟩
end Go.Proofs.YtemgpghjolpneaaGreatDoor
