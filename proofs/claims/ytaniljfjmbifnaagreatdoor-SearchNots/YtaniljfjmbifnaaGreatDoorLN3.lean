/- What this text holds: what the statement about keys that deny and join comes to, where its keys answer true and true. -/
import Derived.Test.YtaniljfjmbifnaaGreatDoorKX5
namespace Go.Proofs.YtaniljfjmbifnaaGreatDoor.searchNots
open Go.Proofs.YtaniljfjmbifnaaGreatDoor.H
open Go.ChangeShapes Go.WideShapes Go.ChangeAt Go.RowKit
set_option linter.unusedVariables false
set_option linter.unusedSimpArgs false
set_option maxRecDepth 100000 in
set_option maxHeartbeats 60000000 in
theorem walk3 {w : World} (ra : Ky) (va : Kv) (hKa : KOk w ra va ∧ BigK va) (rb : Ky) (vb : Kv) (hKb : KOk w rb vb ∧ BigK vb) (m : Ml) (l : List Bs) (hm : MailOk w m.fa m.fn m.fc l m.text) (seq most : Int) (hE : Env w) (hs : -9223372036854775808 ≤ seq ∧ seq ≤ 9223372036854775807) (hza : matchB (leafB (m.lk seq most most) l) va = true) (hzb : matchB (leafB (m.lk seq most most) l) vb = true) (hmo : -9223372036854775808 ≤ most ∧ most ≤ 9223372036854775807) :
    Calls Tryz.prog 5 #[kyV ra, kyV rb, m.v, .int .i64 seq, .int .i64 most] w fun e w' => e = .returned (.bool true) ∧ Below w.heap.size w w' := by
  show Calls Tryz.prog 5 #[.agg #[.string (str ra.op), .string (str ra.text), .string (str ra.field), .int .i64 ra.n, .slice ra.set.1 ra.set.2.1 ra.set.2.2, .slice ra.kids.1 ra.kids.2.1 ra.kids.2.2], .agg #[.string (str rb.op), .string (str rb.text), .string (str rb.field), .int .i64 rb.n, .slice rb.set.1 rb.set.2.1 rb.set.2.2, .slice rb.kids.1 rb.kids.2.1 rb.kids.2.2], .agg #[.int .i64 m.uid, .slice m.fa m.fn m.fc, .int .i64 m.d1, .int .i64 m.d2, .int .i64 m.d3, .int .i64 m.d4, .int .i64 m.d5, .int .i64 m.d6, .int .i64 m.d7, .string (str m.text), .int .i64 m.size, .int .i64 m.id], .int .i64 seq, .int .i64 most] w _
  obtain ⟨w1, hw1⟩ : ∃ w1, w.alloc (.cells #[.string (str ra.op), .string (str ra.text), .string (str ra.field), .int .i64 ra.n, .slice ra.set.1 ra.set.2.1 ra.set.2.2, .slice ra.kids.1 ra.kids.2.1 ra.kids.2.2] 28) = w1 := ⟨_, rfl⟩
  have b1 : Below w.heap.size w w1 := by rw [← hw1]; exact (Below.refl _ _).alloc (Nat.le_refl _) _
  have s1 : w1.heap.size = w.heap.size + 1 := by rw [← hw1]; simp
  have n1 : w1.heap[w.heap.size]? = some (.cells #[.string (str ra.op), .string (str ra.text), .string (str ra.field), .int .i64 ra.n, .slice ra.set.1 ra.set.2.1 ra.set.2.2, .slice ra.kids.1 ra.kids.2.1 ra.kids.2.2] 28 (0, 0)) := by rw [← hw1]; exact heap_alloc_new _ _
  obtain ⟨w2, hw2⟩ : ∃ w2, w1.alloc (.cells #[.string (str rb.op), .string (str rb.text), .string (str rb.field), .int .i64 rb.n, .slice rb.set.1 rb.set.2.1 rb.set.2.2, .slice rb.kids.1 rb.kids.2.1 rb.kids.2.2] 28) = w2 := ⟨_, rfl⟩
  have b2 : Below w1.heap.size w1 w2 := by rw [← hw2]; exact (Below.refl _ _).alloc (Nat.le_refl _) _
  have s2 : w2.heap.size = w1.heap.size + 1 := by rw [← hw2]; simp
  have n2 : w2.heap[w1.heap.size]? = some (.cells #[.string (str rb.op), .string (str rb.text), .string (str rb.field), .int .i64 rb.n, .slice rb.set.1 rb.set.2.1 rb.set.2.2, .slice rb.kids.1 rb.kids.2.1 rb.kids.2.2] 28 (0, 0)) := by rw [← hw2]; exact heap_alloc_new _ _
  obtain ⟨w3, hw3⟩ : ∃ w3, w2.alloc (.cells #[.int .i64 m.uid, .slice m.fa m.fn m.fc, .int .i64 m.d1, .int .i64 m.d2, .int .i64 m.d3, .int .i64 m.d4, .int .i64 m.d5, .int .i64 m.d6, .int .i64 m.d7, .string (str m.text), .int .i64 m.size, .int .i64 m.id] 33) = w3 := ⟨_, rfl⟩
  have b3 : Below w2.heap.size w2 w3 := by rw [← hw3]; exact (Below.refl _ _).alloc (Nat.le_refl _) _
  have s3 : w3.heap.size = w2.heap.size + 1 := by rw [← hw3]; simp
  have n3 : w3.heap[w2.heap.size]? = some (.cells #[.int .i64 m.uid, .slice m.fa m.fn m.fc, .int .i64 m.d1, .int .i64 m.d2, .int .i64 m.d3, .int .i64 m.d4, .int .i64 m.d5, .int .i64 m.d6, .int .i64 m.d7, .string (str m.text), .int .i64 m.size, .int .i64 m.id] 33 (0, 0)) := by rw [← hw3]; exact heap_alloc_new _ _
  obtain ⟨w4, hw4⟩ : ∃ w4, w3.alloc (.cells #[.int .i64 seq] 3) = w4 := ⟨_, rfl⟩
  have b4 : Below w3.heap.size w3 w4 := by rw [← hw4]; exact (Below.refl _ _).alloc (Nat.le_refl _) _
  have s4 : w4.heap.size = w3.heap.size + 1 := by rw [← hw4]; simp
  have n4 : w4.heap[w3.heap.size]? = some (.cells #[.int .i64 seq] 3 (0, 0)) := by rw [← hw4]; exact heap_alloc_new _ _
  obtain ⟨w5, hw5⟩ : ∃ w5, w4.alloc (.cells #[.int .i64 most] 3) = w5 := ⟨_, rfl⟩
  have b5 : Below w4.heap.size w4 w5 := by rw [← hw5]; exact (Below.refl _ _).alloc (Nat.le_refl _) _
  have s5 : w5.heap.size = w4.heap.size + 1 := by rw [← hw5]; simp
  have n5 : w5.heap[w4.heap.size]? = some (.cells #[.int .i64 most] 3 (0, 0)) := by rw [← hw5]; exact heap_alloc_new _ _
  have t2 : Below w1.heap.size w1 w5 := ((b2.trans (b3.mono (by omega))).trans (b4.mono (by omega))).trans (b5.mono (by omega))
  have t3 : Below w2.heap.size w2 w5 := (b3.trans (b4.mono (by omega))).trans (b5.mono (by omega))
  have t4 : Below w3.heap.size w3 w5 := b4.trans (b5.mono (by omega))
  have bw : Below w.heap.size w w5 := b1.trans (t2.mono (by omega))
  have HBW := hid bw
  have HA : Hid (KyAt w5 w.heap.size ra) := (t2.block _ (by omega)).trans n1
  have HBb : Hid (KyAt w5 w1.heap.size rb) := (t3.block _ (by omega)).trans n2
  have HM : Hid (MlAt w5 w2.heap.size m) := (t4.block _ (by omega)).trans n3
  have HS : Hid (w5.heap[w3.heap.size]? = some (.cells #[.int .i64 seq] 3 (0, 0))) := (b5.block _ (by omega)).trans n4
  have HO : Hid (w5.heap[w4.heap.size]? = some (.cells #[.int .i64 most] 3 (0, 0))) := n5
  have HE := hid (hE.later bw)
  have HKa := hid (hKa.1.later bw)
  have HKb := hid (hKb.1.later bw)
  have HFl : Hid (RL w5 (.slice m.fa m.fn m.fc) 1 (l.map sR)) := hm.1.rl.later bw
  have CFa := hid (fun (w0 : World) (h0 : Below w5.heap.size w5 w0) => fewk_any m l ⟨(hm.1.later bw).later h0, hm.2⟩ ra (HKa.out.later h0) hKa.2)
  have CFb := hid (fun (w0 : World) (h0 : Below w5.heap.size w5 w0) => fewk_any m l ⟨(hm.1.later bw).later h0, hm.2⟩ rb (HKb.out.later h0) hKb.2)
  have CA := hid (fun (w0 : World) (h0 : Below w5.heap.size w5 w0) => alive_any (HE.out.later h0) (HE.out.later h0).pos)
  have B0 := hid (Below.refl w5.heap.size w5)
  clear hKa hKb hm hE bw t2 t3 t4 b1 b2 b3 b4 b5 s1 s2 s3 s4 s5 n1 n2 n3 n4 n5
  have ka0 : w5.cell? ⟨w.heap.size, 0, none⟩ = some (.string (str ra.op)) := cell_of (HA.out.later B0.out) rfl
  have ka1 : w5.cell? ⟨w.heap.size, 1, none⟩ = some (.string (str ra.text)) := cell_of (HA.out.later B0.out) rfl
  have ka2 : w5.cell? ⟨w.heap.size, 2, none⟩ = some (.string (str ra.field)) := cell_of (HA.out.later B0.out) rfl
  have ka3 : w5.cell? ⟨w.heap.size, 3, none⟩ = some (.int .i64 ra.n) := cell_of (HA.out.later B0.out) rfl
  have ka4 : w5.cell? ⟨w.heap.size, 4, none⟩ = some (.slice ra.set.1 ra.set.2.1 ra.set.2.2) := cell_of (HA.out.later B0.out) rfl
  have ka5 : w5.cell? ⟨w.heap.size, 5, none⟩ = some (.slice ra.kids.1 ra.kids.2.1 ra.kids.2.2) := cell_of (HA.out.later B0.out) rfl
  have kb0 : w5.cell? ⟨w1.heap.size, 0, none⟩ = some (.string (str rb.op)) := cell_of (HBb.out.later B0.out) rfl
  have kb1 : w5.cell? ⟨w1.heap.size, 1, none⟩ = some (.string (str rb.text)) := cell_of (HBb.out.later B0.out) rfl
  have kb2 : w5.cell? ⟨w1.heap.size, 2, none⟩ = some (.string (str rb.field)) := cell_of (HBb.out.later B0.out) rfl
  have kb3 : w5.cell? ⟨w1.heap.size, 3, none⟩ = some (.int .i64 rb.n) := cell_of (HBb.out.later B0.out) rfl
  have kb4 : w5.cell? ⟨w1.heap.size, 4, none⟩ = some (.slice rb.set.1 rb.set.2.1 rb.set.2.2) := cell_of (HBb.out.later B0.out) rfl
  have kb5 : w5.cell? ⟨w1.heap.size, 5, none⟩ = some (.slice rb.kids.1 rb.kids.2.1 rb.kids.2.2) := cell_of (HBb.out.later B0.out) rfl
  have cm0 : w5.cell? ⟨w2.heap.size, 0, none⟩ = some (.int .i64 m.uid) := cell_of (HM.out.later B0.out) rfl
  have cm1 : w5.cell? ⟨w2.heap.size, 1, none⟩ = some (.slice m.fa m.fn m.fc) := cell_of (HM.out.later B0.out) rfl
  have cm2 : w5.cell? ⟨w2.heap.size, 2, none⟩ = some (.int .i64 m.d1) := cell_of (HM.out.later B0.out) rfl
  have cm3 : w5.cell? ⟨w2.heap.size, 3, none⟩ = some (.int .i64 m.d2) := cell_of (HM.out.later B0.out) rfl
  have cm4 : w5.cell? ⟨w2.heap.size, 4, none⟩ = some (.int .i64 m.d3) := cell_of (HM.out.later B0.out) rfl
  have cm5 : w5.cell? ⟨w2.heap.size, 5, none⟩ = some (.int .i64 m.d4) := cell_of (HM.out.later B0.out) rfl
  have cm6 : w5.cell? ⟨w2.heap.size, 6, none⟩ = some (.int .i64 m.d5) := cell_of (HM.out.later B0.out) rfl
  have cm7 : w5.cell? ⟨w2.heap.size, 7, none⟩ = some (.int .i64 m.d6) := cell_of (HM.out.later B0.out) rfl
  have cm8 : w5.cell? ⟨w2.heap.size, 8, none⟩ = some (.int .i64 m.d7) := cell_of (HM.out.later B0.out) rfl
  have cm9 : w5.cell? ⟨w2.heap.size, 9, none⟩ = some (.string (str m.text)) := cell_of (HM.out.later B0.out) rfl
  have cm10 : w5.cell? ⟨w2.heap.size, 10, none⟩ = some (.int .i64 m.size) := cell_of (HM.out.later B0.out) rfl
  have cm11 : w5.cell? ⟨w2.heap.size, 11, none⟩ = some (.int .i64 m.id) := cell_of (HM.out.later B0.out) rfl
  go_enter Tryz.func5, Tryz.ntmps5
  go_wp2_with fail
  refine (CFa.out _ B0.out).mono ?_
  rintro e w6 ⟨⟨z, rfl, hz⟩, b⟩
  have B1 := hid b
  have HZa := hid hz
  clear b hz
  clear ka0 ka1 ka2 ka3 ka4 ka5 kb0 kb1 kb2 kb3 kb4 kb5 cm0 cm1 cm2 cm3 cm4 cm5 cm6 cm7 cm8 cm9 cm10 cm11
  cases z
  · go_wp2_with fail
    refine (CA.out _ B1.out).mono ?_
    rintro e w9 ⟨rfl, b⟩
    have HBz := hid (HBW.out.trans ((B1.out.trans (b.mono B1.out.size)).mono HBW.out.size))
    clear b
    go_wp2_with fail
    go_ret
    exact ⟨rfl, HBz.out⟩
  have ha6 := HZa.out (by simp)
  have HZa2 := hid ha6
  clear ha6 HZa
  have ka0 : w6.cell? ⟨w.heap.size, 0, none⟩ = some (.string (str ra.op)) := cell_of (HA.out.later B1.out) rfl
  have ka1 : w6.cell? ⟨w.heap.size, 1, none⟩ = some (.string (str ra.text)) := cell_of (HA.out.later B1.out) rfl
  have ka2 : w6.cell? ⟨w.heap.size, 2, none⟩ = some (.string (str ra.field)) := cell_of (HA.out.later B1.out) rfl
  have ka3 : w6.cell? ⟨w.heap.size, 3, none⟩ = some (.int .i64 ra.n) := cell_of (HA.out.later B1.out) rfl
  have ka4 : w6.cell? ⟨w.heap.size, 4, none⟩ = some (.slice ra.set.1 ra.set.2.1 ra.set.2.2) := cell_of (HA.out.later B1.out) rfl
  have ka5 : w6.cell? ⟨w.heap.size, 5, none⟩ = some (.slice ra.kids.1 ra.kids.2.1 ra.kids.2.2) := cell_of (HA.out.later B1.out) rfl
  have kb0 : w6.cell? ⟨w1.heap.size, 0, none⟩ = some (.string (str rb.op)) := cell_of (HBb.out.later B1.out) rfl
  have kb1 : w6.cell? ⟨w1.heap.size, 1, none⟩ = some (.string (str rb.text)) := cell_of (HBb.out.later B1.out) rfl
  have kb2 : w6.cell? ⟨w1.heap.size, 2, none⟩ = some (.string (str rb.field)) := cell_of (HBb.out.later B1.out) rfl
  have kb3 : w6.cell? ⟨w1.heap.size, 3, none⟩ = some (.int .i64 rb.n) := cell_of (HBb.out.later B1.out) rfl
  have kb4 : w6.cell? ⟨w1.heap.size, 4, none⟩ = some (.slice rb.set.1 rb.set.2.1 rb.set.2.2) := cell_of (HBb.out.later B1.out) rfl
  have kb5 : w6.cell? ⟨w1.heap.size, 5, none⟩ = some (.slice rb.kids.1 rb.kids.2.1 rb.kids.2.2) := cell_of (HBb.out.later B1.out) rfl
  have cm0 : w6.cell? ⟨w2.heap.size, 0, none⟩ = some (.int .i64 m.uid) := cell_of (HM.out.later B1.out) rfl
  have cm1 : w6.cell? ⟨w2.heap.size, 1, none⟩ = some (.slice m.fa m.fn m.fc) := cell_of (HM.out.later B1.out) rfl
  have cm2 : w6.cell? ⟨w2.heap.size, 2, none⟩ = some (.int .i64 m.d1) := cell_of (HM.out.later B1.out) rfl
  have cm3 : w6.cell? ⟨w2.heap.size, 3, none⟩ = some (.int .i64 m.d2) := cell_of (HM.out.later B1.out) rfl
  have cm4 : w6.cell? ⟨w2.heap.size, 4, none⟩ = some (.int .i64 m.d3) := cell_of (HM.out.later B1.out) rfl
  have cm5 : w6.cell? ⟨w2.heap.size, 5, none⟩ = some (.int .i64 m.d4) := cell_of (HM.out.later B1.out) rfl
  have cm6 : w6.cell? ⟨w2.heap.size, 6, none⟩ = some (.int .i64 m.d5) := cell_of (HM.out.later B1.out) rfl
  have cm7 : w6.cell? ⟨w2.heap.size, 7, none⟩ = some (.int .i64 m.d6) := cell_of (HM.out.later B1.out) rfl
  have cm8 : w6.cell? ⟨w2.heap.size, 8, none⟩ = some (.int .i64 m.d7) := cell_of (HM.out.later B1.out) rfl
  have cm9 : w6.cell? ⟨w2.heap.size, 9, none⟩ = some (.string (str m.text)) := cell_of (HM.out.later B1.out) rfl
  have cm10 : w6.cell? ⟨w2.heap.size, 10, none⟩ = some (.int .i64 m.size) := cell_of (HM.out.later B1.out) rfl
  have cm11 : w6.cell? ⟨w2.heap.size, 11, none⟩ = some (.int .i64 m.id) := cell_of (HM.out.later B1.out) rfl
  go_wp2_with fail
  refine (CFb.out _ B1.out).mono ?_
  rintro e w7 ⟨⟨z, rfl, hz⟩, b⟩
  have B2 := hid (B1.out.trans (b.mono B1.out.size))
  have HZb := hid hz
  clear b hz
  clear ka0 ka1 ka2 ka3 ka4 ka5 kb0 kb1 kb2 kb3 kb4 kb5 cm0 cm1 cm2 cm3 cm4 cm5 cm6 cm7 cm8 cm9 cm10 cm11
  cases z
  · go_wp2_with fail
    refine (CA.out _ B2.out).mono ?_
    rintro e w9 ⟨rfl, b⟩
    have HBz := hid (HBW.out.trans ((B2.out.trans (b.mono B2.out.size)).mono HBW.out.size))
    clear b
    go_wp2_with fail
    go_ret
    exact ⟨rfl, HBz.out⟩
  have hb6 := HZb.out (by simp)
  have HZb2 := hid hb6
  clear hb6 HZb CFa CFb
  have ka0 : w7.cell? ⟨w.heap.size, 0, none⟩ = some (.string (str ra.op)) := cell_of (HA.out.later B2.out) rfl
  have ka1 : w7.cell? ⟨w.heap.size, 1, none⟩ = some (.string (str ra.text)) := cell_of (HA.out.later B2.out) rfl
  have ka2 : w7.cell? ⟨w.heap.size, 2, none⟩ = some (.string (str ra.field)) := cell_of (HA.out.later B2.out) rfl
  have ka3 : w7.cell? ⟨w.heap.size, 3, none⟩ = some (.int .i64 ra.n) := cell_of (HA.out.later B2.out) rfl
  have ka4 : w7.cell? ⟨w.heap.size, 4, none⟩ = some (.slice ra.set.1 ra.set.2.1 ra.set.2.2) := cell_of (HA.out.later B2.out) rfl
  have ka5 : w7.cell? ⟨w.heap.size, 5, none⟩ = some (.slice ra.kids.1 ra.kids.2.1 ra.kids.2.2) := cell_of (HA.out.later B2.out) rfl
  have kb0 : w7.cell? ⟨w1.heap.size, 0, none⟩ = some (.string (str rb.op)) := cell_of (HBb.out.later B2.out) rfl
  have kb1 : w7.cell? ⟨w1.heap.size, 1, none⟩ = some (.string (str rb.text)) := cell_of (HBb.out.later B2.out) rfl
  have kb2 : w7.cell? ⟨w1.heap.size, 2, none⟩ = some (.string (str rb.field)) := cell_of (HBb.out.later B2.out) rfl
  have kb3 : w7.cell? ⟨w1.heap.size, 3, none⟩ = some (.int .i64 rb.n) := cell_of (HBb.out.later B2.out) rfl
  have kb4 : w7.cell? ⟨w1.heap.size, 4, none⟩ = some (.slice rb.set.1 rb.set.2.1 rb.set.2.2) := cell_of (HBb.out.later B2.out) rfl
  have kb5 : w7.cell? ⟨w1.heap.size, 5, none⟩ = some (.slice rb.kids.1 rb.kids.2.1 rb.kids.2.2) := cell_of (HBb.out.later B2.out) rfl
  obtain ⟨w8, hw8⟩ : ∃ w8, w7.alloc (.cells #[.string (str ra.op), .string (str ra.text), .string (str ra.field), .int .i64 ra.n, .slice ra.set.1 ra.set.2.1 ra.set.2.2, .slice ra.kids.1 ra.kids.2.1 ra.kids.2.2, .string (str rb.op), .string (str rb.text), .string (str rb.field), .int .i64 rb.n, .slice rb.set.1 rb.set.2.1 rb.set.2.2, .slice rb.kids.1 rb.kids.2.1 rb.kids.2.2] 28) = w8 := ⟨_, rfl⟩
  have b8 : Below w7.heap.size w7 w8 := by rw [← hw8]; exact (Below.refl _ _).alloc (Nat.le_refl _) _
  have s8 : w8.heap.size = w7.heap.size + 1 := by rw [← hw8]; simp
  have n8 : w8.heap[w7.heap.size]? = some (.cells #[.string (str ra.op), .string (str ra.text), .string (str ra.field), .int .i64 ra.n, .slice ra.set.1 ra.set.2.1 ra.set.2.2, .slice ra.kids.1 ra.kids.2.1 ra.kids.2.2, .string (str rb.op), .string (str rb.text), .string (str rb.field), .int .i64 rb.n, .slice rb.set.1 rb.set.2.1 rb.set.2.2, .slice rb.kids.1 rb.kids.2.1 rb.kids.2.2] 28 (0, 0)) := by rw [← hw8]; exact heap_alloc_new _ _
  obtain ⟨w9, hw9⟩ : ∃ w9, w8.alloc (.cells #[.string ⟨#[79, 82]⟩, .string ⟨#[]⟩, .string ⟨#[]⟩, .int .i64 0, .slice none 0 0, .slice (some ⟨w7.heap.size, 0, none⟩) 2 2] 28) = w9 := ⟨_, rfl⟩
  have b9 : Below w8.heap.size w8 w9 := by rw [← hw9]; exact (Below.refl _ _).alloc (Nat.le_refl _) _
  have s9 : w9.heap.size = w8.heap.size + 1 := by rw [← hw9]; simp
  have n9 : w9.heap[w8.heap.size]? = some (.cells #[.string ⟨#[79, 82]⟩, .string ⟨#[]⟩, .string ⟨#[]⟩, .int .i64 0, .slice none 0 0, .slice (some ⟨w7.heap.size, 0, none⟩) 2 2] 28 (0, 0)) := by rw [← hw9]; exact heap_alloc_new _ _
  obtain ⟨w10, hw10⟩ : ∃ w10, w9.alloc (.cells #[.string (str ra.op), .string (str ra.text), .string (str ra.field), .int .i64 ra.n, .slice ra.set.1 ra.set.2.1 ra.set.2.2, .slice ra.kids.1 ra.kids.2.1 ra.kids.2.2, .string (str rb.op), .string (str rb.text), .string (str rb.field), .int .i64 rb.n, .slice rb.set.1 rb.set.2.1 rb.set.2.2, .slice rb.kids.1 rb.kids.2.1 rb.kids.2.2] 28) = w10 := ⟨_, rfl⟩
  have b10 : Below w9.heap.size w9 w10 := by rw [← hw10]; exact (Below.refl _ _).alloc (Nat.le_refl _) _
  have s10 : w10.heap.size = w9.heap.size + 1 := by rw [← hw10]; simp
  have n10 : w10.heap[w9.heap.size]? = some (.cells #[.string (str ra.op), .string (str ra.text), .string (str ra.field), .int .i64 ra.n, .slice ra.set.1 ra.set.2.1 ra.set.2.2, .slice ra.kids.1 ra.kids.2.1 ra.kids.2.2, .string (str rb.op), .string (str rb.text), .string (str rb.field), .int .i64 rb.n, .slice rb.set.1 rb.set.2.1 rb.set.2.2, .slice rb.kids.1 rb.kids.2.1 rb.kids.2.2] 28 (0, 0)) := by rw [← hw10]; exact heap_alloc_new _ _
  obtain ⟨w11, hw11⟩ : ∃ w11, w10.alloc (.cells #[.string ⟨#[65, 78, 68]⟩, .string ⟨#[]⟩, .string ⟨#[]⟩, .int .i64 0, .slice none 0 0, .slice (some ⟨w9.heap.size, 0, none⟩) 2 2] 28) = w11 := ⟨_, rfl⟩
  have b11 : Below w10.heap.size w10 w11 := by rw [← hw11]; exact (Below.refl _ _).alloc (Nat.le_refl _) _
  have s11 : w11.heap.size = w10.heap.size + 1 := by rw [← hw11]; simp
  have n11 : w11.heap[w10.heap.size]? = some (.cells #[.string ⟨#[65, 78, 68]⟩, .string ⟨#[]⟩, .string ⟨#[]⟩, .int .i64 0, .slice none 0 0, .slice (some ⟨w9.heap.size, 0, none⟩) 2 2] 28 (0, 0)) := by rw [← hw11]; exact heap_alloc_new _ _
  have hz7 := B2.out.size
  have B9 := hid ((B2.out.trans (b8.mono hz7)).trans (b9.mono (by omega)))
  have B11 := hid ((B9.out.trans (b10.mono (by omega))).trans (b11.mono (by omega)))
  have u9 : Below w8.heap.size w8 w11 := (b9.trans (b10.mono (by omega))).trans (b11.mono (by omega))
  have u10 : Below w9.heap.size w9 w11 := b10.trans (b11.mono (by omega))
  have HN8 : Hid (w11.heap[w7.heap.size]? = some (.cells (ra.c ++ rb.c).toArray 28 (0, 0))) := (u9.block _ (by omega)).trans n8
  have HN9 : Hid (KyAt w11 w8.heap.size (subK orN w7.heap.size 2)) := (u10.block _ (by omega)).trans n9
  have HN10 : Hid (w11.heap[w9.heap.size]? = some (.cells (ra.c ++ rb.c).toArray 28 (0, 0))) := (b11.block _ (by omega)).trans n10
  have HN11 : Hid (KyAt w11 w10.heap.size (subK andN w9.heap.size 2)) := n11
  have ga0 : w9.cell? ⟨w.heap.size, 0, none⟩ = some (.string (str ra.op)) := cell_of (HA.out.later B9.out) rfl
  have ga1 : w9.cell? ⟨w.heap.size, 1, none⟩ = some (.string (str ra.text)) := cell_of (HA.out.later B9.out) rfl
  have ga2 : w9.cell? ⟨w.heap.size, 2, none⟩ = some (.string (str ra.field)) := cell_of (HA.out.later B9.out) rfl
  have ga3 : w9.cell? ⟨w.heap.size, 3, none⟩ = some (.int .i64 ra.n) := cell_of (HA.out.later B9.out) rfl
  have ga4 : w9.cell? ⟨w.heap.size, 4, none⟩ = some (.slice ra.set.1 ra.set.2.1 ra.set.2.2) := cell_of (HA.out.later B9.out) rfl
  have ga5 : w9.cell? ⟨w.heap.size, 5, none⟩ = some (.slice ra.kids.1 ra.kids.2.1 ra.kids.2.2) := cell_of (HA.out.later B9.out) rfl
  have gb0 : w9.cell? ⟨w1.heap.size, 0, none⟩ = some (.string (str rb.op)) := cell_of (HBb.out.later B9.out) rfl
  have gb1 : w9.cell? ⟨w1.heap.size, 1, none⟩ = some (.string (str rb.text)) := cell_of (HBb.out.later B9.out) rfl
  have gb2 : w9.cell? ⟨w1.heap.size, 2, none⟩ = some (.string (str rb.field)) := cell_of (HBb.out.later B9.out) rfl
  have gb3 : w9.cell? ⟨w1.heap.size, 3, none⟩ = some (.int .i64 rb.n) := cell_of (HBb.out.later B9.out) rfl
  have gb4 : w9.cell? ⟨w1.heap.size, 4, none⟩ = some (.slice rb.set.1 rb.set.2.1 rb.set.2.2) := cell_of (HBb.out.later B9.out) rfl
  have gb5 : w9.cell? ⟨w1.heap.size, 5, none⟩ = some (.slice rb.kids.1 rb.kids.2.1 rb.kids.2.2) := cell_of (HBb.out.later B9.out) rfl
  clear b8 b9 b10 b11 s8 s9 s10 s11 n8 n9 n10 n11 u9 u10 hz7
  have HW : Hid (Below w5.heap.size w5 w11) := B11.out
  have hfit1 : Fit 20 va := wt_fit 20 va 0 rfl HZa2.out.1
  have hfit2 : Fit 20 vb := wt_fit 20 vb 0 rfl HZb2.out.1
  have hfn : l.length ≤ 1000000 := by have := HZa2.out.2.2.1; omega
  have hfb : ∀ x ∈ l, x.length ≤ 10000000 := fun x hx => by have := HZa2.out.2.2.2 x hx; omega
  obtain ⟨Q, hQ⟩ : ∃ Q, leafB (m.lk seq most most) l = Q := ⟨_, rfl⟩
  have IS := hid (fun (w0 : World) (h0 : Below w11.heap.size w11 w0) (r : Ky) (v : Kv) (hK : KOk w0 r v) (hF : Fit 100 v) => (by
    have hl0 : Below w5.heap.size w5 w0 := HW.out.trans (h0.mono HW.out.size)
    rw [← hQ]
    exact is_k (HE.out.later hl0) (HM.out.later hl0) seq most (cell_of ((hl0.block _ (Array.getElem?_eq_some_iff.1 HS.out).1).trans HS.out) rfl) (cell_of ((hl0.block _ (Array.getElem?_eq_some_iff.1 HO.out).1).trans HO.out) rfl) l (HFl.out.later hl0) hfn hfb HZa2.out.2.1 r hK hF : Calls Tryz.prog 13 #[kyV r, .pointer (some ⟨w2.heap.size, 0, none⟩), .pointer (some ⟨w3.heap.size, 0, none⟩), .pointer (some ⟨w4.heap.size, 0, none⟩)] w0 fun e w' => e = .returned (.bool (matchB Q v)) ∧ Below w0.heap.size w0 w'))
  have FA := hid hfit1
  have FB := hid hfit2
  have KAl := hid (fun (w0 : World) (h0 : Below w11.heap.size w11 w0) => HKa.out.later (HW.out.trans (h0.mono HW.out.size)))
  have KBl := hid (fun (w0 : World) (h0 : Below w11.heap.size w11 w0) => HKb.out.later (HW.out.trans (h0.mono HW.out.size)))
  have CA2 := hid (fun (w0 : World) (h0 : Below w11.heap.size w11 w0) => alive_any (HE.out.later (HW.out.trans (h0.mono HW.out.size))) (HE.out.later (HW.out.trans (h0.mono HW.out.size))).pos)
  rw [hQ] at hza hzb
  clear hfit1 hfit2 hfb hfn hQ CA
  have v1 : matchB Q (.mk notN [] [] 0 [] [va]) = false := by simp [matchB_eq, nots_cons, someB_cons, someB_nil, notN, orN, andN, hza, hzb]
  have v2 : matchB Q (.mk notN [] [] 0 [] [.mk notN [] [] 0 [] [va]]) = true := by simp [matchB_eq, nots_cons, someB_cons, someB_nil, notN, orN, andN, hza, hzb]
  have v3 : matchB Q (.mk orN [] [] 0 [] [va, vb]) = true := by simp [matchB_eq, nots_cons, someB_cons, someB_nil, notN, orN, andN, hza, hzb]
  have v4 : matchB Q (.mk andN [] [] 0 [] [va, vb]) = true := by simp [matchB_eq, nots_cons, someB_cons, someB_nil, notN, orN, andN, hza, hzb]
  have v5 : matchB Q (.mk notN [] [] 0 [] [.mk orN [] [] 0 [] [va, vb]]) = false := by simp [matchB_eq, nots_cons, someB_cons, someB_nil, notN, orN, andN, hza, hzb]
  have v6 : matchB Q (.mk andN [] [] 0 [] [.mk notN [] [] 0 [] [va], .mk notN [] [] 0 [] [vb]]) = false := by simp [matchB_eq, nots_cons, someB_cons, someB_nil, notN, orN, andN, hza, hzb]
  have Ia := hid (fun (w0 : World) (h0 : Below w11.heap.size w11 w0) => (by have C := IS.out w0 h0 ra (va) (KAl.out w0 h0) (FA.out.le 100 (by omega)); rw [hza] at C; exact C : Calls Tryz.prog 13 #[kyV ra, .pointer (some ⟨w2.heap.size, 0, none⟩), .pointer (some ⟨w3.heap.size, 0, none⟩), .pointer (some ⟨w4.heap.size, 0, none⟩)] w0 fun e w' => e = .returned (.bool true) ∧ Below w0.heap.size w0 w'))
  have Ib := hid (fun (w0 : World) (h0 : Below w11.heap.size w11 w0) => (by have C := IS.out w0 h0 rb (vb) (KBl.out w0 h0) (FB.out.le 100 (by omega)); rw [hzb] at C; exact C : Calls Tryz.prog 13 #[kyV rb, .pointer (some ⟨w2.heap.size, 0, none⟩), .pointer (some ⟨w3.heap.size, 0, none⟩), .pointer (some ⟨w4.heap.size, 0, none⟩)] w0 fun e w' => e = .returned (.bool true) ∧ Below w0.heap.size w0 w'))
  have Ior := hid (fun (w0 : World) (h0 : Below w11.heap.size w11 w0) => (by have C := IS.out w0 h0 (subK orN w7.heap.size 2) (.mk orN [] [] 0 [] [va, vb]) (KOk.two ((h0.block _ (Array.getElem?_eq_some_iff.1 HN8.out).1).trans HN8.out) (KAl.out w0 h0) (KBl.out w0 h0) orN) ((fit_two FA.out FB.out orN).le 100 (by omega)); rw [v3] at C; exact C : Calls Tryz.prog 13 #[kyV (subK orN w7.heap.size 2), .pointer (some ⟨w2.heap.size, 0, none⟩), .pointer (some ⟨w3.heap.size, 0, none⟩), .pointer (some ⟨w4.heap.size, 0, none⟩)] w0 fun e w' => e = .returned (.bool true) ∧ Below w0.heap.size w0 w'))
  have Ian := hid (fun (w0 : World) (h0 : Below w11.heap.size w11 w0) => (by have C := IS.out w0 h0 (subK andN w9.heap.size 2) (.mk andN [] [] 0 [] [va, vb]) (KOk.two ((h0.block _ (Array.getElem?_eq_some_iff.1 HN10.out).1).trans HN10.out) (KAl.out w0 h0) (KBl.out w0 h0) andN) ((fit_two FA.out FB.out andN).le 100 (by omega)); rw [v4] at C; exact C : Calls Tryz.prog 13 #[kyV (subK andN w9.heap.size 2), .pointer (some ⟨w2.heap.size, 0, none⟩), .pointer (some ⟨w3.heap.size, 0, none⟩), .pointer (some ⟨w4.heap.size, 0, none⟩)] w0 fun e w' => e = .returned (.bool true) ∧ Below w0.heap.size w0 w'))
  have Ina := hid (fun (w0 : World) (h0 : Below w11.heap.size w11 w0) (nb : Nat) (hn : w0.heap[nb]? = some (.cells ra.c.toArray 28 (0, 0))) => (by have C := IS.out w0 h0 (subK notN nb 1) (.mk notN [] [] 0 [] [va]) (KOk.notOf hn (KAl.out w0 h0) notN) ((fit_not FA.out notN).le 100 (by omega)); rw [v1] at C; exact C : Calls Tryz.prog 13 #[kyV (subK notN nb 1), .pointer (some ⟨w2.heap.size, 0, none⟩), .pointer (some ⟨w3.heap.size, 0, none⟩), .pointer (some ⟨w4.heap.size, 0, none⟩)] w0 fun e w' => e = .returned (.bool false) ∧ Below w0.heap.size w0 w'))
  have Inna := hid (fun (w0 : World) (h0 : Below w11.heap.size w11 w0) (nb nc : Nat) (hn : w0.heap[nb]? = some (.cells ra.c.toArray 28 (0, 0))) (hc : w0.heap[nc]? = some (.cells (subK notN nb 1).c.toArray 28 (0, 0))) => (by have C := IS.out w0 h0 (subK notN nc 1) (.mk notN [] [] 0 [] [.mk notN [] [] 0 [] [va]]) (KOk.notOf hc (KOk.notOf hn (KAl.out w0 h0) notN) notN) ((fit_not (fit_not FA.out notN) notN).le 100 (by omega)); rw [v2] at C; exact C : Calls Tryz.prog 13 #[kyV (subK notN nc 1), .pointer (some ⟨w2.heap.size, 0, none⟩), .pointer (some ⟨w3.heap.size, 0, none⟩), .pointer (some ⟨w4.heap.size, 0, none⟩)] w0 fun e w' => e = .returned (.bool true) ∧ Below w0.heap.size w0 w'))
  have Inor := hid (fun (w0 : World) (h0 : Below w11.heap.size w11 w0) (nb : Nat) (hn : w0.heap[nb]? = some (.cells (subK orN w7.heap.size 2).c.toArray 28 (0, 0))) => (by have C := IS.out w0 h0 (subK notN nb 1) (.mk notN [] [] 0 [] [.mk orN [] [] 0 [] [va, vb]]) (KOk.notOf hn (KOk.two ((h0.block _ (Array.getElem?_eq_some_iff.1 HN8.out).1).trans HN8.out) (KAl.out w0 h0) (KBl.out w0 h0) orN) notN) ((fit_not (fit_two FA.out FB.out orN) notN).le 100 (by omega)); rw [v5] at C; exact C : Calls Tryz.prog 13 #[kyV (subK notN nb 1), .pointer (some ⟨w2.heap.size, 0, none⟩), .pointer (some ⟨w3.heap.size, 0, none⟩), .pointer (some ⟨w4.heap.size, 0, none⟩)] w0 fun e w' => e = .returned (.bool false) ∧ Below w0.heap.size w0 w'))
  have Inn := hid (fun (w0 : World) (h0 : Below w11.heap.size w11 w0) (p q nb : Nat) (hp : w0.heap[p]? = some (.cells ra.c.toArray 28 (0, 0))) (hq : w0.heap[q]? = some (.cells rb.c.toArray 28 (0, 0))) (hn : w0.heap[nb]? = some (.cells ((subK notN p 1).c ++ (subK notN q 1).c).toArray 28 (0, 0))) => (by have C := IS.out w0 h0 (subK andN nb 2) (.mk andN [] [] 0 [] [.mk notN [] [] 0 [] [va], .mk notN [] [] 0 [] [vb]]) (KOk.two hn (KOk.notOf hp (KAl.out w0 h0) notN) (KOk.notOf hq (KBl.out w0 h0) notN) andN) ((fit_two (fit_not FA.out notN) (fit_not FB.out notN) andN).le 100 (by omega)); rw [v6] at C; exact C : Calls Tryz.prog 13 #[kyV (subK andN nb 2), .pointer (some ⟨w2.heap.size, 0, none⟩), .pointer (some ⟨w3.heap.size, 0, none⟩), .pointer (some ⟨w4.heap.size, 0, none⟩)] w0 fun e w' => e = .returned (.bool false) ∧ Below w0.heap.size w0 w'))
  have Nt := hid (fun (w0 : World) (K : Ky) => (by exact not_k w0 K : Calls Tryz.prog 14 #[kyV K] w0 fun e w' => (∃ nx, e = .returned (kyV (subK notN nx 1)) ∧ w'.heap[nx]? = some (.cells K.c.toArray 28 (0, 0))) ∧ Below w0.heap.size w0 w'))
  have LA : Hid (∀ w', Below w11.heap.size w11 w' → KyAt w' w.heap.size ra) := fun w' h => HA.out.later (HW.out.trans (h.mono HW.out.size))
  have LB : Hid (∀ w', Below w11.heap.size w11 w' → KyAt w' w1.heap.size rb) := fun w' h => HBb.out.later (HW.out.trans (h.mono HW.out.size))
  have LO : Hid (∀ w', Below w11.heap.size w11 w' → KyAt w' w8.heap.size (subK orN w7.heap.size 2)) := fun w' h => HN9.out.later h
  have LN : Hid (∀ w', Below w11.heap.size w11 w' → KyAt w' w10.heap.size (subK andN w9.heap.size 2)) := fun w' h => HN11.out.later h
  clear v1 v2 v3 v4 v5 v6 hza hzb
  have HB11 := hid (Below.refl w11.heap.size w11)
  go_wp2_with fail
  clear ga0 ga1 ga2 ga3 ga4 ga5 gb0 gb1 gb2 gb3 gb4 gb5 ka0 ka1 ka2 ka3 ka4 ka5 kb0 kb1 kb2 kb3 kb4 kb5
  clear hw1 hw2 hw3 hw4 hw5 hw8 hw9 hw10 hw11 hs hmo
  simp only [List.append_eq, List.cons_append, List.nil_append]
  refine wp_region_held_drew (S := fun w' => Below w11.heap.size w11 w') (by kernel_rfl) HB11.out.drew ?_
  intro hS
  refine anyH_takeW 0 ⟨some 35, _, _, _, _, none⟩ (.func (.func 13) #[] #[.pointer (some ⟨w2.heap.size, 0, none⟩), .pointer (some ⟨w3.heap.size, 0, none⟩), .pointer (some ⟨w4.heap.size, 0, none⟩)]) rfl (by kernel_rfl) (by kernel_rfl) (by kernel_rfl) (by kernel_rfl) (fun _ _ _ h => h) (fun _ _ => rfl) hS ?_
  simp only [Act.put, List.setIfInBounds_toArray, List.set_cons_zero, List.set_cons_succ]
  refine anyH_takeW 1 ⟨some 36, _, _, _, _, none⟩ (.func (.func 14) #[] #[]) rfl (by kernel_rfl) (by kernel_rfl) (by kernel_rfl) (by kernel_rfl) (fun _ _ _ h => h) (fun _ _ => rfl) hS ?_
  simp only [Act.put, List.setIfInBounds_toArray, List.set_cons_zero, List.set_cons_succ]
  refine anyH_takeW 2 ⟨some 37, _, _, _, _, none⟩ (kyV ra) rfl (by kernel_rfl) (by kernel_rfl) (by kernel_rfl) (by kernel_rfl) (fun _ _ _ h => h) (fun w' h => exec_load28 (by kernel_rfl) (LA.out w' h)) hS ?_
  simp only [Act.put, List.setIfInBounds_toArray, List.set_cons_zero, List.set_cons_succ]
  refine anyH_takeW 5 ⟨some 40, _, _, _, _, none⟩ (.func (.func 13) #[] #[.pointer (some ⟨w2.heap.size, 0, none⟩), .pointer (some ⟨w3.heap.size, 0, none⟩), .pointer (some ⟨w4.heap.size, 0, none⟩)]) rfl (by kernel_rfl) (by kernel_rfl) (by kernel_rfl) (by kernel_rfl) (fun _ _ _ h => h) (fun _ _ => rfl) hS ?_
  simp only [Act.put, List.setIfInBounds_toArray, List.set_cons_zero, List.set_cons_succ]
  refine anyH_takeW 6 ⟨some 41, _, _, _, _, none⟩ (kyV ra) rfl (by kernel_rfl) (by kernel_rfl) (by kernel_rfl) (by kernel_rfl) (fun _ _ _ h => h) (fun w' h => exec_load28 (by kernel_rfl) (LA.out w' h)) hS ?_
  simp only [Act.put, List.setIfInBounds_toArray, List.set_cons_zero, List.set_cons_succ]
  refine anyH_callW 3 ⟨some 38, _, _, _, _, none⟩ 14 #[kyV ra] (by kernel_rfl) rfl (by kernel_rfl) (exec_call14 (by kernel_rfl) (by kernel_rfl)) ?_
  refine (Nt.out _ ra).mono ?_
  rintro e x1 ⟨⟨nb1, rfl, hn⟩, hb⟩
  have HNb_nb1 := hid hn
  clear hn
  have hS1 := hS.trans (hb.mono hS.size)
  clear hb
  refine ⟨_, rfl, hS1, ?_⟩
  simp only [Act.put, List.setIfInBounds_toArray, List.set_cons_zero, List.set_cons_succ]
  refine anyH_callW 4 ⟨some 39, _, _, _, _, none⟩ 13 #[kyV (subK notN nb1 1), .pointer (some ⟨w2.heap.size, 0, none⟩), .pointer (some ⟨w3.heap.size, 0, none⟩), .pointer (some ⟨w4.heap.size, 0, none⟩)] (by kernel_rfl) rfl (by kernel_rfl) (exec_call13 (by kernel_rfl) (by kernel_rfl)) ?_
  refine (Ina.out _ hS1 nb1 HNb_nb1.out).mono ?_
  rintro e x2 ⟨rfl, hb⟩
  have hS2 := hS1.trans (hb.mono hS1.size)
  clear hb
  refine ⟨_, rfl, hS2, ?_⟩
  simp only [Act.put, List.setIfInBounds_toArray, List.set_cons_zero, List.set_cons_succ]
  refine anyH_callW 7 ⟨some 42, _, _, _, _, none⟩ 13 #[kyV ra, .pointer (some ⟨w2.heap.size, 0, none⟩), .pointer (some ⟨w3.heap.size, 0, none⟩), .pointer (some ⟨w4.heap.size, 0, none⟩)] (by kernel_rfl) rfl (by kernel_rfl) (exec_call13 (by kernel_rfl) (by kernel_rfl)) ?_
  refine (Ia.out _ hS2).mono ?_
  rintro e x3 ⟨rfl, hb⟩
  have hS3 := hS2.trans (hb.mono hS2.size)
  clear hb
  refine ⟨_, rfl, hS3, ?_⟩
  simp only [Act.put, List.setIfInBounds_toArray, List.set_cons_zero, List.set_cons_succ]
  refine anyH_takeW 8 ⟨some 43, _, _, _, _, none⟩ (.bool true) rfl (by kernel_rfl) (by kernel_rfl) (by kernel_rfl) (by kernel_rfl) (fun _ _ _ h => h) (fun _ _ => by first | rfl | (go_simp; done) | (go_simp; rfl)) hS3 ?_
  simp only [Act.put, List.setIfInBounds_toArray, List.set_cons_zero, List.set_cons_succ]
  refine anyH_takeW 9 ⟨some 44, _, _, _, _, none⟩ (.bool true) rfl (by kernel_rfl) (by kernel_rfl) (by kernel_rfl) (by kernel_rfl) (fun _ _ _ h => h) (fun _ _ => rfl) hS3 ?_
  simp only [Act.put, List.setIfInBounds_toArray, List.set_cons_zero, List.set_cons_succ]
  refine anyH_takeW 10 ⟨some 45, _, _, _, _, some (9, true)⟩ (.func (.func 13) #[] #[.pointer (some ⟨w2.heap.size, 0, none⟩), .pointer (some ⟨w3.heap.size, 0, none⟩), .pointer (some ⟨w4.heap.size, 0, none⟩)]) rfl (by kernel_rfl) (by kernel_rfl) (by kernel_rfl) (by kernel_rfl) (fun _ _ _ h => h) (fun _ _ => rfl) hS3 ?_
  simp only [Act.put, List.setIfInBounds_toArray, List.set_cons_zero, List.set_cons_succ]
  refine anyH_takeW 11 ⟨some 46, _, _, _, _, some (9, true)⟩ (.func (.func 14) #[] #[]) rfl (by kernel_rfl) (by kernel_rfl) (by kernel_rfl) (by kernel_rfl) (fun _ _ _ h => h) (fun _ _ => rfl) hS3 ?_
  simp only [Act.put, List.setIfInBounds_toArray, List.set_cons_zero, List.set_cons_succ]
  refine anyH_takeW 12 ⟨some 47, _, _, _, _, some (9, true)⟩ (.func (.func 14) #[] #[]) rfl (by kernel_rfl) (by kernel_rfl) (by kernel_rfl) (by kernel_rfl) (fun _ _ _ h => h) (fun _ _ => rfl) hS3 ?_
  simp only [Act.put, List.setIfInBounds_toArray, List.set_cons_zero, List.set_cons_succ]
  refine anyH_takeW 13 ⟨some 48, _, _, _, _, some (9, true)⟩ (kyV ra) rfl (by kernel_rfl) (by kernel_rfl) (by kernel_rfl) (by kernel_rfl) (fun _ _ _ h => h) (fun w' h => exec_load28 (by kernel_rfl) (LA.out w' h)) hS3 ?_
  simp only [Act.put, List.setIfInBounds_toArray, List.set_cons_zero, List.set_cons_succ]
  refine anyH_takeW 17 ⟨some 52, _, _, _, _, some (9, true)⟩ (.func (.func 13) #[] #[.pointer (some ⟨w2.heap.size, 0, none⟩), .pointer (some ⟨w3.heap.size, 0, none⟩), .pointer (some ⟨w4.heap.size, 0, none⟩)]) rfl (by kernel_rfl) (by kernel_rfl) (by kernel_rfl) (by kernel_rfl) (fun _ _ _ h => h) (fun _ _ => rfl) hS3 ?_
  simp only [Act.put, List.setIfInBounds_toArray, List.set_cons_zero, List.set_cons_succ]
  refine anyH_takeW 18 ⟨some 53, _, _, _, _, some (9, true)⟩ (kyV ra) rfl (by kernel_rfl) (by kernel_rfl) (by kernel_rfl) (by kernel_rfl) (fun _ _ _ h => h) (fun w' h => exec_load28 (by kernel_rfl) (LA.out w' h)) hS3 ?_
  simp only [Act.put, List.setIfInBounds_toArray, List.set_cons_zero, List.set_cons_succ]
  refine anyH_callW 14 ⟨some 49, _, _, _, _, some (9, true)⟩ 14 #[kyV ra] (by kernel_rfl) rfl (by kernel_rfl) (exec_call14 (by kernel_rfl) (by kernel_rfl)) ?_
  refine (Nt.out _ ra).mono ?_
  rintro e x4 ⟨⟨nb4, rfl, hn⟩, hb⟩
  have HNb_nb4 := hid hn
  clear hn
  have hS4 := hS3.trans (hb.mono hS3.size)
  clear hb
  refine ⟨_, rfl, hS4, ?_⟩
  simp only [Act.put, List.setIfInBounds_toArray, List.set_cons_zero, List.set_cons_succ]
  refine anyH_callW 15 ⟨some 50, _, _, _, _, some (9, true)⟩ 14 #[kyV (subK notN nb4 1)] (by kernel_rfl) rfl (by kernel_rfl) (exec_call14 (by kernel_rfl) (by kernel_rfl)) ?_
  refine (Nt.out _ (subK notN nb4 1)).mono ?_
  rintro e x5 ⟨⟨nc5, rfl, hn⟩, hb⟩
  have HNc := hid hn
  have HNb3 := hid ((hb.block _ (Array.getElem?_eq_some_iff.1 HNb_nb4.out).1).trans HNb_nb4.out)
  clear hn
  have hS5 := hS4.trans (hb.mono hS4.size)
  clear hb
  refine ⟨_, rfl, hS5, ?_⟩
  simp only [Act.put, List.setIfInBounds_toArray, List.set_cons_zero, List.set_cons_succ]
  refine anyH_callW 16 ⟨some 51, _, _, _, _, some (9, true)⟩ 13 #[kyV (subK notN nc5 1), .pointer (some ⟨w2.heap.size, 0, none⟩), .pointer (some ⟨w3.heap.size, 0, none⟩), .pointer (some ⟨w4.heap.size, 0, none⟩)] (by kernel_rfl) rfl (by kernel_rfl) (exec_call13 (by kernel_rfl) (by kernel_rfl)) ?_
  refine (Inna.out _ hS5 nb4 nc5 HNb3.out HNc.out).mono ?_
  rintro e x6 ⟨rfl, hb⟩
  have hS6 := hS5.trans (hb.mono hS5.size)
  clear hb
  refine ⟨_, rfl, hS6, ?_⟩
  simp only [Act.put, List.setIfInBounds_toArray, List.set_cons_zero, List.set_cons_succ]
  refine anyH_callW 19 ⟨some 54, _, _, _, _, some (9, true)⟩ 13 #[kyV ra, .pointer (some ⟨w2.heap.size, 0, none⟩), .pointer (some ⟨w3.heap.size, 0, none⟩), .pointer (some ⟨w4.heap.size, 0, none⟩)] (by kernel_rfl) rfl (by kernel_rfl) (exec_call13 (by kernel_rfl) (by kernel_rfl)) ?_
  refine (Ia.out _ hS6).mono ?_
  rintro e x7 ⟨rfl, hb⟩
  have hS7 := hS6.trans (hb.mono hS6.size)
  clear hb
  refine ⟨_, rfl, hS7, ?_⟩
  simp only [Act.put, List.setIfInBounds_toArray, List.set_cons_zero, List.set_cons_succ]
  refine anyH_takeW 20 ⟨some 55, _, _, _, _, some (9, true)⟩ (.bool true) rfl (by kernel_rfl) (by kernel_rfl) (by kernel_rfl) (by kernel_rfl) (fun _ _ _ h => h) (fun _ _ => by first | rfl | (go_simp; done) | (go_simp; rfl)) hS7 ?_
  simp only [Act.put, List.setIfInBounds_toArray, List.set_cons_zero, List.set_cons_succ]
  refine anyH_takeW 21 ⟨some 56, _, _, _, _, none⟩ (.bool true) rfl (by kernel_rfl) (by kernel_rfl) (by kernel_rfl) (by kernel_rfl) (fun _ _ _ h => h) (fun _ _ => by first | rfl | (go_simp; done) | (go_simp; rfl)) hS7 ?_
  simp only [Act.put, List.setIfInBounds_toArray, List.set_cons_zero, List.set_cons_succ]
  refine anyH_takeW 22 ⟨some 57, _, _, _, _, none⟩ (.bool true) rfl (by kernel_rfl) (by kernel_rfl) (by kernel_rfl) (by kernel_rfl) (fun _ _ _ h => h) (fun _ _ => rfl) hS7 ?_
  simp only [Act.put, List.setIfInBounds_toArray, List.set_cons_zero, List.set_cons_succ]
  refine anyH_takeW 23 ⟨some 58, _, _, _, _, some (22, true)⟩ (.func (.func 13) #[] #[.pointer (some ⟨w2.heap.size, 0, none⟩), .pointer (some ⟨w3.heap.size, 0, none⟩), .pointer (some ⟨w4.heap.size, 0, none⟩)]) rfl (by kernel_rfl) (by kernel_rfl) (by kernel_rfl) (by kernel_rfl) (fun _ _ _ h => h) (fun _ _ => rfl) hS7 ?_
  simp only [Act.put, List.setIfInBounds_toArray, List.set_cons_zero, List.set_cons_succ]
  refine anyH_takeW 24 ⟨some 59, _, _, _, _, some (22, true)⟩ (kyV (subK orN w7.heap.size 2)) rfl (by kernel_rfl) (by kernel_rfl) (by kernel_rfl) (by kernel_rfl) (fun _ _ _ h => h) (fun w' h => exec_load28 (by kernel_rfl) (LO.out w' h)) hS7 ?_
  simp only [Act.put, List.setIfInBounds_toArray, List.set_cons_zero, List.set_cons_succ]
  refine anyH_takeW 26 ⟨some 61, _, _, _, _, some (22, true)⟩ (.func (.func 13) #[] #[.pointer (some ⟨w2.heap.size, 0, none⟩), .pointer (some ⟨w3.heap.size, 0, none⟩), .pointer (some ⟨w4.heap.size, 0, none⟩)]) rfl (by kernel_rfl) (by kernel_rfl) (by kernel_rfl) (by kernel_rfl) (fun _ _ _ h => h) (fun _ _ => rfl) hS7 ?_
  simp only [Act.put, List.setIfInBounds_toArray, List.set_cons_zero, List.set_cons_succ]
  refine anyH_takeW 27 ⟨some 62, _, _, _, _, some (22, true)⟩ (kyV ra) rfl (by kernel_rfl) (by kernel_rfl) (by kernel_rfl) (by kernel_rfl) (fun _ _ _ h => h) (fun w' h => exec_load28 (by kernel_rfl) (LA.out w' h)) hS7 ?_
  simp only [Act.put, List.setIfInBounds_toArray, List.set_cons_zero, List.set_cons_succ]
  refine anyH_callW 25 ⟨some 60, _, _, _, _, some (22, true)⟩ 13 #[kyV (subK orN w7.heap.size 2), .pointer (some ⟨w2.heap.size, 0, none⟩), .pointer (some ⟨w3.heap.size, 0, none⟩), .pointer (some ⟨w4.heap.size, 0, none⟩)] (by kernel_rfl) rfl (by kernel_rfl) (exec_call13 (by kernel_rfl) (by kernel_rfl)) ?_
  refine (Ior.out _ hS7).mono ?_
  rintro e x8 ⟨rfl, hb⟩
  have hS8 := hS7.trans (hb.mono hS7.size)
  clear hb
  refine ⟨_, rfl, hS8, ?_⟩
  simp only [Act.put, List.setIfInBounds_toArray, List.set_cons_zero, List.set_cons_succ]
  refine anyH_callW 28 ⟨some 63, _, _, _, _, some (22, true)⟩ 13 #[kyV ra, .pointer (some ⟨w2.heap.size, 0, none⟩), .pointer (some ⟨w3.heap.size, 0, none⟩), .pointer (some ⟨w4.heap.size, 0, none⟩)] (by kernel_rfl) rfl (by kernel_rfl) (exec_call13 (by kernel_rfl) (by kernel_rfl)) ?_
  refine (Ia.out _ hS8).mono ?_
  rintro e x9 ⟨rfl, hb⟩
  have hS9 := hS8.trans (hb.mono hS8.size)
  clear hb
  refine ⟨_, rfl, hS9, ?_⟩
  simp only [Act.put, List.setIfInBounds_toArray, List.set_cons_zero, List.set_cons_succ]
  refine anyH_takeW 29 ⟨some 64, _, _, _, _, some (22, true)⟩ (.bool true) rfl (by kernel_rfl) (by kernel_rfl) (by kernel_rfl) (by kernel_rfl) (fun _ _ _ h => h) (fun _ _ => rfl) hS9 ?_
  simp only [Act.put, List.setIfInBounds_toArray, List.set_cons_zero, List.set_cons_succ]
  refine anyH_skipW 30 ⟨some 65, _, _, _, _, some (29, false)⟩ rfl (by kernel_rfl) (by kernel_rfl) (by kernel_rfl) (by kernel_rfl) (fun _ _ _ h => h) hS9 ?_
  simp only [Act.put, List.setIfInBounds_toArray, List.set_cons_zero, List.set_cons_succ]
  refine anyH_skipW 31 ⟨some 66, _, _, _, _, some (29, false)⟩ rfl (by kernel_rfl) (by kernel_rfl) (by kernel_rfl) (by kernel_rfl) (fun _ _ _ h => h) hS9 ?_
  simp only [Act.put, List.setIfInBounds_toArray, List.set_cons_zero, List.set_cons_succ]
  refine anyH_oneSkipW 32 ⟨some 67, _, _, _, _, some (29, false)⟩ (by kernel_rfl) rfl (by kernel_rfl) hS9 ?_
  simp only [Act.put, List.setIfInBounds_toArray, List.set_cons_zero, List.set_cons_succ]
  refine anyH_takeW 33 ⟨some 68, _, _, _, _, some (22, true)⟩ (.bool true) rfl (by kernel_rfl) (by kernel_rfl) (by kernel_rfl) (by kernel_rfl) (fun _ _ _ h => h) (fun _ _ => by first | rfl | (go_simp; done) | (go_simp; rfl)) hS9 ?_
  simp only [Act.put, List.setIfInBounds_toArray, List.set_cons_zero, List.set_cons_succ]
  refine anyH_takeW 34 ⟨some 69, _, _, _, _, some (22, true)⟩ (.bool true) rfl (by kernel_rfl) (by kernel_rfl) (by kernel_rfl) (by kernel_rfl) (fun _ _ _ h => h) (fun _ _ => by first | rfl | (go_simp; done) | (go_simp; rfl)) hS9 ?_
  simp only [Act.put, List.setIfInBounds_toArray, List.set_cons_zero, List.set_cons_succ]
  refine anyH_takeW 35 ⟨some 70, _, _, _, _, none⟩ (.bool true) rfl (by kernel_rfl) (by kernel_rfl) (by kernel_rfl) (by kernel_rfl) (fun _ _ _ h => h) (fun _ _ => by first | rfl | (go_simp; done) | (go_simp; rfl)) hS9 ?_
  simp only [Act.put, List.setIfInBounds_toArray, List.set_cons_zero, List.set_cons_succ]
  refine anyH_takeW 36 ⟨some 71, _, _, _, _, none⟩ (.bool true) rfl (by kernel_rfl) (by kernel_rfl) (by kernel_rfl) (by kernel_rfl) (fun _ _ _ h => h) (fun _ _ => rfl) hS9 ?_
  simp only [Act.put, List.setIfInBounds_toArray, List.set_cons_zero, List.set_cons_succ]
  refine anyH_takeW 37 ⟨some 72, _, _, _, _, some (36, true)⟩ (.func (.func 13) #[] #[.pointer (some ⟨w2.heap.size, 0, none⟩), .pointer (some ⟨w3.heap.size, 0, none⟩), .pointer (some ⟨w4.heap.size, 0, none⟩)]) rfl (by kernel_rfl) (by kernel_rfl) (by kernel_rfl) (by kernel_rfl) (fun _ _ _ h => h) (fun _ _ => rfl) hS9 ?_
  simp only [Act.put, List.setIfInBounds_toArray, List.set_cons_zero, List.set_cons_succ]
  refine anyH_takeW 38 ⟨some 73, _, _, _, _, some (36, true)⟩ (kyV (subK andN w9.heap.size 2)) rfl (by kernel_rfl) (by kernel_rfl) (by kernel_rfl) (by kernel_rfl) (fun _ _ _ h => h) (fun w' h => exec_load28 (by kernel_rfl) (LN.out w' h)) hS9 ?_
  simp only [Act.put, List.setIfInBounds_toArray, List.set_cons_zero, List.set_cons_succ]
  refine anyH_takeW 40 ⟨some 75, _, _, _, _, some (36, true)⟩ (.func (.func 13) #[] #[.pointer (some ⟨w2.heap.size, 0, none⟩), .pointer (some ⟨w3.heap.size, 0, none⟩), .pointer (some ⟨w4.heap.size, 0, none⟩)]) rfl (by kernel_rfl) (by kernel_rfl) (by kernel_rfl) (by kernel_rfl) (fun _ _ _ h => h) (fun _ _ => rfl) hS9 ?_
  simp only [Act.put, List.setIfInBounds_toArray, List.set_cons_zero, List.set_cons_succ]
  refine anyH_takeW 41 ⟨some 76, _, _, _, _, some (36, true)⟩ (kyV ra) rfl (by kernel_rfl) (by kernel_rfl) (by kernel_rfl) (by kernel_rfl) (fun _ _ _ h => h) (fun w' h => exec_load28 (by kernel_rfl) (LA.out w' h)) hS9 ?_
  simp only [Act.put, List.setIfInBounds_toArray, List.set_cons_zero, List.set_cons_succ]
  refine anyH_callW 39 ⟨some 74, _, _, _, _, some (36, true)⟩ 13 #[kyV (subK andN w9.heap.size 2), .pointer (some ⟨w2.heap.size, 0, none⟩), .pointer (some ⟨w3.heap.size, 0, none⟩), .pointer (some ⟨w4.heap.size, 0, none⟩)] (by kernel_rfl) rfl (by kernel_rfl) (exec_call13 (by kernel_rfl) (by kernel_rfl)) ?_
  refine (Ian.out _ hS9).mono ?_
  rintro e x10 ⟨rfl, hb⟩
  have hS10 := hS9.trans (hb.mono hS9.size)
  clear hb
  refine ⟨_, rfl, hS10, ?_⟩
  simp only [Act.put, List.setIfInBounds_toArray, List.set_cons_zero, List.set_cons_succ]
  refine anyH_callW 42 ⟨some 77, _, _, _, _, some (36, true)⟩ 13 #[kyV ra, .pointer (some ⟨w2.heap.size, 0, none⟩), .pointer (some ⟨w3.heap.size, 0, none⟩), .pointer (some ⟨w4.heap.size, 0, none⟩)] (by kernel_rfl) rfl (by kernel_rfl) (exec_call13 (by kernel_rfl) (by kernel_rfl)) ?_
  refine (Ia.out _ hS10).mono ?_
  rintro e x11 ⟨rfl, hb⟩
  have hS11 := hS10.trans (hb.mono hS10.size)
  clear hb
  refine ⟨_, rfl, hS11, ?_⟩
  simp only [Act.put, List.setIfInBounds_toArray, List.set_cons_zero, List.set_cons_succ]
  refine anyH_takeW 43 ⟨some 78, _, _, _, _, some (36, true)⟩ (.bool true) rfl (by kernel_rfl) (by kernel_rfl) (by kernel_rfl) (by kernel_rfl) (fun _ _ _ h => h) (fun _ _ => rfl) hS11 ?_
  simp only [Act.put, List.setIfInBounds_toArray, List.set_cons_zero, List.set_cons_succ]
  refine anyH_takeW 44 ⟨some 79, _, _, _, _, some (43, true)⟩ (.func (.func 13) #[] #[.pointer (some ⟨w2.heap.size, 0, none⟩), .pointer (some ⟨w3.heap.size, 0, none⟩), .pointer (some ⟨w4.heap.size, 0, none⟩)]) rfl (by kernel_rfl) (by kernel_rfl) (by kernel_rfl) (by kernel_rfl) (fun _ _ _ h => h) (fun _ _ => rfl) hS11 ?_
  simp only [Act.put, List.setIfInBounds_toArray, List.set_cons_zero, List.set_cons_succ]
  refine anyH_takeW 45 ⟨some 80, _, _, _, _, some (43, true)⟩ (kyV rb) rfl (by kernel_rfl) (by kernel_rfl) (by kernel_rfl) (by kernel_rfl) (fun _ _ _ h => h) (fun w' h => exec_load28 (by kernel_rfl) (LB.out w' h)) hS11 ?_
  simp only [Act.put, List.setIfInBounds_toArray, List.set_cons_zero, List.set_cons_succ]
  refine anyH_callW 46 ⟨some 81, _, _, _, _, some (43, true)⟩ 13 #[kyV rb, .pointer (some ⟨w2.heap.size, 0, none⟩), .pointer (some ⟨w3.heap.size, 0, none⟩), .pointer (some ⟨w4.heap.size, 0, none⟩)] (by kernel_rfl) rfl (by kernel_rfl) (exec_call13 (by kernel_rfl) (by kernel_rfl)) ?_
  refine (Ib.out _ hS11).mono ?_
  rintro e x12 ⟨rfl, hb⟩
  have hS12 := hS11.trans (hb.mono hS11.size)
  clear hb
  refine ⟨_, rfl, hS12, ?_⟩
  simp only [Act.put, List.setIfInBounds_toArray, List.set_cons_zero, List.set_cons_succ]
  refine anyH_takeW 47 ⟨some 82, _, _, _, _, some (36, true)⟩ (.bool true) rfl (by kernel_rfl) (by kernel_rfl) (by kernel_rfl) (by kernel_rfl) (fun _ _ _ h => h) (fun _ _ => by first | rfl | (go_simp; done) | (go_simp; rfl)) hS12 ?_
  simp only [Act.put, List.setIfInBounds_toArray, List.set_cons_zero, List.set_cons_succ]
  refine anyH_takeW 48 ⟨some 83, _, _, _, _, some (36, true)⟩ (.bool true) rfl (by kernel_rfl) (by kernel_rfl) (by kernel_rfl) (by kernel_rfl) (fun _ _ _ h => h) (fun _ _ => by first | rfl | (go_simp; done) | (go_simp; rfl)) hS12 ?_
  simp only [Act.put, List.setIfInBounds_toArray, List.set_cons_zero, List.set_cons_succ]
  refine anyH_takeW 49 ⟨some 84, _, _, _, _, none⟩ (.bool true) rfl (by kernel_rfl) (by kernel_rfl) (by kernel_rfl) (by kernel_rfl) (fun _ _ _ h => h) (fun _ _ => by first | rfl | (go_simp; done) | (go_simp; rfl)) hS12 ?_
  simp only [Act.put, List.setIfInBounds_toArray, List.set_cons_zero, List.set_cons_succ]
  refine anyH_takeW 50 ⟨some 85, _, _, _, _, none⟩ (.bool true) rfl (by kernel_rfl) (by kernel_rfl) (by kernel_rfl) (by kernel_rfl) (fun _ _ _ h => h) (fun _ _ => rfl) hS12 ?_
  simp only [Act.put, List.setIfInBounds_toArray, List.set_cons_zero, List.set_cons_succ]
  refine anyH_takeW 51 ⟨some 86, _, _, _, _, some (50, true)⟩ (.func (.func 13) #[] #[.pointer (some ⟨w2.heap.size, 0, none⟩), .pointer (some ⟨w3.heap.size, 0, none⟩), .pointer (some ⟨w4.heap.size, 0, none⟩)]) rfl (by kernel_rfl) (by kernel_rfl) (by kernel_rfl) (by kernel_rfl) (fun _ _ _ h => h) (fun _ _ => rfl) hS12 ?_
  simp only [Act.put, List.setIfInBounds_toArray, List.set_cons_zero, List.set_cons_succ]
  refine anyH_takeW 52 ⟨some 87, _, _, _, _, some (50, true)⟩ (.func (.func 14) #[] #[]) rfl (by kernel_rfl) (by kernel_rfl) (by kernel_rfl) (by kernel_rfl) (fun _ _ _ h => h) (fun _ _ => rfl) hS12 ?_
  simp only [Act.put, List.setIfInBounds_toArray, List.set_cons_zero, List.set_cons_succ]
  refine anyH_takeW 53 ⟨some 88, _, _, _, _, some (50, true)⟩ (kyV (subK orN w7.heap.size 2)) rfl (by kernel_rfl) (by kernel_rfl) (by kernel_rfl) (by kernel_rfl) (fun _ _ _ h => h) (fun w' h => exec_load28 (by kernel_rfl) (LO.out w' h)) hS12 ?_
  simp only [Act.put, List.setIfInBounds_toArray, List.set_cons_zero, List.set_cons_succ]
  refine anyH_takeW 56 ⟨some 91, _, _, _, _, some (50, true)⟩ (.func (.func 13) #[] #[.pointer (some ⟨w2.heap.size, 0, none⟩), .pointer (some ⟨w3.heap.size, 0, none⟩), .pointer (some ⟨w4.heap.size, 0, none⟩)]) rfl (by kernel_rfl) (by kernel_rfl) (by kernel_rfl) (by kernel_rfl) (fun _ _ _ h => h) (fun _ _ => rfl) hS12 ?_
  simp only [Act.put, List.setIfInBounds_toArray, List.set_cons_zero, List.set_cons_succ]
  refine anyH_takeW 57 ⟨some 92, _, _, _, _, some (50, true)⟩ (.func (.func 14) #[] #[]) rfl (by kernel_rfl) (by kernel_rfl) (by kernel_rfl) (by kernel_rfl) (fun _ _ _ h => h) (fun _ _ => rfl) hS12 ?_
  simp only [Act.put, List.setIfInBounds_toArray, List.set_cons_zero, List.set_cons_succ]
  refine anyH_takeW 58 ⟨some 93, _, _, _, _, some (50, true)⟩ (kyV ra) rfl (by kernel_rfl) (by kernel_rfl) (by kernel_rfl) (by kernel_rfl) (fun _ _ _ h => h) (fun w' h => exec_load28 (by kernel_rfl) (LA.out w' h)) hS12 ?_
  simp only [Act.put, List.setIfInBounds_toArray, List.set_cons_zero, List.set_cons_succ]
  refine anyH_takeW 60 ⟨some 95, _, _, _, _, some (50, true)⟩ (.func (.func 14) #[] #[]) rfl (by kernel_rfl) (by kernel_rfl) (by kernel_rfl) (by kernel_rfl) (fun _ _ _ h => h) (fun _ _ => rfl) hS12 ?_
  simp only [Act.put, List.setIfInBounds_toArray, List.set_cons_zero, List.set_cons_succ]
  refine anyH_takeW 61 ⟨some 96, _, _, _, _, some (50, true)⟩ (kyV rb) rfl (by kernel_rfl) (by kernel_rfl) (by kernel_rfl) (by kernel_rfl) (fun _ _ _ h => h) (fun w' h => exec_load28 (by kernel_rfl) (LB.out w' h)) hS12 ?_
  simp only [Act.put, List.setIfInBounds_toArray, List.set_cons_zero, List.set_cons_succ]
  refine anyH_callW 54 ⟨some 89, _, _, _, _, some (50, true)⟩ 14 #[kyV (subK orN w7.heap.size 2)] (by kernel_rfl) rfl (by kernel_rfl) (exec_call14 (by kernel_rfl) (by kernel_rfl)) ?_
  refine (Nt.out _ (subK orN w7.heap.size 2)).mono ?_
  rintro e x13 ⟨⟨no13, rfl, hn⟩, hb⟩
  have HNo := hid hn
  clear hn
  have hS13 := hS12.trans (hb.mono hS12.size)
  clear hb
  refine ⟨_, rfl, hS13, ?_⟩
  simp only [Act.put, List.setIfInBounds_toArray, List.set_cons_zero, List.set_cons_succ]
  refine anyH_callW 55 ⟨some 90, _, _, _, _, some (50, true)⟩ 13 #[kyV (subK notN no13 1), .pointer (some ⟨w2.heap.size, 0, none⟩), .pointer (some ⟨w3.heap.size, 0, none⟩), .pointer (some ⟨w4.heap.size, 0, none⟩)] (by kernel_rfl) rfl (by kernel_rfl) (exec_call13 (by kernel_rfl) (by kernel_rfl)) ?_
  refine (Inor.out _ hS13 no13 HNo.out).mono ?_
  rintro e x14 ⟨rfl, hb⟩
  have hS14 := hS13.trans (hb.mono hS13.size)
  clear hb
  refine ⟨_, rfl, hS14, ?_⟩
  simp only [Act.put, List.setIfInBounds_toArray, List.set_cons_zero, List.set_cons_succ]
  refine anyH_callW 59 ⟨some 94, _, _, _, _, some (50, true)⟩ 14 #[kyV ra] (by kernel_rfl) rfl (by kernel_rfl) (exec_call14 (by kernel_rfl) (by kernel_rfl)) ?_
  refine (Nt.out _ ra).mono ?_
  rintro e x15 ⟨⟨nb15, rfl, hn⟩, hb⟩
  have HNb_nb15 := hid hn
  clear hn
  have hS15 := hS14.trans (hb.mono hS14.size)
  clear hb
  refine ⟨_, rfl, hS15, ?_⟩
  simp only [Act.put, List.setIfInBounds_toArray, List.set_cons_zero, List.set_cons_succ]
  refine anyH_callW 62 ⟨some 97, _, _, _, _, some (50, true)⟩ 14 #[kyV rb] (by kernel_rfl) rfl (by kernel_rfl) (exec_call14 (by kernel_rfl) (by kernel_rfl)) ?_
  refine (Nt.out _ rb).mono ?_
  rintro e x16 ⟨⟨nq, rfl, hn⟩, hb⟩
  have HNq := hid hn
  have HNb4 := hid ((hb.block _ (Array.getElem?_eq_some_iff.1 HNb_nb15.out).1).trans HNb_nb15.out)
  clear hn
  have hS16 := hS15.trans (hb.mono hS15.size)
  clear hb
  refine ⟨_, rfl, hS16, ?_⟩
  simp only [Act.put, List.setIfInBounds_toArray, List.set_cons_zero, List.set_cons_succ]
  have hA17 : Below x16.heap.size x16 (x16.alloc (.cells (((subK notN nb15 1)).c ++ ((subK notN nq 1)).c).toArray 28)) := (Below.refl _ _).alloc (Nat.le_refl _) _
  have hnA : (x16.alloc (.cells (((subK notN nb15 1)).c ++ ((subK notN nq 1)).c).toArray 28)).heap[x16.heap.size]? = some (.cells (((subK notN nb15 1)).c ++ ((subK notN nq 1)).c).toArray 28 (0, 0)) := heap_alloc_new _ _
  have HNA := hid hnA
  have HNb5 := hid ((hA17.block _ (Array.getElem?_eq_some_iff.1 HNb4.out).1).trans HNb4.out)
  have HNq5 := hid ((hA17.block _ (Array.getElem?_eq_some_iff.1 HNq.out).1).trans HNq.out)
  have hS17 := hS16.trans (hA17.mono hS16.size)
  clear hnA hA17
  refine anyH_oneW 63 ⟨some 98, _, _, _, _, some (50, true)⟩ (.slice (some ⟨x16.heap.size, 0, none⟩) 2 2) _ (by kernel_rfl) rfl (by kernel_rfl) (exec_two28 (r := (subK notN nb15 1)) (s := (subK notN nq 1)) (by kernel_rfl) (by kernel_rfl)) hS17 ?_
  simp only [Act.put, List.setIfInBounds_toArray, List.set_cons_zero, List.set_cons_succ]
  refine anyH_takeW 64 ⟨some 99, _, _, _, _, some (50, true)⟩ (kyV (subK andN x16.heap.size 2)) rfl (by kernel_rfl) (by kernel_rfl) (by kernel_rfl) (by kernel_rfl) (fun _ _ _ h => h) (fun _ _ => by first | rfl | (go_simp; done) | (go_simp; rfl)) hS17 ?_
  simp only [Act.put, List.setIfInBounds_toArray, List.set_cons_zero, List.set_cons_succ]
  refine anyH_callW 65 ⟨some 100, _, _, _, _, some (50, true)⟩ 13 #[kyV (subK andN x16.heap.size 2), .pointer (some ⟨w2.heap.size, 0, none⟩), .pointer (some ⟨w3.heap.size, 0, none⟩), .pointer (some ⟨w4.heap.size, 0, none⟩)] (by kernel_rfl) rfl (by kernel_rfl) (exec_call13 (by kernel_rfl) (by kernel_rfl)) ?_
  refine (Inn.out _ hS17 nb15 nq _ HNb5.out HNq5.out HNA.out).mono ?_
  rintro e x18 ⟨rfl, hb⟩
  have hS18 := hS17.trans (hb.mono hS17.size)
  clear hb
  refine ⟨_, rfl, hS18, ?_⟩
  simp only [Act.put, List.setIfInBounds_toArray, List.set_cons_zero, List.set_cons_succ]
  refine anyH_takeW 66 ⟨some 101, _, _, _, _, some (50, true)⟩ (.bool true) rfl (by kernel_rfl) (by kernel_rfl) (by kernel_rfl) (by kernel_rfl) (fun _ _ _ h => h) (fun _ _ => by first | rfl | (go_simp; done) | (go_simp; rfl)) hS18 ?_
  simp only [Act.put, List.setIfInBounds_toArray, List.set_cons_zero, List.set_cons_succ]
  refine anyH_takeW 67 ⟨some 102, _, _, _, _, none⟩ (.bool true) rfl (by kernel_rfl) (by kernel_rfl) (by kernel_rfl) (by kernel_rfl) (fun _ _ _ h => h) (fun _ _ => by first | rfl | (go_simp; done) | (go_simp; rfl)) hS18 ?_
  simp only [Act.put, List.setIfInBounds_toArray, List.set_cons_zero, List.set_cons_succ]
  refine anyH_takeW 68 ⟨some 103, _, _, _, _, none⟩ (.bool true) rfl (by kernel_rfl) (by kernel_rfl) (by kernel_rfl) (by kernel_rfl) (fun _ _ _ h => h) (fun _ _ => rfl) hS18 ?_
  simp only [Act.put, List.setIfInBounds_toArray, List.set_cons_zero, List.set_cons_succ]
  refine anyH_callW 69 ⟨some 104, _, _, _, _, some (68, true)⟩ 7 #[] (by kernel_rfl) rfl (by kernel_rfl) exec_call7 ?_
  refine (CA2.out _ hS18).mono ?_
  rintro e x19 ⟨rfl, hb⟩
  have hS19 := hS18.trans (hb.mono hS18.size)
  clear hb
  refine ⟨_, rfl, hS19, ?_⟩
  simp only [Act.put, List.setIfInBounds_toArray, List.set_cons_zero, List.set_cons_succ]
  refine anyH_takeW 70 ⟨some 105, _, _, _, _, none⟩ (.bool true) rfl (by kernel_rfl) (by kernel_rfl) (by kernel_rfl) (by kernel_rfl) (fun _ _ _ h => h) (fun _ _ => by first | rfl | (go_simp; done) | (go_simp; rfl)) hS19 ?_
  simp only [Act.put, List.setIfInBounds_toArray, List.set_cons_zero, List.set_cons_succ]
  refine anyH_takeW 71 ⟨some 10, _, _, _, _, none⟩ (.bool true) rfl (by kernel_rfl) (by kernel_rfl) (by kernel_rfl) (by kernel_rfl) (fun _ _ _ h => h) (fun _ _ => rfl) hS19 ?_
  simp only [Act.put, List.setIfInBounds_toArray, List.set_cons_zero, List.set_cons_succ]
  refine wpAnyH_done (by kernel_rfl) ?_ _
  have HFin := hid (HBW.out.trans ((HW.out.trans (hS19.mono HW.out.size)).mono HBW.out.size))
  (try go_wp2_with fail)
  go_ret
  exact ⟨rfl, HFin.out⟩
end Go.Proofs.YtaniljfjmbifnaaGreatDoor.searchNots
