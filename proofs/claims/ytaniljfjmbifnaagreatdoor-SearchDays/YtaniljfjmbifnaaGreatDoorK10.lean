/- What this text holds: a key that denies one that asks for a subject; a match. -/
import Derived.Test.YtaniljfjmbifnaaGreatDoorK9
namespace Go.Proofs.YtaniljfjmbifnaaGreatDoor.H
open Go.RowKit
set_option linter.unusedVariables false
set_option linter.unusedSimpArgs false

def notO : Bs := [78, 79, 84]
set_option maxRecDepth 100000 in
set_option maxHeartbeats 4000000 in
theorem deny_any {w : World} {b : Nat} {L : Lk} (he : Env w) (hb0 : 0 < b) (h : LkAt w b L) (hf : FsOk w L) (ht : L.text.length ≤ 1000000) (hlo : L.lost = false) (hde : L.deep = 0)
    (op t f : Bs) (n : Int) (a : Option Addr) (p c : Nat) (d : Option Addr) (q g : Nat) (htl : t.length ≤ 10000000) (hop : op = subj)
    (hv : ∀ v ∈ valsL L.text op, (W.joined [v]).length ≤ 1000000 ∧ (wordW v).length ≤ 10000000) {kb : Nat} (hk : KyAt w kb ⟨op, t, f, n, (a, p, c), (d, q, g)⟩) (hkb : kb ≠ b)
    (no t' f' : Bs) (n' : Int) (a' : Option Addr) (p' c' : Nat) (hno : no = notO) :
    Calls Tryz.prog 23 #[.pointer (some ⟨b, 0, none⟩), .agg #[.string (str no), .string (str t'), .string (str f'), .int .i64 n', .slice a' p' c', .slice (some ⟨kb, 0, none⟩) 1 1]] w fun e w' => Seen w' b L ∧ e = .returned (.bool (!asksB (valsL L.text op) t)) ∧ Kept [b] w w' := by
  have q0 : ((str no).toList == ([65, 76, 76] : Bs)) = false := by rw [toL, hno]; decide
  have q1 : ((str no).toList == ([65, 78, 83, 87, 69, 82, 69, 68] : Bs)) = false := by rw [toL, hno]; decide
  have q2 : ((str no).toList == ([68, 69, 76, 69, 84, 69, 68] : Bs)) = false := by rw [toL, hno]; decide
  have q3 : ((str no).toList == ([68, 82, 65, 70, 84] : Bs)) = false := by rw [toL, hno]; decide
  have q4 : ((str no).toList == ([70, 76, 65, 71, 71, 69, 68] : Bs)) = false := by rw [toL, hno]; decide
  have q5 : ((str no).toList == ([83, 69, 69, 78] : Bs)) = false := by rw [toL, hno]; decide
  have q6 : ((str no).toList == ([85, 78, 65, 78, 83, 87, 69, 82, 69, 68] : Bs)) = false := by rw [toL, hno]; decide
  have q7 : ((str no).toList == ([85, 78, 68, 69, 76, 69, 84, 69, 68] : Bs)) = false := by rw [toL, hno]; decide
  have q8 : ((str no).toList == ([85, 78, 68, 82, 65, 70, 84] : Bs)) = false := by rw [toL, hno]; decide
  have q9 : ((str no).toList == ([85, 78, 70, 76, 65, 71, 71, 69, 68] : Bs)) = false := by rw [toL, hno]; decide
  have q10 : ((str no).toList == ([85, 78, 83, 69, 69, 78] : Bs)) = false := by rw [toL, hno]; decide
  have q11 : ((str no).toList == ([75, 69, 89, 87, 79, 82, 68] : Bs)) = false := by rw [toL, hno]; decide
  have q12 : ((str no).toList == ([85, 78, 75, 69, 89, 87, 79, 82, 68] : Bs)) = false := by rw [toL, hno]; decide
  have q13 : ((str no).toList == ([66, 67, 67] : Bs)) = false := by rw [toL, hno]; decide
  have q14 : ((str no).toList == ([67, 67] : Bs)) = false := by rw [toL, hno]; decide
  have q15 : ((str no).toList == ([70, 82, 79, 77] : Bs)) = false := by rw [toL, hno]; decide
  have q16 : ((str no).toList == ([83, 85, 66, 74, 69, 67, 84] : Bs)) = false := by rw [toL, hno]; decide
  have q17 : ((str no).toList == ([84, 79] : Bs)) = false := by rw [toL, hno]; decide
  have q18 : ((str no).toList == ([72, 69, 65, 68, 69, 82] : Bs)) = false := by rw [toL, hno]; decide
  have q19 : ((str no).toList == ([66, 79, 68, 89] : Bs)) = false := by rw [toL, hno]; decide
  have q20 : ((str no).toList == ([84, 69, 88, 84] : Bs)) = false := by rw [toL, hno]; decide
  have q21 : ((str no).toList == ([66, 69, 70, 79, 82, 69] : Bs)) = false := by rw [toL, hno]; decide
  have q22 : ((str no).toList == ([79, 78] : Bs)) = false := by rw [toL, hno]; decide
  have q23 : ((str no).toList == ([83, 73, 78, 67, 69] : Bs)) = false := by rw [toL, hno]; decide
  have q24 : ((str no).toList == ([83, 69, 78, 84, 66, 69, 70, 79, 82, 69] : Bs)) = false := by rw [toL, hno]; decide
  have q25 : ((str no).toList == ([83, 69, 78, 84, 79, 78] : Bs)) = false := by rw [toL, hno]; decide
  have q26 : ((str no).toList == ([83, 69, 78, 84, 83, 73, 78, 67, 69] : Bs)) = false := by rw [toL, hno]; decide
  have q27 : ((str no).toList == ([76, 65, 82, 71, 69, 82] : Bs)) = false := by rw [toL, hno]; decide
  have q28 : ((str no).toList == ([83, 77, 65, 76, 76, 69, 82] : Bs)) = false := by rw [toL, hno]; decide
  have q29 : ((str no).toList == ([83, 69, 81] : Bs)) = false := by rw [toL, hno]; decide
  have q30 : ((str no).toList == ([85, 73, 68] : Bs)) = false := by rw [toL, hno]; decide
  have q99 : ((str no).toList == ([78, 79, 84] : Bs)) = true := by rw [toL, hno]; decide
  clear hno
  have ha : Below w.heap.size w (w.alloc (.cells #[.string (str no), .string (str t'), .string (str f'), .int .i64 n', .slice a' p' c', .slice (some ⟨kb, 0, none⟩) 1 1] 28)) := (Below.refl _ _).alloc (Nat.le_refl _) _
  obtain ⟨w1, hw1⟩ : ∃ w1, w.alloc (.cells #[.string (str no), .string (str t'), .string (str f'), .int .i64 n', .slice a' p' c', .slice (some ⟨kb, 0, none⟩) 1 1] 28) = w1 := ⟨_, rfl⟩
  have HKy : Hid (KyAt w1 w.heap.size ⟨no, t', f', n', (a', p', c'), (some ⟨kb, 0, none⟩, 1, 1)⟩) := by rw [← hw1]; exact KyAt.new w ⟨no, t', f', n', (a', p', c'), (some ⟨kb, 0, none⟩, 1, 1)⟩
  rw [hw1] at ha
  have C := some_any (he.later ha) hb0 (h.later ha) (fun hr => (hf hr).later ha) ht hlo hde op t f n a p c d q g htl hop hv (hk.later ha) hkb
  have HB := hid ha
  have k0 := HKy.out.cell 0
  have k5 := HKy.out.cell 5
  simp only [Ky.c, sv, List.getElem?_cons_succ, List.getElem?_cons_zero] at k0 k5
  clear he h hf hv hk ha hop
  generalize asksB (valsL L.text op) t = z at *
  go_enter Tryz.func23, Tryz.ntmps23
  go_wp2_with fail
  clear hw1
  refine C.mono ?_
  rintro e w2 ⟨hs, rfl, hk2⟩
  have HS := hid hs
  have HK2 := hid (kept_t (Kept.ofBelow HB.out [b]) hk2)
  clear hs hk2 C k0 k5
  go_wp2_with fail
  go_ret
  exact ⟨HS.out, rfl, HK2.out⟩
theorem cell_of {w : World} {b j : Nat} {cs : Array Value} {T : TypeId} {v : Value} (h : w.heap[b]? = some (.cells cs T (0, 0))) (hv : cs[j]? = some v) : w.cell? ⟨b, j, none⟩ = some v := by
  simp [World.cell?, h, hv]
theorem below_of_kept {w w1 w2 : World} {b : Nat} (h : Below w.heap.size w w1) (hk : Kept [b] w1 w2) (hb : w.heap.size ≤ b) : Below w.heap.size w w2 :=
  h.trans (hk.below (by simpa using hb) h.size)
def rowK (w : World) (A : Nat) (L : Lk) : World := w.setRow A L.c.toArray
theorem rowK_is {w : World} {A : Nat} {L' : Lk} (h : LkAt w A L') (L : Lk) : LkAt (rowK w A L) A L := setRow_heap w A _ _ 48 _ h
theorem rowK_self (w : World) (A : Nat) (L : Lk) : Kept [A] w (rowK w A L) := ⟨rfl, rfl, rfl, by simp [rowK], fun k _ hk => setRow_other w A k _ (fun e => hk (by simp [e]))⟩
theorem exec_store48 {a : Act} {x y : Operand} {A : Nat} {L L' : Lk} {w : World} {ds : Option Tmp} {ty : Nat} {pos : String} {af : Array Edge} {gd : Option (Nat × Bool)}
    (hx : a.eval x = .pointer (some ⟨A, 0, none⟩)) (hy : a.eval y = .agg L.c.toArray) (hA : LkAt w A L') :
    (execOp a.eval ⟨ds, .store 48 x y, ty, pos, af, gd⟩).run Tryz.prog w = .ok .skip (rowK w A L) := by
  have h := run_storeVar_row (P := Tryz.prog) w A 48 48 _ L.c.toArray hA (by kernel_rfl) rfl (by simp [Lk.c, Value.oneCell', sv])
  simp [execOp, hx, hy, Instr.storeAt, Instr.sureAddr, h, rowK]
theorem wpList_store48 {ops : Array Oper} {rest : List Oper} {Q : Exit → Act → World → Prop} {a : Act} {x y : Operand} {A : Nat} {L L' : Lk} {w : World} {ty : Nat} {pos : String} {af : Array Edge}
    (hx : a.eval x = .pointer (some ⟨A, 0, none⟩)) (hy : a.eval y = .agg L.c.toArray) (hA : LkAt w A L')
    (h : wpList Tryz.prog ops Q rest a (rowK w A L)) : wpList Tryz.prog ops Q (⟨none, .store 48 x y, ty, pos, af, none⟩ :: rest) a w := by
  refine wpList_plain rfl fun K hK => ?_
  unfold Oper.wp
  rw [exec_store48 hx hy hA]
  exact hK _ _ h
def zLk : Lk := ⟨0, (none, 0, 0), 0, 0, 0, 0, 0, 0, 0, [], 0, 0, 0, 0, 0, false, (none, 0, 0), 0, false⟩
/-- What a match answers, when its key is gone through. -/
def Fresh (L : Lk) : Prop := L.rd = false ∧ L.deep = 0 ∧ L.lost = false ∧ L.fs = (none, 0, 0)
theorem LkAt.new (w : World) (L : Lk) : LkAt (w.alloc (.cells L.c.toArray 48)) w.heap.size L := heap_alloc_new _ _
set_option maxRecDepth 100000 in
set_option maxHeartbeats 4000000 in
theorem match_any {w : World} (op t f : Bs) (n : Int) (a : Option Addr) (p c : Nat) (d : Option Addr) (q g : Nat) (uid : Int) (fa : Option Addr) (fn fc : Nat) (d1 d2 d3 d4 d5 d6 d7 : Int) (text : Bs) (size id seq most mu : Int) (z : Bool)
    (C : ∀ w1 b, w.heap.size ≤ b → LkAt w1 b ⟨uid, (fa, fn, fc), d1, d2, d3, d4, d5, d6, d7, text, size, id, seq, most, mu, false, (none, 0, 0), 0, false⟩ → Below w.heap.size w w1 →
      Calls Tryz.prog 23 #[.pointer (some ⟨b, 0, none⟩), .agg #[.string (str op), .string (str t), .string (str f), .int .i64 n, .slice a p c, .slice d q g]] w1 fun e w' => Seen w' b ⟨uid, (fa, fn, fc), d1, d2, d3, d4, d5, d6, d7, text, size, id, seq, most, mu, false, (none, 0, 0), 0, false⟩ ∧ e = .returned (.bool z) ∧ Kept [b] w1 w') :
    Calls Tryz.prog 11 #[.agg #[.string (str op), .string (str t), .string (str f), .int .i64 n, .slice a p c, .slice d q g], .agg #[.int .i64 uid, .slice fa fn fc, .int .i64 d1, .int .i64 d2, .int .i64 d3, .int .i64 d4, .int .i64 d5, .int .i64 d6, .int .i64 d7, .string (str text), .int .i64 size, .int .i64 id], .int .i64 seq, .int .i64 most, .int .i64 mu] w fun e w' => e = .returned (.bool z) ∧ Below w.heap.size w w' := by
  obtain ⟨wa, hwa⟩ : ∃ wa, w.alloc (.cells #[.string (str op), .string (str t), .string (str f), .int .i64 n, .slice a p c, .slice d q g] 28) = wa := ⟨_, rfl⟩
  have ba : Below w.heap.size w wa := by rw [← hwa]; exact (Below.refl _ _).alloc (Nat.le_refl _) _
  have sa : wa.heap.size = w.heap.size + 1 := by rw [← hwa]; simp
  have hka : wa.heap[w.heap.size]? = some (.cells #[.string (str op), .string (str t), .string (str f), .int .i64 n, .slice a p c, .slice d q g] 28 (0, 0)) := by rw [← hwa]; exact heap_alloc_new _ _
  obtain ⟨wb, hwb⟩ : ∃ wb, wa.alloc (.cells #[.int .i64 uid, .slice fa fn fc, .int .i64 d1, .int .i64 d2, .int .i64 d3, .int .i64 d4, .int .i64 d5, .int .i64 d6, .int .i64 d7, .string (str text), .int .i64 size, .int .i64 id] 33) = wb := ⟨_, rfl⟩
  have bb : Below wa.heap.size wa wb := by rw [← hwb]; exact (Below.refl _ _).alloc (Nat.le_refl _) _
  have sb : wb.heap.size = wa.heap.size + 1 := by rw [← hwb]; simp
  have hmb : wb.heap[wa.heap.size]? = some (.cells #[.int .i64 uid, .slice fa fn fc, .int .i64 d1, .int .i64 d2, .int .i64 d3, .int .i64 d4, .int .i64 d5, .int .i64 d6, .int .i64 d7, .string (str text), .int .i64 size, .int .i64 id] 33 (0, 0)) := by rw [← hwb]; exact heap_alloc_new _ _
  obtain ⟨wz, hwz⟩ : ∃ wz, wb.alloc (.cells #[.int .i64 0, .slice none 0 0, .int .i64 0, .int .i64 0, .int .i64 0, .int .i64 0, .int .i64 0, .int .i64 0, .int .i64 0, .string ⟨#[]⟩, .int .i64 0, .int .i64 0, .int .i64 0, .int .i64 0, .int .i64 0, .bool false, .slice none 0 0, .int .i64 0, .bool false] 48) = wz := ⟨_, rfl⟩
  have bz : Below wb.heap.size wb wz := by rw [← hwz]; exact (Below.refl _ _).alloc (Nat.le_refl _) _
  have hz1 : LkAt wz wb.heap.size zLk := by rw [← hwz]; exact LkAt.new wb zLk
  have hmz : wz.heap[wa.heap.size]? = some (.cells #[.int .i64 uid, .slice fa fn fc, .int .i64 d1, .int .i64 d2, .int .i64 d3, .int .i64 d4, .int .i64 d5, .int .i64 d6, .int .i64 d7, .string (str text), .int .i64 size, .int .i64 id] 33 (0, 0)) := (bz.block _ (by omega)).trans hmb
  have hkz : wz.heap[w.heap.size]? = some (.cells #[.string (str op), .string (str t), .string (str f), .int .i64 n, .slice a p c, .slice d q g] 28 (0, 0)) := ((bz.block _ (by omega)).trans (bb.block _ (by omega))).trans hka
  obtain ⟨wc, hwc⟩ : ∃ wc, rowK wz wb.heap.size ⟨uid, (fa, fn, fc), d1, d2, d3, d4, d5, d6, d7, text, size, id, seq, most, mu, false, (none, 0, 0), 0, false⟩ = wc := ⟨_, rfl⟩
  have hl1 : LkAt wc wb.heap.size ⟨uid, (fa, fn, fc), d1, d2, d3, d4, d5, d6, d7, text, size, id, seq, most, mu, false, (none, 0, 0), 0, false⟩ := by rw [← hwc]; exact rowK_is hz1 _
  have kc := rowK_self wz wb.heap.size ⟨uid, (fa, fn, fc), d1, d2, d3, d4, d5, d6, d7, text, size, id, seq, most, mu, false, (none, 0, 0), 0, false⟩
  rw [hwc] at kc
  have hz2 := hz1.lt
  have hkc : wc.heap[w.heap.size]? = some (.cells #[.string (str op), .string (str t), .string (str f), .int .i64 n, .slice a p c, .slice d q g] 28 (0, 0)) := (kc.block _ (by omega) (by simp; omega)).trans hkz
  have hb1 : Below w.heap.size w wc := ((ba.trans (bb.mono (by omega))).trans (bz.mono (by omega))).trans (kc.below (by simp; omega) (by omega))
  have m0 : wb.cell? ⟨wa.heap.size, 0, none⟩ = some (.int .i64 uid) := cell_of hmb rfl
  have m1 : wb.cell? ⟨wa.heap.size, 1, none⟩ = some (.slice fa fn fc) := cell_of hmb rfl
  have m2 : wb.cell? ⟨wa.heap.size, 2, none⟩ = some (.int .i64 d1) := cell_of hmb rfl
  have m3 : wb.cell? ⟨wa.heap.size, 3, none⟩ = some (.int .i64 d2) := cell_of hmb rfl
  have m4 : wb.cell? ⟨wa.heap.size, 4, none⟩ = some (.int .i64 d3) := cell_of hmb rfl
  have m5 : wb.cell? ⟨wa.heap.size, 5, none⟩ = some (.int .i64 d4) := cell_of hmb rfl
  have m6 : wb.cell? ⟨wa.heap.size, 6, none⟩ = some (.int .i64 d5) := cell_of hmb rfl
  have m7 : wb.cell? ⟨wa.heap.size, 7, none⟩ = some (.int .i64 d6) := cell_of hmb rfl
  have m8 : wb.cell? ⟨wa.heap.size, 8, none⟩ = some (.int .i64 d7) := cell_of hmb rfl
  have m9 : wb.cell? ⟨wa.heap.size, 9, none⟩ = some (.string (str text)) := cell_of hmb rfl
  have m10 : wb.cell? ⟨wa.heap.size, 10, none⟩ = some (.int .i64 size) := cell_of hmb rfl
  have m11 : wb.cell? ⟨wa.heap.size, 11, none⟩ = some (.int .i64 id) := cell_of hmb rfl
  have mz0 : wz.cell? ⟨wa.heap.size, 0, none⟩ = some (.int .i64 uid) := cell_of hmz rfl
  have mz1 : wz.cell? ⟨wa.heap.size, 1, none⟩ = some (.slice fa fn fc) := cell_of hmz rfl
  have mz2 : wz.cell? ⟨wa.heap.size, 2, none⟩ = some (.int .i64 d1) := cell_of hmz rfl
  have mz3 : wz.cell? ⟨wa.heap.size, 3, none⟩ = some (.int .i64 d2) := cell_of hmz rfl
  have mz4 : wz.cell? ⟨wa.heap.size, 4, none⟩ = some (.int .i64 d3) := cell_of hmz rfl
  have mz5 : wz.cell? ⟨wa.heap.size, 5, none⟩ = some (.int .i64 d4) := cell_of hmz rfl
  have mz6 : wz.cell? ⟨wa.heap.size, 6, none⟩ = some (.int .i64 d5) := cell_of hmz rfl
  have mz7 : wz.cell? ⟨wa.heap.size, 7, none⟩ = some (.int .i64 d6) := cell_of hmz rfl
  have mz8 : wz.cell? ⟨wa.heap.size, 8, none⟩ = some (.int .i64 d7) := cell_of hmz rfl
  have mz9 : wz.cell? ⟨wa.heap.size, 9, none⟩ = some (.string (str text)) := cell_of hmz rfl
  have mz10 : wz.cell? ⟨wa.heap.size, 10, none⟩ = some (.int .i64 size) := cell_of hmz rfl
  have mz11 : wz.cell? ⟨wa.heap.size, 11, none⟩ = some (.int .i64 id) := cell_of hmz rfl
  have k0 : wc.cell? ⟨w.heap.size, 0, none⟩ = some (.string (str op)) := cell_of hkc rfl
  have k1 : wc.cell? ⟨w.heap.size, 1, none⟩ = some (.string (str t)) := cell_of hkc rfl
  have k2 : wc.cell? ⟨w.heap.size, 2, none⟩ = some (.string (str f)) := cell_of hkc rfl
  have k3 : wc.cell? ⟨w.heap.size, 3, none⟩ = some (.int .i64 n) := cell_of hkc rfl
  have k4 : wc.cell? ⟨w.heap.size, 4, none⟩ = some (.slice a p c) := cell_of hkc rfl
  have k5 : wc.cell? ⟨w.heap.size, 5, none⟩ = some (.slice d q g) := cell_of hkc rfl
  have D := C wc wb.heap.size (by omega) hl1 hb1
  have HB1 := hid hb1
  have HS1 : Hid (w.heap.size ≤ wb.heap.size) := by unfold Hid; omega
  have hF := fldk wb.heap.size
  have f7 := fun w => (hF w).2.2.2.2.2.2.2.1
  have HZ1 := hid hz1
  clear C hF hl1 hkc hmb hka ba bb bz sa sb hb1 hmz hkz kc hz2 hz1
  go_enter Tryz.func11, Tryz.ntmps11
  go_wp2_with (refine wpList_store48 (L := ⟨uid, (fa, fn, fc), d1, d2, d3, d4, d5, d6, d7, text, size, id, seq, most, mu, false, (none, 0, 0), 0, false⟩) rfl rfl HZ1.out ?_)
  refine D.mono ?_
  rintro e w2 ⟨⟨fs, hs, _⟩, rfl, hk⟩
  have l18 := hs.cell 18
  simp only [Lk.c, List.getElem?_cons_succ, List.getElem?_cons_zero] at l18
  have HB2 := hid (below_of_kept HB1.out hk HS1.out)
  clear hs hk D
  cases z
  · go_wp2_with fail
    go_ret
    exact ⟨rfl, HB2.out⟩
  · go_wp2_with fail
    go_ret
    exact ⟨rfl, HB2.out⟩
end Go.Proofs.YtaniljfjmbifnaaGreatDoor.H
