/- What this text holds: how much a key is, as the statement counts it. · What this text holds: the closures of the statement about keys that deny and join; a key in another one. -/
import Derived.Test.YtaniljfjmbifnaaGreatDoorKX1
import Derived.Test.YtaniljfjmbifnaaGreatDoorKX3
namespace Go.Proofs.YtaniljfjmbifnaaGreatDoor.H
open Go.RowKit
set_option linter.unusedVariables false
set_option linter.unusedSimpArgs false

/-- Texts, sets and kids are no longer than Go allows. -/
inductive BigK : Kv → Prop
  | mk (op t f : Bs) (n : Int) (set : List S.Sp) (kids : List Kv) (ht : t.length ≤ maxLen) (hf : f.length ≤ maxLen) (hs : set.length ≤ maxLen) (hk : kids.length ≤ maxLen) (hr : ∀ k ∈ kids, BigK k) : BigK (.mk op t f n set kids)
set_option maxRecDepth 100000 in
set_option maxHeartbeats 4000000 in
theorem wt_step {W0 w : World} (hB : Below W0.heap.size W0 w) (rows : List (Ky × Kv)) (op t f : Bs) (n : Int) (a : Option Addr) (p c : Nat) (d : Option Addr) (q g : Nat) (set : List S.Sp) (dp : Nat) (hdp : dp ≤ 21)
    (hs : p = set.length) (hG : S.GL eK W0 (.slice d q g) (rows.map (·.1))) (hbt : t.length ≤ maxLen) (hbf : f.length ≤ maxLen) (hbs : set.length ≤ maxLen) (hbk : rows.length ≤ maxLen)
    (HQ : ∀ r ∈ rows, dp ≤ 20 → ∀ w', Below W0.heap.size W0 w' → Calls Tryz.prog 22 #[kyV r.1, .int .i64 ((dp : Int) + 1)] w' fun e w'' => e = .returned (.int .i64 (wtV r.2 (dp + 1))) ∧ Below w'.heap.size w' w'') :
    Calls Tryz.prog 22 #[.agg #[.string (str op), .string (str t), .string (str f), .int .i64 n, .slice a p c, .slice d q g], .int .i64 dp] w fun e w' => e = .returned (.int .i64 (wtV (.mk op t f n set (rows.map (·.2))) dp)) ∧ Below w.heap.size w w' := by
  have ha : Below w.heap.size w (w.alloc (.cells #[.string (str op), .string (str t), .string (str f), .int .i64 n, .slice a p c, .slice d q g] 28)) := (Below.refl _ _).alloc (Nat.le_refl _) _
  obtain ⟨w1, hw1⟩ : ∃ w1, w.alloc (.cells #[.string (str op), .string (str t), .string (str f), .int .i64 n, .slice a p c, .slice d q g] 28) = w1 := ⟨_, rfl⟩
  have HKy : Hid (KyAt w1 w.heap.size ⟨op, t, f, n, (a, p, c), (d, q, g)⟩) := by rw [← hw1]; exact KyAt.new w ⟨op, t, f, n, (a, p, c), (d, q, g)⟩
  rw [hw1] at ha
  have HB1 := hid ha
  have HB0 := hid (hB.trans (ha.mono hB.size))
  have k1 := HKy.out.cell 1
  have k2 := HKy.out.cell 2
  have k4 := HKy.out.cell 4
  have k5 := HKy.out.cell 5
  simp only [Ky.c, sv, List.getElem?_cons_succ, List.getElem?_cons_zero] at k1 k2 k4 k5
  have htz := str_size t
  have hfz := str_size f
  have HF : Hid (wtV (.mk op t f n set (rows.map (·.2))) dp = if 20 < dp ∨ 200 < rows.length ∨ 200 < set.length then 100000 else min (wtL (rows.map (·.2)) (dp + 1) (1 + set.length + min t.length 100000 + min f.length 100000)) 100000) := by unfold Hid; rw [wtV_eq, List.length_map]
  obtain ⟨ad, cp, e1, hc, hr⟩ := hG
  simp only [Value.slice.injEq] at e1
  obtain ⟨rfl, e2, rfl⟩ := e1
  rw [List.length_map] at e2
  subst hs
  subst e2
  unfold maxLen at hbt hbf hbs hbk
  generalize hV : wtV (.mk op t f n set (rows.map (·.2))) dp = V at *
  clear hV ha hB
  have HR := hid hr
  have HQ := hid HQ
  clear hr
  by_cases h1 : 20 < dp
  · have h1' : (20 : Int) < dp := by omega
    have HZ : Hid (V = 100000) := by rw [Hid, HF.out, if_pos (.inl h1)]
    go_enter Tryz.func22, Tryz.ntmps22
    go_wp2_with fail
    clear hw1
    go_ret
    exact ⟨by rw [HZ.out]; rfl, HB1.out⟩
  · have h1' : ¬ (20 : Int) < dp := by omega
    by_cases h2 : 200 < rows.length
    · have h2' : (200 : Int) < rows.length := by omega
      have HZ : Hid (V = 100000) := by rw [Hid, HF.out, if_pos (.inr (.inl h2))]
      go_enter Tryz.func22, Tryz.ntmps22
      go_wp2_with fail
      clear hw1
      go_ret
      exact ⟨by rw [HZ.out]; rfl, HB1.out⟩
    · have h2' : ¬ (200 : Int) < rows.length := by omega
      by_cases h3 : 200 < set.length
      · have h3' : (200 : Int) < set.length := by omega
        have HZ : Hid (V = 100000) := by rw [Hid, HF.out, if_pos (.inr (.inr h3))]
        go_enter Tryz.func22, Tryz.ntmps22
        go_wp2_with fail
        clear hw1
        go_ret
        exact ⟨by rw [HZ.out]; rfl, HB1.out⟩
      · have h3' : ¬ (200 : Int) < set.length := by omega
        have HZ : Hid (V = min (wtL (rows.map (·.2)) (dp + 1) (1 + set.length + min t.length 100000 + min f.length 100000)) 100000) := by rw [Hid, HF.out, if_neg (by omega)]
        go_enter Tryz.func22, Tryz.ntmps22
        go_wp2_with fail
        clear hw1
        have HBd : Hid (1 + set.length + min t.length 100000 + min f.length 100000 ≤ 300000) := by unfold Hid; omega
        generalize hN0 : 1 + set.length + min t.length 100000 + min f.length 100000 = N0 at *
        have HN0 := hid hN0
        clear hN0
        go_loopw [5, 38] (fun nv i wr => ∃ k : Nat, k ≤ rows.length ∧ i = .int .i64 k ∧ nv = .int .i64 (wtL ((rows.take k).map (·.2)) (dp + 1) N0 : Nat) ∧ Below w1.heap.size w1 wr) (fun _ i _ => rows.length - (intOf i).toNat)
        case atStart => exact ⟨0, by omega, rfl, by rw [List.take_zero, List.map_nil, wtL_nil, ← HN0.out]; congr 1; omega, Below.refl _ _⟩
        case round =>
          obtain ⟨k, hk, rfl, rfl, hbr⟩ := hrel
          have HBr := hid hbr
          have hTl := wtL_le ((rows.take k).map (·.2)) (dp + 1) N0 HBd.out
          clear hbr
          by_cases hlt : k < rows.length
          · have hlt' : (k : Int) < rows.length := by omega
            have HN2 : Hid (wtL ((rows.take (k + 1)).map (·.2)) (dp + 1) N0 = if wtL ((rows.take k).map (·.2)) (dp + 1) N0 < 100000 then wtL ((rows.take k).map (·.2)) (dp + 1) N0 + wtV rows[k].2 (dp + 1) else wtL ((rows.take k).map (·.2)) (dp + 1) N0) := by
              unfold Hid
              rw [List.take_succ_eq_append_getElem hlt, List.map_append, wtL_app, List.map_cons, List.map_nil, wtL_cons, wtL_nil]
            have hvl := wtV_le rows[k].2 (dp + 1)
            have hrec : (rows.map (·.1))[k]? = some rows[k].1 := by rw [List.getElem?_map, List.getElem?_eq_getElem hlt]; rfl
            rcases HR.out with hR | ⟨og, oo, rfl, hR, hg⟩
            · have : rows = [] := by simpa using hR
              rw [this] at hlt
              simp at hlt
            · have HG := hid hg
              have HBw := hid (HB0.out.trans (HBr.out.mono HB0.out.size))
              obtain ⟨c0, c1, c2, c3, c4, c5⟩ := ga_six (hR.later HBw.out) k _ hrec
              have k5r := (HKy.out.later HBr.out).cell 5
              simp only [Ky.c, sv, List.getElem?_cons_succ, List.getElem?_cons_zero] at k5r
              have C := HQ.out rows[k] (List.getElem_mem hlt) (by omega) wr HBw.out
              simp only [kyV, Ky.c, sv] at C
              clear hrec hR hg HQ
              generalize rows[k] = r at *
              generalize wtV r.2 (dp + 1) = x at *
              generalize wtL ((rows.take k).map (·.2)) (dp + 1) N0 = T at *
              by_cases hT : T < 100000
              · have hT' : (T : Int) < 100000 := by omega
                have HN3 : Hid (wtL ((rows.take (k + 1)).map (·.2)) (dp + 1) N0 = T + x) := by rw [Hid, HN2.out, if_pos hT]
                have hxT : (T : Int) + x ≤ 300000 := by omega
                go_wp2_with fail
                refine C.mono ?_
                rintro e w5 ⟨rfl, b5⟩
                have HB5 := hid (HBr.out.trans (b5.mono HBr.out.size))
                clear b5 C c0 c1 c2 c3 c4 c5 k5r
                go_wp2_with fail
                go_roundw
                case rel => exact ⟨k + 1, by omega, by go_num, by rw [HN3.out]; push_cast; rfl, HB5.out⟩
                case measure => simp [intOf]; omega
              · have hT' : ¬ (T : Int) < 100000 := by omega
                have HN3 : Hid (wtL ((rows.take (k + 1)).map (·.2)) (dp + 1) N0 = T) := by rw [Hid, HN2.out, if_neg hT]
                go_wp2_with fail
                go_roundw
                case rel => exact ⟨k + 1, by omega, by go_num, by rw [HN3.out], HBr.out⟩
                case measure => simp [intOf]; omega
          · have hlt' : ¬ (k : Int) < rows.length := by omega
            have hkl : (rows.take k).map (·.2) = rows.map (·.2) := by rw [List.take_of_length_le (by omega)]
            rw [hkl] at hTl
            have HZ2 : Hid (V = min (wtL (rows.map (·.2)) (dp + 1) N0) 100000) := HZ.out
            rw [hkl]
            clear hkl
            generalize wtL (rows.map (·.2)) (dp + 1) N0 = T at *
            go_wp2_with fail
            go_ret
            exact ⟨by rw [HZ2.out]; simp; omega, HB1.out.trans (HBr.out.mono HB1.out.size)⟩
theorem wt_any {W0 : World} {r : Ky} {v : Kv} (hK : KOk W0 r v) (hB : BigK v) : ∀ (d : Nat), d ≤ 21 → ∀ w, Below W0.heap.size W0 w → Calls Tryz.prog 22 #[kyV r, .int .i64 d] w fun e w' => e = .returned (.int .i64 (wtV v d)) ∧ Below w.heap.size w w' := by
  induction hK with
  | mk r set rows hs hk hr ih =>
    intro d hd w hw
    cases hB with
    | mk _ _ _ _ _ _ ht hf hse hke hre =>
      rw [List.length_map] at hke
      have hsl : r.set.2.1 = set.length := by
        obtain ⟨ad, cp, e, _⟩ := hs
        simp only [sv, Value.slice.injEq] at e
        exact e.2.1
      exact wt_step hw rows r.op r.text r.field r.n r.set.1 r.set.2.1 r.set.2.2 r.kids.1 r.kids.2.1 r.kids.2.2 set d hd hsl hk ht hf hse hke (fun p hp hdp w' hw' => by
        have := ih p hp (hre p.2 (List.mem_map.2 ⟨p, hp, rfl⟩)) (d + 1) (by omega) w' hw'
        rw [Int.natCast_succ] at this
        exact this)
end Go.Proofs.YtaniljfjmbifnaaGreatDoor.H
namespace Go.Proofs.YtaniljfjmbifnaaGreatDoor.H
open Go.RowKit
set_option linter.unusedVariables false
set_option linter.unusedSimpArgs false

theorem lt_of_cell {w : World} {b o : Nat} {v : Value} (h : w.cell? ⟨b, o, none⟩ = some v) : b < w.heap.size := World.block_lt_of_cell? w _ h
def rowY (w : World) (A : Nat) (K : Ky) : World := w.setRow A K.c.toArray
theorem rowY_is {w : World} {A : Nat} {K' : Ky} (h : KyAt w A K') (K : Ky) : KyAt (rowY w A K) A K := setRow_heap w A _ _ 28 _ h
theorem rowY_self (w : World) (A : Nat) (K : Ky) : Kept [A] w (rowY w A K) := ⟨rfl, rfl, rfl, by simp [rowY], fun k _ hk => setRow_other w A k _ (fun e => hk (by simp [e]))⟩
theorem exec_store28 {a : Act} {x y : Operand} {A : Nat} {K K' : Ky} {w : World} {ds : Option Tmp} {ty : Nat} {pos : String} {af : Array Edge} {gd : Option (Nat × Bool)}
    (hx : a.eval x = .pointer (some ⟨A, 0, none⟩)) (hy : a.eval y = .agg K.c.toArray) (hA : KyAt w A K') :
    (execOp a.eval ⟨ds, .store 28 x y, ty, pos, af, gd⟩).run Tryz.prog w = .ok .skip (rowY w A K) := by
  have h := run_storeVar_row (P := Tryz.prog) w A 28 28 _ K.c.toArray hA (by kernel_rfl) rfl (by simp [Ky.c, Value.oneCell', sv])
  simp [execOp, hx, hy, Instr.storeAt, Instr.sureAddr, h, rowY]
theorem wpList_store28 {ops : Array Oper} {rest : List Oper} {Q : Exit → Act → World → Prop} {a : Act} {x y : Operand} {A : Nat} {K K' : Ky} {w : World} {ty : Nat} {pos : String} {af : Array Edge}
    (hx : a.eval x = .pointer (some ⟨A, 0, none⟩)) (hy : a.eval y = .agg K.c.toArray) (hA : KyAt w A K')
    (h : wpList Tryz.prog ops Q rest a (rowY w A K)) : wpList Tryz.prog ops Q (⟨none, .store 28 x y, ty, pos, af, none⟩ :: rest) a w := by
  refine wpList_plain rfl fun KK hK => ?_
  unfold Oper.wp
  rw [exec_store28 hx hy hA]
  exact hK _ _ h
theorem results14_run {w : World} {A : Nat} {K : Ky} (tmps : Array Value) (h2 : tmps[2]? = some (.pointer (some ⟨A, 0, none⟩))) (hA : KyAt w A K) : (results Tryz.f14 tmps).run Tryz.prog w = .ok (kyV K) w := by
  have a0 := hA.cell 0
  have a1 := hA.cell 1
  have a2 := hA.cell 2
  have a3 := hA.cell 3
  have a4 := hA.cell 4
  have a5 := hA.cell 5
  simp only [Ky.c, sv, List.getElem?_cons_succ, List.getElem?_cons_zero] at a0 a1 a2 a3 a4 a5
  simp [results, Tryz.results14, go_sem, h2, a0, a1, a2, a3, a4, a5, kyV, Ky.c, sv]
/-- No key. -/
def zKy : Ky := ⟨[], [], [], 0, (none, 0, 0), (none, 0, 0)⟩
def subK (op : Bs) (nb k : Nat) : Ky := ⟨op, [], [], 0, (none, 0, 0), (some ⟨nb, 0, none⟩, k, k)⟩
theorem gl_sp0 (w : World) : S.GL S.eSp w (.slice none 0 0) [] := ⟨none, 0, rfl, Nat.le_refl _, .inl rfl⟩
/-- A key that denies another one. -/
theorem KOk.notOf {w : World} {nb : Nat} {r : Ky} {v : Kv} (h : w.heap[nb]? = some (.cells r.c.toArray 28 (0, 0))) (hK : KOk w r v) (op : Bs) :
    KOk w ⟨op, [], [], 0, (none, 0, 0), (some ⟨nb, 0, none⟩, 1, 1)⟩ (.mk op [] [] 0 [] [v]) := by
  refine KOk.mk ⟨op, [], [], 0, (none, 0, 0), (some ⟨nb, 0, none⟩, 1, 1)⟩ [] [(r, v)] (gl_sp0 w) ⟨some ⟨nb, 0, none⟩, 1, rfl, Nat.le_refl _, .inr ⟨nb, 0, rfl, ?_, (Array.getElem?_eq_some_iff.1 h).1⟩⟩ ?_
  · intro j i x u h1 h2
    have hj : j = 0 := by
      have := (List.getElem?_eq_some_iff.1 h1).1
      simp at this
      omega
    subst hj
    simp only [List.map_cons, List.map_nil, List.getElem?_cons_zero, Option.some.injEq] at h1
    subst h1
    have h2' : r.c[i]? = some u := h2
    exact cell_of h (by simpa using h2')
  · intro p hp
    simp only [List.mem_cons, List.not_mem_nil, or_false] at hp
    subst hp
    exact hK
/-- A key that joins two. -/
theorem KOk.two {w : World} {nb : Nat} {r s : Ky} {v u : Kv} (h : w.heap[nb]? = some (.cells (r.c ++ s.c).toArray 28 (0, 0))) (hK : KOk w r v) (hL : KOk w s u) (op : Bs) :
    KOk w ⟨op, [], [], 0, (none, 0, 0), (some ⟨nb, 0, none⟩, 2, 2)⟩ (.mk op [] [] 0 [] [v, u]) := by
  refine KOk.mk ⟨op, [], [], 0, (none, 0, 0), (some ⟨nb, 0, none⟩, 2, 2)⟩ [] [(r, v), (s, u)] (gl_sp0 w) ⟨some ⟨nb, 0, none⟩, 2, rfl, Nat.le_refl _, .inr ⟨nb, 0, rfl, ?_, (Array.getElem?_eq_some_iff.1 h).1⟩⟩ ?_
  · intro j i x y h1 h2
    have hj : j = 0 ∨ j = 1 := by
      have := (List.getElem?_eq_some_iff.1 h1).1
      simp at this
      omega
    have hi : i < 6 := (List.getElem?_eq_some_iff.1 h2).1
    rcases hj with rfl | rfl
    · simp only [List.map_cons, List.map_nil, List.getElem?_cons_zero, Option.some.injEq] at h1
      subst h1
      have h2' : r.c[i]? = some y := h2
      refine cell_of h ?_
      rw [List.getElem?_toArray, show 0 + (0 * eK.k + i) = i by omega, List.getElem?_append_left hi]
      exact h2'
    · simp only [List.map_cons, List.map_nil, List.getElem?_cons_succ, List.getElem?_cons_zero, Option.some.injEq] at h1
      subst h1
      have h2' : s.c[i]? = some y := h2
      refine cell_of h ?_
      rw [List.getElem?_toArray, show 0 + (1 * eK.k + i) = 6 + i from by show 0 + (1 * 6 + i) = 6 + i; omega, List.getElem?_append_right (show r.c.length ≤ 6 + i by show 6 ≤ 6 + i; omega), show 6 + i - r.c.length = i from by show 6 + i - 6 = i; omega]
      exact h2'
  · intro p hp
    simp only [List.mem_cons, List.not_mem_nil, or_false] at hp
    rcases hp with rfl | rfl
    · exact hK
    · exact hL
theorem fit_not {h : Nat} {v : Kv} (hv : Fit h v) (op : Bs) : Fit (h + 1) (.mk op [] [] 0 [] [v]) := ⟨by simp, by simp, by simp, by simp, fun k hk => by simp at hk; subst hk; exact hv⟩
theorem fit_two {h : Nat} {v u : Kv} (hv : Fit h v) (hu : Fit h u) (op : Bs) : Fit (h + 1) (.mk op [] [] 0 [] [v, u]) := ⟨by simp, by simp, by simp, by simp, fun k hk => by simp at hk; rcases hk with rfl | rfl; exact hv; exact hu⟩
set_option maxRecDepth 100000 in
set_option maxHeartbeats 4000000 in
theorem is_k {w : World} (he : Env w) {mb sb ob : Nat} {m : Ml} (hm : MlAt w mb m) (seq most : Int) (hseq : w.cell? ⟨sb, 0, none⟩ = some (.int .i64 seq)) (hmost : w.cell? ⟨ob, 0, none⟩ = some (.int .i64 most))
    (fl : List Bs) (hfl : RL w (.slice m.fa m.fn m.fc) 1 (fl.map sR)) (hfn : fl.length ≤ 1000000) (hfb : ∀ x ∈ fl, x.length ≤ 10000000) (ht : m.text.length ≤ 1500) (r : Ky) {v : Kv} (hK : KOk w r v) (hF : Fit 100 v) :
    Calls Tryz.prog 13 #[.agg #[.string (str r.op), .string (str r.text), .string (str r.field), .int .i64 r.n, .slice r.set.1 r.set.2.1 r.set.2.2, .slice r.kids.1 r.kids.2.1 r.kids.2.2], .pointer (some ⟨mb, 0, none⟩), .pointer (some ⟨sb, 0, none⟩), .pointer (some ⟨ob, 0, none⟩)] w fun e w' => e = .returned (.bool (matchB (leafB (m.lk seq most most) fl) v)) ∧ Below w.heap.size w w' := by
  have ha : Below w.heap.size w (w.alloc (.cells #[.string (str r.op), .string (str r.text), .string (str r.field), .int .i64 r.n, .slice r.set.1 r.set.2.1 r.set.2.2, .slice r.kids.1 r.kids.2.1 r.kids.2.2] 28)) := (Below.refl _ _).alloc (Nat.le_refl _) _
  obtain ⟨w1, hw1⟩ : ∃ w1, w.alloc (.cells #[.string (str r.op), .string (str r.text), .string (str r.field), .int .i64 r.n, .slice r.set.1 r.set.2.1 r.set.2.2, .slice r.kids.1 r.kids.2.1 r.kids.2.2] 28) = w1 := ⟨_, rfl⟩
  have hk1 : w1.heap[w.heap.size]? = some (.cells #[.string (str r.op), .string (str r.text), .string (str r.field), .int .i64 r.n, .slice r.set.1 r.set.2.1 r.set.2.2, .slice r.kids.1 r.kids.2.1 r.kids.2.2] 28 (0, 0)) := by rw [← hw1]; exact heap_alloc_new _ _
  rw [hw1] at ha
  have HB := hid ha
  have hm1 := hm.later ha
  have c0 : w1.cell? ⟨mb, 0, none⟩ = some (.int .i64 m.uid) := cell_of hm1 rfl
  have c1 : w1.cell? ⟨mb, 1, none⟩ = some (.slice m.fa m.fn m.fc) := cell_of hm1 rfl
  have c2 : w1.cell? ⟨mb, 2, none⟩ = some (.int .i64 m.d1) := cell_of hm1 rfl
  have c3 : w1.cell? ⟨mb, 3, none⟩ = some (.int .i64 m.d2) := cell_of hm1 rfl
  have c4 : w1.cell? ⟨mb, 4, none⟩ = some (.int .i64 m.d3) := cell_of hm1 rfl
  have c5 : w1.cell? ⟨mb, 5, none⟩ = some (.int .i64 m.d4) := cell_of hm1 rfl
  have c6 : w1.cell? ⟨mb, 6, none⟩ = some (.int .i64 m.d5) := cell_of hm1 rfl
  have c7 : w1.cell? ⟨mb, 7, none⟩ = some (.int .i64 m.d6) := cell_of hm1 rfl
  have c8 : w1.cell? ⟨mb, 8, none⟩ = some (.int .i64 m.d7) := cell_of hm1 rfl
  have c9 : w1.cell? ⟨mb, 9, none⟩ = some (.string (str m.text)) := cell_of hm1 rfl
  have c10 : w1.cell? ⟨mb, 10, none⟩ = some (.int .i64 m.size) := cell_of hm1 rfl
  have c11 : w1.cell? ⟨mb, 11, none⟩ = some (.int .i64 m.id) := cell_of hm1 rfl
  have k0 : w1.cell? ⟨w.heap.size, 0, none⟩ = some (.string (str r.op)) := cell_of hk1 rfl
  have k1 : w1.cell? ⟨w.heap.size, 1, none⟩ = some (.string (str r.text)) := cell_of hk1 rfl
  have k2 : w1.cell? ⟨w.heap.size, 2, none⟩ = some (.string (str r.field)) := cell_of hk1 rfl
  have k3 : w1.cell? ⟨w.heap.size, 3, none⟩ = some (.int .i64 r.n) := cell_of hk1 rfl
  have k4 : w1.cell? ⟨w.heap.size, 4, none⟩ = some (.slice r.set.1 r.set.2.1 r.set.2.2) := cell_of hk1 rfl
  have k5 : w1.cell? ⟨w.heap.size, 5, none⟩ = some (.slice r.kids.1 r.kids.2.1 r.kids.2.2) := cell_of hk1 rfl
  have s1 : w1.cell? ⟨sb, 0, none⟩ = some (.int .i64 seq) := (World.cell?_of_block (ha.block sb (lt_of_cell hseq))).trans hseq
  have o1 : w1.cell? ⟨ob, 0, none⟩ = some (.int .i64 most) := (World.cell?_of_block (ha.block ob (lt_of_cell hmost))).trans hmost
  have C : Calls Tryz.prog 11 #[.agg #[.string (str r.op), .string (str r.text), .string (str r.field), .int .i64 r.n, .slice r.set.1 r.set.2.1 r.set.2.2, .slice r.kids.1 r.kids.2.1 r.kids.2.2], .agg #[.int .i64 m.uid, .slice m.fa m.fn m.fc, .int .i64 m.d1, .int .i64 m.d2, .int .i64 m.d3, .int .i64 m.d4, .int .i64 m.d5, .int .i64 m.d6, .int .i64 m.d7, .string (str m.text), .int .i64 m.size, .int .i64 m.id], .int .i64 seq, .int .i64 most, .int .i64 most] w1 _ := match_k (he.later ha) m fl (hfl.later ha) hfn hfb ht seq most most (hK.later ha) hF
  clear he hm hseq hmost hfl hfb hK ha hm1 hk1
  generalize hZ : matchB (leafB (m.lk seq most most) fl) v = Z at *
  have HZ := hid hZ
  clear hZ
  go_enter Tryz.func13, Tryz.ntmps13
  go_wp2_with fail
  clear hw1
  refine C.mono ?_
  rintro e w2 ⟨rfl, b2⟩
  have B2 := hid b2
  clear b2 C
  go_wp2_with fail
  go_ret
  exact ⟨by first | rfl | (rw [HZ.out]; rfl), HB.out.trans (B2.out.mono HB.out.size)⟩
set_option maxRecDepth 100000 in
set_option maxHeartbeats 4000000 in
theorem not_k (w : World) (r : Ky) :
    Calls Tryz.prog 14 #[.agg #[.string (str r.op), .string (str r.text), .string (str r.field), .int .i64 r.n, .slice r.set.1 r.set.2.1 r.set.2.2, .slice r.kids.1 r.kids.2.1 r.kids.2.2]] w fun e w' => (∃ nb, e = .returned (.agg #[.string ⟨#[78, 79, 84]⟩, .string ⟨#[]⟩, .string ⟨#[]⟩, .int .i64 0, .slice none 0 0, .slice (some ⟨nb, 0, none⟩) 1 1]) ∧ w'.heap[nb]? = some (.cells r.c.toArray 28 (0, 0))) ∧ Below w.heap.size w w' := by
  have ha : Below w.heap.size w (w.alloc (.cells #[.string (str r.op), .string (str r.text), .string (str r.field), .int .i64 r.n, .slice r.set.1 r.set.2.1 r.set.2.2, .slice r.kids.1 r.kids.2.1 r.kids.2.2] 28)) := (Below.refl _ _).alloc (Nat.le_refl _) _
  obtain ⟨w1, hw1⟩ : ∃ w1, w.alloc (.cells #[.string (str r.op), .string (str r.text), .string (str r.field), .int .i64 r.n, .slice r.set.1 r.set.2.1 r.set.2.2, .slice r.kids.1 r.kids.2.1 r.kids.2.2] 28) = w1 := ⟨_, rfl⟩
  have hk1 : w1.heap[w.heap.size]? = some (.cells #[.string (str r.op), .string (str r.text), .string (str r.field), .int .i64 r.n, .slice r.set.1 r.set.2.1 r.set.2.2, .slice r.kids.1 r.kids.2.1 r.kids.2.2] 28 (0, 0)) := by rw [← hw1]; exact heap_alloc_new _ _
  rw [hw1] at ha
  have HB := hid ha
  have k0 : w1.cell? ⟨w.heap.size, 0, none⟩ = some (.string (str r.op)) := cell_of hk1 rfl
  have k1 : w1.cell? ⟨w.heap.size, 1, none⟩ = some (.string (str r.text)) := cell_of hk1 rfl
  have k2 : w1.cell? ⟨w.heap.size, 2, none⟩ = some (.string (str r.field)) := cell_of hk1 rfl
  have k3 : w1.cell? ⟨w.heap.size, 3, none⟩ = some (.int .i64 r.n) := cell_of hk1 rfl
  have k4 : w1.cell? ⟨w.heap.size, 4, none⟩ = some (.slice r.set.1 r.set.2.1 r.set.2.2) := cell_of hk1 rfl
  have k5 : w1.cell? ⟨w.heap.size, 5, none⟩ = some (.slice r.kids.1 r.kids.2.1 r.kids.2.2) := cell_of hk1 rfl
  obtain ⟨w2, hw2⟩ : ∃ w2, w1.alloc (.cells #[.string ⟨#[]⟩, .string ⟨#[]⟩, .string ⟨#[]⟩, .int .i64 0, .slice none 0 0, .slice none 0 0] 28) = w2 := ⟨_, rfl⟩
  have b2 : Below w1.heap.size w1 w2 := by rw [← hw2]; exact (Below.refl _ _).alloc (Nat.le_refl _) _
  have s2 : w2.heap.size = w1.heap.size + 1 := by rw [← hw2]; simp
  have hz2 : KyAt w2 w1.heap.size zKy := by rw [← hw2]; exact KyAt.new w1 zKy
  have hk2 : w2.heap[w.heap.size]? = some (.cells #[.string (str r.op), .string (str r.text), .string (str r.field), .int .i64 r.n, .slice r.set.1 r.set.2.1 r.set.2.2, .slice r.kids.1 r.kids.2.1 r.kids.2.2] 28 (0, 0)) := (b2.block _ (Array.getElem?_eq_some_iff.1 hk1).1).trans hk1
  have e0 : w2.cell? ⟨w.heap.size, 0, none⟩ = some (.string (str r.op)) := cell_of hk2 rfl
  have e1 : w2.cell? ⟨w.heap.size, 1, none⟩ = some (.string (str r.text)) := cell_of hk2 rfl
  have e2 : w2.cell? ⟨w.heap.size, 2, none⟩ = some (.string (str r.field)) := cell_of hk2 rfl
  have e3 : w2.cell? ⟨w.heap.size, 3, none⟩ = some (.int .i64 r.n) := cell_of hk2 rfl
  have e4 : w2.cell? ⟨w.heap.size, 4, none⟩ = some (.slice r.set.1 r.set.2.1 r.set.2.2) := cell_of hk2 rfl
  have e5 : w2.cell? ⟨w.heap.size, 5, none⟩ = some (.slice r.kids.1 r.kids.2.1 r.kids.2.2) := cell_of hk2 rfl
  obtain ⟨w3, hw3⟩ : ∃ w3, w2.alloc (.cells #[.string (str r.op), .string (str r.text), .string (str r.field), .int .i64 r.n, .slice r.set.1 r.set.2.1 r.set.2.2, .slice r.kids.1 r.kids.2.1 r.kids.2.2] 28) = w3 := ⟨_, rfl⟩
  have b3 : Below w2.heap.size w2 w3 := by rw [← hw3]; exact (Below.refl _ _).alloc (Nat.le_refl _) _
  have hn3 : w3.heap[w2.heap.size]? = some (.cells r.c.toArray 28 (0, 0)) := by rw [← hw3]; exact heap_alloc_new _ _
  have hz3 : KyAt w3 w1.heap.size zKy := hz2.later b3
  obtain ⟨w4, hw4⟩ : ∃ w4, rowY w3 w1.heap.size (subK notN w2.heap.size 1) = w4 := ⟨_, rfl⟩
  have hy4 : KyAt w4 w1.heap.size (subK notN w2.heap.size 1) := by rw [← hw4]; exact rowY_is hz3 _
  have ky4 := rowY_self w3 w1.heap.size (subK notN w2.heap.size 1)
  rw [hw4] at ky4
  have hn4 : w4.heap[w2.heap.size]? = some (.cells r.c.toArray 28 (0, 0)) := (ky4.block _ ((Array.getElem?_eq_some_iff.1 hn3).1) (by simp; omega)).trans hn3
  have hws := HB.out.size
  have HB4 : Hid (Below w.heap.size w w4) := ((HB.out.trans (b2.mono hws)).trans (b3.mono (by omega))).trans (ky4.below (by simp; omega) (by have := b3.size; omega))
  have y0 := hy4.cell 0
  have y1 := hy4.cell 1
  have y2 := hy4.cell 2
  have y3 := hy4.cell 3
  have y4 := hy4.cell 4
  have y5 := hy4.cell 5
  simp only [Ky.c, sv, subK, List.getElem?_cons_succ, List.getElem?_cons_zero] at y0 y1 y2 y3 y4 y5
  have HZ3 := hid hz3
  have HN4 := hid hn4
  have HY4 := hid hy4
  clear hk1 ha hk2 hz2 hz3 hn3 hn4 ky4 hy4 b2 b3
  generalize hq : w2.heap.size = q2 at *
  clear s2 hws
  go_enter Tryz.func14, Tryz.ntmps14
  go_wp2_with (refine wpList_store28 (K := subK notN q2 1) rfl rfl HZ3.out ?_)
  (try simp only [Exit.inBlock, Exit.then])
  rw [hw4]
  refine bodyPost_ret (results14_run _ rfl HY4.out) rfl ?_
  exact ⟨⟨q2, rfl, HN4.out⟩, HB4.out⟩
end Go.Proofs.YtaniljfjmbifnaaGreatDoor.H
