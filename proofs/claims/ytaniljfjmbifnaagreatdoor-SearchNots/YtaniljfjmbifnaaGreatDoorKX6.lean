/- What this text holds: days: of a message's date, and of its header. · What this text holds: keys that ask for days and lengths. · What this text holds: keys that ask for the day that a message's header tells. · What this text holds: a match, of what its key answers. -/
import Derived.Test.YtaniljfjmbifnaaGreatDoorK13
import Derived.Test.YtaniljfjmbifnaaGreatDoorZE
namespace Go.Proofs.YtaniljfjmbifnaaGreatDoor.H
open Go.RowKit
set_option linter.unusedVariables false
set_option linter.unusedSimpArgs false

set_option maxRecDepth 100000 in
theorem number_any (y m d h mi s z : Int) (w : World) : Calls Tryz.prog 41 #[.agg #[.int .i64 y, .int .i64 m, .int .i64 d, .int .i64 h, .int .i64 mi, .int .i64 s, .int .i64 z]] w fun e w' => e = .returned (.int .i64 (D.daysV y m d)) ∧ Below w.heap.size w w' := by
  have C := fun w0 => D.days_any y m d w0
  go_enter Tryz.func41, Tryz.ntmps41
  go_wp2_with fail
  refine (C _).mono ?_
  rintro e w2 ⟨rfl, rfl⟩
  go_wp2_with fail
  go_ret
  exact ⟨rfl, (Below.refl _ _).alloc (Nat.le_refl _) _⟩
def placedB (op : Bs) (day n : Int) : Bool := if op = [66, 69, 70, 79, 82, 69] then decide (day < n) else if op = [79, 78] then decide (day = n) else decide (n ≤ day)
set_option maxRecDepth 100000 in
theorem placed_any (op : Bs) (day n : Int) (w : World) : Calls Tryz.prog 40 #[.string (str op), .int .i64 day, .int .i64 n] w fun e w' => e = .returned (.bool (placedB op day n)) ∧ w' = w := by
  by_cases h1 : op = [66, 69, 70, 79, 82, 69]
  · have g1 : ((str op).toList == ([66, 69, 70, 79, 82, 69] : Bs)) = true := by rw [toL, h1]; decide
    have HR : Hid (placedB op day n = decide (day < n)) := by unfold Hid placedB; rw [if_pos h1]
    clear h1
    go_enter Tryz.func40, Tryz.ntmps40
    go_wp2_with fail
    go_ret
    rw [HR.out]
    exact ⟨rfl, rfl⟩
  · have g1 : ((str op).toList == ([66, 69, 70, 79, 82, 69] : Bs)) = false := by rw [toL, beq_eq_false_iff_ne]; exact h1
    by_cases h2 : op = [79, 78]
    · have g2 : ((str op).toList == ([79, 78] : Bs)) = true := by rw [toL, h2]; decide
      have HR : Hid (placedB op day n = decide (day = n)) := by unfold Hid placedB; rw [if_neg h1, if_pos h2]
      clear h1 h2
      go_enter Tryz.func40, Tryz.ntmps40
      go_wp2_with fail
      go_ret
      rw [HR.out]
      exact ⟨rfl, rfl⟩
    · have g2 : ((str op).toList == ([79, 78] : Bs)) = false := by rw [toL, beq_eq_false_iff_ne]; exact h2
      have HR : Hid (placedB op day n = decide (n ≤ day)) := by unfold Hid placedB; rw [if_neg h1, if_neg h2]
      clear h1 h2
      go_enter Tryz.func40, Tryz.ntmps40
      go_wp2_with fail
      go_ret
      rw [HR.out]
      exact ⟨rfl, rfl⟩
def DtAt (w : World) (A : Nat) (t : D.Dt) : Prop := w.heap[A]? = some (.cells (D.dtL t).toArray 31 (0, 0))
def rowD (w : World) (A : Nat) (t : D.Dt) : World := w.setRow A (D.dtL t).toArray
theorem rowD_is {w : World} {A : Nat} {t' : D.Dt} (h : DtAt w A t') (t : D.Dt) : DtAt (rowD w A t) A t := setRow_heap w A _ _ 31 _ h
theorem rowD_self (w : World) (A : Nat) (t : D.Dt) : Kept [A] w (rowD w A t) := ⟨rfl, rfl, rfl, by simp [rowD], fun k _ hk => setRow_other w A k _ (fun e => hk (by simp [e]))⟩
theorem exec_store31 {a : Act} {x y : Operand} {A : Nat} {t t' : D.Dt} {w : World} {ds : Option Tmp} {ty : Nat} {pos : String} {af : Array Edge} {gd : Option (Nat × Bool)}
    (hx : a.eval x = .pointer (some ⟨A, 0, none⟩)) (hy : a.eval y = D.dtV t) (hA : DtAt w A t') :
    (execOp a.eval ⟨ds, .store 31 x y, ty, pos, af, gd⟩).run Tryz.prog w = .ok .skip (rowD w A t) := by
  have h := run_storeVar_row (P := Tryz.prog) w A 31 31 _ (D.dtL t).toArray hA (by kernel_rfl) rfl (by simp [D.dtL, Value.oneCell'])
  simp [execOp, hx, hy, Instr.storeAt, Instr.sureAddr, D.dtV, h, rowD]
theorem wpList_store31 {ops : Array Oper} {rest : List Oper} {Q : Exit → Act → World → Prop} {a : Act} {x y : Operand} {A : Nat} {t t' : D.Dt} {w : World} {ty : Nat} {pos : String} {af : Array Edge}
    (hx : a.eval x = .pointer (some ⟨A, 0, none⟩)) (hy : a.eval y = D.dtV t) (hA : DtAt w A t')
    (h : wpList Tryz.prog ops Q rest a (rowD w A t)) : wpList Tryz.prog ops Q (⟨none, .store 31 x y, ty, pos, af, none⟩ :: rest) a w := by
  refine wpList_plain rfl fun K hK => ?_
  unfold Oper.wp
  rw [exec_store31 hx hy hA]
  exact hK _ _ h
theorem resD2 {f : Func} {k j A : Nat} {t : D.Dt} {n : Value} {w : World} {tmps : Array Value} (hf : f.results = #[.cell k 31, .tmp j]) (ht : tmps[k]? = some (.pointer (some ⟨A, 0, none⟩))) (hj : tmps[j]? = some n) (hA : DtAt w A t) : (results f tmps).run Tryz.prog w = .ok (.tuple #[D.dtV t, n]) w := by
  obtain ⟨x0, x1, x2, x3, x4, x5, x6⟩ := D.cA_load hA
  simp [results, hf, go_sem, ht, hj, x0, x1, x2, x3, x4, x5, x6, D.dtV, D.dtL]
/-- A look stays, where the block of an answer alone is turned. -/
theorem Seen.row {w : World} {b A : Nat} {L : Lk} {t : D.Dt} (h : Seen w b L) (hA : A ≠ b) (hd : DtAt w A t) (t' : D.Dt) : Seen (rowD w A t') b L := by
  obtain ⟨fs, hl, hf⟩ := h
  refine ⟨fs, hl.kept (rowD_self w A t') (by simpa using Ne.symm hA), fun hr => ?_⟩
  obtain ⟨hw, a, c, e, hc, hr2⟩ := hf hr
  refine ⟨hw, a, c, e, hc, ?_⟩
  rcases hr2 with hr2 | ⟨g, o, rfl, hr2, hg⟩
  · exact .inl hr2
  · by_cases hgA : g = A
    · refine .inl ?_
      generalize ({ L with rd := true, fs := fs } : Lk).text = T at hr2 hw ⊢
      cases hh : (headL T).map fR with
      | nil => rfl
      | cons r l =>
        exfalso
        rw [hh] at hr2 hw
        have hr3 := hw r (List.mem_cons_self ..)
        match r, hr3 with
        | [x, y], _ =>
          have c0 := hr2 0 0 [x, y] x rfl rfl
          rw [hgA] at c0
          have c1 : w.cell? ⟨A, o + (0 * 2 + 0), none⟩ = (D.dtL t)[o + (0 * 2 + 0)]? := by simp [World.cell?, show w.heap[A]? = _ from hd]
          rw [c1] at c0
          have hb := (List.getElem?_eq_some_iff.1 c0).1
          simp only [D.dtL, List.length_cons, List.length_nil] at hb
          rcases (by omega : o = 0 ∨ o = 1 ∨ o = 2 ∨ o = 3 ∨ o = 4 ∨ o = 5 ∨ o = 6) with rfl | rfl | rfl | rfl | rfl | rfl | rfl <;> simp [D.dtL] at c0
    · exact .inr ⟨g, o, rfl, fun j i r p h1 h2 => cell_kept (hr2 j i r p h1 h2) hg (rowD_self w A t') hgA, by simpa [rowD] using hg⟩
theorem kept_row {w w2 : World} {b : Nat} {t : D.Dt} (h : Kept [b] w w2) (hb : b < w.heap.size) : Kept [b] w (rowD w2 w.heap.size t) :=
  ⟨(rowD_self w2 w.heap.size t).os.trans h.os, (rowD_self w2 w.heap.size t).tape.trans h.tape, (rowD_self w2 w.heap.size t).output.trans h.output, Nat.le_trans h.size (rowD_self w2 w.heap.size t).size,
    fun i hi hn => ((rowD_self w2 w.heap.size t).block i (Nat.lt_of_lt_of_le hi h.size) (by simp; omega)).trans (h.block i hi hn)⟩
def dateN : Bs := [100, 97, 116, 101]
/-- What a message's header tells of its day. -/
def sentP (t : Bs) : Option D.Dt := match valsL t dateN with
  | [] => none
  | v :: _ => D.readP D.mailP v
def SentIs (t : Bs) (e : Ending) : Prop := match sentP t with
  | some d => e = .returned (.tuple #[D.dtV d, .bool true])
  | none => ∃ d : D.Dt, e = .returned (.tuple #[D.dtV d, .bool false])
set_option maxRecDepth 100000 in
set_option maxHeartbeats 2000000 in
theorem sent_any {w : World} {b : Nat} {L : Lk} (he : Env w) (hb0 : 0 < b) (h : LkAt w b L) (hf : FsOk w L) (ht : L.text.length ≤ 1000000) (hv : ∀ v ∈ valsL L.text dateN, v.length ≤ 1000000) :
    Calls Tryz.prog 42 #[.pointer (some ⟨b, 0, none⟩)] w fun e w' => Seen w' b L ∧ SentIs L.text e ∧ Kept [b] w w' := by
  have hbl := h.lt
  obtain ⟨w1, hw1⟩ : ∃ w1, w.alloc (.cells #[.int .i64 0, .int .i64 0, .int .i64 0, .int .i64 0, .int .i64 0, .int .i64 0, .int .i64 0] 31) = w1 := ⟨_, rfl⟩
  have ha : Below w.heap.size w w1 := by rw [← hw1]; exact (Below.refl _ _).alloc (Nat.le_refl _) _
  have hd1 : w1.heap[w.heap.size]? = some (.cells (D.dtL D.Dt.zero).toArray 31 (0, 0)) := by rw [← hw1]; exact heap_alloc_new _ _
  have C := values_any (he.later ha) hb0 (h.later ha) (fun hr => (hf hr).later ha) ht dateN (by decide)
  have C : Calls Tryz.prog 35 #[.pointer (some ⟨b, 0, none⟩), .string ⟨#[100, 97, 116, 101]⟩] w1 _ := C
  have HB := hid ha
  have HD1 := hid hd1
  have HV := hid hv
  have HLt := hid hbl
  clear he h hf ha hv hd1 hbl
  go_enter Tryz.func42, Tryz.ntmps42
  go_wp2_with fail
  refine C.mono ?_
  rintro e w2 ⟨u, fs, rfl, hr, hl, hfs, hkp⟩
  have HD2 := hid ((hkp.block _ ((Array.getElem?_eq_some_iff.1 HD1.out).1) (by simp; have := HLt.out; omega)).trans HD1.out)
  have HS : Hid (Seen w2 b L) := ⟨fs, hl, hfs⟩
  have HK2 := hid (kept_t (Kept.ofBelow HB.out [b]) hkp)
  clear hl hfs hkp C hw1
  obtain ⟨_, a, c, rfl, hc, hr2⟩ := id hr
  rw [List.length_map] at hc ⊢
  rcases hvs : valsL L.text dateN with _ | ⟨v, vs⟩
  · have HN : Hid (sentP L.text = none) := by unfold Hid sentP; rw [hvs]
    rw [hvs] at hr hr2 hc
    clear hr hr2 hc hvs HV
    go_wp2_with (refine wpList_store31 (t := D.Dt.zero) rfl rfl HD2.out ?_)
    have p1 := rowD_is HD2.out D.Dt.zero
    refine bodyPost_ret (w := rowD w2 w.heap.size D.Dt.zero) (resD2 rfl rfl rfl p1) rfl ?_
    refine ⟨HS.out.row (by have := HLt.out; omega) HD2.out _, ?_, ?_⟩
    · unfold SentIs
      rw [HN.out]
      exact ⟨D.Dt.zero, rfl⟩
    · exact kept_row HK2.out HLt.out
  · have HN : Hid (sentP L.text = D.readP D.mailP v) := by unfold Hid sentP; rw [hvs]
    have hvl := HV.out v (by rw [hvs]; exact List.mem_cons_self ..)
    rw [hvs] at hr hr2 hc
    rcases hr2 with hr2 | ⟨g, o, rfl, hr2, hg⟩
    · simp at hr2
    · have c0 : w2.cell? ⟨g, o, none⟩ = some (.string (str v)) := by simpa using hr2 0 0 (sR v) v (by simp) rfl
      clear hr hr2 HV hvs
      rcases hrd : D.readP D.mailP v with _ | d
      · have C2 : Calls Tryz.prog 77 #[.string (str v)] w2 fun e w' => e = .returned (.tuple #[.agg #[.int .i64 0, .int .i64 0, .int .i64 0, .int .i64 0, .int .i64 0, .int .i64 0, .int .i64 0], .int .i64 11]) ∧ Below w2.heap.size w2 w' := by
          have := D.mails_any v hvl w2
          rw [hrd] at this
          exact this
        rw [hrd] at HN
        clear hrd hvl
        go_wp2_with fail
        refine C2.mono ?_
        rintro e w3 ⟨rfl, b3⟩
        have b4 : Below w2.heap.size w2 (w3.alloc (.cells #[.int .i64 0, .int .i64 0, .int .i64 0, .int .i64 0, .int .i64 0, .int .i64 0, .int .i64 0] 31)) := b3.alloc b3.size _
        have HS3 : Hid (Seen (w3.alloc (.cells #[.int .i64 0, .int .i64 0, .int .i64 0, .int .i64 0, .int .i64 0, .int .i64 0, .int .i64 0] 31)) b L) := by
          obtain ⟨fs', hl, hf⟩ := HS.out
          exact ⟨fs', hl.later b4, fun hr => (hf hr).later b4⟩
        have HD3 : Hid (DtAt (w3.alloc (.cells #[.int .i64 0, .int .i64 0, .int .i64 0, .int .i64 0, .int .i64 0, .int .i64 0, .int .i64 0] 31)) w.heap.size D.Dt.zero) := (b4.block _ ((Array.getElem?_eq_some_iff.1 HD2.out).1)).trans HD2.out
        have HK3 := hid (kept_t HK2.out (Kept.ofBelow b4 [b]))
        clear b3 b4 C2
        go_wp2_with (refine wpList_store31 (t := D.Dt.zero) rfl rfl HD3.out ?_)
        have p1 := rowD_is HD3.out D.Dt.zero
        refine bodyPost_ret (w := rowD _ w.heap.size D.Dt.zero) (resD2 rfl rfl rfl p1) rfl ?_
        refine ⟨HS3.out.row (by have := HLt.out; omega) HD3.out _, ?_, kept_row HK3.out HLt.out⟩
        unfold SentIs
        rw [HN.out]
        exact ⟨D.Dt.zero, rfl⟩
      · have C2 : Calls Tryz.prog 77 #[.string (str v)] w2 fun e w' => e = .returned (.tuple #[.agg #[.int .i64 d.y, .int .i64 d.mo, .int .i64 d.d, .int .i64 d.h, .int .i64 d.mi, .int .i64 d.s, .int .i64 d.z], .int .i64 0]) ∧ Below w2.heap.size w2 w' := by
          have := D.mails_any v hvl w2
          rw [hrd] at this
          exact this
        rw [hrd] at HN
        clear hrd hvl
        go_wp2_with fail
        refine C2.mono ?_
        rintro e w3 ⟨rfl, b3⟩
        have b4 : Below w2.heap.size w2 (w3.alloc (.cells #[.int .i64 d.y, .int .i64 d.mo, .int .i64 d.d, .int .i64 d.h, .int .i64 d.mi, .int .i64 d.s, .int .i64 d.z] 31)) := b3.alloc b3.size _
        have HS3 : Hid (Seen (w3.alloc (.cells #[.int .i64 d.y, .int .i64 d.mo, .int .i64 d.d, .int .i64 d.h, .int .i64 d.mi, .int .i64 d.s, .int .i64 d.z] 31)) b L) := by
          obtain ⟨fs', hl, hf⟩ := HS.out
          exact ⟨fs', hl.later b4, fun hr => (hf hr).later b4⟩
        have HD3 : Hid (DtAt (w3.alloc (.cells #[.int .i64 d.y, .int .i64 d.mo, .int .i64 d.d, .int .i64 d.h, .int .i64 d.mi, .int .i64 d.s, .int .i64 d.z] 31)) w.heap.size D.Dt.zero) := (b4.block _ ((Array.getElem?_eq_some_iff.1 HD2.out).1)).trans HD2.out
        have HK3 := hid (kept_t HK2.out (Kept.ofBelow b4 [b]))
        clear b3 b4 C2
        go_wp2_with (refine wpList_store31 (t := d) rfl rfl HD3.out ?_)
        have p1 := rowD_is HD3.out d
        refine bodyPost_ret (w := rowD _ w.heap.size d) (resD2 rfl rfl rfl p1) rfl ?_
        refine ⟨HS3.out.row (by have := HLt.out; omega) HD3.out _, ?_, kept_row HK3.out HLt.out⟩
        unfold SentIs
        rw [HN.out]
        rfl
end Go.Proofs.YtaniljfjmbifnaaGreatDoor.H
namespace Go.Proofs.YtaniljfjmbifnaaGreatDoor.H
open Go.RowKit
set_option linter.unusedVariables false
set_option linter.unusedSimpArgs false

/-- The message is as it was, but that its fields may have been read. -/
def Seen2 (w : World) (b : Nat) (L : Lk) : Prop := ∃ rd fs, LkAt w b { L with rd := rd, fs := fs } ∧ FsOk w { L with rd := rd, fs := fs }
theorem Seen.two {w : World} {b : Nat} {L : Lk} (h : Seen w b L) : Seen2 w b L := by
  obtain ⟨fs, h1, h2⟩ := h
  exact ⟨true, fs, h1, h2⟩
theorem Seen2.of {w : World} {b : Nat} {L : Lk} (h : LkAt w b L) (hf : FsOk w L) : Seen2 w b L := ⟨L.rd, L.fs, h, hf⟩
theorem fld33 (b : Nat) (w : World) : (Instr.fieldAt 33 (.pointer (some ⟨b, 0, none⟩)) 2).run Tryz.prog w = .ok (.pointer (some ⟨b, 2, none⟩)) w := by kernel_rfl
set_option maxRecDepth 100000 in
set_option maxHeartbeats 4000000 in
theorem larger_any {w : World} {b : Nat} {L : Lk} (he : Env w) (hb0 : 0 < b) (h : LkAt w b L) (hf : FsOk w L) (ht : L.text.length ≤ 1000000) (op t f : Bs) (n : Int) (a : Option Addr) (p c : Nat) (d : Option Addr) (q g : Nat) (hop : op = [76, 65, 82, 71, 69, 82]) :
    Calls Tryz.prog 23 #[.pointer (some ⟨b, 0, none⟩), .agg #[.string (str op), .string (str t), .string (str f), .int .i64 n, .slice a p c, .slice d q g]] w fun e w' => Seen2 w' b L ∧ e = .returned (.bool (decide (n < (L.text.length : Int)))) ∧ Kept [b] w w' := by
  have q0 : ((str op).toList == ([65, 76, 76] : Bs)) = false := by rw [toL, hop]; decide
  have q1 : ((str op).toList == ([65, 78, 83, 87, 69, 82, 69, 68] : Bs)) = false := by rw [toL, hop]; decide
  have q2 : ((str op).toList == ([68, 69, 76, 69, 84, 69, 68] : Bs)) = false := by rw [toL, hop]; decide
  have q3 : ((str op).toList == ([68, 82, 65, 70, 84] : Bs)) = false := by rw [toL, hop]; decide
  have q4 : ((str op).toList == ([70, 76, 65, 71, 71, 69, 68] : Bs)) = false := by rw [toL, hop]; decide
  have q5 : ((str op).toList == ([83, 69, 69, 78] : Bs)) = false := by rw [toL, hop]; decide
  have q6 : ((str op).toList == ([85, 78, 65, 78, 83, 87, 69, 82, 69, 68] : Bs)) = false := by rw [toL, hop]; decide
  have q7 : ((str op).toList == ([85, 78, 68, 69, 76, 69, 84, 69, 68] : Bs)) = false := by rw [toL, hop]; decide
  have q8 : ((str op).toList == ([85, 78, 68, 82, 65, 70, 84] : Bs)) = false := by rw [toL, hop]; decide
  have q9 : ((str op).toList == ([85, 78, 70, 76, 65, 71, 71, 69, 68] : Bs)) = false := by rw [toL, hop]; decide
  have q10 : ((str op).toList == ([85, 78, 83, 69, 69, 78] : Bs)) = false := by rw [toL, hop]; decide
  have q11 : ((str op).toList == ([75, 69, 89, 87, 79, 82, 68] : Bs)) = false := by rw [toL, hop]; decide
  have q12 : ((str op).toList == ([85, 78, 75, 69, 89, 87, 79, 82, 68] : Bs)) = false := by rw [toL, hop]; decide
  have q13 : ((str op).toList == ([66, 67, 67] : Bs)) = false := by rw [toL, hop]; decide
  have q14 : ((str op).toList == ([67, 67] : Bs)) = false := by rw [toL, hop]; decide
  have q15 : ((str op).toList == ([70, 82, 79, 77] : Bs)) = false := by rw [toL, hop]; decide
  have q16 : ((str op).toList == ([83, 85, 66, 74, 69, 67, 84] : Bs)) = false := by rw [toL, hop]; decide
  have q17 : ((str op).toList == ([84, 79] : Bs)) = false := by rw [toL, hop]; decide
  have q18 : ((str op).toList == ([72, 69, 65, 68, 69, 82] : Bs)) = false := by rw [toL, hop]; decide
  have q19 : ((str op).toList == ([66, 79, 68, 89] : Bs)) = false := by rw [toL, hop]; decide
  have q20 : ((str op).toList == ([84, 69, 88, 84] : Bs)) = false := by rw [toL, hop]; decide
  have q21 : ((str op).toList == ([66, 69, 70, 79, 82, 69] : Bs)) = false := by rw [toL, hop]; decide
  have q22 : ((str op).toList == ([79, 78] : Bs)) = false := by rw [toL, hop]; decide
  have q23 : ((str op).toList == ([83, 73, 78, 67, 69] : Bs)) = false := by rw [toL, hop]; decide
  have q24 : ((str op).toList == ([83, 69, 78, 84, 66, 69, 70, 79, 82, 69] : Bs)) = false := by rw [toL, hop]; decide
  have q25 : ((str op).toList == ([83, 69, 78, 84, 79, 78] : Bs)) = false := by rw [toL, hop]; decide
  have q26 : ((str op).toList == ([83, 69, 78, 84, 83, 73, 78, 67, 69] : Bs)) = false := by rw [toL, hop]; decide
  have q99 : ((str op).toList == ([76, 65, 82, 71, 69, 82] : Bs)) = true := by rw [toL, hop]; decide
  have ha : Below w.heap.size w (w.alloc (.cells #[.string (str op), .string (str t), .string (str f), .int .i64 n, .slice a p c, .slice d q g] 28)) := (Below.refl _ _).alloc (Nat.le_refl _) _
  obtain ⟨w1, hw1⟩ : ∃ w1, w.alloc (.cells #[.string (str op), .string (str t), .string (str f), .int .i64 n, .slice a p c, .slice d q g] 28) = w1 := ⟨_, rfl⟩
  have HKy : Hid (KyAt w1 w.heap.size ⟨op, t, f, n, (a, p, c), (d, q, g)⟩) := by rw [← hw1]; exact KyAt.new w ⟨op, t, f, n, (a, p, c), (d, q, g)⟩
  rw [hw1] at ha
  have HE := hid (he.later ha)
  have HAt := hid (h.later ha)
  have HFs : Hid (FsOk w1 L) := fun hr => (hf hr).later ha
  have HB := hid ha
  have HLt := hid h.lt
  have HT := hid ht
  have k0 := HKy.out.cell 0
  have k3 := HKy.out.cell 3
  have l9 := HAt.out.cell 9
  have l2 := HAt.out.cell 2
  have l3 := HAt.out.cell 3
  have l4 := HAt.out.cell 4
  have l5 := HAt.out.cell 5
  have l6 := HAt.out.cell 6
  have l7 := HAt.out.cell 7
  have l8 := HAt.out.cell 8
  simp only [Ky.c, Lk.c, List.getElem?_cons_succ, List.getElem?_cons_zero] at k0 k3 l2 l3 l4 l5 l6 l7 l8 l9
  have hF := fldk b
  have f0 := fun w => (hF w).1
  have g3 := fun w => (hF w).2.2.2.2.2.2.2.2
  have g2 := fld33 b
  have htz := str_size L.text
  clear he h hf ha hF hop
  go_enter Tryz.func23, Tryz.ntmps23
  go_wp2_with fail
  clear hw1
  go_quiet (fail)
  go_wp2_with fail
  go_ret
  exact ⟨Seen2.of (HAt.out.later (drewN_below _ _ _)) (fun hr => (HFs.out hr).later (drewN_below _ _ _)), by first | rfl | simp, kept_t (Kept.ofBelow HB.out [b]) (Kept.ofBelow (drewN_below _ _ _) [b])⟩
set_option maxRecDepth 100000 in
set_option maxHeartbeats 4000000 in
theorem smaller_any {w : World} {b : Nat} {L : Lk} (he : Env w) (hb0 : 0 < b) (h : LkAt w b L) (hf : FsOk w L) (ht : L.text.length ≤ 1000000) (op t f : Bs) (n : Int) (a : Option Addr) (p c : Nat) (d : Option Addr) (q g : Nat) (hop : op = [83, 77, 65, 76, 76, 69, 82]) :
    Calls Tryz.prog 23 #[.pointer (some ⟨b, 0, none⟩), .agg #[.string (str op), .string (str t), .string (str f), .int .i64 n, .slice a p c, .slice d q g]] w fun e w' => Seen2 w' b L ∧ e = .returned (.bool (decide ((L.text.length : Int) < n))) ∧ Kept [b] w w' := by
  have q0 : ((str op).toList == ([65, 76, 76] : Bs)) = false := by rw [toL, hop]; decide
  have q1 : ((str op).toList == ([65, 78, 83, 87, 69, 82, 69, 68] : Bs)) = false := by rw [toL, hop]; decide
  have q2 : ((str op).toList == ([68, 69, 76, 69, 84, 69, 68] : Bs)) = false := by rw [toL, hop]; decide
  have q3 : ((str op).toList == ([68, 82, 65, 70, 84] : Bs)) = false := by rw [toL, hop]; decide
  have q4 : ((str op).toList == ([70, 76, 65, 71, 71, 69, 68] : Bs)) = false := by rw [toL, hop]; decide
  have q5 : ((str op).toList == ([83, 69, 69, 78] : Bs)) = false := by rw [toL, hop]; decide
  have q6 : ((str op).toList == ([85, 78, 65, 78, 83, 87, 69, 82, 69, 68] : Bs)) = false := by rw [toL, hop]; decide
  have q7 : ((str op).toList == ([85, 78, 68, 69, 76, 69, 84, 69, 68] : Bs)) = false := by rw [toL, hop]; decide
  have q8 : ((str op).toList == ([85, 78, 68, 82, 65, 70, 84] : Bs)) = false := by rw [toL, hop]; decide
  have q9 : ((str op).toList == ([85, 78, 70, 76, 65, 71, 71, 69, 68] : Bs)) = false := by rw [toL, hop]; decide
  have q10 : ((str op).toList == ([85, 78, 83, 69, 69, 78] : Bs)) = false := by rw [toL, hop]; decide
  have q11 : ((str op).toList == ([75, 69, 89, 87, 79, 82, 68] : Bs)) = false := by rw [toL, hop]; decide
  have q12 : ((str op).toList == ([85, 78, 75, 69, 89, 87, 79, 82, 68] : Bs)) = false := by rw [toL, hop]; decide
  have q13 : ((str op).toList == ([66, 67, 67] : Bs)) = false := by rw [toL, hop]; decide
  have q14 : ((str op).toList == ([67, 67] : Bs)) = false := by rw [toL, hop]; decide
  have q15 : ((str op).toList == ([70, 82, 79, 77] : Bs)) = false := by rw [toL, hop]; decide
  have q16 : ((str op).toList == ([83, 85, 66, 74, 69, 67, 84] : Bs)) = false := by rw [toL, hop]; decide
  have q17 : ((str op).toList == ([84, 79] : Bs)) = false := by rw [toL, hop]; decide
  have q18 : ((str op).toList == ([72, 69, 65, 68, 69, 82] : Bs)) = false := by rw [toL, hop]; decide
  have q19 : ((str op).toList == ([66, 79, 68, 89] : Bs)) = false := by rw [toL, hop]; decide
  have q20 : ((str op).toList == ([84, 69, 88, 84] : Bs)) = false := by rw [toL, hop]; decide
  have q21 : ((str op).toList == ([66, 69, 70, 79, 82, 69] : Bs)) = false := by rw [toL, hop]; decide
  have q22 : ((str op).toList == ([79, 78] : Bs)) = false := by rw [toL, hop]; decide
  have q23 : ((str op).toList == ([83, 73, 78, 67, 69] : Bs)) = false := by rw [toL, hop]; decide
  have q24 : ((str op).toList == ([83, 69, 78, 84, 66, 69, 70, 79, 82, 69] : Bs)) = false := by rw [toL, hop]; decide
  have q25 : ((str op).toList == ([83, 69, 78, 84, 79, 78] : Bs)) = false := by rw [toL, hop]; decide
  have q26 : ((str op).toList == ([83, 69, 78, 84, 83, 73, 78, 67, 69] : Bs)) = false := by rw [toL, hop]; decide
  have q27 : ((str op).toList == ([76, 65, 82, 71, 69, 82] : Bs)) = false := by rw [toL, hop]; decide
  have q99 : ((str op).toList == ([83, 77, 65, 76, 76, 69, 82] : Bs)) = true := by rw [toL, hop]; decide
  have ha : Below w.heap.size w (w.alloc (.cells #[.string (str op), .string (str t), .string (str f), .int .i64 n, .slice a p c, .slice d q g] 28)) := (Below.refl _ _).alloc (Nat.le_refl _) _
  obtain ⟨w1, hw1⟩ : ∃ w1, w.alloc (.cells #[.string (str op), .string (str t), .string (str f), .int .i64 n, .slice a p c, .slice d q g] 28) = w1 := ⟨_, rfl⟩
  have HKy : Hid (KyAt w1 w.heap.size ⟨op, t, f, n, (a, p, c), (d, q, g)⟩) := by rw [← hw1]; exact KyAt.new w ⟨op, t, f, n, (a, p, c), (d, q, g)⟩
  rw [hw1] at ha
  have HE := hid (he.later ha)
  have HAt := hid (h.later ha)
  have HFs : Hid (FsOk w1 L) := fun hr => (hf hr).later ha
  have HB := hid ha
  have HLt := hid h.lt
  have HT := hid ht
  have k0 := HKy.out.cell 0
  have k3 := HKy.out.cell 3
  have l9 := HAt.out.cell 9
  have l2 := HAt.out.cell 2
  have l3 := HAt.out.cell 3
  have l4 := HAt.out.cell 4
  have l5 := HAt.out.cell 5
  have l6 := HAt.out.cell 6
  have l7 := HAt.out.cell 7
  have l8 := HAt.out.cell 8
  simp only [Ky.c, Lk.c, List.getElem?_cons_succ, List.getElem?_cons_zero] at k0 k3 l2 l3 l4 l5 l6 l7 l8 l9
  have hF := fldk b
  have f0 := fun w => (hF w).1
  have g3 := fun w => (hF w).2.2.2.2.2.2.2.2
  have g2 := fld33 b
  have htz := str_size L.text
  clear he h hf ha hF hop
  go_enter Tryz.func23, Tryz.ntmps23
  go_wp2_with fail
  clear hw1
  go_quiet (fail)
  go_wp2_with fail
  go_ret
  exact ⟨Seen2.of (HAt.out.later (drewN_below _ _ _)) (fun hr => (HFs.out hr).later (drewN_below _ _ _)), by first | rfl | simp, kept_t (Kept.ofBelow HB.out [b]) (Kept.ofBelow (drewN_below _ _ _) [b])⟩
set_option maxRecDepth 100000 in
set_option maxHeartbeats 4000000 in
theorem before_any {w : World} {b : Nat} {L : Lk} (he : Env w) (hb0 : 0 < b) (h : LkAt w b L) (hf : FsOk w L) (ht : L.text.length ≤ 1000000) (op t f : Bs) (n : Int) (a : Option Addr) (p c : Nat) (d : Option Addr) (q g : Nat) (hop : op = [66, 69, 70, 79, 82, 69]) :
    Calls Tryz.prog 23 #[.pointer (some ⟨b, 0, none⟩), .agg #[.string (str op), .string (str t), .string (str f), .int .i64 n, .slice a p c, .slice d q g]] w fun e w' => Seen2 w' b L ∧ e = .returned (.bool (placedB op (D.daysV L.d1 L.d2 L.d3) n)) ∧ Kept [b] w w' := by
  have q0 : ((str op).toList == ([65, 76, 76] : Bs)) = false := by rw [toL, hop]; decide
  have q1 : ((str op).toList == ([65, 78, 83, 87, 69, 82, 69, 68] : Bs)) = false := by rw [toL, hop]; decide
  have q2 : ((str op).toList == ([68, 69, 76, 69, 84, 69, 68] : Bs)) = false := by rw [toL, hop]; decide
  have q3 : ((str op).toList == ([68, 82, 65, 70, 84] : Bs)) = false := by rw [toL, hop]; decide
  have q4 : ((str op).toList == ([70, 76, 65, 71, 71, 69, 68] : Bs)) = false := by rw [toL, hop]; decide
  have q5 : ((str op).toList == ([83, 69, 69, 78] : Bs)) = false := by rw [toL, hop]; decide
  have q6 : ((str op).toList == ([85, 78, 65, 78, 83, 87, 69, 82, 69, 68] : Bs)) = false := by rw [toL, hop]; decide
  have q7 : ((str op).toList == ([85, 78, 68, 69, 76, 69, 84, 69, 68] : Bs)) = false := by rw [toL, hop]; decide
  have q8 : ((str op).toList == ([85, 78, 68, 82, 65, 70, 84] : Bs)) = false := by rw [toL, hop]; decide
  have q9 : ((str op).toList == ([85, 78, 70, 76, 65, 71, 71, 69, 68] : Bs)) = false := by rw [toL, hop]; decide
  have q10 : ((str op).toList == ([85, 78, 83, 69, 69, 78] : Bs)) = false := by rw [toL, hop]; decide
  have q11 : ((str op).toList == ([75, 69, 89, 87, 79, 82, 68] : Bs)) = false := by rw [toL, hop]; decide
  have q12 : ((str op).toList == ([85, 78, 75, 69, 89, 87, 79, 82, 68] : Bs)) = false := by rw [toL, hop]; decide
  have q13 : ((str op).toList == ([66, 67, 67] : Bs)) = false := by rw [toL, hop]; decide
  have q14 : ((str op).toList == ([67, 67] : Bs)) = false := by rw [toL, hop]; decide
  have q15 : ((str op).toList == ([70, 82, 79, 77] : Bs)) = false := by rw [toL, hop]; decide
  have q16 : ((str op).toList == ([83, 85, 66, 74, 69, 67, 84] : Bs)) = false := by rw [toL, hop]; decide
  have q17 : ((str op).toList == ([84, 79] : Bs)) = false := by rw [toL, hop]; decide
  have q18 : ((str op).toList == ([72, 69, 65, 68, 69, 82] : Bs)) = false := by rw [toL, hop]; decide
  have q19 : ((str op).toList == ([66, 79, 68, 89] : Bs)) = false := by rw [toL, hop]; decide
  have q20 : ((str op).toList == ([84, 69, 88, 84] : Bs)) = false := by rw [toL, hop]; decide
  have q99 : ((str op).toList == ([66, 69, 70, 79, 82, 69] : Bs)) = true := by rw [toL, hop]; decide
  have ha : Below w.heap.size w (w.alloc (.cells #[.string (str op), .string (str t), .string (str f), .int .i64 n, .slice a p c, .slice d q g] 28)) := (Below.refl _ _).alloc (Nat.le_refl _) _
  obtain ⟨w1, hw1⟩ : ∃ w1, w.alloc (.cells #[.string (str op), .string (str t), .string (str f), .int .i64 n, .slice a p c, .slice d q g] 28) = w1 := ⟨_, rfl⟩
  have HKy : Hid (KyAt w1 w.heap.size ⟨op, t, f, n, (a, p, c), (d, q, g)⟩) := by rw [← hw1]; exact KyAt.new w ⟨op, t, f, n, (a, p, c), (d, q, g)⟩
  rw [hw1] at ha
  have HE := hid (he.later ha)
  have HAt := hid (h.later ha)
  have HFs : Hid (FsOk w1 L) := fun hr => (hf hr).later ha
  have HB := hid ha
  have HLt := hid h.lt
  have HT := hid ht
  have k0 := HKy.out.cell 0
  have k3 := HKy.out.cell 3
  have l9 := HAt.out.cell 9
  have l2 := HAt.out.cell 2
  have l3 := HAt.out.cell 3
  have l4 := HAt.out.cell 4
  have l5 := HAt.out.cell 5
  have l6 := HAt.out.cell 6
  have l7 := HAt.out.cell 7
  have l8 := HAt.out.cell 8
  simp only [Ky.c, Lk.c, List.getElem?_cons_succ, List.getElem?_cons_zero] at k0 k3 l2 l3 l4 l5 l6 l7 l8 l9
  have hF := fldk b
  have f0 := fun w => (hF w).1
  have g3 := fun w => (hF w).2.2.2.2.2.2.2.2
  have g2 := fld33 b
  have htz := str_size L.text
  clear he h hf ha hF hop
  go_enter Tryz.func23, Tryz.ntmps23
  go_wp2_with fail
  have qc : w1.cell? ⟨w.heap.size, 0, none⟩ = some (.string (str op)) ∧ w1.cell? ⟨w.heap.size, 3, none⟩ = some (.int .i64 n) ∧ w1.cell? ⟨b, 2, none⟩ = some (.int .i64 L.d1) ∧ w1.cell? ⟨b, 3, none⟩ = some (.int .i64 L.d2) ∧ w1.cell? ⟨b, 4, none⟩ = some (.int .i64 L.d3) ∧ w1.cell? ⟨b, 5, none⟩ = some (.int .i64 L.d4) ∧ w1.cell? ⟨b, 6, none⟩ = some (.int .i64 L.d5) ∧ w1.cell? ⟨b, 7, none⟩ = some (.int .i64 L.d6) ∧ w1.cell? ⟨b, 8, none⟩ = some (.int .i64 L.d7) := ⟨k0, k3, l2, l3, l4, l5, l6, l7, l8⟩
  have HQ : Hid (∀ w' : World, KyAt w' w.heap.size ⟨op, t, f, n, (a, p, c), (d, q, g)⟩ → LkAt w' b L → w'.cell? ⟨w.heap.size, 0, none⟩ = some (.string (str op)) ∧ w'.cell? ⟨w.heap.size, 3, none⟩ = some (.int .i64 n) ∧ w'.cell? ⟨b, 2, none⟩ = some (.int .i64 L.d1) ∧ w'.cell? ⟨b, 3, none⟩ = some (.int .i64 L.d2) ∧ w'.cell? ⟨b, 4, none⟩ = some (.int .i64 L.d3) ∧ w'.cell? ⟨b, 5, none⟩ = some (.int .i64 L.d4) ∧ w'.cell? ⟨b, 6, none⟩ = some (.int .i64 L.d5) ∧ w'.cell? ⟨b, 7, none⟩ = some (.int .i64 L.d6) ∧ w'.cell? ⟨b, 8, none⟩ = some (.int .i64 L.d7)) := by
    intro w' e1 e2
    have k0 := e1.cell 0
    have k3 := e1.cell 3
    have l2 := e2.cell 2
    have l3 := e2.cell 3
    have l4 := e2.cell 4
    have l5 := e2.cell 5
    have l6 := e2.cell 6
    have l7 := e2.cell 7
    have l8 := e2.cell 8
    simp only [Ky.c, Lk.c, List.getElem?_cons_succ, List.getElem?_cons_zero] at k0 k3 l2 l3 l4 l5 l6 l7 l8
    exact ⟨k0, k3, l2, l3, l4, l5, l6, l7, l8⟩
  clear hw1 k0 k3 l2 l3 l4 l5 l6 l7 l8 l9
  go_region_held3 (fun w' => w'.cell? ⟨w.heap.size, 0, none⟩ = some (.string (str op)) ∧ w'.cell? ⟨w.heap.size, 3, none⟩ = some (.int .i64 n) ∧ w'.cell? ⟨b, 2, none⟩ = some (.int .i64 L.d1) ∧ w'.cell? ⟨b, 3, none⟩ = some (.int .i64 L.d2) ∧ w'.cell? ⟨b, 4, none⟩ = some (.int .i64 L.d3) ∧ w'.cell? ⟨b, 5, none⟩ = some (.int .i64 L.d4) ∧ w'.cell? ⟨b, 6, none⟩ = some (.int .i64 L.d5) ∧ w'.cell? ⟨b, 7, none⟩ = some (.int .i64 L.d6) ∧ w'.cell? ⟨b, 8, none⟩ = some (.int .i64 L.d7)) (first | exact qc | go_keep) (first
    | (go_at_call 41; refine (number_any _ _ _ _ _ _ _ _).mono ?_; rintro e wk ⟨rfl, hb⟩; have HBk : Below w1.heap.size w1 wk := Below.trans (by repeat (first | exact Below.refl _ _ | refine Below.drew ?_)) hb; have qc := HQ.out wk (HKy.out.later HBk) (HAt.out.later HBk); clear hb)
    | (go_at_call 40; refine (placed_any op _ _ _).mono ?_; rintro e w5 ⟨rfl, hw5⟩; have HB5 : Below w1.heap.size w1 w5 := (by rw [hw5]; repeat (first | exact HBk | refine Below.drew ?_)); have qc := HQ.out w5 (HKy.out.later HB5) (HAt.out.later HB5); clear hw5))
  go_wp2_with fail
  go_ret
  exact ⟨Seen2.of (HAt.out.later HB5) (fun hr => (HFs.out hr).later HB5), rfl, kept_t (Kept.ofBelow HB.out [b]) (Kept.ofBelow HB5 [b])⟩
set_option maxRecDepth 100000 in
set_option maxHeartbeats 4000000 in
theorem on_any {w : World} {b : Nat} {L : Lk} (he : Env w) (hb0 : 0 < b) (h : LkAt w b L) (hf : FsOk w L) (ht : L.text.length ≤ 1000000) (op t f : Bs) (n : Int) (a : Option Addr) (p c : Nat) (d : Option Addr) (q g : Nat) (hop : op = [79, 78]) :
    Calls Tryz.prog 23 #[.pointer (some ⟨b, 0, none⟩), .agg #[.string (str op), .string (str t), .string (str f), .int .i64 n, .slice a p c, .slice d q g]] w fun e w' => Seen2 w' b L ∧ e = .returned (.bool (placedB op (D.daysV L.d1 L.d2 L.d3) n)) ∧ Kept [b] w w' := by
  have q0 : ((str op).toList == ([65, 76, 76] : Bs)) = false := by rw [toL, hop]; decide
  have q1 : ((str op).toList == ([65, 78, 83, 87, 69, 82, 69, 68] : Bs)) = false := by rw [toL, hop]; decide
  have q2 : ((str op).toList == ([68, 69, 76, 69, 84, 69, 68] : Bs)) = false := by rw [toL, hop]; decide
  have q3 : ((str op).toList == ([68, 82, 65, 70, 84] : Bs)) = false := by rw [toL, hop]; decide
  have q4 : ((str op).toList == ([70, 76, 65, 71, 71, 69, 68] : Bs)) = false := by rw [toL, hop]; decide
  have q5 : ((str op).toList == ([83, 69, 69, 78] : Bs)) = false := by rw [toL, hop]; decide
  have q6 : ((str op).toList == ([85, 78, 65, 78, 83, 87, 69, 82, 69, 68] : Bs)) = false := by rw [toL, hop]; decide
  have q7 : ((str op).toList == ([85, 78, 68, 69, 76, 69, 84, 69, 68] : Bs)) = false := by rw [toL, hop]; decide
  have q8 : ((str op).toList == ([85, 78, 68, 82, 65, 70, 84] : Bs)) = false := by rw [toL, hop]; decide
  have q9 : ((str op).toList == ([85, 78, 70, 76, 65, 71, 71, 69, 68] : Bs)) = false := by rw [toL, hop]; decide
  have q10 : ((str op).toList == ([85, 78, 83, 69, 69, 78] : Bs)) = false := by rw [toL, hop]; decide
  have q11 : ((str op).toList == ([75, 69, 89, 87, 79, 82, 68] : Bs)) = false := by rw [toL, hop]; decide
  have q12 : ((str op).toList == ([85, 78, 75, 69, 89, 87, 79, 82, 68] : Bs)) = false := by rw [toL, hop]; decide
  have q13 : ((str op).toList == ([66, 67, 67] : Bs)) = false := by rw [toL, hop]; decide
  have q14 : ((str op).toList == ([67, 67] : Bs)) = false := by rw [toL, hop]; decide
  have q15 : ((str op).toList == ([70, 82, 79, 77] : Bs)) = false := by rw [toL, hop]; decide
  have q16 : ((str op).toList == ([83, 85, 66, 74, 69, 67, 84] : Bs)) = false := by rw [toL, hop]; decide
  have q17 : ((str op).toList == ([84, 79] : Bs)) = false := by rw [toL, hop]; decide
  have q18 : ((str op).toList == ([72, 69, 65, 68, 69, 82] : Bs)) = false := by rw [toL, hop]; decide
  have q19 : ((str op).toList == ([66, 79, 68, 89] : Bs)) = false := by rw [toL, hop]; decide
  have q20 : ((str op).toList == ([84, 69, 88, 84] : Bs)) = false := by rw [toL, hop]; decide
  have q21 : ((str op).toList == ([66, 69, 70, 79, 82, 69] : Bs)) = false := by rw [toL, hop]; decide
  have q99 : ((str op).toList == ([79, 78] : Bs)) = true := by rw [toL, hop]; decide
  have ha : Below w.heap.size w (w.alloc (.cells #[.string (str op), .string (str t), .string (str f), .int .i64 n, .slice a p c, .slice d q g] 28)) := (Below.refl _ _).alloc (Nat.le_refl _) _
  obtain ⟨w1, hw1⟩ : ∃ w1, w.alloc (.cells #[.string (str op), .string (str t), .string (str f), .int .i64 n, .slice a p c, .slice d q g] 28) = w1 := ⟨_, rfl⟩
  have HKy : Hid (KyAt w1 w.heap.size ⟨op, t, f, n, (a, p, c), (d, q, g)⟩) := by rw [← hw1]; exact KyAt.new w ⟨op, t, f, n, (a, p, c), (d, q, g)⟩
  rw [hw1] at ha
  have HE := hid (he.later ha)
  have HAt := hid (h.later ha)
  have HFs : Hid (FsOk w1 L) := fun hr => (hf hr).later ha
  have HB := hid ha
  have HLt := hid h.lt
  have HT := hid ht
  have k0 := HKy.out.cell 0
  have k3 := HKy.out.cell 3
  have l9 := HAt.out.cell 9
  have l2 := HAt.out.cell 2
  have l3 := HAt.out.cell 3
  have l4 := HAt.out.cell 4
  have l5 := HAt.out.cell 5
  have l6 := HAt.out.cell 6
  have l7 := HAt.out.cell 7
  have l8 := HAt.out.cell 8
  simp only [Ky.c, Lk.c, List.getElem?_cons_succ, List.getElem?_cons_zero] at k0 k3 l2 l3 l4 l5 l6 l7 l8 l9
  have hF := fldk b
  have f0 := fun w => (hF w).1
  have g3 := fun w => (hF w).2.2.2.2.2.2.2.2
  have g2 := fld33 b
  have htz := str_size L.text
  clear he h hf ha hF hop
  go_enter Tryz.func23, Tryz.ntmps23
  go_wp2_with fail
  have qc : w1.cell? ⟨w.heap.size, 0, none⟩ = some (.string (str op)) ∧ w1.cell? ⟨w.heap.size, 3, none⟩ = some (.int .i64 n) ∧ w1.cell? ⟨b, 2, none⟩ = some (.int .i64 L.d1) ∧ w1.cell? ⟨b, 3, none⟩ = some (.int .i64 L.d2) ∧ w1.cell? ⟨b, 4, none⟩ = some (.int .i64 L.d3) ∧ w1.cell? ⟨b, 5, none⟩ = some (.int .i64 L.d4) ∧ w1.cell? ⟨b, 6, none⟩ = some (.int .i64 L.d5) ∧ w1.cell? ⟨b, 7, none⟩ = some (.int .i64 L.d6) ∧ w1.cell? ⟨b, 8, none⟩ = some (.int .i64 L.d7) := ⟨k0, k3, l2, l3, l4, l5, l6, l7, l8⟩
  have HQ : Hid (∀ w' : World, KyAt w' w.heap.size ⟨op, t, f, n, (a, p, c), (d, q, g)⟩ → LkAt w' b L → w'.cell? ⟨w.heap.size, 0, none⟩ = some (.string (str op)) ∧ w'.cell? ⟨w.heap.size, 3, none⟩ = some (.int .i64 n) ∧ w'.cell? ⟨b, 2, none⟩ = some (.int .i64 L.d1) ∧ w'.cell? ⟨b, 3, none⟩ = some (.int .i64 L.d2) ∧ w'.cell? ⟨b, 4, none⟩ = some (.int .i64 L.d3) ∧ w'.cell? ⟨b, 5, none⟩ = some (.int .i64 L.d4) ∧ w'.cell? ⟨b, 6, none⟩ = some (.int .i64 L.d5) ∧ w'.cell? ⟨b, 7, none⟩ = some (.int .i64 L.d6) ∧ w'.cell? ⟨b, 8, none⟩ = some (.int .i64 L.d7)) := by
    intro w' e1 e2
    have k0 := e1.cell 0
    have k3 := e1.cell 3
    have l2 := e2.cell 2
    have l3 := e2.cell 3
    have l4 := e2.cell 4
    have l5 := e2.cell 5
    have l6 := e2.cell 6
    have l7 := e2.cell 7
    have l8 := e2.cell 8
    simp only [Ky.c, Lk.c, List.getElem?_cons_succ, List.getElem?_cons_zero] at k0 k3 l2 l3 l4 l5 l6 l7 l8
    exact ⟨k0, k3, l2, l3, l4, l5, l6, l7, l8⟩
  clear hw1 k0 k3 l2 l3 l4 l5 l6 l7 l8 l9
  go_region_held3 (fun w' => w'.cell? ⟨w.heap.size, 0, none⟩ = some (.string (str op)) ∧ w'.cell? ⟨w.heap.size, 3, none⟩ = some (.int .i64 n) ∧ w'.cell? ⟨b, 2, none⟩ = some (.int .i64 L.d1) ∧ w'.cell? ⟨b, 3, none⟩ = some (.int .i64 L.d2) ∧ w'.cell? ⟨b, 4, none⟩ = some (.int .i64 L.d3) ∧ w'.cell? ⟨b, 5, none⟩ = some (.int .i64 L.d4) ∧ w'.cell? ⟨b, 6, none⟩ = some (.int .i64 L.d5) ∧ w'.cell? ⟨b, 7, none⟩ = some (.int .i64 L.d6) ∧ w'.cell? ⟨b, 8, none⟩ = some (.int .i64 L.d7)) (first | exact qc | go_keep) (first
    | (go_at_call 41; refine (number_any _ _ _ _ _ _ _ _).mono ?_; rintro e wk ⟨rfl, hb⟩; have HBk : Below w1.heap.size w1 wk := Below.trans (by repeat (first | exact Below.refl _ _ | refine Below.drew ?_)) hb; have qc := HQ.out wk (HKy.out.later HBk) (HAt.out.later HBk); clear hb)
    | (go_at_call 40; refine (placed_any op _ _ _).mono ?_; rintro e w5 ⟨rfl, hw5⟩; have HB5 : Below w1.heap.size w1 w5 := (by rw [hw5]; repeat (first | exact HBk | refine Below.drew ?_)); have qc := HQ.out w5 (HKy.out.later HB5) (HAt.out.later HB5); clear hw5))
  go_wp2_with fail
  go_ret
  exact ⟨Seen2.of (HAt.out.later HB5) (fun hr => (HFs.out hr).later HB5), rfl, kept_t (Kept.ofBelow HB.out [b]) (Kept.ofBelow HB5 [b])⟩
set_option maxRecDepth 100000 in
set_option maxHeartbeats 4000000 in
theorem since_any {w : World} {b : Nat} {L : Lk} (he : Env w) (hb0 : 0 < b) (h : LkAt w b L) (hf : FsOk w L) (ht : L.text.length ≤ 1000000) (op t f : Bs) (n : Int) (a : Option Addr) (p c : Nat) (d : Option Addr) (q g : Nat) (hop : op = [83, 73, 78, 67, 69]) :
    Calls Tryz.prog 23 #[.pointer (some ⟨b, 0, none⟩), .agg #[.string (str op), .string (str t), .string (str f), .int .i64 n, .slice a p c, .slice d q g]] w fun e w' => Seen2 w' b L ∧ e = .returned (.bool (placedB op (D.daysV L.d1 L.d2 L.d3) n)) ∧ Kept [b] w w' := by
  have q0 : ((str op).toList == ([65, 76, 76] : Bs)) = false := by rw [toL, hop]; decide
  have q1 : ((str op).toList == ([65, 78, 83, 87, 69, 82, 69, 68] : Bs)) = false := by rw [toL, hop]; decide
  have q2 : ((str op).toList == ([68, 69, 76, 69, 84, 69, 68] : Bs)) = false := by rw [toL, hop]; decide
  have q3 : ((str op).toList == ([68, 82, 65, 70, 84] : Bs)) = false := by rw [toL, hop]; decide
  have q4 : ((str op).toList == ([70, 76, 65, 71, 71, 69, 68] : Bs)) = false := by rw [toL, hop]; decide
  have q5 : ((str op).toList == ([83, 69, 69, 78] : Bs)) = false := by rw [toL, hop]; decide
  have q6 : ((str op).toList == ([85, 78, 65, 78, 83, 87, 69, 82, 69, 68] : Bs)) = false := by rw [toL, hop]; decide
  have q7 : ((str op).toList == ([85, 78, 68, 69, 76, 69, 84, 69, 68] : Bs)) = false := by rw [toL, hop]; decide
  have q8 : ((str op).toList == ([85, 78, 68, 82, 65, 70, 84] : Bs)) = false := by rw [toL, hop]; decide
  have q9 : ((str op).toList == ([85, 78, 70, 76, 65, 71, 71, 69, 68] : Bs)) = false := by rw [toL, hop]; decide
  have q10 : ((str op).toList == ([85, 78, 83, 69, 69, 78] : Bs)) = false := by rw [toL, hop]; decide
  have q11 : ((str op).toList == ([75, 69, 89, 87, 79, 82, 68] : Bs)) = false := by rw [toL, hop]; decide
  have q12 : ((str op).toList == ([85, 78, 75, 69, 89, 87, 79, 82, 68] : Bs)) = false := by rw [toL, hop]; decide
  have q13 : ((str op).toList == ([66, 67, 67] : Bs)) = false := by rw [toL, hop]; decide
  have q14 : ((str op).toList == ([67, 67] : Bs)) = false := by rw [toL, hop]; decide
  have q15 : ((str op).toList == ([70, 82, 79, 77] : Bs)) = false := by rw [toL, hop]; decide
  have q16 : ((str op).toList == ([83, 85, 66, 74, 69, 67, 84] : Bs)) = false := by rw [toL, hop]; decide
  have q17 : ((str op).toList == ([84, 79] : Bs)) = false := by rw [toL, hop]; decide
  have q18 : ((str op).toList == ([72, 69, 65, 68, 69, 82] : Bs)) = false := by rw [toL, hop]; decide
  have q19 : ((str op).toList == ([66, 79, 68, 89] : Bs)) = false := by rw [toL, hop]; decide
  have q20 : ((str op).toList == ([84, 69, 88, 84] : Bs)) = false := by rw [toL, hop]; decide
  have q21 : ((str op).toList == ([66, 69, 70, 79, 82, 69] : Bs)) = false := by rw [toL, hop]; decide
  have q22 : ((str op).toList == ([79, 78] : Bs)) = false := by rw [toL, hop]; decide
  have q99 : ((str op).toList == ([83, 73, 78, 67, 69] : Bs)) = true := by rw [toL, hop]; decide
  have ha : Below w.heap.size w (w.alloc (.cells #[.string (str op), .string (str t), .string (str f), .int .i64 n, .slice a p c, .slice d q g] 28)) := (Below.refl _ _).alloc (Nat.le_refl _) _
  obtain ⟨w1, hw1⟩ : ∃ w1, w.alloc (.cells #[.string (str op), .string (str t), .string (str f), .int .i64 n, .slice a p c, .slice d q g] 28) = w1 := ⟨_, rfl⟩
  have HKy : Hid (KyAt w1 w.heap.size ⟨op, t, f, n, (a, p, c), (d, q, g)⟩) := by rw [← hw1]; exact KyAt.new w ⟨op, t, f, n, (a, p, c), (d, q, g)⟩
  rw [hw1] at ha
  have HE := hid (he.later ha)
  have HAt := hid (h.later ha)
  have HFs : Hid (FsOk w1 L) := fun hr => (hf hr).later ha
  have HB := hid ha
  have HLt := hid h.lt
  have HT := hid ht
  have k0 := HKy.out.cell 0
  have k3 := HKy.out.cell 3
  have l9 := HAt.out.cell 9
  have l2 := HAt.out.cell 2
  have l3 := HAt.out.cell 3
  have l4 := HAt.out.cell 4
  have l5 := HAt.out.cell 5
  have l6 := HAt.out.cell 6
  have l7 := HAt.out.cell 7
  have l8 := HAt.out.cell 8
  simp only [Ky.c, Lk.c, List.getElem?_cons_succ, List.getElem?_cons_zero] at k0 k3 l2 l3 l4 l5 l6 l7 l8 l9
  have hF := fldk b
  have f0 := fun w => (hF w).1
  have g3 := fun w => (hF w).2.2.2.2.2.2.2.2
  have g2 := fld33 b
  have htz := str_size L.text
  clear he h hf ha hF hop
  go_enter Tryz.func23, Tryz.ntmps23
  go_wp2_with fail
  have qc : w1.cell? ⟨w.heap.size, 0, none⟩ = some (.string (str op)) ∧ w1.cell? ⟨w.heap.size, 3, none⟩ = some (.int .i64 n) ∧ w1.cell? ⟨b, 2, none⟩ = some (.int .i64 L.d1) ∧ w1.cell? ⟨b, 3, none⟩ = some (.int .i64 L.d2) ∧ w1.cell? ⟨b, 4, none⟩ = some (.int .i64 L.d3) ∧ w1.cell? ⟨b, 5, none⟩ = some (.int .i64 L.d4) ∧ w1.cell? ⟨b, 6, none⟩ = some (.int .i64 L.d5) ∧ w1.cell? ⟨b, 7, none⟩ = some (.int .i64 L.d6) ∧ w1.cell? ⟨b, 8, none⟩ = some (.int .i64 L.d7) := ⟨k0, k3, l2, l3, l4, l5, l6, l7, l8⟩
  have HQ : Hid (∀ w' : World, KyAt w' w.heap.size ⟨op, t, f, n, (a, p, c), (d, q, g)⟩ → LkAt w' b L → w'.cell? ⟨w.heap.size, 0, none⟩ = some (.string (str op)) ∧ w'.cell? ⟨w.heap.size, 3, none⟩ = some (.int .i64 n) ∧ w'.cell? ⟨b, 2, none⟩ = some (.int .i64 L.d1) ∧ w'.cell? ⟨b, 3, none⟩ = some (.int .i64 L.d2) ∧ w'.cell? ⟨b, 4, none⟩ = some (.int .i64 L.d3) ∧ w'.cell? ⟨b, 5, none⟩ = some (.int .i64 L.d4) ∧ w'.cell? ⟨b, 6, none⟩ = some (.int .i64 L.d5) ∧ w'.cell? ⟨b, 7, none⟩ = some (.int .i64 L.d6) ∧ w'.cell? ⟨b, 8, none⟩ = some (.int .i64 L.d7)) := by
    intro w' e1 e2
    have k0 := e1.cell 0
    have k3 := e1.cell 3
    have l2 := e2.cell 2
    have l3 := e2.cell 3
    have l4 := e2.cell 4
    have l5 := e2.cell 5
    have l6 := e2.cell 6
    have l7 := e2.cell 7
    have l8 := e2.cell 8
    simp only [Ky.c, Lk.c, List.getElem?_cons_succ, List.getElem?_cons_zero] at k0 k3 l2 l3 l4 l5 l6 l7 l8
    exact ⟨k0, k3, l2, l3, l4, l5, l6, l7, l8⟩
  clear hw1 k0 k3 l2 l3 l4 l5 l6 l7 l8 l9
  go_region_held3 (fun w' => w'.cell? ⟨w.heap.size, 0, none⟩ = some (.string (str op)) ∧ w'.cell? ⟨w.heap.size, 3, none⟩ = some (.int .i64 n) ∧ w'.cell? ⟨b, 2, none⟩ = some (.int .i64 L.d1) ∧ w'.cell? ⟨b, 3, none⟩ = some (.int .i64 L.d2) ∧ w'.cell? ⟨b, 4, none⟩ = some (.int .i64 L.d3) ∧ w'.cell? ⟨b, 5, none⟩ = some (.int .i64 L.d4) ∧ w'.cell? ⟨b, 6, none⟩ = some (.int .i64 L.d5) ∧ w'.cell? ⟨b, 7, none⟩ = some (.int .i64 L.d6) ∧ w'.cell? ⟨b, 8, none⟩ = some (.int .i64 L.d7)) (first | exact qc | go_keep) (first
    | (go_at_call 41; refine (number_any _ _ _ _ _ _ _ _).mono ?_; rintro e wk ⟨rfl, hb⟩; have HBk : Below w1.heap.size w1 wk := Below.trans (by repeat (first | exact Below.refl _ _ | refine Below.drew ?_)) hb; have qc := HQ.out wk (HKy.out.later HBk) (HAt.out.later HBk); clear hb)
    | (go_at_call 40; refine (placed_any op _ _ _).mono ?_; rintro e w5 ⟨rfl, hw5⟩; have HB5 : Below w1.heap.size w1 w5 := (by rw [hw5]; repeat (first | exact HBk | refine Below.drew ?_)); have qc := HQ.out w5 (HKy.out.later HB5) (HAt.out.later HB5); clear hw5))
  go_wp2_with fail
  go_ret
  exact ⟨Seen2.of (HAt.out.later HB5) (fun hr => (HFs.out hr).later HB5), rfl, kept_t (Kept.ofBelow HB.out [b]) (Kept.ofBelow HB5 [b])⟩
end Go.Proofs.YtaniljfjmbifnaaGreatDoor.H
namespace Go.Proofs.YtaniljfjmbifnaaGreatDoor.H
open Go.RowKit
set_option linter.unusedVariables false
set_option linter.unusedSimpArgs false

/-- Is a message's day, as its header tells it, placed so? -/
def sentB (t op : Bs) (n : Int) : Bool := match sentP t with
  | some d => placedB op (D.daysV d.y d.mo d.d) n
  | none => false
set_option maxRecDepth 100000 in
set_option maxHeartbeats 4000000 in
theorem sentbefore_any {w : World} {b : Nat} {L : Lk} (he : Env w) (hb0 : 0 < b) (h : LkAt w b L) (hf : FsOk w L) (ht : L.text.length ≤ 1000000) (op t f : Bs) (n : Int) (a : Option Addr) (p c : Nat) (d : Option Addr) (q g : Nat) (hop : op = [83, 69, 78, 84, 66, 69, 70, 79, 82, 69]) (hsv : ∀ v ∈ valsL L.text dateN, v.length ≤ 1000000) :
    Calls Tryz.prog 23 #[.pointer (some ⟨b, 0, none⟩), .agg #[.string (str op), .string (str t), .string (str f), .int .i64 n, .slice a p c, .slice d q g]] w fun e w' => Seen2 w' b L ∧ e = .returned (.bool (sentB L.text (op.drop 4) n)) ∧ Kept [b] w w' := by
  have q0 : ((str op).toList == ([65, 76, 76] : Bs)) = false := by rw [toL, hop]; decide
  have q1 : ((str op).toList == ([65, 78, 83, 87, 69, 82, 69, 68] : Bs)) = false := by rw [toL, hop]; decide
  have q2 : ((str op).toList == ([68, 69, 76, 69, 84, 69, 68] : Bs)) = false := by rw [toL, hop]; decide
  have q3 : ((str op).toList == ([68, 82, 65, 70, 84] : Bs)) = false := by rw [toL, hop]; decide
  have q4 : ((str op).toList == ([70, 76, 65, 71, 71, 69, 68] : Bs)) = false := by rw [toL, hop]; decide
  have q5 : ((str op).toList == ([83, 69, 69, 78] : Bs)) = false := by rw [toL, hop]; decide
  have q6 : ((str op).toList == ([85, 78, 65, 78, 83, 87, 69, 82, 69, 68] : Bs)) = false := by rw [toL, hop]; decide
  have q7 : ((str op).toList == ([85, 78, 68, 69, 76, 69, 84, 69, 68] : Bs)) = false := by rw [toL, hop]; decide
  have q8 : ((str op).toList == ([85, 78, 68, 82, 65, 70, 84] : Bs)) = false := by rw [toL, hop]; decide
  have q9 : ((str op).toList == ([85, 78, 70, 76, 65, 71, 71, 69, 68] : Bs)) = false := by rw [toL, hop]; decide
  have q10 : ((str op).toList == ([85, 78, 83, 69, 69, 78] : Bs)) = false := by rw [toL, hop]; decide
  have q11 : ((str op).toList == ([75, 69, 89, 87, 79, 82, 68] : Bs)) = false := by rw [toL, hop]; decide
  have q12 : ((str op).toList == ([85, 78, 75, 69, 89, 87, 79, 82, 68] : Bs)) = false := by rw [toL, hop]; decide
  have q13 : ((str op).toList == ([66, 67, 67] : Bs)) = false := by rw [toL, hop]; decide
  have q14 : ((str op).toList == ([67, 67] : Bs)) = false := by rw [toL, hop]; decide
  have q15 : ((str op).toList == ([70, 82, 79, 77] : Bs)) = false := by rw [toL, hop]; decide
  have q16 : ((str op).toList == ([83, 85, 66, 74, 69, 67, 84] : Bs)) = false := by rw [toL, hop]; decide
  have q17 : ((str op).toList == ([84, 79] : Bs)) = false := by rw [toL, hop]; decide
  have q18 : ((str op).toList == ([72, 69, 65, 68, 69, 82] : Bs)) = false := by rw [toL, hop]; decide
  have q19 : ((str op).toList == ([66, 79, 68, 89] : Bs)) = false := by rw [toL, hop]; decide
  have q20 : ((str op).toList == ([84, 69, 88, 84] : Bs)) = false := by rw [toL, hop]; decide
  have q21 : ((str op).toList == ([66, 69, 70, 79, 82, 69] : Bs)) = false := by rw [toL, hop]; decide
  have q22 : ((str op).toList == ([79, 78] : Bs)) = false := by rw [toL, hop]; decide
  have q23 : ((str op).toList == ([83, 73, 78, 67, 69] : Bs)) = false := by rw [toL, hop]; decide
  have q99 : ((str op).toList == ([83, 69, 78, 84, 66, 69, 70, 79, 82, 69] : Bs)) = true := by rw [toL, hop]; decide
  have ha : Below w.heap.size w (w.alloc (.cells #[.string (str op), .string (str t), .string (str f), .int .i64 n, .slice a p c, .slice d q g] 28)) := (Below.refl _ _).alloc (Nat.le_refl _) _
  obtain ⟨w1, hw1⟩ : ∃ w1, w.alloc (.cells #[.string (str op), .string (str t), .string (str f), .int .i64 n, .slice a p c, .slice d q g] 28) = w1 := ⟨_, rfl⟩
  have HKy : Hid (KyAt w1 w.heap.size ⟨op, t, f, n, (a, p, c), (d, q, g)⟩) := by rw [← hw1]; exact KyAt.new w ⟨op, t, f, n, (a, p, c), (d, q, g)⟩
  rw [hw1] at ha
  have HE := hid (he.later ha)
  have HAt := hid (h.later ha)
  have HFs : Hid (FsOk w1 L) := fun hr => (hf hr).later ha
  have HB := hid ha
  have HLt := hid h.lt
  have HT := hid ht
  have k0 := HKy.out.cell 0
  have k3 := HKy.out.cell 3
  have l9 := HAt.out.cell 9
  have l2 := HAt.out.cell 2
  have l3 := HAt.out.cell 3
  have l4 := HAt.out.cell 4
  have l5 := HAt.out.cell 5
  have l6 := HAt.out.cell 6
  have l7 := HAt.out.cell 7
  have l8 := HAt.out.cell 8
  simp only [Ky.c, Lk.c, List.getElem?_cons_succ, List.getElem?_cons_zero] at k0 k3 l2 l3 l4 l5 l6 l7 l8 l9
  have hF := fldk b
  have f0 := fun w => (hF w).1
  have g3 := fun w => (hF w).2.2.2.2.2.2.2.2
  have g2 := fld33 b
  have htz := str_size L.text
  have HSV := hid hsv
  have HOl : Hid (6 ≤ op.length) := by rw [Hid, hop]; decide
  clear he h hf ha hF hop
  go_enter Tryz.func23, Tryz.ntmps23
  go_wp2_with fail
  clear hw1
  refine (sent_any HE.out hb0 HAt.out HFs.out HT.out HSV.out).mono ?_
  rintro e w2 ⟨hs, hsi, hkp⟩
  have HS := hid hs
  have HK2 := hid (kept_t (Kept.ofBelow HB.out [b]) hkp)
  have HKy2 := hid (HKy.out.kept hkp (by simp; have := HLt.out; omega))
  unfold SentIs at hsi
  clear hs hkp k0 k3 l2 l3 l4 l5 l6 l7 l8 l9
  rcases hsp : sentP L.text with _ | dd
  · rw [hsp] at hsi
    obtain ⟨dz, rfl⟩ := hsi
    obtain ⟨z1, z2, z3, z4, z5, z6, z7⟩ := dz
    have HZ : Hid (sentB L.text (op.drop 4) n = false) := by unfold Hid sentB; rw [hsp]
    clear hsp
    simp only [D.dtV, D.dtL]
    go_wp2_with fail
    go_quiet (fail)
    go_wp2_with fail
    go_ret
    rw [HZ.out]
    obtain ⟨fs, hl, hf⟩ := HS.out
    have hbz : Below w2.heap.size w2 (w2.alloc (.cells #[.int .i64 z1, .int .i64 z2, .int .i64 z3, .int .i64 z4, .int .i64 z5, .int .i64 z6, .int .i64 z7] 31)) := (Below.refl _ _).alloc (Nat.le_refl _) _
    exact ⟨⟨true, fs, (hl.later hbz).later (drewN_below _ _ _), fun hr => ((hf hr).later hbz).later (drewN_below _ _ _)⟩, rfl, kept_t (kept_t HK2.out (Kept.ofBelow hbz [b])) (Kept.ofBelow (drewN_below _ _ _) [b])⟩
  · rw [hsp] at hsi
    subst hsi
    obtain ⟨z1, z2, z3, z4, z5, z6, z7⟩ := dd
    have HZ : Hid (sentB L.text (op.drop 4) n = placedB (op.drop 4) (D.daysV z1 z2 z3) n) := by unfold Hid sentB; rw [hsp]
    have HPl := hid (fun (w0 : World) => placed_any (op.drop 4) (D.daysV z1 z2 z3) n w0)
    rw [← drop_str, str_size] at HPl
    have hol : 4 ≤ op.length := by have := HOl.out; omega
    have hol' : (4 : Int) ≤ op.length := by omega
    have hoz := str_size op
    clear hsp
    have hbz : Below w2.heap.size w2 (w2.alloc (.cells #[.int .i64 z1, .int .i64 z2, .int .i64 z3, .int .i64 z4, .int .i64 z5, .int .i64 z6, .int .i64 z7] 31)) := (Below.refl _ _).alloc (Nat.le_refl _) _
    obtain ⟨w3, hw3⟩ : ∃ w3, w2.alloc (.cells #[.int .i64 z1, .int .i64 z2, .int .i64 z3, .int .i64 z4, .int .i64 z5, .int .i64 z6, .int .i64 z7] 31) = w3 := ⟨_, rfl⟩
    have hd3 : w3.heap[w2.heap.size]? = some (.cells (D.dtL ⟨z1, z2, z3, z4, z5, z6, z7⟩).toArray 31 (0, 0)) := by rw [← hw3]; exact heap_alloc_new _ _
    rw [hw3] at hbz
    have HBz := hid hbz
    have HD3 := hid hd3
    have HQ : Hid (∀ w' : World, KyAt w' w.heap.size ⟨op, t, f, n, (a, p, c), (d, q, g)⟩ → DtAt w' w2.heap.size ⟨z1, z2, z3, z4, z5, z6, z7⟩ → w'.cell? ⟨w.heap.size, 0, none⟩ = some (.string (str op)) ∧ w'.cell? ⟨w.heap.size, 3, none⟩ = some (.int .i64 n) ∧ w'.cell? ⟨w2.heap.size, 0, none⟩ = some (.int .i64 z1) ∧ w'.cell? ⟨w2.heap.size, 1, none⟩ = some (.int .i64 z2) ∧ w'.cell? ⟨w2.heap.size, 2, none⟩ = some (.int .i64 z3) ∧ w'.cell? ⟨w2.heap.size, 3, none⟩ = some (.int .i64 z4) ∧ w'.cell? ⟨w2.heap.size, 4, none⟩ = some (.int .i64 z5) ∧ w'.cell? ⟨w2.heap.size, 5, none⟩ = some (.int .i64 z6) ∧ w'.cell? ⟨w2.heap.size, 6, none⟩ = some (.int .i64 z7)) := by
      intro w' e1 e2
      have k0 := e1.cell 0
      have k3 := e1.cell 3
      simp only [Ky.c, List.getElem?_cons_succ, List.getElem?_cons_zero] at k0 k3
      obtain ⟨y1, y2, y3, y4, y5, y6, y7⟩ := D.cA_load e2
      exact ⟨k0, k3, y1, y2, y3, y4, y5, y6, y7⟩
    have HKy3 := hid (HKy2.out.later hbz)
    have qc := HQ.out w3 HKy3.out hd3
    clear hbz hd3
    simp only [D.dtV, D.dtL]
    go_wp2_with fail
    clear hw3
    go_region_held3 (fun w' => w'.cell? ⟨w.heap.size, 0, none⟩ = some (.string (str op)) ∧ w'.cell? ⟨w.heap.size, 3, none⟩ = some (.int .i64 n) ∧ w'.cell? ⟨w2.heap.size, 0, none⟩ = some (.int .i64 z1) ∧ w'.cell? ⟨w2.heap.size, 1, none⟩ = some (.int .i64 z2) ∧ w'.cell? ⟨w2.heap.size, 2, none⟩ = some (.int .i64 z3) ∧ w'.cell? ⟨w2.heap.size, 3, none⟩ = some (.int .i64 z4) ∧ w'.cell? ⟨w2.heap.size, 4, none⟩ = some (.int .i64 z5) ∧ w'.cell? ⟨w2.heap.size, 5, none⟩ = some (.int .i64 z6) ∧ w'.cell? ⟨w2.heap.size, 6, none⟩ = some (.int .i64 z7)) (first | exact qc | go_keep) (first
      | (go_at_call 41; refine (number_any _ _ _ _ _ _ _ _).mono ?_; rintro e wk ⟨rfl, hb⟩; have HBk : Below w3.heap.size w3 wk := Below.trans (by repeat (first | exact Below.refl _ _ | refine Below.drew ?_)) hb; have qc := HQ.out wk (HKy3.out.later HBk) ((HBk.block _ ((Array.getElem?_eq_some_iff.1 HD3.out).1)).trans HD3.out); clear hb)
      | (go_at_call 40; refine (HPl.out _).mono ?_; rintro e w5 ⟨rfl, hw5⟩; have HB5 : Below w3.heap.size w3 w5 := (by rw [hw5]; repeat (first | exact HBk | refine Below.drew ?_)); have qc := HQ.out w5 (HKy3.out.later HB5) ((HB5.block _ ((Array.getElem?_eq_some_iff.1 HD3.out).1)).trans HD3.out); clear hw5))
    go_wp2_with fail
    go_ret
    rw [HZ.out]
    obtain ⟨fs, hl, hf⟩ := HS.out
    exact ⟨⟨true, fs, (hl.later HBz.out).later HB5, fun hr => ((hf hr).later HBz.out).later HB5⟩, rfl, kept_t (kept_t HK2.out (Kept.ofBelow HBz.out [b])) (Kept.ofBelow HB5 [b])⟩
set_option maxRecDepth 100000 in
set_option maxHeartbeats 4000000 in
theorem senton_any {w : World} {b : Nat} {L : Lk} (he : Env w) (hb0 : 0 < b) (h : LkAt w b L) (hf : FsOk w L) (ht : L.text.length ≤ 1000000) (op t f : Bs) (n : Int) (a : Option Addr) (p c : Nat) (d : Option Addr) (q g : Nat) (hop : op = [83, 69, 78, 84, 79, 78]) (hsv : ∀ v ∈ valsL L.text dateN, v.length ≤ 1000000) :
    Calls Tryz.prog 23 #[.pointer (some ⟨b, 0, none⟩), .agg #[.string (str op), .string (str t), .string (str f), .int .i64 n, .slice a p c, .slice d q g]] w fun e w' => Seen2 w' b L ∧ e = .returned (.bool (sentB L.text (op.drop 4) n)) ∧ Kept [b] w w' := by
  have q0 : ((str op).toList == ([65, 76, 76] : Bs)) = false := by rw [toL, hop]; decide
  have q1 : ((str op).toList == ([65, 78, 83, 87, 69, 82, 69, 68] : Bs)) = false := by rw [toL, hop]; decide
  have q2 : ((str op).toList == ([68, 69, 76, 69, 84, 69, 68] : Bs)) = false := by rw [toL, hop]; decide
  have q3 : ((str op).toList == ([68, 82, 65, 70, 84] : Bs)) = false := by rw [toL, hop]; decide
  have q4 : ((str op).toList == ([70, 76, 65, 71, 71, 69, 68] : Bs)) = false := by rw [toL, hop]; decide
  have q5 : ((str op).toList == ([83, 69, 69, 78] : Bs)) = false := by rw [toL, hop]; decide
  have q6 : ((str op).toList == ([85, 78, 65, 78, 83, 87, 69, 82, 69, 68] : Bs)) = false := by rw [toL, hop]; decide
  have q7 : ((str op).toList == ([85, 78, 68, 69, 76, 69, 84, 69, 68] : Bs)) = false := by rw [toL, hop]; decide
  have q8 : ((str op).toList == ([85, 78, 68, 82, 65, 70, 84] : Bs)) = false := by rw [toL, hop]; decide
  have q9 : ((str op).toList == ([85, 78, 70, 76, 65, 71, 71, 69, 68] : Bs)) = false := by rw [toL, hop]; decide
  have q10 : ((str op).toList == ([85, 78, 83, 69, 69, 78] : Bs)) = false := by rw [toL, hop]; decide
  have q11 : ((str op).toList == ([75, 69, 89, 87, 79, 82, 68] : Bs)) = false := by rw [toL, hop]; decide
  have q12 : ((str op).toList == ([85, 78, 75, 69, 89, 87, 79, 82, 68] : Bs)) = false := by rw [toL, hop]; decide
  have q13 : ((str op).toList == ([66, 67, 67] : Bs)) = false := by rw [toL, hop]; decide
  have q14 : ((str op).toList == ([67, 67] : Bs)) = false := by rw [toL, hop]; decide
  have q15 : ((str op).toList == ([70, 82, 79, 77] : Bs)) = false := by rw [toL, hop]; decide
  have q16 : ((str op).toList == ([83, 85, 66, 74, 69, 67, 84] : Bs)) = false := by rw [toL, hop]; decide
  have q17 : ((str op).toList == ([84, 79] : Bs)) = false := by rw [toL, hop]; decide
  have q18 : ((str op).toList == ([72, 69, 65, 68, 69, 82] : Bs)) = false := by rw [toL, hop]; decide
  have q19 : ((str op).toList == ([66, 79, 68, 89] : Bs)) = false := by rw [toL, hop]; decide
  have q20 : ((str op).toList == ([84, 69, 88, 84] : Bs)) = false := by rw [toL, hop]; decide
  have q21 : ((str op).toList == ([66, 69, 70, 79, 82, 69] : Bs)) = false := by rw [toL, hop]; decide
  have q22 : ((str op).toList == ([79, 78] : Bs)) = false := by rw [toL, hop]; decide
  have q23 : ((str op).toList == ([83, 73, 78, 67, 69] : Bs)) = false := by rw [toL, hop]; decide
  have q24 : ((str op).toList == ([83, 69, 78, 84, 66, 69, 70, 79, 82, 69] : Bs)) = false := by rw [toL, hop]; decide
  have q99 : ((str op).toList == ([83, 69, 78, 84, 79, 78] : Bs)) = true := by rw [toL, hop]; decide
  have ha : Below w.heap.size w (w.alloc (.cells #[.string (str op), .string (str t), .string (str f), .int .i64 n, .slice a p c, .slice d q g] 28)) := (Below.refl _ _).alloc (Nat.le_refl _) _
  obtain ⟨w1, hw1⟩ : ∃ w1, w.alloc (.cells #[.string (str op), .string (str t), .string (str f), .int .i64 n, .slice a p c, .slice d q g] 28) = w1 := ⟨_, rfl⟩
  have HKy : Hid (KyAt w1 w.heap.size ⟨op, t, f, n, (a, p, c), (d, q, g)⟩) := by rw [← hw1]; exact KyAt.new w ⟨op, t, f, n, (a, p, c), (d, q, g)⟩
  rw [hw1] at ha
  have HE := hid (he.later ha)
  have HAt := hid (h.later ha)
  have HFs : Hid (FsOk w1 L) := fun hr => (hf hr).later ha
  have HB := hid ha
  have HLt := hid h.lt
  have HT := hid ht
  have k0 := HKy.out.cell 0
  have k3 := HKy.out.cell 3
  have l9 := HAt.out.cell 9
  have l2 := HAt.out.cell 2
  have l3 := HAt.out.cell 3
  have l4 := HAt.out.cell 4
  have l5 := HAt.out.cell 5
  have l6 := HAt.out.cell 6
  have l7 := HAt.out.cell 7
  have l8 := HAt.out.cell 8
  simp only [Ky.c, Lk.c, List.getElem?_cons_succ, List.getElem?_cons_zero] at k0 k3 l2 l3 l4 l5 l6 l7 l8 l9
  have hF := fldk b
  have f0 := fun w => (hF w).1
  have g3 := fun w => (hF w).2.2.2.2.2.2.2.2
  have g2 := fld33 b
  have htz := str_size L.text
  have HSV := hid hsv
  have HOl : Hid (6 ≤ op.length) := by rw [Hid, hop]; decide
  clear he h hf ha hF hop
  go_enter Tryz.func23, Tryz.ntmps23
  go_wp2_with fail
  clear hw1
  refine (sent_any HE.out hb0 HAt.out HFs.out HT.out HSV.out).mono ?_
  rintro e w2 ⟨hs, hsi, hkp⟩
  have HS := hid hs
  have HK2 := hid (kept_t (Kept.ofBelow HB.out [b]) hkp)
  have HKy2 := hid (HKy.out.kept hkp (by simp; have := HLt.out; omega))
  unfold SentIs at hsi
  clear hs hkp k0 k3 l2 l3 l4 l5 l6 l7 l8 l9
  rcases hsp : sentP L.text with _ | dd
  · rw [hsp] at hsi
    obtain ⟨dz, rfl⟩ := hsi
    obtain ⟨z1, z2, z3, z4, z5, z6, z7⟩ := dz
    have HZ : Hid (sentB L.text (op.drop 4) n = false) := by unfold Hid sentB; rw [hsp]
    clear hsp
    simp only [D.dtV, D.dtL]
    go_wp2_with fail
    go_quiet (fail)
    go_wp2_with fail
    go_ret
    rw [HZ.out]
    obtain ⟨fs, hl, hf⟩ := HS.out
    have hbz : Below w2.heap.size w2 (w2.alloc (.cells #[.int .i64 z1, .int .i64 z2, .int .i64 z3, .int .i64 z4, .int .i64 z5, .int .i64 z6, .int .i64 z7] 31)) := (Below.refl _ _).alloc (Nat.le_refl _) _
    exact ⟨⟨true, fs, (hl.later hbz).later (drewN_below _ _ _), fun hr => ((hf hr).later hbz).later (drewN_below _ _ _)⟩, rfl, kept_t (kept_t HK2.out (Kept.ofBelow hbz [b])) (Kept.ofBelow (drewN_below _ _ _) [b])⟩
  · rw [hsp] at hsi
    subst hsi
    obtain ⟨z1, z2, z3, z4, z5, z6, z7⟩ := dd
    have HZ : Hid (sentB L.text (op.drop 4) n = placedB (op.drop 4) (D.daysV z1 z2 z3) n) := by unfold Hid sentB; rw [hsp]
    have HPl := hid (fun (w0 : World) => placed_any (op.drop 4) (D.daysV z1 z2 z3) n w0)
    rw [← drop_str, str_size] at HPl
    have hol : 4 ≤ op.length := by have := HOl.out; omega
    have hol' : (4 : Int) ≤ op.length := by omega
    have hoz := str_size op
    clear hsp
    have hbz : Below w2.heap.size w2 (w2.alloc (.cells #[.int .i64 z1, .int .i64 z2, .int .i64 z3, .int .i64 z4, .int .i64 z5, .int .i64 z6, .int .i64 z7] 31)) := (Below.refl _ _).alloc (Nat.le_refl _) _
    obtain ⟨w3, hw3⟩ : ∃ w3, w2.alloc (.cells #[.int .i64 z1, .int .i64 z2, .int .i64 z3, .int .i64 z4, .int .i64 z5, .int .i64 z6, .int .i64 z7] 31) = w3 := ⟨_, rfl⟩
    have hd3 : w3.heap[w2.heap.size]? = some (.cells (D.dtL ⟨z1, z2, z3, z4, z5, z6, z7⟩).toArray 31 (0, 0)) := by rw [← hw3]; exact heap_alloc_new _ _
    rw [hw3] at hbz
    have HBz := hid hbz
    have HD3 := hid hd3
    have HQ : Hid (∀ w' : World, KyAt w' w.heap.size ⟨op, t, f, n, (a, p, c), (d, q, g)⟩ → DtAt w' w2.heap.size ⟨z1, z2, z3, z4, z5, z6, z7⟩ → w'.cell? ⟨w.heap.size, 0, none⟩ = some (.string (str op)) ∧ w'.cell? ⟨w.heap.size, 3, none⟩ = some (.int .i64 n) ∧ w'.cell? ⟨w2.heap.size, 0, none⟩ = some (.int .i64 z1) ∧ w'.cell? ⟨w2.heap.size, 1, none⟩ = some (.int .i64 z2) ∧ w'.cell? ⟨w2.heap.size, 2, none⟩ = some (.int .i64 z3) ∧ w'.cell? ⟨w2.heap.size, 3, none⟩ = some (.int .i64 z4) ∧ w'.cell? ⟨w2.heap.size, 4, none⟩ = some (.int .i64 z5) ∧ w'.cell? ⟨w2.heap.size, 5, none⟩ = some (.int .i64 z6) ∧ w'.cell? ⟨w2.heap.size, 6, none⟩ = some (.int .i64 z7)) := by
      intro w' e1 e2
      have k0 := e1.cell 0
      have k3 := e1.cell 3
      simp only [Ky.c, List.getElem?_cons_succ, List.getElem?_cons_zero] at k0 k3
      obtain ⟨y1, y2, y3, y4, y5, y6, y7⟩ := D.cA_load e2
      exact ⟨k0, k3, y1, y2, y3, y4, y5, y6, y7⟩
    have HKy3 := hid (HKy2.out.later hbz)
    have qc := HQ.out w3 HKy3.out hd3
    clear hbz hd3
    simp only [D.dtV, D.dtL]
    go_wp2_with fail
    clear hw3
    go_region_held3 (fun w' => w'.cell? ⟨w.heap.size, 0, none⟩ = some (.string (str op)) ∧ w'.cell? ⟨w.heap.size, 3, none⟩ = some (.int .i64 n) ∧ w'.cell? ⟨w2.heap.size, 0, none⟩ = some (.int .i64 z1) ∧ w'.cell? ⟨w2.heap.size, 1, none⟩ = some (.int .i64 z2) ∧ w'.cell? ⟨w2.heap.size, 2, none⟩ = some (.int .i64 z3) ∧ w'.cell? ⟨w2.heap.size, 3, none⟩ = some (.int .i64 z4) ∧ w'.cell? ⟨w2.heap.size, 4, none⟩ = some (.int .i64 z5) ∧ w'.cell? ⟨w2.heap.size, 5, none⟩ = some (.int .i64 z6) ∧ w'.cell? ⟨w2.heap.size, 6, none⟩ = some (.int .i64 z7)) (first | exact qc | go_keep) (first
      | (go_at_call 41; refine (number_any _ _ _ _ _ _ _ _).mono ?_; rintro e wk ⟨rfl, hb⟩; have HBk : Below w3.heap.size w3 wk := Below.trans (by repeat (first | exact Below.refl _ _ | refine Below.drew ?_)) hb; have qc := HQ.out wk (HKy3.out.later HBk) ((HBk.block _ ((Array.getElem?_eq_some_iff.1 HD3.out).1)).trans HD3.out); clear hb)
      | (go_at_call 40; refine (HPl.out _).mono ?_; rintro e w5 ⟨rfl, hw5⟩; have HB5 : Below w3.heap.size w3 w5 := (by rw [hw5]; repeat (first | exact HBk | refine Below.drew ?_)); have qc := HQ.out w5 (HKy3.out.later HB5) ((HB5.block _ ((Array.getElem?_eq_some_iff.1 HD3.out).1)).trans HD3.out); clear hw5))
    go_wp2_with fail
    go_ret
    rw [HZ.out]
    obtain ⟨fs, hl, hf⟩ := HS.out
    exact ⟨⟨true, fs, (hl.later HBz.out).later HB5, fun hr => ((hf hr).later HBz.out).later HB5⟩, rfl, kept_t (kept_t HK2.out (Kept.ofBelow HBz.out [b])) (Kept.ofBelow HB5 [b])⟩
set_option maxRecDepth 100000 in
set_option maxHeartbeats 4000000 in
theorem sentsince_any {w : World} {b : Nat} {L : Lk} (he : Env w) (hb0 : 0 < b) (h : LkAt w b L) (hf : FsOk w L) (ht : L.text.length ≤ 1000000) (op t f : Bs) (n : Int) (a : Option Addr) (p c : Nat) (d : Option Addr) (q g : Nat) (hop : op = [83, 69, 78, 84, 83, 73, 78, 67, 69]) (hsv : ∀ v ∈ valsL L.text dateN, v.length ≤ 1000000) :
    Calls Tryz.prog 23 #[.pointer (some ⟨b, 0, none⟩), .agg #[.string (str op), .string (str t), .string (str f), .int .i64 n, .slice a p c, .slice d q g]] w fun e w' => Seen2 w' b L ∧ e = .returned (.bool (sentB L.text (op.drop 4) n)) ∧ Kept [b] w w' := by
  have q0 : ((str op).toList == ([65, 76, 76] : Bs)) = false := by rw [toL, hop]; decide
  have q1 : ((str op).toList == ([65, 78, 83, 87, 69, 82, 69, 68] : Bs)) = false := by rw [toL, hop]; decide
  have q2 : ((str op).toList == ([68, 69, 76, 69, 84, 69, 68] : Bs)) = false := by rw [toL, hop]; decide
  have q3 : ((str op).toList == ([68, 82, 65, 70, 84] : Bs)) = false := by rw [toL, hop]; decide
  have q4 : ((str op).toList == ([70, 76, 65, 71, 71, 69, 68] : Bs)) = false := by rw [toL, hop]; decide
  have q5 : ((str op).toList == ([83, 69, 69, 78] : Bs)) = false := by rw [toL, hop]; decide
  have q6 : ((str op).toList == ([85, 78, 65, 78, 83, 87, 69, 82, 69, 68] : Bs)) = false := by rw [toL, hop]; decide
  have q7 : ((str op).toList == ([85, 78, 68, 69, 76, 69, 84, 69, 68] : Bs)) = false := by rw [toL, hop]; decide
  have q8 : ((str op).toList == ([85, 78, 68, 82, 65, 70, 84] : Bs)) = false := by rw [toL, hop]; decide
  have q9 : ((str op).toList == ([85, 78, 70, 76, 65, 71, 71, 69, 68] : Bs)) = false := by rw [toL, hop]; decide
  have q10 : ((str op).toList == ([85, 78, 83, 69, 69, 78] : Bs)) = false := by rw [toL, hop]; decide
  have q11 : ((str op).toList == ([75, 69, 89, 87, 79, 82, 68] : Bs)) = false := by rw [toL, hop]; decide
  have q12 : ((str op).toList == ([85, 78, 75, 69, 89, 87, 79, 82, 68] : Bs)) = false := by rw [toL, hop]; decide
  have q13 : ((str op).toList == ([66, 67, 67] : Bs)) = false := by rw [toL, hop]; decide
  have q14 : ((str op).toList == ([67, 67] : Bs)) = false := by rw [toL, hop]; decide
  have q15 : ((str op).toList == ([70, 82, 79, 77] : Bs)) = false := by rw [toL, hop]; decide
  have q16 : ((str op).toList == ([83, 85, 66, 74, 69, 67, 84] : Bs)) = false := by rw [toL, hop]; decide
  have q17 : ((str op).toList == ([84, 79] : Bs)) = false := by rw [toL, hop]; decide
  have q18 : ((str op).toList == ([72, 69, 65, 68, 69, 82] : Bs)) = false := by rw [toL, hop]; decide
  have q19 : ((str op).toList == ([66, 79, 68, 89] : Bs)) = false := by rw [toL, hop]; decide
  have q20 : ((str op).toList == ([84, 69, 88, 84] : Bs)) = false := by rw [toL, hop]; decide
  have q21 : ((str op).toList == ([66, 69, 70, 79, 82, 69] : Bs)) = false := by rw [toL, hop]; decide
  have q22 : ((str op).toList == ([79, 78] : Bs)) = false := by rw [toL, hop]; decide
  have q23 : ((str op).toList == ([83, 73, 78, 67, 69] : Bs)) = false := by rw [toL, hop]; decide
  have q24 : ((str op).toList == ([83, 69, 78, 84, 66, 69, 70, 79, 82, 69] : Bs)) = false := by rw [toL, hop]; decide
  have q25 : ((str op).toList == ([83, 69, 78, 84, 79, 78] : Bs)) = false := by rw [toL, hop]; decide
  have q99 : ((str op).toList == ([83, 69, 78, 84, 83, 73, 78, 67, 69] : Bs)) = true := by rw [toL, hop]; decide
  have ha : Below w.heap.size w (w.alloc (.cells #[.string (str op), .string (str t), .string (str f), .int .i64 n, .slice a p c, .slice d q g] 28)) := (Below.refl _ _).alloc (Nat.le_refl _) _
  obtain ⟨w1, hw1⟩ : ∃ w1, w.alloc (.cells #[.string (str op), .string (str t), .string (str f), .int .i64 n, .slice a p c, .slice d q g] 28) = w1 := ⟨_, rfl⟩
  have HKy : Hid (KyAt w1 w.heap.size ⟨op, t, f, n, (a, p, c), (d, q, g)⟩) := by rw [← hw1]; exact KyAt.new w ⟨op, t, f, n, (a, p, c), (d, q, g)⟩
  rw [hw1] at ha
  have HE := hid (he.later ha)
  have HAt := hid (h.later ha)
  have HFs : Hid (FsOk w1 L) := fun hr => (hf hr).later ha
  have HB := hid ha
  have HLt := hid h.lt
  have HT := hid ht
  have k0 := HKy.out.cell 0
  have k3 := HKy.out.cell 3
  have l9 := HAt.out.cell 9
  have l2 := HAt.out.cell 2
  have l3 := HAt.out.cell 3
  have l4 := HAt.out.cell 4
  have l5 := HAt.out.cell 5
  have l6 := HAt.out.cell 6
  have l7 := HAt.out.cell 7
  have l8 := HAt.out.cell 8
  simp only [Ky.c, Lk.c, List.getElem?_cons_succ, List.getElem?_cons_zero] at k0 k3 l2 l3 l4 l5 l6 l7 l8 l9
  have hF := fldk b
  have f0 := fun w => (hF w).1
  have g3 := fun w => (hF w).2.2.2.2.2.2.2.2
  have g2 := fld33 b
  have htz := str_size L.text
  have HSV := hid hsv
  have HOl : Hid (6 ≤ op.length) := by rw [Hid, hop]; decide
  clear he h hf ha hF hop
  go_enter Tryz.func23, Tryz.ntmps23
  go_wp2_with fail
  clear hw1
  refine (sent_any HE.out hb0 HAt.out HFs.out HT.out HSV.out).mono ?_
  rintro e w2 ⟨hs, hsi, hkp⟩
  have HS := hid hs
  have HK2 := hid (kept_t (Kept.ofBelow HB.out [b]) hkp)
  have HKy2 := hid (HKy.out.kept hkp (by simp; have := HLt.out; omega))
  unfold SentIs at hsi
  clear hs hkp k0 k3 l2 l3 l4 l5 l6 l7 l8 l9
  rcases hsp : sentP L.text with _ | dd
  · rw [hsp] at hsi
    obtain ⟨dz, rfl⟩ := hsi
    obtain ⟨z1, z2, z3, z4, z5, z6, z7⟩ := dz
    have HZ : Hid (sentB L.text (op.drop 4) n = false) := by unfold Hid sentB; rw [hsp]
    clear hsp
    simp only [D.dtV, D.dtL]
    go_wp2_with fail
    go_quiet (fail)
    go_wp2_with fail
    go_ret
    rw [HZ.out]
    obtain ⟨fs, hl, hf⟩ := HS.out
    have hbz : Below w2.heap.size w2 (w2.alloc (.cells #[.int .i64 z1, .int .i64 z2, .int .i64 z3, .int .i64 z4, .int .i64 z5, .int .i64 z6, .int .i64 z7] 31)) := (Below.refl _ _).alloc (Nat.le_refl _) _
    exact ⟨⟨true, fs, (hl.later hbz).later (drewN_below _ _ _), fun hr => ((hf hr).later hbz).later (drewN_below _ _ _)⟩, rfl, kept_t (kept_t HK2.out (Kept.ofBelow hbz [b])) (Kept.ofBelow (drewN_below _ _ _) [b])⟩
  · rw [hsp] at hsi
    subst hsi
    obtain ⟨z1, z2, z3, z4, z5, z6, z7⟩ := dd
    have HZ : Hid (sentB L.text (op.drop 4) n = placedB (op.drop 4) (D.daysV z1 z2 z3) n) := by unfold Hid sentB; rw [hsp]
    have HPl := hid (fun (w0 : World) => placed_any (op.drop 4) (D.daysV z1 z2 z3) n w0)
    rw [← drop_str, str_size] at HPl
    have hol : 4 ≤ op.length := by have := HOl.out; omega
    have hol' : (4 : Int) ≤ op.length := by omega
    have hoz := str_size op
    clear hsp
    have hbz : Below w2.heap.size w2 (w2.alloc (.cells #[.int .i64 z1, .int .i64 z2, .int .i64 z3, .int .i64 z4, .int .i64 z5, .int .i64 z6, .int .i64 z7] 31)) := (Below.refl _ _).alloc (Nat.le_refl _) _
    obtain ⟨w3, hw3⟩ : ∃ w3, w2.alloc (.cells #[.int .i64 z1, .int .i64 z2, .int .i64 z3, .int .i64 z4, .int .i64 z5, .int .i64 z6, .int .i64 z7] 31) = w3 := ⟨_, rfl⟩
    have hd3 : w3.heap[w2.heap.size]? = some (.cells (D.dtL ⟨z1, z2, z3, z4, z5, z6, z7⟩).toArray 31 (0, 0)) := by rw [← hw3]; exact heap_alloc_new _ _
    rw [hw3] at hbz
    have HBz := hid hbz
    have HD3 := hid hd3
    have HQ : Hid (∀ w' : World, KyAt w' w.heap.size ⟨op, t, f, n, (a, p, c), (d, q, g)⟩ → DtAt w' w2.heap.size ⟨z1, z2, z3, z4, z5, z6, z7⟩ → w'.cell? ⟨w.heap.size, 0, none⟩ = some (.string (str op)) ∧ w'.cell? ⟨w.heap.size, 3, none⟩ = some (.int .i64 n) ∧ w'.cell? ⟨w2.heap.size, 0, none⟩ = some (.int .i64 z1) ∧ w'.cell? ⟨w2.heap.size, 1, none⟩ = some (.int .i64 z2) ∧ w'.cell? ⟨w2.heap.size, 2, none⟩ = some (.int .i64 z3) ∧ w'.cell? ⟨w2.heap.size, 3, none⟩ = some (.int .i64 z4) ∧ w'.cell? ⟨w2.heap.size, 4, none⟩ = some (.int .i64 z5) ∧ w'.cell? ⟨w2.heap.size, 5, none⟩ = some (.int .i64 z6) ∧ w'.cell? ⟨w2.heap.size, 6, none⟩ = some (.int .i64 z7)) := by
      intro w' e1 e2
      have k0 := e1.cell 0
      have k3 := e1.cell 3
      simp only [Ky.c, List.getElem?_cons_succ, List.getElem?_cons_zero] at k0 k3
      obtain ⟨y1, y2, y3, y4, y5, y6, y7⟩ := D.cA_load e2
      exact ⟨k0, k3, y1, y2, y3, y4, y5, y6, y7⟩
    have HKy3 := hid (HKy2.out.later hbz)
    have qc := HQ.out w3 HKy3.out hd3
    clear hbz hd3
    simp only [D.dtV, D.dtL]
    go_wp2_with fail
    clear hw3
    go_region_held3 (fun w' => w'.cell? ⟨w.heap.size, 0, none⟩ = some (.string (str op)) ∧ w'.cell? ⟨w.heap.size, 3, none⟩ = some (.int .i64 n) ∧ w'.cell? ⟨w2.heap.size, 0, none⟩ = some (.int .i64 z1) ∧ w'.cell? ⟨w2.heap.size, 1, none⟩ = some (.int .i64 z2) ∧ w'.cell? ⟨w2.heap.size, 2, none⟩ = some (.int .i64 z3) ∧ w'.cell? ⟨w2.heap.size, 3, none⟩ = some (.int .i64 z4) ∧ w'.cell? ⟨w2.heap.size, 4, none⟩ = some (.int .i64 z5) ∧ w'.cell? ⟨w2.heap.size, 5, none⟩ = some (.int .i64 z6) ∧ w'.cell? ⟨w2.heap.size, 6, none⟩ = some (.int .i64 z7)) (first | exact qc | go_keep) (first
      | (go_at_call 41; refine (number_any _ _ _ _ _ _ _ _).mono ?_; rintro e wk ⟨rfl, hb⟩; have HBk : Below w3.heap.size w3 wk := Below.trans (by repeat (first | exact Below.refl _ _ | refine Below.drew ?_)) hb; have qc := HQ.out wk (HKy3.out.later HBk) ((HBk.block _ ((Array.getElem?_eq_some_iff.1 HD3.out).1)).trans HD3.out); clear hb)
      | (go_at_call 40; refine (HPl.out _).mono ?_; rintro e w5 ⟨rfl, hw5⟩; have HB5 : Below w3.heap.size w3 w5 := (by rw [hw5]; repeat (first | exact HBk | refine Below.drew ?_)); have qc := HQ.out w5 (HKy3.out.later HB5) ((HB5.block _ ((Array.getElem?_eq_some_iff.1 HD3.out).1)).trans HD3.out); clear hw5))
    go_wp2_with fail
    go_ret
    rw [HZ.out]
    obtain ⟨fs, hl, hf⟩ := HS.out
    exact ⟨⟨true, fs, (hl.later HBz.out).later HB5, fun hr => ((hf hr).later HBz.out).later HB5⟩, rfl, kept_t (kept_t HK2.out (Kept.ofBelow HBz.out [b])) (Kept.ofBelow HB5 [b])⟩
end Go.Proofs.YtaniljfjmbifnaaGreatDoor.H
namespace Go.Proofs.YtaniljfjmbifnaaGreatDoor.H
open Go.RowKit
set_option linter.unusedVariables false
set_option linter.unusedSimpArgs false

set_option maxRecDepth 100000 in
set_option maxHeartbeats 4000000 in
theorem match2_any {w : World} (op t f : Bs) (n : Int) (a : Option Addr) (p c : Nat) (d : Option Addr) (q g : Nat) (uid : Int) (fa : Option Addr) (fn fc : Nat) (d1 d2 d3 d4 d5 d6 d7 : Int) (text : Bs) (size id seq most mu : Int) (z : Bool)
    (C : ∀ w1 b, w.heap.size ≤ b → LkAt w1 b ⟨uid, (fa, fn, fc), d1, d2, d3, d4, d5, d6, d7, text, size, id, seq, most, mu, false, (none, 0, 0), 0, false⟩ → Below w.heap.size w w1 →
      Calls Tryz.prog 23 #[.pointer (some ⟨b, 0, none⟩), .agg #[.string (str op), .string (str t), .string (str f), .int .i64 n, .slice a p c, .slice d q g]] w1 fun e w' => Seen2 w' b ⟨uid, (fa, fn, fc), d1, d2, d3, d4, d5, d6, d7, text, size, id, seq, most, mu, false, (none, 0, 0), 0, false⟩ ∧ e = .returned (.bool z) ∧ Kept [b] w1 w') :
    Calls Tryz.prog 11 #[.agg #[.string (str op), .string (str t), .string (str f), .int .i64 n, .slice a p c, .slice d q g], .agg #[.int .i64 uid, .slice fa fn fc, .int .i64 d1, .int .i64 d2, .int .i64 d3, .int .i64 d4, .int .i64 d5, .int .i64 d6, .int .i64 d7, .string (str text), .int .i64 size, .int .i64 id], .int .i64 seq, .int .i64 most, .int .i64 mu] w fun e w' => e = .returned (.bool z) ∧ Below w.heap.size w w' := by
  obtain ⟨wa, hwa⟩ : ∃ wa, w.alloc (.cells #[.string (str op), .string (str t), .string (str f), .int .i64 n, .slice a p c, .slice d q g] 28) = wa := ⟨_, rfl⟩
  have ba : Below w.heap.size w wa := by rw [← hwa]; exact (Below.refl _ _).alloc (Nat.le_refl _) _
  have sa : wa.heap.size = w.heap.size + 1 := by rw [← hwa]; simp
  have hka : wa.heap[w.heap.size]? = some (.cells #[.string (str op), .string (str t), .string (str f), .int .i64 n, .slice a p c, .slice d q g] 28 (0, 0)) := by rw [← hwa]; exact heap_alloc_new _ _
  obtain ⟨wb, hwb⟩ : ∃ wb, wa.alloc (.cells #[.int .i64 uid, .slice fa fn fc, .int .i64 d1, .int .i64 d2, .int .i64 d3, .int .i64 d4, .int .i64 d5, .int .i64 d6, .int .i64 d7, .string (str text), .int .i64 size, .int .i64 id] 33) = wb := ⟨_, rfl⟩
  have bb : Below wa.heap.size wa wb := by rw [← hwb]; exact (Below.refl _ _).alloc (Nat.le_refl _) _
  have sb : wb.heap.size = wa.heap.size + 1 := by rw [← hwb]; simp
  have hmb : wb.heap[wa.heap.size]? = some (.cells #[.int .i64 uid, .slice fa fn fc, .int .i64 d1, .int .i64 d2, .int .i64 d3, .int .i64 d4, .int .i64 d5, .int .i64 d6, .int .i64 d7, .string (str text), .int .i64 size, .int .i64 id] 33 (0, 0)) := by rw [← hwb]; exact heap_alloc_new _ _
  obtain ⟨wz, hwz⟩ : ∃ wz, wb.alloc (.cells #[.int .i64 0, .slice none 0 0, .int .i64 0, .int .i64 0, .int .i64 0, .int .i64 0, .int .i64 0, .int .i64 0, .int .i64 0, .string ⟨#[]⟩, .int .i64 0, .int .i64 0, .int .i64 0, .int .i64 0, .int .i64 0, .bool false, .slice none 0 0, .int .i64 0, .bool false] 48) = wz := ⟨_, rfl⟩
  have bz : Below wb.heap.size wb wz := by rw [← hwz]; exact (Below.refl _ _).alloc (Nat.le_refl _) _
  have hz1 : LkAt wz wb.heap.size zLk := by rw [← hwz]; exact LkAt.new wb zLk
  have hmz : wz.heap[wa.heap.size]? = some (.cells #[.int .i64 uid, .slice fa fn fc, .int .i64 d1, .int .i64 d2, .int .i64 d3, .int .i64 d4, .int .i64 d5, .int .i64 d6, .int .i64 d7, .string (str text), .int .i64 size, .int .i64 id] 33 (0, 0)) := (bz.block _ (by omega)).trans hmb
  have hkz : wz.heap[w.heap.size]? = some (.cells #[.string (str op), .string (str t), .string (str f), .int .i64 n, .slice a p c, .slice d q g] 28 (0, 0)) := ((bz.block _ (by omega)).trans (bb.block _ (by omega))).trans hka
  obtain ⟨wc, hwc⟩ : ∃ wc, rowK wz wb.heap.size ⟨uid, (fa, fn, fc), d1, d2, d3, d4, d5, d6, d7, text, size, id, seq, most, mu, false, (none, 0, 0), 0, false⟩ = wc := ⟨_, rfl⟩
  have hl1 : LkAt wc wb.heap.size ⟨uid, (fa, fn, fc), d1, d2, d3, d4, d5, d6, d7, text, size, id, seq, most, mu, false, (none, 0, 0), 0, false⟩ := by rw [← hwc]; exact rowK_is hz1 _
  have kc := rowK_self wz wb.heap.size ⟨uid, (fa, fn, fc), d1, d2, d3, d4, d5, d6, d7, text, size, id, seq, most, mu, false, (none, 0, 0), 0, false⟩
  rw [hwc] at kc
  have hz2 := hz1.lt
  have hkc : wc.heap[w.heap.size]? = some (.cells #[.string (str op), .string (str t), .string (str f), .int .i64 n, .slice a p c, .slice d q g] 28 (0, 0)) := (kc.block _ (by omega) (by simp; omega)).trans hkz
  have hb1 : Below w.heap.size w wc := ((ba.trans (bb.mono (by omega))).trans (bz.mono (by omega))).trans (kc.below (by simp; omega) (by omega))
  have m0 : wb.cell? ⟨wa.heap.size, 0, none⟩ = some (.int .i64 uid) := cell_of hmb rfl
  have m1 : wb.cell? ⟨wa.heap.size, 1, none⟩ = some (.slice fa fn fc) := cell_of hmb rfl
  have m2 : wb.cell? ⟨wa.heap.size, 2, none⟩ = some (.int .i64 d1) := cell_of hmb rfl
  have m3 : wb.cell? ⟨wa.heap.size, 3, none⟩ = some (.int .i64 d2) := cell_of hmb rfl
  have m4 : wb.cell? ⟨wa.heap.size, 4, none⟩ = some (.int .i64 d3) := cell_of hmb rfl
  have m5 : wb.cell? ⟨wa.heap.size, 5, none⟩ = some (.int .i64 d4) := cell_of hmb rfl
  have m6 : wb.cell? ⟨wa.heap.size, 6, none⟩ = some (.int .i64 d5) := cell_of hmb rfl
  have m7 : wb.cell? ⟨wa.heap.size, 7, none⟩ = some (.int .i64 d6) := cell_of hmb rfl
  have m8 : wb.cell? ⟨wa.heap.size, 8, none⟩ = some (.int .i64 d7) := cell_of hmb rfl
  have m9 : wb.cell? ⟨wa.heap.size, 9, none⟩ = some (.string (str text)) := cell_of hmb rfl
  have m10 : wb.cell? ⟨wa.heap.size, 10, none⟩ = some (.int .i64 size) := cell_of hmb rfl
  have m11 : wb.cell? ⟨wa.heap.size, 11, none⟩ = some (.int .i64 id) := cell_of hmb rfl
  have mz0 : wz.cell? ⟨wa.heap.size, 0, none⟩ = some (.int .i64 uid) := cell_of hmz rfl
  have mz1 : wz.cell? ⟨wa.heap.size, 1, none⟩ = some (.slice fa fn fc) := cell_of hmz rfl
  have mz2 : wz.cell? ⟨wa.heap.size, 2, none⟩ = some (.int .i64 d1) := cell_of hmz rfl
  have mz3 : wz.cell? ⟨wa.heap.size, 3, none⟩ = some (.int .i64 d2) := cell_of hmz rfl
  have mz4 : wz.cell? ⟨wa.heap.size, 4, none⟩ = some (.int .i64 d3) := cell_of hmz rfl
  have mz5 : wz.cell? ⟨wa.heap.size, 5, none⟩ = some (.int .i64 d4) := cell_of hmz rfl
  have mz6 : wz.cell? ⟨wa.heap.size, 6, none⟩ = some (.int .i64 d5) := cell_of hmz rfl
  have mz7 : wz.cell? ⟨wa.heap.size, 7, none⟩ = some (.int .i64 d6) := cell_of hmz rfl
  have mz8 : wz.cell? ⟨wa.heap.size, 8, none⟩ = some (.int .i64 d7) := cell_of hmz rfl
  have mz9 : wz.cell? ⟨wa.heap.size, 9, none⟩ = some (.string (str text)) := cell_of hmz rfl
  have mz10 : wz.cell? ⟨wa.heap.size, 10, none⟩ = some (.int .i64 size) := cell_of hmz rfl
  have mz11 : wz.cell? ⟨wa.heap.size, 11, none⟩ = some (.int .i64 id) := cell_of hmz rfl
  have k0 : wc.cell? ⟨w.heap.size, 0, none⟩ = some (.string (str op)) := cell_of hkc rfl
  have k1 : wc.cell? ⟨w.heap.size, 1, none⟩ = some (.string (str t)) := cell_of hkc rfl
  have k2 : wc.cell? ⟨w.heap.size, 2, none⟩ = some (.string (str f)) := cell_of hkc rfl
  have k3 : wc.cell? ⟨w.heap.size, 3, none⟩ = some (.int .i64 n) := cell_of hkc rfl
  have k4 : wc.cell? ⟨w.heap.size, 4, none⟩ = some (.slice a p c) := cell_of hkc rfl
  have k5 : wc.cell? ⟨w.heap.size, 5, none⟩ = some (.slice d q g) := cell_of hkc rfl
  have D := C wc wb.heap.size (by omega) hl1 hb1
  have HB1 := hid hb1
  have HS1 : Hid (w.heap.size ≤ wb.heap.size) := by unfold Hid; omega
  have hF := fldk wb.heap.size
  have f7 := fun w => (hF w).2.2.2.2.2.2.2.1
  have HZ1 := hid hz1
  clear C hF hl1 hkc hmb hka ba bb bz sa sb hb1 hmz hkz kc hz2 hz1
  go_enter Tryz.func11, Tryz.ntmps11
  go_wp2_with (refine wpList_store48 (L := ⟨uid, (fa, fn, fc), d1, d2, d3, d4, d5, d6, d7, text, size, id, seq, most, mu, false, (none, 0, 0), 0, false⟩) rfl rfl HZ1.out ?_)
  refine D.mono ?_
  rintro e w2 ⟨⟨rd, fs, hs, _⟩, rfl, hk⟩
  have l18 := hs.cell 18
  simp only [Lk.c, List.getElem?_cons_succ, List.getElem?_cons_zero] at l18
  have HB2 := hid (below_of_kept HB1.out hk HS1.out)
  clear hs hk D
  cases z
  · go_wp2_with fail
    go_ret
    exact ⟨rfl, HB2.out⟩
  · go_wp2_with fail
    go_ret
    exact ⟨rfl, HB2.out⟩
end Go.Proofs.YtaniljfjmbifnaaGreatDoor.H
