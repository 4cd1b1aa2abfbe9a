/- What this text holds: days: of a message's date, and of its header. -/
import Derived.Test.YtaniljfjmbifnaaGreatDoorK13
import Derived.Test.YtaniljfjmbifnaaGreatDoorZE
namespace Go.Proofs.YtaniljfjmbifnaaGreatDoor.H
open Go.RowKit
set_option linter.unusedVariables false
set_option linter.unusedSimpArgs false

set_option maxRecDepth 100000 in
theorem number_any (y m d h mi s z : Int) (w : World) : Calls Tryz.prog 41 #[.agg #[.int .i64 y, .int .i64 m, .int .i64 d, .int .i64 h, .int .i64 mi, .int .i64 s, .int .i64 z]] w fun e w' => e = .returned (.int .i64 (D.daysV y m d)) ∧ Below w.heap.size w w' := by
  have C := fun w0 => D.days_any y m d w0
  go_enter Tryz.func41, Tryz.ntmps41
  go_wp2_with fail
  refine (C _).mono ?_
  rintro e w2 ⟨rfl, rfl⟩
  go_wp2_with fail
  go_ret
  exact ⟨rfl, (Below.refl _ _).alloc (Nat.le_refl _) _⟩
def placedB (op : Bs) (day n : Int) : Bool := if op = [66, 69, 70, 79, 82, 69] then decide (day < n) else if op = [79, 78] then decide (day = n) else decide (n ≤ day)
set_option maxRecDepth 100000 in
theorem placed_any (op : Bs) (day n : Int) (w : World) : Calls Tryz.prog 40 #[.string (str op), .int .i64 day, .int .i64 n] w fun e w' => e = .returned (.bool (placedB op day n)) ∧ w' = w := by
  by_cases h1 : op = [66, 69, 70, 79, 82, 69]
  · have g1 : ((str op).toList == ([66, 69, 70, 79, 82, 69] : Bs)) = true := by rw [toL, h1]; decide
    have HR : Hid (placedB op day n = decide (day < n)) := by unfold Hid placedB; rw [if_pos h1]
    clear h1
    go_enter Tryz.func40, Tryz.ntmps40
    go_wp2_with fail
    go_ret
    rw [HR.out]
    exact ⟨rfl, rfl⟩
  · have g1 : ((str op).toList == ([66, 69, 70, 79, 82, 69] : Bs)) = false := by rw [toL, beq_eq_false_iff_ne]; exact h1
    by_cases h2 : op = [79, 78]
    · have g2 : ((str op).toList == ([79, 78] : Bs)) = true := by rw [toL, h2]; decide
      have HR : Hid (placedB op day n = decide (day = n)) := by unfold Hid placedB; rw [if_neg h1, if_pos h2]
      clear h1 h2
      go_enter Tryz.func40, Tryz.ntmps40
      go_wp2_with fail
      go_ret
      rw [HR.out]
      exact ⟨rfl, rfl⟩
    · have g2 : ((str op).toList == ([79, 78] : Bs)) = false := by rw [toL, beq_eq_false_iff_ne]; exact h2
      have HR : Hid (placedB op day n = decide (n ≤ day)) := by unfold Hid placedB; rw [if_neg h1, if_neg h2]
      clear h1 h2
      go_enter Tryz.func40, Tryz.ntmps40
      go_wp2_with fail
      go_ret
      rw [HR.out]
      exact ⟨rfl, rfl⟩
def DtAt (w : World) (A : Nat) (t : D.Dt) : Prop := w.heap[A]? = some (.cells (D.dtL t).toArray 31 (0, 0))
def rowD (w : World) (A : Nat) (t : D.Dt) : World := w.setRow A (D.dtL t).toArray
theorem rowD_is {w : World} {A : Nat} {t' : D.Dt} (h : DtAt w A t') (t : D.Dt) : DtAt (rowD w A t) A t := setRow_heap w A _ _ 31 _ h
theorem rowD_self (w : World) (A : Nat) (t : D.Dt) : Kept [A] w (rowD w A t) := ⟨rfl, rfl, rfl, by simp [rowD], fun k _ hk => setRow_other w A k _ (fun e => hk (by simp [e]))⟩
theorem exec_store31 {a : Act} {x y : Operand} {A : Nat} {t t' : D.Dt} {w : World} {ds : Option Tmp} {ty : Nat} {pos : String} {af : Array Edge} {gd : Option (Nat × Bool)}
    (hx : a.eval x = .pointer (some ⟨A, 0, none⟩)) (hy : a.eval y = D.dtV t) (hA : DtAt w A t') :
    (execOp a.eval ⟨ds, .store 31 x y, ty, pos, af, gd⟩).run Tryz.prog w = .ok .skip (rowD w A t) := by
  have h := run_storeVar_row (P := Tryz.prog) w A 31 31 _ (D.dtL t).toArray hA (by kernel_rfl) rfl (by simp [D.dtL, Value.oneCell'])
  simp [execOp, hx, hy, Instr.storeAt, Instr.sureAddr, D.dtV, h, rowD]
theorem wpList_store31 {ops : Array Oper} {rest : List Oper} {Q : Exit → Act → World → Prop} {a : Act} {x y : Operand} {A : Nat} {t t' : D.Dt} {w : World} {ty : Nat} {pos : String} {af : Array Edge}
    (hx : a.eval x = .pointer (some ⟨A, 0, none⟩)) (hy : a.eval y = D.dtV t) (hA : DtAt w A t')
    (h : wpList Tryz.prog ops Q rest a (rowD w A t)) : wpList Tryz.prog ops Q (⟨none, .store 31 x y, ty, pos, af, none⟩ :: rest) a w := by
  refine wpList_plain rfl fun K hK => ?_
  unfold Oper.wp
  rw [exec_store31 hx hy hA]
  exact hK _ _ h
theorem resD2 {f : Func} {k j A : Nat} {t : D.Dt} {n : Value} {w : World} {tmps : Array Value} (hf : f.results = #[.cell k 31, .tmp j]) (ht : tmps[k]? = some (.pointer (some ⟨A, 0, none⟩))) (hj : tmps[j]? = some n) (hA : DtAt w A t) : (results f tmps).run Tryz.prog w = .ok (.tuple #[D.dtV t, n]) w := by
  obtain ⟨x0, x1, x2, x3, x4, x5, x6⟩ := D.cA_load hA
  simp [results, hf, go_sem, ht, hj, x0, x1, x2, x3, x4, x5, x6, D.dtV, D.dtL]
/-- A look stays, where the block of an answer alone is turned. -/
theorem Seen.row {w : World} {b A : Nat} {L : Lk} {t : D.Dt} (h : Seen w b L) (hA : A ≠ b) (hd : DtAt w A t) (t' : D.Dt) : Seen (rowD w A t') b L := by
  obtain ⟨fs, hl, hf⟩ := h
  refine ⟨fs, hl.kept (rowD_self w A t') (by simpa using Ne.symm hA), fun hr => ?_⟩
  obtain ⟨hw, a, c, e, hc, hr2⟩ := hf hr
  refine ⟨hw, a, c, e, hc, ?_⟩
  rcases hr2 with hr2 | ⟨g, o, rfl, hr2, hg⟩
  · exact .inl hr2
  · by_cases hgA : g = A
    · refine .inl ?_
      generalize ({ L with rd := true, fs := fs } : Lk).text = T at hr2 hw ⊢
      cases hh : (headL T).map fR with
      | nil => rfl
      | cons r l =>
        exfalso
        rw [hh] at hr2 hw
        have hr3 := hw r (List.mem_cons_self ..)
        match r, hr3 with
        | [x, y], _ =>
          have c0 := hr2 0 0 [x, y] x rfl rfl
          rw [hgA] at c0
          have c1 : w.cell? ⟨A, o + (0 * 2 + 0), none⟩ = (D.dtL t)[o + (0 * 2 + 0)]? := by simp [World.cell?, show w.heap[A]? = _ from hd]
          rw [c1] at c0
          have hb := (List.getElem?_eq_some_iff.1 c0).1
          simp only [D.dtL, List.length_cons, List.length_nil] at hb
          rcases (by omega : o = 0 ∨ o = 1 ∨ o = 2 ∨ o = 3 ∨ o = 4 ∨ o = 5 ∨ o = 6) with rfl | rfl | rfl | rfl | rfl | rfl | rfl <;> simp [D.dtL] at c0
    · exact .inr ⟨g, o, rfl, fun j i r p h1 h2 => cell_kept (hr2 j i r p h1 h2) hg (rowD_self w A t') hgA, by simpa [rowD] using hg⟩
theorem kept_row {w w2 : World} {b : Nat} {t : D.Dt} (h : Kept [b] w w2) (hb : b < w.heap.size) : Kept [b] w (rowD w2 w.heap.size t) :=
  ⟨(rowD_self w2 w.heap.size t).os.trans h.os, (rowD_self w2 w.heap.size t).tape.trans h.tape, (rowD_self w2 w.heap.size t).output.trans h.output, Nat.le_trans h.size (rowD_self w2 w.heap.size t).size,
    fun i hi hn => ((rowD_self w2 w.heap.size t).block i (Nat.lt_of_lt_of_le hi h.size) (by simp; omega)).trans (h.block i hi hn)⟩
def dateN : Bs := [100, 97, 116, 101]
/-- What a message's header tells of its day. -/
def sentP (t : Bs) : Option D.Dt := match valsL t dateN with
  | [] => none
  | v :: _ => D.readP D.mailP v
def SentIs (t : Bs) (e : Ending) : Prop := match sentP t with
  | some d => e = .returned (.tuple #[D.dtV d, .bool true])
  | none => ∃ d : D.Dt, e = .returned (.tuple #[D.dtV d, .bool false])
set_option maxRecDepth 100000 in
set_option maxHeartbeats 2000000 in
theorem sent_any {w : World} {b : Nat} {L : Lk} (he : Env w) (hb0 : 0 < b) (h : LkAt w b L) (hf : FsOk w L) (ht : L.text.length ≤ 1000000) (hv : ∀ v ∈ valsL L.text dateN, v.length ≤ 1000000) :
    Calls Tryz.prog 42 #[.pointer (some ⟨b, 0, none⟩)] w fun e w' => Seen w' b L ∧ SentIs L.text e ∧ Kept [b] w w' := by
  have hbl := h.lt
  obtain ⟨w1, hw1⟩ : ∃ w1, w.alloc (.cells #[.int .i64 0, .int .i64 0, .int .i64 0, .int .i64 0, .int .i64 0, .int .i64 0, .int .i64 0] 31) = w1 := ⟨_, rfl⟩
  have ha : Below w.heap.size w w1 := by rw [← hw1]; exact (Below.refl _ _).alloc (Nat.le_refl _) _
  have hd1 : w1.heap[w.heap.size]? = some (.cells (D.dtL D.Dt.zero).toArray 31 (0, 0)) := by rw [← hw1]; exact heap_alloc_new _ _
  have C := values_any (he.later ha) hb0 (h.later ha) (fun hr => (hf hr).later ha) ht dateN (by decide)
  have C : Calls Tryz.prog 35 #[.pointer (some ⟨b, 0, none⟩), .string ⟨#[100, 97, 116, 101]⟩] w1 _ := C
  have HB := hid ha
  have HD1 := hid hd1
  have HV := hid hv
  have HLt := hid hbl
  clear he h hf ha hv hd1 hbl
  go_enter Tryz.func42, Tryz.ntmps42
  go_wp2_with fail
  refine C.mono ?_
  rintro e w2 ⟨u, fs, rfl, hr, hl, hfs, hkp⟩
  have HD2 := hid ((hkp.block _ ((Array.getElem?_eq_some_iff.1 HD1.out).1) (by simp; have := HLt.out; omega)).trans HD1.out)
  have HS : Hid (Seen w2 b L) := ⟨fs, hl, hfs⟩
  have HK2 := hid (kept_t (Kept.ofBelow HB.out [b]) hkp)
  clear hl hfs hkp C hw1
  obtain ⟨_, a, c, rfl, hc, hr2⟩ := id hr
  rw [List.length_map] at hc ⊢
  rcases hvs : valsL L.text dateN with _ | ⟨v, vs⟩
  · have HN : Hid (sentP L.text = none) := by unfold Hid sentP; rw [hvs]
    rw [hvs] at hr hr2 hc
    clear hr hr2 hc hvs HV
    go_wp2_with (refine wpList_store31 (t := D.Dt.zero) rfl rfl HD2.out ?_)
    have p1 := rowD_is HD2.out D.Dt.zero
    refine bodyPost_ret (w := rowD w2 w.heap.size D.Dt.zero) (resD2 rfl rfl rfl p1) rfl ?_
    refine ⟨HS.out.row (by have := HLt.out; omega) HD2.out _, ?_, ?_⟩
    · unfold SentIs
      rw [HN.out]
      exact ⟨D.Dt.zero, rfl⟩
    · exact kept_row HK2.out HLt.out
  · have HN : Hid (sentP L.text = D.readP D.mailP v) := by unfold Hid sentP; rw [hvs]
    have hvl := HV.out v (by rw [hvs]; exact List.mem_cons_self ..)
    rw [hvs] at hr hr2 hc
    rcases hr2 with hr2 | ⟨g, o, rfl, hr2, hg⟩
    · simp at hr2
    · have c0 : w2.cell? ⟨g, o, none⟩ = some (.string (str v)) := by simpa using hr2 0 0 (sR v) v (by simp) rfl
      clear hr hr2 HV hvs
      rcases hrd : D.readP D.mailP v with _ | d
      · have C2 : Calls Tryz.prog 77 #[.string (str v)] w2 fun e w' => e = .returned (.tuple #[.agg #[.int .i64 0, .int .i64 0, .int .i64 0, .int .i64 0, .int .i64 0, .int .i64 0, .int .i64 0], .int .i64 11]) ∧ Below w2.heap.size w2 w' := by
          have := D.mails_any v hvl w2
          rw [hrd] at this
          exact this
        rw [hrd] at HN
        clear hrd hvl
        go_wp2_with fail
        refine C2.mono ?_
        rintro e w3 ⟨rfl, b3⟩
        have b4 : Below w2.heap.size w2 (w3.alloc (.cells #[.int .i64 0, .int .i64 0, .int .i64 0, .int .i64 0, .int .i64 0, .int .i64 0, .int .i64 0] 31)) := b3.alloc b3.size _
        have HS3 : Hid (Seen (w3.alloc (.cells #[.int .i64 0, .int .i64 0, .int .i64 0, .int .i64 0, .int .i64 0, .int .i64 0, .int .i64 0] 31)) b L) := by
          obtain ⟨fs', hl, hf⟩ := HS.out
          exact ⟨fs', hl.later b4, fun hr => (hf hr).later b4⟩
        have HD3 : Hid (DtAt (w3.alloc (.cells #[.int .i64 0, .int .i64 0, .int .i64 0, .int .i64 0, .int .i64 0, .int .i64 0, .int .i64 0] 31)) w.heap.size D.Dt.zero) := (b4.block _ ((Array.getElem?_eq_some_iff.1 HD2.out).1)).trans HD2.out
        have HK3 := hid (kept_t HK2.out (Kept.ofBelow b4 [b]))
        clear b3 b4 C2
        go_wp2_with (refine wpList_store31 (t := D.Dt.zero) rfl rfl HD3.out ?_)
        have p1 := rowD_is HD3.out D.Dt.zero
        refine bodyPost_ret (w := rowD _ w.heap.size D.Dt.zero) (resD2 rfl rfl rfl p1) rfl ?_
        refine ⟨HS3.out.row (by have := HLt.out; omega) HD3.out _, ?_, kept_row HK3.out HLt.out⟩
        unfold SentIs
        rw [HN.out]
        exact ⟨D.Dt.zero, rfl⟩
      · have C2 : Calls Tryz.prog 77 #[.string (str v)] w2 fun e w' => e = .returned (.tuple #[.agg #[.int .i64 d.y, .int .i64 d.mo, .int .i64 d.d, .int .i64 d.h, .int .i64 d.mi, .int .i64 d.s, .int .i64 d.z], .int .i64 0]) ∧ Below w2.heap.size w2 w' := by
          have := D.mails_any v hvl w2
          rw [hrd] at this
          exact this
        rw [hrd] at HN
        clear hrd hvl
        go_wp2_with fail
        refine C2.mono ?_
        rintro e w3 ⟨rfl, b3⟩
        have b4 : Below w2.heap.size w2 (w3.alloc (.cells #[.int .i64 d.y, .int .i64 d.mo, .int .i64 d.d, .int .i64 d.h, .int .i64 d.mi, .int .i64 d.s, .int .i64 d.z] 31)) := b3.alloc b3.size _
        have HS3 : Hid (Seen (w3.alloc (.cells #[.int .i64 d.y, .int .i64 d.mo, .int .i64 d.d, .int .i64 d.h, .int .i64 d.mi, .int .i64 d.s, .int .i64 d.z] 31)) b L) := by
          obtain ⟨fs', hl, hf⟩ := HS.out
          exact ⟨fs', hl.later b4, fun hr => (hf hr).later b4⟩
        have HD3 : Hid (DtAt (w3.alloc (.cells #[.int .i64 d.y, .int .i64 d.mo, .int .i64 d.d, .int .i64 d.h, .int .i64 d.mi, .int .i64 d.s, .int .i64 d.z] 31)) w.heap.size D.Dt.zero) := (b4.block _ ((Array.getElem?_eq_some_iff.1 HD2.out).1)).trans HD2.out
        have HK3 := hid (kept_t HK2.out (Kept.ofBelow b4 [b]))
        clear b3 b4 C2
        go_wp2_with (refine wpList_store31 (t := d) rfl rfl HD3.out ?_)
        have p1 := rowD_is HD3.out d
        refine bodyPost_ret (w := rowD _ w.heap.size d) (resD2 rfl rfl rfl p1) rfl ?_
        refine ⟨HS3.out.row (by have := HLt.out; omega) HD3.out _, ?_, kept_row HK3.out HLt.out⟩
        unfold SentIs
        rw [HN.out]
        rfl
end Go.Proofs.YtaniljfjmbifnaaGreatDoor.H
