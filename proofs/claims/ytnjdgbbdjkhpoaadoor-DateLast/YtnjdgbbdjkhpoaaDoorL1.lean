/- What this text holds: the last one of some dates: plain facts, and the program's Last. -/
import Derived.Test.YtnjdgbbdjkhpoaaDoorOpen
namespace Go.Proofs.YtnjdgbbdjkhpoaaDoor
open Go.RowKit
set_option linter.unusedVariables false
set_option linter.unusedSimpArgs false

/-- The best one so far, and one more. -/
def stepB (b : Option Dt) (d : Dt) : Option Dt := match b with
  | none => if RightP d then some d else none
  | some r => if RightP d ∧ unixN r < unixN d then some d else some r
def bestP (l : List Dt) : Option Dt := l.foldl stepB none
theorem best_next (l : List Dt) (k : Nat) (hk : k < l.length) : bestP (l.take (k + 1)) = stepB (bestP (l.take k)) l[k] := by
  unfold bestP
  rw [List.take_succ_eq_append_getElem hk, List.foldl_append]
  rfl
theorem zero_no : ¬ RightP Dt.zero := by decide
theorem step_right {b : Option Dt} {d r : Dt} (h : ∀ r, b = some r → RightP r) (hs : stepB b d = some r) : RightP r := by
  unfold stepB at hs
  cases b with
  | none =>
    simp only at hs
    split at hs
    · rename_i hd; cases hs; exact hd
    · cases hs
  | some q =>
    simp only at hs
    split at hs
    · rename_i hd; cases hs; exact hd.1
    · cases hs; exact h _ rfl
theorem fold_right : ∀ (l : List Dt) (b : Option Dt), (∀ r, b = some r → RightP r) → ∀ r, l.foldl stepB b = some r → RightP r
  | [], b, h, r, hr => h r hr
  | d :: l, b, h, r, hr => fold_right l (stepB b d) (fun r h' => step_right h h') r hr
theorem best_right {l : List Dt} {r : Dt} (h : bestP l = some r) : RightP r := fold_right l none (fun r h => by cases h) r h
theorem step_ge {b : Option Dt} {d : Dt} {r : Dt} (hb : b = some r) : ∃ q, stepB b d = some q ∧ unixN r ≤ unixN q := by
  subst hb
  unfold stepB
  simp only
  split
  · rename_i h; exact ⟨d, rfl, by omega⟩
  · exact ⟨r, rfl, by omega⟩
theorem fold_ge : ∀ (l : List Dt) (b : Option Dt) (r : Dt), b = some r → ∃ q, l.foldl stepB b = some q ∧ unixN r ≤ unixN q
  | [], b, r, h => ⟨r, h, by omega⟩
  | d :: l, b, r, h => by
    obtain ⟨q, hq, h1⟩ := step_ge (d := d) h
    obtain ⟨p, hp, h2⟩ := fold_ge l (stepB b d) q hq
    exact ⟨p, hp, by omega⟩
theorem step_has {b : Option Dt} {d : Dt} (hd : RightP d) : ∃ q, stepB b d = some q ∧ unixN d ≤ unixN q := by
  unfold stepB
  cases b with
  | none => exact ⟨d, by simp [hd], by omega⟩
  | some r =>
    simp only
    split
    · exact ⟨d, rfl, by omega⟩
    · rename_i h
      refine ⟨r, rfl, ?_⟩
      rcases Int.lt_or_le (unixN r) (unixN d) with h' | h'
      · exact absurd ⟨hd, h'⟩ h
      · exact h'
theorem fold_max (l : List Dt) : ∀ (b : Option Dt) (d : Dt), d ∈ l → RightP d → ∃ q, l.foldl stepB b = some q ∧ unixN d ≤ unixN q := by
  induction l with
  | nil => intro b d hm; simp at hm
  | cons e l ih =>
    intro b d hm hd
    rw [List.foldl_cons]
    rcases List.mem_cons.1 hm with he | hm
    · rw [← he]
      obtain ⟨q, hq, h1⟩ := step_has (b := b) hd
      obtain ⟨p, hp, h2⟩ := fold_ge l (stepB b d) q hq
      exact ⟨p, hp, by omega⟩
    · exact ih (stepB b e) d hm hd
theorem best_max {l : List Dt} {d : Dt} (hm : d ∈ l) (hd : RightP d) : ∃ q, bestP l = some q ∧ unixN d ≤ unixN q := fold_max l none d hm hd
theorem all2 {w : World} {A B : Nat} {d r : Dt} (hA : w.heap[A]? = some (.cells (dtL d).toArray 29 (0, 0))) (hB : w.heap[B]? = some (.cells (dtL r).toArray 29 (0, 0))) : w.cell? ⟨A, 0, none⟩ = some (.int .i64 d.y) ∧ w.cell? ⟨A, 1, none⟩ = some (.int .i64 d.mo) ∧ w.cell? ⟨A, 2, none⟩ = some (.int .i64 d.d) ∧ w.cell? ⟨A, 3, none⟩ = some (.int .i64 d.h) ∧ w.cell? ⟨A, 4, none⟩ = some (.int .i64 d.mi) ∧ w.cell? ⟨A, 5, none⟩ = some (.int .i64 d.s) ∧ w.cell? ⟨A, 6, none⟩ = some (.int .i64 d.z) ∧ w.cell? ⟨B, 0, none⟩ = some (.int .i64 r.y) ∧ w.cell? ⟨B, 1, none⟩ = some (.int .i64 r.mo) ∧ w.cell? ⟨B, 2, none⟩ = some (.int .i64 r.d) ∧ w.cell? ⟨B, 3, none⟩ = some (.int .i64 r.h) ∧ w.cell? ⟨B, 4, none⟩ = some (.int .i64 r.mi) ∧ w.cell? ⟨B, 5, none⟩ = some (.int .i64 r.s) ∧ w.cell? ⟨B, 6, none⟩ = some (.int .i64 r.z) := by
  obtain ⟨a0, a1, a2, a3, a4, a5, a6⟩ := cA_load hA
  obtain ⟨b0, b1, b2, b3, b4, b5, b6⟩ := cA_load hB
  exact ⟨a0, a1, a2, a3, a4, a5, a6, b0, b1, b2, b3, b4, b5, b6⟩
theorem boxed1 (w : World) : ((w.alloc (.cells (dtL Dt.zero).toArray 29)).alloc (.cells (dtL Dt.zero).toArray 29)).heap[w.heap.size + 1]? = some (.cells (dtL Dt.zero).toArray 29 (0, 0)) := by
  have := boxed0 Dt.zero (w.alloc (.cells (dtL Dt.zero).toArray 29))
  simpa using this
theorem load29 {w : World} {b : Nat} {x0 x1 x2 x3 x4 x5 x6 : Value} (h0 : w.cell? ⟨b, 0, none⟩ = some x0) (h1 : w.cell? ⟨b, 1, none⟩ = some x1) (h2 : w.cell? ⟨b, 2, none⟩ = some x2) (h3 : w.cell? ⟨b, 3, none⟩ = some x3) (h4 : w.cell? ⟨b, 4, none⟩ = some x4) (h5 : w.cell? ⟨b, 5, none⟩ = some x5) (h6 : w.cell? ⟨b, 6, none⟩ = some x6) : (Instr.loadAt 29 (.pointer (some ⟨b, 0, none⟩))).run Tryd.prog w = .ok (.agg #[x0, x1, x2, x3, x4, x5, x6]) w := by
  simp [go_sem, h0, h1, h2, h3, h4, h5, h6]
theorem exec_store29 {a : Act} {x y : Operand} {w : World} {A : Nat} {t r : Dt} {ty : Nat} {pos : String} {af : Array Edge} {g : Option (Nat × Bool)} (hx : a.eval x = .pointer (some ⟨A, 0, none⟩)) (hy : a.eval y = .agg #[.int .i64 r.y, .int .i64 r.mo, .int .i64 r.d, .int .i64 r.h, .int .i64 r.mi, .int .i64 r.s, .int .i64 r.z]) (hA : w.heap[A]? = some (.cells (dtL t).toArray 29 (0, 0))) :
    (execOp a.eval ⟨none, .store 29 x y, ty, pos, af, g⟩).run Tryd.prog w = .ok .skip (putD w A r) := by
  obtain ⟨a0, a1, a2, a3, a4, a5, a6⟩ := cA_load hA
  have fA : ∀ k, w.frozen? ⟨A, k, none⟩ = false := fun k => by simp [World.frozen?, hA]
  unfold putD
  simp only [execOp, hx, hy]
  simp [go_sem, a0, a1, a2, a3, a4, a5, a6, fA]
section
variable {P : Program} {ops : Array Oper} {Q : Exit → Act → World → Prop} {md : Region.Mode} {S : World → Prop}
theorem anyH_takeU (i : Nat) (o : Oper) {fuel : Nat} {listed : Array Bool} {a : Act} {w : World} (hi : ops[i]? = some o) (hw : Region.wanted o (yielded ops a.tmps) = false)
    (hs : Region.noSelect ops = true) (hf : Region.free md ops listed i = true) (hr : (Region.ready md ops listed).contains i = true)
    (hQ : ∀ c a w, Q (.panic c) (a.put o.dst undef) w → Q (.panic c) a w) (hS : S w)
    (h : wpAnyH P md ops Q S fuel (listed.setIfInBounds i true) (a.put o.dst undef) w) : wpAnyH P md ops Q S (fuel + 1) listed a w :=
  wpAnyH_take hi hs hf hr hQ (.inr ⟨hw, rfl⟩) hS h
end
theorem best_or (l : List Dt) : (bestP l = none ∧ ansT (bestP l) = Dt.zero) ∨ (bestP l = some (ansT (bestP l)) ∧ RightP (ansT (bestP l))) := by
  rcases h : bestP l with _ | r
  · exact .inl ⟨rfl, rfl⟩
  · exact .inr ⟨rfl, best_right h⟩
theorem unixV_of {t : Dt} (h : RightP t) : unixV t = unixN t := by unfold unixV; rw [if_pos h]

set_option maxRecDepth 100000 in
theorem results30_run {w : World} {A : Nat} {t : Dt} {v : Value} (tmps : Array Value) (h2 : tmps[2]? = some (.pointer (some ⟨A, 0, none⟩))) (h3 : tmps[3]? = some v)
    (hA : w.heap[A]? = some (.cells (dtL t).toArray 29 (0, 0))) : (results Tryd.f30 tmps).run Tryd.prog w = .ok (.tuple #[dtV t, v]) w := by
  obtain ⟨a0, a1, a2, a3, a4, a5, a6⟩ := cA_load hA
  simp [results, Tryd.results30, go_sem, h2, h3, a0, a1, a2, a3, a4, a5, a6, dtV, dtL]
theorem right_agg (t : Dt) (w : World) : Calls Tryd.prog 15 #[.agg #[.int .i64 t.y, .int .i64 t.mo, .int .i64 t.d, .int .i64 t.h, .int .i64 t.mi, .int .i64 t.s, .int .i64 t.z]] w fun e w' => e = .returned (.bool (decide (RightP t))) ∧ Below w.heap.size w w' := right_any t w
theorem unix_agg (t : Dt) (w : World) : Calls Tryd.prog 17 #[.agg #[.int .i64 t.y, .int .i64 t.mo, .int .i64 t.d, .int .i64 t.h, .int .i64 t.mi, .int .i64 t.s, .int .i64 t.z]] w fun e w' => e = .returned (.int .i64 (unixV t)) ∧ Below w.heap.size w w' := unix_any t w
/-- Dates lie in memory that nothing writes. -/
theorem DatesOk.at' {W : World} {a : Option Addr} {len : Nat} {l : List Dt} (h : DatesOk W a len l) (h0 : 0 < len) : ∃ b o, a = some ⟨b, o, none⟩ := by
  rcases h.at_ with h1 | ⟨b, o, h1, _⟩
  · omega
  · exact ⟨b, o, h1⟩
theorem DatesOk.later {W W' : World} {a : Option Addr} {len : Nat} {l : List Dt} (h : DatesOk W a len l) (hb : Below W.heap.size W W') : DatesOk W' a len l := by
  refine ⟨h.len_, h.small, ?_⟩
  rcases h.at_ with h1 | ⟨b, o, h1, h2⟩
  · exact .inl h1
  · refine .inr ⟨b, o, h1, fun j hj => ?_⟩
    obtain ⟨k0, k1, k2, k3, k4, k5, k6⟩ := h2 j hj
    have up : ∀ {p : Addr} {v : Value}, W.cell? p = some v → W'.cell? p = some v := fun {p v} hv => (hb.cell (World.block_lt_of_cell? W p hv)).trans hv
    exact ⟨up k0, up k1, up k2, up k3, up k4, up k5, up k6⟩

set_option maxRecDepth 100000 in
set_option maxHeartbeats 4000000 in
theorem last_any (a : Option Addr) (len cap : Nat) (l : List Dt) {w : World} (h : DatesOk w a len l) (hl : len ≤ 1000) :
    Calls Tryd.prog 30 #[.slice a len cap] w fun e w' => e = .returned (.tuple #[dtV (ansT (bestP l)), .bool (bestP l).isSome]) ∧ Below w.heap.size w w' := by
  have H := hid h
  have HLN := hid h.len_
  clear h
  go_enter Tryd.func30, Tryd.ntmps30
  go_wp2_with fail
  go_loopw [9] (fun i wr => ∃ k : Nat, k ≤ len ∧ i = .int .i64 k ∧ wr.heap[w.heap.size]? = some (.cells (dtL Dt.zero).toArray 29 (0, 0)) ∧ wr.heap[w.heap.size + 1]? = some (.cells (dtL (ansT (bestP (l.take k)))).toArray 29 (0, 0)) ∧ Below w.heap.size w wr) (fun i _ => len - (intOf i).toNat)
  case atStart => exact ⟨0, by omega, rfl, (Below.heap_alloc _ _ _ (by simp)).trans (boxed0 Dt.zero w), boxed1 w, ((Below.refl _ w).alloc (Nat.le_refl _) _).alloc (by simp) _⟩
  case round =>
    obtain ⟨k, hk, rfl, hR, hL, hb⟩ := hrel
    have HR := hid hR
    have HL := hid hL
    have HB := hid hb
    clear hR hL hb
    by_cases hlt : k < len
    · have hlt' : (k : Int) < len := by omega
      obtain ⟨b, o, rfl⟩ := H.out.at' (by omega)
      have hkl : k < l.length := by rw [HLN.out]; exact hlt
      rcases H.out.at_ with h0 | ⟨b', o', e, hcs⟩
      · omega
      simp only [Option.some.injEq, Addr.mk.injEq, and_true] at e
      obtain ⟨rfl, rfl⟩ := e
      have hc := hcs k hkl
      have up : ∀ {p : Addr} {v : Value}, w.cell? p = some v → wr.cell? p = some v := fun {p v} hv => (HB.out.cell (World.block_lt_of_cell? w p hv)).trans hv
      obtain ⟨k0, k1, k2, k3, k4, k5, k6⟩ := hc
      replace k0 := up k0
      replace k1 := up k1
      replace k2 := up k2
      replace k3 := up k3
      replace k4 := up k4
      replace k5 := up k5
      replace k6 := up k6
      have HNX := hid (best_next l k hkl)
      have hor := best_or (l.take k)
      generalize l[k] = d at k0 k1 k2 k3 k4 k5 k6 HNX
      generalize hbk : bestP (l.take k) = bk at HNX hor HL
      generalize ansT bk = r at hor HL
      have HOR := hid hor
      clear hcs up hbk hor
      have CD := right_agg d
      have CR := right_agg r
      have HD17 := hid (unix_agg d)
      have HR17 := hid (unix_agg r)
      have hS : (wr.alloc (.cells (dtL d).toArray 29)).heap.size = wr.heap.size + 1 := by simp
      have hlR := lt_of_some HR.out
      have hlL := lt_of_some HL.out
      have hN0 := boxed0 d wr
      have hL0 : (wr.alloc (.cells (dtL d).toArray 29)).heap[w.heap.size + 1]? = some (.cells (dtL r).toArray 29 (0, 0)) := (Below.heap_alloc _ _ _ hlL).trans HL.out
      have hR0 : (wr.alloc (.cells (dtL d).toArray 29)).heap[w.heap.size]? = some (.cells (dtL Dt.zero).toArray 29 (0, 0)) := (Below.heap_alloc _ _ _ hlR).trans HR.out
      have hB0 := HB.out.alloc HB.out.size (.cells (dtL d).toArray 29)
      have q0 := all2 hN0 hL0
      have hNc : ((wr.alloc (.cells (dtL d).toArray 29)).drew).heap[wr.heap.size]? = some (.cells (dtL d).toArray 29 (0, 0)) := hN0
      have hLc : ((wr.alloc (.cells (dtL d).toArray 29)).drew).heap[w.heap.size + 1]? = some (.cells (dtL r).toArray 29 (0, 0)) := hL0
      have hRc : ((wr.alloc (.cells (dtL d).toArray 29)).drew).heap[w.heap.size]? = some (.cells (dtL Dt.zero).toArray 29 (0, 0)) := hR0
      have HBc : Below w.heap.size w ((wr.alloc (.cells (dtL d).toArray 29)).drew) := hB0.drew
      have qc := q0
      have T15 := trivial
      have T17 := trivial
      have hbne : ¬ w.heap.size + 1 = wr.heap.size := by omega
      clear hN0 hL0 hR0 hB0 hS
      by_cases hd : RightP d
      · rw [decide_eq_true hd] at CD
        have HD15 := hid CD
        rcases HOR.out with ⟨e1, e2⟩ | ⟨e1, e2⟩
        · rw [show decide (RightP r) = false by rw [e2]; exact decide_eq_false zero_no] at CR
          have HR15 := hid CR
          have HSB : Hid (stepB bk d = some d) := by unfold Hid; rw [e1]; simp [stepB, hd]
          clear CD CR hd e1 e2
          go_wp2_with fail
          refine wp_region_held_drew (S := fun w' => w'.cell? ⟨wr.heap.size, 0, none⟩ = some (.int .i64 d.y) ∧ w'.cell? ⟨wr.heap.size, 1, none⟩ = some (.int .i64 d.mo) ∧ w'.cell? ⟨wr.heap.size, 2, none⟩ = some (.int .i64 d.d) ∧ w'.cell? ⟨wr.heap.size, 3, none⟩ = some (.int .i64 d.h) ∧ w'.cell? ⟨wr.heap.size, 4, none⟩ = some (.int .i64 d.mi) ∧ w'.cell? ⟨wr.heap.size, 5, none⟩ = some (.int .i64 d.s) ∧ w'.cell? ⟨wr.heap.size, 6, none⟩ = some (.int .i64 d.z) ∧ w'.cell? ⟨(w.heap.size + 1), 0, none⟩ = some (.int .i64 r.y) ∧ w'.cell? ⟨(w.heap.size + 1), 1, none⟩ = some (.int .i64 r.mo) ∧ w'.cell? ⟨(w.heap.size + 1), 2, none⟩ = some (.int .i64 r.d) ∧ w'.cell? ⟨(w.heap.size + 1), 3, none⟩ = some (.int .i64 r.h) ∧ w'.cell? ⟨(w.heap.size + 1), 4, none⟩ = some (.int .i64 r.mi) ∧ w'.cell? ⟨(w.heap.size + 1), 5, none⟩ = some (.int .i64 r.s) ∧ w'.cell? ⟨(w.heap.size + 1), 6, none⟩ = some (.int .i64 r.z)) (by kernel_rfl) q0 ?_
          intro hHeld
          refine anyH_takeW 0 ⟨some 13, .load 29 (.tmp 6), _, _, _, none⟩ (.agg #[.int .i64 d.y, .int .i64 d.mo, .int .i64 d.d, .int .i64 d.h, .int .i64 d.mi, .int .i64 d.s, .int .i64 d.z]) rfl rfl (by kernel_rfl) (by kernel_rfl) (by kernel_rfl) (fun _ _ _ h => h) (fun w hw => exec_v (load29 hw.1 hw.2.1 hw.2.2.1 hw.2.2.2.1 hw.2.2.2.2.1 hw.2.2.2.2.2.1 hw.2.2.2.2.2.2.1)) hHeld ?_
          simp only [Act.put, List.setIfInBounds_toArray, List.set_cons_zero, List.set_cons_succ]
          refine anyH_callW 1 ⟨some 14, .call { callee := .value (.func 15), args := #[.tmp 13], argTypes := #[29] }, _, _, _, none⟩ 15 #[(.agg #[.int .i64 d.y, .int .i64 d.mo, .int .i64 d.d, .int .i64 d.h, .int .i64 d.mi, .int .i64 d.s, .int .i64 d.z])] (by kernel_rfl) rfl rfl (by kernel_rfl) ?_
          refine (HD15.out _).mono ?_
          rintro e wk ⟨rfl, hb⟩
          have hNc := (hb.block wr.heap.size (lt_of_some hNc)).trans hNc
          have hLc := (hb.block (w.heap.size + 1) (lt_of_some hLc)).trans hLc
          have hRc := (hb.block w.heap.size (lt_of_some hRc)).trans hRc
          have HBc := HBc.trans (hb.mono HBc.size)
          have qc := all2 hNc hLc
          clear hb
          refine ⟨_, rfl, qc, ?_⟩
          simp only [Act.put, List.setIfInBounds_toArray, List.set_cons_zero, List.set_cons_succ]
          refine anyH_takeW 2 ⟨some 15, .move (.tmp 14), _, _, _, none⟩ (.bool true) rfl rfl (by kernel_rfl) (by kernel_rfl) (by kernel_rfl) (fun _ _ _ h => h) (fun w hw => rfl) qc ?_
          simp only [Act.put, List.setIfInBounds_toArray, List.set_cons_zero, List.set_cons_succ]
          refine anyH_takeW 3 ⟨some 16, .load 29 (.tmp 4), _, _, _, some (2, true)⟩ (.agg #[.int .i64 r.y, .int .i64 r.mo, .int .i64 r.d, .int .i64 r.h, .int .i64 r.mi, .int .i64 r.s, .int .i64 r.z]) rfl rfl (by kernel_rfl) (by kernel_rfl) (by kernel_rfl) (fun _ _ _ h => h) (fun w hw => exec_v (load29 hw.2.2.2.2.2.2.2.1 hw.2.2.2.2.2.2.2.2.1 hw.2.2.2.2.2.2.2.2.2.1 hw.2.2.2.2.2.2.2.2.2.2.1 hw.2.2.2.2.2.2.2.2.2.2.2.1 hw.2.2.2.2.2.2.2.2.2.2.2.2.1 hw.2.2.2.2.2.2.2.2.2.2.2.2.2)) qc ?_
          simp only [Act.put, List.setIfInBounds_toArray, List.set_cons_zero, List.set_cons_succ]
          refine anyH_callW 4 ⟨some 17, .call { callee := .value (.func 15), args := #[.tmp 16], argTypes := #[29] }, _, _, _, some (2, true)⟩ 15 #[(.agg #[.int .i64 r.y, .int .i64 r.mo, .int .i64 r.d, .int .i64 r.h, .int .i64 r.mi, .int .i64 r.s, .int .i64 r.z])] (by kernel_rfl) rfl rfl (by kernel_rfl) ?_
          refine (HR15.out _).mono ?_
          rintro e wk ⟨rfl, hb⟩
          have hNc := (hb.block wr.heap.size (lt_of_some hNc)).trans hNc
          have hLc := (hb.block (w.heap.size + 1) (lt_of_some hLc)).trans hLc
          have hRc := (hb.block w.heap.size (lt_of_some hRc)).trans hRc
          have HBc := HBc.trans (hb.mono HBc.size)
          have qc := all2 hNc hLc
          clear hb
          refine ⟨_, rfl, qc, ?_⟩
          simp only [Act.put, List.setIfInBounds_toArray, List.set_cons_zero, List.set_cons_succ]
          refine anyH_takeW 5 ⟨some 18, .unOp .not 4 (.tmp 17), _, _, _, some (2, true)⟩ (.bool true) rfl rfl (by kernel_rfl) (by kernel_rfl) (by kernel_rfl) (fun _ _ _ h => h) (fun w hw => rfl) qc ?_
          simp only [Act.put, List.setIfInBounds_toArray, List.set_cons_zero, List.set_cons_succ]
          refine anyH_takeW 6 ⟨some 19, .move (.tmp 18), _, _, _, some (2, true)⟩ (.bool true) rfl rfl (by kernel_rfl) (by kernel_rfl) (by kernel_rfl) (fun _ _ _ h => h) (fun w hw => rfl) qc ?_
          simp only [Act.put, List.setIfInBounds_toArray, List.set_cons_zero, List.set_cons_succ]
          refine anyH_takeU 7 ⟨some 20, .load 29 (.tmp 6), _, _, _, some (6, false)⟩ rfl rfl (by kernel_rfl) (by kernel_rfl) (by kernel_rfl) (fun _ _ _ h => h) qc ?_
          simp only [Act.put, List.setIfInBounds_toArray, List.set_cons_zero, List.set_cons_succ]
          refine anyH_takeU 8 ⟨some 21, .call { callee := .value (.func 17), args := #[.tmp 20], argTypes := #[29] }, _, _, _, some (6, false)⟩ rfl rfl (by kernel_rfl) (by kernel_rfl) (by kernel_rfl) (fun _ _ _ h => h) qc ?_
          simp only [Act.put, List.setIfInBounds_toArray, List.set_cons_zero, List.set_cons_succ]
          refine anyH_takeU 9 ⟨some 22, .load 29 (.tmp 4), _, _, _, some (6, false)⟩ rfl rfl (by kernel_rfl) (by kernel_rfl) (by kernel_rfl) (fun _ _ _ h => h) qc ?_
          simp only [Act.put, List.setIfInBounds_toArray, List.set_cons_zero, List.set_cons_succ]
          refine anyH_takeU 10 ⟨some 23, .call { callee := .value (.func 17), args := #[.tmp 22], argTypes := #[29] }, _, _, _, some (6, false)⟩ rfl rfl (by kernel_rfl) (by kernel_rfl) (by kernel_rfl) (fun _ _ _ h => h) qc ?_
          simp only [Act.put, List.setIfInBounds_toArray, List.set_cons_zero, List.set_cons_succ]
          refine anyH_takeU 11 ⟨some 24, .binOp .gtr 3 (.tmp 21) (.tmp 23) 3, _, _, _, some (6, false)⟩ rfl rfl (by kernel_rfl) (by kernel_rfl) (by kernel_rfl) (fun _ _ _ h => h) qc ?_
          simp only [Act.put, List.setIfInBounds_toArray, List.set_cons_zero, List.set_cons_succ]
          refine anyH_takeW 12 ⟨some 25, .pick (.tmp 19) (.const (.bool true)) (.tmp 24), _, _, _, some (2, true)⟩ (.bool true) rfl rfl (by kernel_rfl) (by kernel_rfl) (by kernel_rfl) (fun _ _ _ h => h) (fun w hw => rfl) qc ?_
          simp only [Act.put, List.setIfInBounds_toArray, List.set_cons_zero, List.set_cons_succ]
          refine anyH_takeW 13 ⟨some 26, .pick (.tmp 15) (.tmp 25) (.const (.bool false)), _, _, _, none⟩ (.bool true) rfl rfl (by kernel_rfl) (by kernel_rfl) (by kernel_rfl) (fun _ _ _ h => h) (fun w hw => rfl) qc ?_
          simp only [Act.put, List.setIfInBounds_toArray, List.set_cons_zero, List.set_cons_succ]
          refine wpAnyH_done (by kernel_rfl) ?_ _
          obtain ⟨n0, n1, n2, n3, n4, n5, n6, l0, l1, l2, l3, l4, l5, l6⟩ := qc
          have fL : ∀ j, wk.frozen? ⟨w.heap.size + 1, j, none⟩ = false := fun j => by simp [World.frozen?, hLc]
          have HLc := hid hLc
          have HRc := hid hRc
          have HBC := hid HBc
          clear hLc hRc HBc hNc q0
          go_wp2_with fail
          obtain ⟨p1, p2, p3⟩ := putD_is wk (w.heap.size + 1) r d HLc.out
          go_roundw
          case rel => exact ⟨k + 1, by omega, by go_num, (p3.block w.heap.size (lt_of_some HRc.out) (by simp)).trans HRc.out, by rw [HNX.out, HSB.out]; exact p1, below_kept HBC.out p3 (by simp) HBC.out.size⟩
          case measure => simp [intOf]; omega
        · rw [decide_eq_true e2] at CR
          have HR15 := hid CR
          rw [unixV_of hd] at HD17
          rw [unixV_of e2] at HR17
          by_cases hgt : unixN r < unixN d
          · have HSB : Hid (stepB bk d = some d) := by unfold Hid; rw [e1]; simp [stepB, hd, hgt]
            clear CD CR hd e1 e2
            generalize unixN r = ur at hgt HR17
            generalize unixN d = ud at hgt HD17
            go_wp2_with fail
            go_region_held3 (fun w' => w'.cell? ⟨wr.heap.size, 0, none⟩ = some (.int .i64 d.y) ∧ w'.cell? ⟨wr.heap.size, 1, none⟩ = some (.int .i64 d.mo) ∧ w'.cell? ⟨wr.heap.size, 2, none⟩ = some (.int .i64 d.d) ∧ w'.cell? ⟨wr.heap.size, 3, none⟩ = some (.int .i64 d.h) ∧ w'.cell? ⟨wr.heap.size, 4, none⟩ = some (.int .i64 d.mi) ∧ w'.cell? ⟨wr.heap.size, 5, none⟩ = some (.int .i64 d.s) ∧ w'.cell? ⟨wr.heap.size, 6, none⟩ = some (.int .i64 d.z) ∧ w'.cell? ⟨(w.heap.size + 1), 0, none⟩ = some (.int .i64 r.y) ∧ w'.cell? ⟨(w.heap.size + 1), 1, none⟩ = some (.int .i64 r.mo) ∧ w'.cell? ⟨(w.heap.size + 1), 2, none⟩ = some (.int .i64 r.d) ∧ w'.cell? ⟨(w.heap.size + 1), 3, none⟩ = some (.int .i64 r.h) ∧ w'.cell? ⟨(w.heap.size + 1), 4, none⟩ = some (.int .i64 r.mi) ∧ w'.cell? ⟨(w.heap.size + 1), 5, none⟩ = some (.int .i64 r.s) ∧ w'.cell? ⟨(w.heap.size + 1), 6, none⟩ = some (.int .i64 r.z)) (first | exact qc | exact q0 | go_keep) (first | (go_at_call 15; (first | (clear T15; refine (HD15.out _).mono ?_) | refine (HR15.out _).mono ?_); rintro e wk ⟨rfl, hb⟩; have hNc := (hb.block wr.heap.size (lt_of_some hNc)).trans hNc; have hLc := (hb.block (w.heap.size + 1) (lt_of_some hLc)).trans hLc; have hRc := (hb.block w.heap.size (lt_of_some hRc)).trans hRc; have HBc := HBc.trans (hb.mono HBc.size); have qc := all2 hNc hLc; clear hb) | (go_at_call 17; (first | (clear T17; refine (HD17.out _).mono ?_) | refine (HR17.out _).mono ?_); rintro e wk ⟨rfl, hb⟩; have hNc := (hb.block wr.heap.size (lt_of_some hNc)).trans hNc; have hLc := (hb.block (w.heap.size + 1) (lt_of_some hLc)).trans hLc; have hRc := (hb.block w.heap.size (lt_of_some hRc)).trans hRc; have HBc := HBc.trans (hb.mono HBc.size); have qc := all2 hNc hLc; clear hb))
            obtain ⟨n0, n1, n2, n3, n4, n5, n6, l0, l1, l2, l3, l4, l5, l6⟩ := qc
            have fL : ∀ j, wk.frozen? ⟨w.heap.size + 1, j, none⟩ = false := fun j => by simp [World.frozen?, hLc]
            have HLc := hid hLc
            have HRc := hid hRc
            have HBC := hid HBc
            clear hLc hRc HBc hNc q0
            go_wp2_with fail
            obtain ⟨p1, p2, p3⟩ := putD_is wk (w.heap.size + 1) r d HLc.out
            go_roundw
            case rel => exact ⟨k + 1, by omega, by go_num, (p3.block w.heap.size (lt_of_some HRc.out) (by simp)).trans HRc.out, by rw [HNX.out, HSB.out]; exact p1, below_kept HBC.out p3 (by simp) HBC.out.size⟩
            case measure => simp [intOf]; omega
          · have HSB : Hid (stepB bk d = some r) := by unfold Hid; rw [e1]; simp [stepB, hd, hgt]
            clear CD CR hd e1 e2
            generalize unixN r = ur at hgt HR17
            generalize unixN d = ud at hgt HD17
            go_wp2_with fail
            go_region_held3 (fun w' => w'.cell? ⟨wr.heap.size, 0, none⟩ = some (.int .i64 d.y) ∧ w'.cell? ⟨wr.heap.size, 1, none⟩ = some (.int .i64 d.mo) ∧ w'.cell? ⟨wr.heap.size, 2, none⟩ = some (.int .i64 d.d) ∧ w'.cell? ⟨wr.heap.size, 3, none⟩ = some (.int .i64 d.h) ∧ w'.cell? ⟨wr.heap.size, 4, none⟩ = some (.int .i64 d.mi) ∧ w'.cell? ⟨wr.heap.size, 5, none⟩ = some (.int .i64 d.s) ∧ w'.cell? ⟨wr.heap.size, 6, none⟩ = some (.int .i64 d.z) ∧ w'.cell? ⟨(w.heap.size + 1), 0, none⟩ = some (.int .i64 r.y) ∧ w'.cell? ⟨(w.heap.size + 1), 1, none⟩ = some (.int .i64 r.mo) ∧ w'.cell? ⟨(w.heap.size + 1), 2, none⟩ = some (.int .i64 r.d) ∧ w'.cell? ⟨(w.heap.size + 1), 3, none⟩ = some (.int .i64 r.h) ∧ w'.cell? ⟨(w.heap.size + 1), 4, none⟩ = some (.int .i64 r.mi) ∧ w'.cell? ⟨(w.heap.size + 1), 5, none⟩ = some (.int .i64 r.s) ∧ w'.cell? ⟨(w.heap.size + 1), 6, none⟩ = some (.int .i64 r.z)) (first | exact qc | exact q0 | go_keep) (first | (go_at_call 15; (first | (clear T15; refine (HD15.out _).mono ?_) | refine (HR15.out _).mono ?_); rintro e wk ⟨rfl, hb⟩; have hNc := (hb.block wr.heap.size (lt_of_some hNc)).trans hNc; have hLc := (hb.block (w.heap.size + 1) (lt_of_some hLc)).trans hLc; have hRc := (hb.block w.heap.size (lt_of_some hRc)).trans hRc; have HBc := HBc.trans (hb.mono HBc.size); have qc := all2 hNc hLc; clear hb) | (go_at_call 17; (first | (clear T17; refine (HD17.out _).mono ?_) | refine (HR17.out _).mono ?_); rintro e wk ⟨rfl, hb⟩; have hNc := (hb.block wr.heap.size (lt_of_some hNc)).trans hNc; have hLc := (hb.block (w.heap.size + 1) (lt_of_some hLc)).trans hLc; have hRc := (hb.block w.heap.size (lt_of_some hRc)).trans hRc; have HBc := HBc.trans (hb.mono HBc.size); have qc := all2 hNc hLc; clear hb))
            have HLc := hid hLc
            have HRc := hid hRc
            have HBC := hid HBc
            clear hLc hRc HBc hNc q0 qc
            go_wp2_with fail
            go_roundw
            case rel => exact ⟨k + 1, by omega, by go_num, HRc.out, by rw [HNX.out, HSB.out]; exact HLc.out, HBC.out⟩
            case measure => simp [intOf]; omega
      · rw [decide_eq_false hd] at CD
        have HD15 := hid CD
        have HR15 := hid CR
        have HSB : Hid (ansT (stepB bk d) = r) := by
          unfold Hid
          rcases HOR.out with ⟨e1, e2⟩ | ⟨e1, e2⟩
          · rw [e1, e2]; simp [stepB, hd, ansT]
          · rw [e1]; simp [stepB, hd, ansT]
        clear CD CR hd
        go_wp2_with fail
        refine wp_region_held_drew (S := fun w' => w'.cell? ⟨wr.heap.size, 0, none⟩ = some (.int .i64 d.y) ∧ w'.cell? ⟨wr.heap.size, 1, none⟩ = some (.int .i64 d.mo) ∧ w'.cell? ⟨wr.heap.size, 2, none⟩ = some (.int .i64 d.d) ∧ w'.cell? ⟨wr.heap.size, 3, none⟩ = some (.int .i64 d.h) ∧ w'.cell? ⟨wr.heap.size, 4, none⟩ = some (.int .i64 d.mi) ∧ w'.cell? ⟨wr.heap.size, 5, none⟩ = some (.int .i64 d.s) ∧ w'.cell? ⟨wr.heap.size, 6, none⟩ = some (.int .i64 d.z) ∧ w'.cell? ⟨(w.heap.size + 1), 0, none⟩ = some (.int .i64 r.y) ∧ w'.cell? ⟨(w.heap.size + 1), 1, none⟩ = some (.int .i64 r.mo) ∧ w'.cell? ⟨(w.heap.size + 1), 2, none⟩ = some (.int .i64 r.d) ∧ w'.cell? ⟨(w.heap.size + 1), 3, none⟩ = some (.int .i64 r.h) ∧ w'.cell? ⟨(w.heap.size + 1), 4, none⟩ = some (.int .i64 r.mi) ∧ w'.cell? ⟨(w.heap.size + 1), 5, none⟩ = some (.int .i64 r.s) ∧ w'.cell? ⟨(w.heap.size + 1), 6, none⟩ = some (.int .i64 r.z)) (by kernel_rfl) q0 ?_
        intro hHeld
        refine anyH_takeW 0 ⟨some 13, .load 29 (.tmp 6), _, _, _, none⟩ (.agg #[.int .i64 d.y, .int .i64 d.mo, .int .i64 d.d, .int .i64 d.h, .int .i64 d.mi, .int .i64 d.s, .int .i64 d.z]) rfl rfl (by kernel_rfl) (by kernel_rfl) (by kernel_rfl) (fun _ _ _ h => h) (fun w hw => exec_v (load29 hw.1 hw.2.1 hw.2.2.1 hw.2.2.2.1 hw.2.2.2.2.1 hw.2.2.2.2.2.1 hw.2.2.2.2.2.2.1)) hHeld ?_
        simp only [Act.put, List.setIfInBounds_toArray, List.set_cons_zero, List.set_cons_succ]
        refine anyH_callW 1 ⟨some 14, .call { callee := .value (.func 15), args := #[.tmp 13], argTypes := #[29] }, _, _, _, none⟩ 15 #[(.agg #[.int .i64 d.y, .int .i64 d.mo, .int .i64 d.d, .int .i64 d.h, .int .i64 d.mi, .int .i64 d.s, .int .i64 d.z])] (by kernel_rfl) rfl rfl (by kernel_rfl) ?_
        refine (HD15.out _).mono ?_
        rintro e wk ⟨rfl, hb⟩
        have hNc := (hb.block wr.heap.size (lt_of_some hNc)).trans hNc
        have hLc := (hb.block (w.heap.size + 1) (lt_of_some hLc)).trans hLc
        have hRc := (hb.block w.heap.size (lt_of_some hRc)).trans hRc
        have HBc := HBc.trans (hb.mono HBc.size)
        have qc := all2 hNc hLc
        clear hb
        refine ⟨_, rfl, qc, ?_⟩
        simp only [Act.put, List.setIfInBounds_toArray, List.set_cons_zero, List.set_cons_succ]
        refine anyH_takeW 2 ⟨some 15, .move (.tmp 14), _, _, _, none⟩ (.bool false) rfl rfl (by kernel_rfl) (by kernel_rfl) (by kernel_rfl) (fun _ _ _ h => h) (fun w hw => rfl) qc ?_
        simp only [Act.put, List.setIfInBounds_toArray, List.set_cons_zero, List.set_cons_succ]
        refine anyH_takeU 3 ⟨some 16, .load 29 (.tmp 4), _, _, _, some (2, true)⟩ rfl rfl (by kernel_rfl) (by kernel_rfl) (by kernel_rfl) (fun _ _ _ h => h) qc ?_
        simp only [Act.put, List.setIfInBounds_toArray, List.set_cons_zero, List.set_cons_succ]
        refine anyH_takeU 4 ⟨some 17, .call { callee := .value (.func 15), args := #[.tmp 16], argTypes := #[29] }, _, _, _, some (2, true)⟩ rfl rfl (by kernel_rfl) (by kernel_rfl) (by kernel_rfl) (fun _ _ _ h => h) qc ?_
        simp only [Act.put, List.setIfInBounds_toArray, List.set_cons_zero, List.set_cons_succ]
        refine anyH_takeU 5 ⟨some 18, .unOp .not 4 (.tmp 17), _, _, _, some (2, true)⟩ rfl rfl (by kernel_rfl) (by kernel_rfl) (by kernel_rfl) (fun _ _ _ h => h) qc ?_
        simp only [Act.put, List.setIfInBounds_toArray, List.set_cons_zero, List.set_cons_succ]
        refine anyH_takeU 6 ⟨some 19, .move (.tmp 18), _, _, _, some (2, true)⟩ rfl rfl (by kernel_rfl) (by kernel_rfl) (by kernel_rfl) (fun _ _ _ h => h) qc ?_
        simp only [Act.put, List.setIfInBounds_toArray, List.set_cons_zero, List.set_cons_succ]
        refine anyH_takeU 7 ⟨some 20, .load 29 (.tmp 6), _, _, _, some (6, false)⟩ rfl rfl (by kernel_rfl) (by kernel_rfl) (by kernel_rfl) (fun _ _ _ h => h) qc ?_
        simp only [Act.put, List.setIfInBounds_toArray, List.set_cons_zero, List.set_cons_succ]
        refine anyH_takeU 8 ⟨some 21, .call { callee := .value (.func 17), args := #[.tmp 20], argTypes := #[29] }, _, _, _, some (6, false)⟩ rfl rfl (by kernel_rfl) (by kernel_rfl) (by kernel_rfl) (fun _ _ _ h => h) qc ?_
        simp only [Act.put, List.setIfInBounds_toArray, List.set_cons_zero, List.set_cons_succ]
        refine anyH_takeU 9 ⟨some 22, .load 29 (.tmp 4), _, _, _, some (6, false)⟩ rfl rfl (by kernel_rfl) (by kernel_rfl) (by kernel_rfl) (fun _ _ _ h => h) qc ?_
        simp only [Act.put, List.setIfInBounds_toArray, List.set_cons_zero, List.set_cons_succ]
        refine anyH_takeU 10 ⟨some 23, .call { callee := .value (.func 17), args := #[.tmp 22], argTypes := #[29] }, _, _, _, some (6, false)⟩ rfl rfl (by kernel_rfl) (by kernel_rfl) (by kernel_rfl) (fun _ _ _ h => h) qc ?_
        simp only [Act.put, List.setIfInBounds_toArray, List.set_cons_zero, List.set_cons_succ]
        refine anyH_takeU 11 ⟨some 24, .binOp .gtr 3 (.tmp 21) (.tmp 23) 3, _, _, _, some (6, false)⟩ rfl rfl (by kernel_rfl) (by kernel_rfl) (by kernel_rfl) (fun _ _ _ h => h) qc ?_
        simp only [Act.put, List.setIfInBounds_toArray, List.set_cons_zero, List.set_cons_succ]
        refine anyH_takeU 12 ⟨some 25, .pick (.tmp 19) (.const (.bool true)) (.tmp 24), _, _, _, some (2, true)⟩ rfl rfl (by kernel_rfl) (by kernel_rfl) (by kernel_rfl) (fun _ _ _ h => h) qc ?_
        simp only [Act.put, List.setIfInBounds_toArray, List.set_cons_zero, List.set_cons_succ]
        refine anyH_takeW 13 ⟨some 26, .pick (.tmp 15) (.tmp 25) (.const (.bool false)), _, _, _, none⟩ (.bool false) rfl rfl (by kernel_rfl) (by kernel_rfl) (by kernel_rfl) (fun _ _ _ h => h) (fun w hw => rfl) qc ?_
        simp only [Act.put, List.setIfInBounds_toArray, List.set_cons_zero, List.set_cons_succ]
        refine wpAnyH_done (by kernel_rfl) ?_ _
        have HLc := hid hLc
        have HRc := hid hRc
        have HBC := hid HBc
        clear hLc hRc HBc hNc q0 qc
        go_wp2_with fail
        go_roundw
        case rel => exact ⟨k + 1, by omega, by go_num, HRc.out, by rw [HNX.out, HSB.out]; exact HLc.out, HBC.out⟩
        case measure => simp [intOf]; omega
    · obtain rfl : k = len := by omega
      have hlt' : ¬ (k : Int) < k := by omega
      have HTK : Hid (l.take k = l) := List.take_of_length_le (by rw [HLN.out]; omega)
      rw [HTK.out] at HL
      have hor := best_or l
      have HIS : Hid (decide (RightP (ansT (bestP l))) = (bestP l).isSome) := by
        unfold Hid
        rcases hor with ⟨e1, e2⟩ | ⟨e1, e2⟩
        · rw [e1]; exact decide_eq_false zero_no
        · rw [decide_eq_true e2, e1]; rfl
      have CR := right_agg (ansT (bestP l)) wr.drew
      rw [HIS.out] at CR
      generalize hrr : ansT (bestP l) = r at CR HL
      have HRR := hid hrr
      clear hrr
      have HCR := hid CR
      have hlR := lt_of_some HR.out
      have hlL := lt_of_some HL.out
      have q0 := cA_load HL.out
      clear CR hor HIS
      go_wp2_with fail
      refine wp_region_held_drew (S := fun w' => w'.cell? ⟨(w.heap.size + 1), 0, none⟩ = some (.int .i64 r.y) ∧ w'.cell? ⟨(w.heap.size + 1), 1, none⟩ = some (.int .i64 r.mo) ∧ w'.cell? ⟨(w.heap.size + 1), 2, none⟩ = some (.int .i64 r.d) ∧ w'.cell? ⟨(w.heap.size + 1), 3, none⟩ = some (.int .i64 r.h) ∧ w'.cell? ⟨(w.heap.size + 1), 4, none⟩ = some (.int .i64 r.mi) ∧ w'.cell? ⟨(w.heap.size + 1), 5, none⟩ = some (.int .i64 r.s) ∧ w'.cell? ⟨(w.heap.size + 1), 6, none⟩ = some (.int .i64 r.z)) (by kernel_rfl) q0 ?_
      intro hHeld
      refine anyH_takeW 0 ⟨some 29, .load 29 (.tmp 4), _, _, _, none⟩ (.agg #[.int .i64 r.y, .int .i64 r.mo, .int .i64 r.d, .int .i64 r.h, .int .i64 r.mi, .int .i64 r.s, .int .i64 r.z]) rfl rfl (by kernel_rfl) (by kernel_rfl) (by kernel_rfl) (fun _ _ _ h => h) (fun w hw => exec_v (load29 hw.1 hw.2.1 hw.2.2.1 hw.2.2.2.1 hw.2.2.2.2.1 hw.2.2.2.2.2.1 hw.2.2.2.2.2.2)) hHeld ?_
      simp only [Act.put, List.setIfInBounds_toArray, List.set_cons_zero, List.set_cons_succ]
      refine anyH_takeW 1 ⟨some 30, .load 29 (.tmp 4), _, _, _, none⟩ (.agg #[.int .i64 r.y, .int .i64 r.mo, .int .i64 r.d, .int .i64 r.h, .int .i64 r.mi, .int .i64 r.s, .int .i64 r.z]) rfl rfl (by kernel_rfl) (by kernel_rfl) (by kernel_rfl) (fun _ _ _ h => h) (fun w hw => exec_v (load29 hw.1 hw.2.1 hw.2.2.1 hw.2.2.2.1 hw.2.2.2.2.1 hw.2.2.2.2.2.1 hw.2.2.2.2.2.2)) hHeld ?_
      simp only [Act.put, List.setIfInBounds_toArray, List.set_cons_zero, List.set_cons_succ]
      refine anyH_callW 2 ⟨some 31, .call { callee := .value (.func 15), args := #[.tmp 30], argTypes := #[29] }, _, _, _, none⟩ 15 #[(.agg #[.int .i64 r.y, .int .i64 r.mo, .int .i64 r.d, .int .i64 r.h, .int .i64 r.mi, .int .i64 r.s, .int .i64 r.z])] (by kernel_rfl) rfl rfl (by kernel_rfl) ?_
      refine HCR.out.mono ?_
      rintro e wk ⟨rfl, hb⟩
      have hLc := (hb.block (w.heap.size + 1) hlL).trans HL.out
      have hRc := (hb.block w.heap.size hlR).trans HR.out
      have HBc := HB.out.drew.trans (hb.mono HB.out.size)
      have qc := cA_load hLc
      refine ⟨_, rfl, qc, ?_⟩
      simp only [Act.put, List.setIfInBounds_toArray, List.set_cons_zero, List.set_cons_succ]
      obtain ⟨p1, p2, p3⟩ := putD_is wk w.heap.size Dt.zero r hRc
      have hL2 := (p3.block (w.heap.size + 1) (lt_of_some hLc) (by simp)).trans hLc
      refine anyH_oneSkip 3 ⟨none, .store 29 (.tmp 2) (.tmp 29), _, _, _, none⟩ (putD wk w.heap.size r) (by kernel_rfl) rfl rfl (exec_store29 rfl rfl hRc) (cA_load hL2) ?_
      refine anyH_takeW 4 ⟨some 3, .assign (.tmp 31), _, _, _, none⟩ (.bool (bestP l).isSome) rfl rfl (by kernel_rfl) (by kernel_rfl) (by kernel_rfl) (fun _ _ _ h => h) (fun w hw => rfl) (cA_load hL2) ?_
      simp only [Act.put, List.setIfInBounds_toArray, List.set_cons_zero, List.set_cons_succ]
      refine wpAnyH_done (by kernel_rfl) ?_ _
      have HBC := hid HBc
      clear HBc hb qc
      go_wp2_with fail
      refine bodyPost_ret (w := putD wk w.heap.size r) (results30_run _ rfl rfl p1) rfl ?_
      rw [HRR.out]
      exact ⟨rfl, below_kept HBC.out p3 (by simp) HBC.out.size⟩
end Go.Proofs.YtnjdgbbdjkhpoaaDoor
