/- What this text holds: a line has come. -/
import Derived.Test.YtikcbgoocljgnaaDoorM12
namespace Go.Proofs.YtikcbgoocljgnaaDoor
open Go.RowKit
set_option linter.unusedVariables false
set_option linter.unusedSimpArgs false

/-- What a byte comes to. -/
structure Out where
  f : Fd
  k : Int
  t : List Bs
  l : List Bs
abbrev StepO (w : World) (b : Nat) (own : List Nat) (o : Out) : Ending → World → Prop := StepTo w b own o.f o.k o.t o.l
def keepF (F : Fd) (t ln : Bs) : Fd := { F with texts := F.texts ++ [t], size := F.size + ln.length, under := [] }
def endLineP (F : Fd) : Out := match markP (sufT F.under 13) with
  | none => ⟨Fd.zero, 1, F.texts ++ [sufT F.under 13], F.lits⟩
  | some (t, n, p) => if refB F n = true then ⟨refuseF n p, 3, F.texts ++ [t], F.lits⟩ else ⟨awaitF (keepF F t (sufT F.under 13)) n, if p = true then 0 else 2, [], []⟩
theorem mark_bound {l t : Bs} {n : Nat} {p : Bool} (h : markP l = some (t, n, p)) : n ≤ 999999 ∧ t.length ≤ l.length := by
  unfold markP at h
  split at h
  · rename_i hc
    simp only [Option.some.injEq, Prod.mk.injEq] at h
    obtain ⟨rfl, rfl, rfl⟩ := h
    refine ⟨numV_lt (rest_dig _) hc.2.2.2, ?_⟩
    have l1 := sufT_len l 125
    have l2 := sufT_len (sufT l 125) 43
    have l3 := trimD_len (sufT (sufT l 125) 43)
    have l4 := sufT_len (trimD (sufT (sufT l 125) 43)) 123
    omega
  · cases h
set_option maxRecDepth 100000 in
theorem results28_run {w : World} {A : Nat} {v0 v1 v2 : Value} (tmps : Array Value) (h2 : tmps[2]? = some (.pointer (some ⟨A, 0, none⟩))) (h : w.heap[A]? = some (.cells #[v0, v1, v2] 41 (0, 0))) :
    (results Tryd.f28 tmps).run Tryd.prog w = .ok (.agg #[v0, v1, v2]) w := by
  obtain ⟨x0, x1, x2, _⟩ := row41 h
  simp [results, Tryd.results28, go_sem, h2, x0, x1, x2]
theorem cr_any (s : Bs) (w : World) (hs : s.length ≤ 1000000) : Calls Tryd.prog 34 #[.string (str s), .string ⟨#[13]⟩] w fun e w' => e = .returned (.string (str (sufT s 13))) ∧ w' = w :=
  Tryd.strings_TrimSuffix (str s) ⟨#[13]⟩ w (by rw [str_size]; omega)
/-- The feed lies as it did, and the answer's block too. -/
structure Mid (w W : World) (b : Nat) (own : List Nat) (F : Fd) : Prop where
  f : FAt W b own F
  r : W.heap[w.heap.size]? = some (.cells #[.int .i64 0, .slice none 0 0, .slice none 0 0] 41 (0, 0))
  b : Below w.heap.size w W
theorem Mid.later {w W W' : World} {b : Nat} {own : List Nat} {F : Fd} (h : Mid w W b own F) (hb : Below W.heap.size W W') : Mid w W' b own F :=
  ⟨h.f.below hb, (hb.block _ (lt_of_some h.r)).trans h.r, h.b.trans (hb.mono h.b.size)⟩
theorem Mid.new {w : World} {b : Nat} {own : List Nat} {F : Fd} (h : FAt w b own F) : Mid w (w.alloc (.cells #[.int .i64 0, .slice none 0 0, .slice none 0 0] 41)) b own F :=
  ⟨h.al, heap_alloc_new _ _, (Below.refl _ _).alloc (Nat.le_refl _) _⟩
/-- An event that a call answered is written into the answer's block. -/
theorem Mid.step {w W w3 : World} {b : Nat} {own : List Nat} {F F' : Fd} {k : Int} {T L : List Bs} {e : Ending} (h : Mid w W b own F) (n : w.heap.size ∉ own) (s : StepTo W b own F' k T L e w3) :
    ∃ vT vL, e = .returned (.agg #[.int .i64 k, vT, vL]) ∧ GO eS w3 0 vT T ∧ GO eS w3 0 vL L ∧ w3.heap[w.heap.size]? = some (.cells #[.int .i64 0, .slice none 0 0, .slice none 0 0] 41 (0, 0)) ∧
      (((w3.setCell ⟨w.heap.size, 0, none⟩ (.int .i64 k)).setCell ⟨w.heap.size, 1, none⟩ vT).setCell ⟨w.heap.size, 2, none⟩ vL).heap[w.heap.size]? = some (.cells #[.int .i64 k, vT, vL] 41 (0, 0)) ∧
      StepTo w b own F' k T L (.returned (.agg #[.int .i64 k, vT, vL])) (((w3.setCell ⟨w.heap.size, 0, none⟩ (.int .i64 k)).setCell ⟨w.heap.size, 1, none⟩ vT).setCell ⟨w.heap.size, 2, none⟩ vL) := by
  obtain ⟨vT, vL, own', rfl, gt, gl, hf, hk, ho, n1, n2⟩ := s
  have hR := keep_blk hk h.r n
  have hs := h.b.size
  obtain ⟨u1, u2⟩ := ev_out (w := w) (own := own) (k := k) hR rfl (Nat.le_refl _) gt gl hf ((Kept.ofBelow h.b own).trans hk (fun _ _ h => h)) (fun g hg => by rcases ho g hg with e | e; exact .inl e; right; omega) n1 n2
  exact ⟨vT, vL, rfl, gt, gl, hR, u1, u2⟩
theorem EvIs.step {W w3 : World} {b : Nat} {own : List Nat} {k : Int} {T L : List Bs} {e : Ending} {F F' : Fd} (h0 : FAt W b own F) (h : EvIs k T L e w3) (hf : FAt w3 b [b] F') (hk : Kept own W w3) : StepTo W b own F' k T L e w3 := by
  obtain ⟨vT, vL, rfl, gt, gl⟩ := h
  refine ⟨vT, vL, [b], rfl, gt, gl, hf, hk, fun g hg => ?_, fun g hg => ?_, fun g hg => ?_⟩
  · rw [List.mem_singleton] at hg; rw [hg]; exact .inl h0.mem
  · rw [List.mem_singleton]; rintro rfl
    obtain ⟨x1, x2, x3, f, _⟩ := hf
    exact gt.ne (by decide) f.row hg
  · rw [List.mem_singleton]; rintro rfl
    obtain ⟨x1, x2, x3, f, _⟩ := hf
    exact gl.ne (by decide) f.row hg
theorem FTo.step {W w3 : World} {b : Nat} {own : List Nat} {k : Int} {F' : Fd} (h : FTo W b own F' w3) : StepTo W b own F' k [] [] (.returned (.agg #[.int .i64 k, .slice none 0 0, .slice none 0 0])) w3 := by
  obtain ⟨own', hf, hk, ho⟩ := h
  exact ⟨.slice none 0 0, .slice none 0 0, own', rfl, GO.nil _ _ _, GO.nil _ _ _, hf, hk, ho, fun g hg => by simp [Value.ownBlock] at hg, fun g hg => by simp [Value.ownBlock] at hg⟩
set_option maxRecDepth 100000 in
set_option maxHeartbeats 2000000 in
theorem endLine_any {w : World} {b : Nat} {own : List Nat} {F : Fd} (h : FAt w b own F) (h1 : F.texts.length ≤ 900) (h2 : F.lits.length ≤ 900) (h3 : F.size ≤ 1000000) (h4 : F.under.length ≤ 1000000) :
    Calls Tryd.prog 28 #[.pointer (some ⟨b, 0, none⟩)] w (StepO w b own (endLineP F)) := by
  have hn := h.nR
  have HM := hid (Mid.new h)
  obtain ⟨vt, vl, vu, f, he⟩ := h.al
  have c3 : (w.alloc (.cells #[.int .i64 0, .slice none 0 0, .slice none 0 0] 41)).cell? ⟨b, 3, none⟩ = some vu := f.r4.cell 3 rfl
  have hcv := conv_gb f.u
  obtain ⟨a3, k3, hv3⟩ := f.u.slice (n := F.under.length) rfl
  subst hv3
  clear f he h
  have hsl := sufT_len F.under 13
  have C1 := hid (fun W => cr_any F.under W (by omega))
  have C2 := hid (fun W => cutMark_any (sufT F.under 13) W (by omega))
  have HP : Hid (endLineP F = match markP (sufT F.under 13) with
    | none => ⟨Fd.zero, 1, F.texts ++ [sufT F.under 13], F.lits⟩
    | some (t, n, p) => if refB F n = true then ⟨refuseF n p, 3, F.texts ++ [t], F.lits⟩ else ⟨awaitF (keepF F t (sufT F.under 13)) n, if p = true then 0 else 2, [], []⟩) := rfl
  unfold cutV at C2
  have hmb := @mark_bound (sufT F.under 13)
  rw [HP.out]
  have hF : F.under.length = F.under.length := rfl
  generalize sufT F.under 13 = ln at *
  generalize hu : F.under.length = ul at *
  clear hF HP
  cases hm : markP ln with
  | none =>
    rw [hm] at C2
    simp only at C2 ⊢
    clear hmb hm
    go_enter Tryd.func28, Tryd.ntmps28
    go_wp2_with fail
    refine (C1.out _).mono ?_
    rintro e w1 ⟨rfl, hw1⟩
    subst w1
    go_wp2_with fail
    refine (C2.out _).mono ?_
    rintro e w2 ⟨rfl, hb2⟩
    have M3 := (HM.out.later hb2).later ((Below.refl _ w2).alloc (Nat.le_refl _) (.cells #[.int .i64 0, .bool false] 75))
    have HM3 := hid M3
    have HE := hid (end_any M3.f 1 ln (by omega))
    clear hb2 M3 C1 C2
    go_wp2_with fail
    refine HE.out.mono ?_
    rintro e w4 ⟨hev, hf4, hk4⟩
    obtain ⟨vT, vL, rfl, gt, gl, hR, u1, u2⟩ := HM3.out.step hn (EvIs.step HM3.out.f hev hf4 hk4)
    obtain ⟨aT, kT, hvT⟩ := gt.slice (n := F.texts.length + 1) (by simp)
    obtain ⟨aL, kL, hvL⟩ := gl.slice (n := F.lits.length) rfl
    subst hvT hvL
    obtain ⟨r0, r1, r2, s0, s1, s2⟩ := row41 hR
    have HU := hid u1
    have HS := hid u2
    clear hev hf4 hk4 gt gl hR u1 u2 HE
    go_wp2_with fail
    exact bodyPost_ret (results28_run _ rfl HU.out) rfl HS.out
  | some x =>
    obtain ⟨t, n, p⟩ := x
    rw [hm] at C2
    obtain ⟨hn9, htl⟩ := hmb hm
    simp only at C2 ⊢
    clear hmb hm
    generalize hO : (if refB F n = true then (⟨refuseF n p, 3, F.texts ++ [t], F.lits⟩ : Out) else ⟨awaitF (keepF F t ln) n, if p = true then 0 else 2, [], []⟩) = O at *
    have HOy : Hid (refB F n = true → O = ⟨refuseF n p, 3, F.texts ++ [t], F.lits⟩) := fun h => by rw [← hO, if_pos h]
    have HOn : Hid (refB F n = false → O = ⟨awaitF (keepF F t ln) n, if p = true then 0 else 2, [], []⟩) := fun h => by rw [← hO, if_neg (by simp [h])]
    clear hO
    have HK9 : Hid (∀ W, Mid w W b own F → Calls Tryd.prog 36 #[.pointer (some ⟨b, 0, none⟩), .agg #[.int .i64 n, .bool p]] W fun e w' => e = .returned (.bool (refB F n)) ∧ Below W.heap.size W w') := fun W hW => refuses_any hW.f n p (by omega) (by omega)
    have HRf : Hid (∀ W, Mid w W b own F → Calls Tryd.prog 37 #[.pointer (some ⟨b, 0, none⟩), .string (str t), .agg #[.int .i64 n, .bool p]] W (StepTo W b own (refuseF n p) 3 (F.texts ++ [t]) F.lits)) := fun W hW => refuse_any hW.f t n p (by omega) (by omega)
    have HKt : Hid (∀ W, Mid w W b own F → Calls Tryd.prog 38 #[.pointer (some ⟨b, 0, none⟩), .string (str t), .string (str ln)] W fun e w' => e = .returned (.tuple #[]) ∧ FTo W b own (keepF F t ln) w') := fun W hW => keepText_any hW.f t ln (by omega) (by omega) (by omega)
    have HAw : Hid (∀ W o, FAt W b o (keepF F t ln) → Calls Tryd.prog 39 #[.pointer (some ⟨b, 0, none⟩), .int .i64 n] W fun e w' => e = .returned (.tuple #[]) ∧ FTo W b o (awaitF (keepF F t ln) n) w') := fun W o hW => await_any hW n (by show F.lits.length ≤ 1000; omega) (by omega)
    go_enter Tryd.func28, Tryd.ntmps28
    go_wp2_with fail
    refine (C1.out _).mono ?_
    rintro e w1 ⟨rfl, hw1⟩
    subst w1
    go_wp2_with fail
    refine (C2.out _).mono ?_
    rintro e w2 ⟨rfl, hb2⟩
    have M3 := (HM.out.later hb2).later ((Below.refl _ w2).alloc (Nat.le_refl _) (.cells #[.int .i64 n, .bool p] 75))
    have M3d := M3.later (drewN_below _ 1 _)
    have HM3 := hid M3d
    have hMk : (w2.alloc (.cells #[.int .i64 n, .bool p] 75)).heap[w2.heap.size]? = some (.cells #[.int .i64 n, .bool p] 75 (0, 0)) := heap_alloc_new _ _
    have HMk := hid hMk
    have m0 := row_at hMk 0 (v := .int .i64 n) rfl
    have m1 := row_at hMk 1 (v := .bool p) rfl
    have hMw : w.heap.size < w2.heap.size := Nat.lt_of_lt_of_le (lt_of_some HM.out.r) hb2.size
    have HMo : Hid (w2.heap.size ∉ own) := fun e => by have := (HM.out.later hb2).f.lt _ e; omega
    clear hb2 M3 M3d hMk C1 C2
    go_wp2_with fail
    go_region_held3 (fun w' => w'.cell? ⟨w2.heap.size, 0, none⟩ = some (.int .i64 n) ∧ w'.cell? ⟨w2.heap.size, 1, none⟩ = some (.bool p)) (first | exact ⟨k0, k1⟩ | exact ⟨m0, m1⟩ | go_keep) ((go_at_call 36; refine (HK9.out _ HM3.out).mono ?_; rintro e w5 ⟨rfl, hb5⟩; have hMk5 := (hb5.block _ (lt_of_some HMk.out)).trans HMk.out; have k0 := row_at hMk5 0 (v := .int .i64 n) rfl; have k1 := row_at hMk5 1 (v := .bool p) rfl))
    have HM5 := hid (HM3.out.later hb5)
    have HMk5 := hid hMk5
    have hM5 := lt_of_some hMk5
    clear hb5 hMk5 HK9 HM3 HMk HM
    rcases hrf : refB F n
    · have HX := hid (HOn.out hrf)
      clear HOy HOn hrf
      go_wp2_with fail
      refine (HKt.out _ HM5.out).mono ?_
      rintro e w6 ⟨rfl, own6, hf6, hk6, ho6⟩
      have hMk6 := keep_blk hk6 HMk5.out HMo.out
      have z0 := row_at hMk6 0 (v := .int .i64 n) rfl
      have HA6 := hid (HAw.out _ _ hf6)
      have HK6 := hid hk6
      have HO6 := hid ho6
      have HMk6 := hid hMk6
      clear hf6 hk6 ho6 hMk6
      go_wp2_with fail
      refine HA6.out.mono ?_
      rintro e w7 ⟨rfl, g7⟩
      have hMk7 : w7.heap[w2.heap.size]? = some (.cells #[.int .i64 n, .bool p] 75 (0, 0)) := by
        obtain ⟨own7, hf7, hk7, ho7⟩ := g7
        exact keep_blk hk7 HMk6.out (fun e => by rcases HO6.out _ e with q | q; exact HMo.out q; omega)
      have z1 := row_at hMk7 1 (v := .bool p) rfl
      have g8 := FTo.trans HK6.out HO6.out g7
      clear g7 hMk7 HA6 HAw HKt HRf
      cases p with
      | true =>
        simp only [if_true] at HX
        have q := HM5.out.step hn (FTo.step (k := 0) g8)
        obtain ⟨vT, vL, hq, _, _, hR, u1, u2⟩ := q
        simp only [Ending.returned.injEq, Value.agg.injEq, Array.mk.injEq, List.cons.injEq, and_true, true_and] at hq
        obtain ⟨rfl, rfl⟩ := hq
        obtain ⟨r0, r1, r2, s0, s1, s2⟩ := row41 hR
        have HU := hid u1
        have HS := hid u2
        clear hR u1 u2 g8
        go_wp2_with fail
        rw [HX.out]
        exact bodyPost_ret (results28_run _ rfl HU.out) rfl HS.out
      | false =>
        simp only [Bool.false_eq_true, if_false] at HX
        have q := HM5.out.step hn (FTo.step (k := 2) g8)
        obtain ⟨vT, vL, hq, _, _, hR, u1, u2⟩ := q
        simp only [Ending.returned.injEq, Value.agg.injEq, Array.mk.injEq, List.cons.injEq, and_true, true_and] at hq
        obtain ⟨rfl, rfl⟩ := hq
        obtain ⟨r0, r1, r2, s0, s1, s2⟩ := row41 hR
        have HU := hid u1
        have HS := hid u2
        clear hR u1 u2 g8
        go_wp2_with fail
        rw [HX.out]
        exact bodyPost_ret (results28_run _ rfl HU.out) rfl HS.out
    · have HX := hid (HOy.out hrf)
      clear HOy HOn hrf
      go_wp2_with fail
      refine (HRf.out _ HM5.out).mono ?_
      intro e w6 st
      obtain ⟨vT, vL, rfl, gt, gl, hR, u1, u2⟩ := HM5.out.step hn st
      obtain ⟨aT, kT, hvT⟩ := gt.slice (n := F.texts.length + 1) (by simp)
      obtain ⟨aL, kL, hvL⟩ := gl.slice (n := F.lits.length) rfl
      subst hvT hvL
      obtain ⟨r0, r1, r2, s0, s1, s2⟩ := row41 hR
      have HU := hid u1
      have HS := hid u2
      clear st gt gl hR u1 u2
      go_wp2_with fail
      rw [HX.out]
      exact bodyPost_ret (results28_run _ rfl HU.out) rfl HS.out
end Go.Proofs.YtikcbgoocljgnaaDoor
