/- What this text holds: Decode, of the program. -/
import Derived.Test.YtkipigbfbhecjaaN25
namespace Go.Proofs.Ytkipigbfbhecjaa
open Go.RowKit
set_option linter.unusedVariables false
set_option linter.unusedSimpArgs false

/-- Is a content a right node's? -/
def decB (leaf : Bool) (s : ByteArray) : Bool := rightB (readN leaf s) && ((strOf (contentL (readN leaf s))).toList == s.toList)
/-- What Decode ends in. -/
def DecP (w : World) (kind : Int) (s : ByteArray) (e : Ending) (w' : World) : Prop :=
  (∃ leaf, kind = (if leaf then 1 else 2) ∧ decB leaf s = true ∧ (readN leaf s).small ∧ (readN leaf s).leaf = leaf ∧ ∃ v, e = .returned (.tuple #[v, .int .i64 0]) ∧ NAt w' v (readN leaf s) ∧ Below w.heap.size w w') ∨
  ((∀ leaf : Bool, kind = (if leaf then 1 else 2) → decB leaf s = false) ∧ ∃ v, e = .returned (.tuple #[v, .int .i64 11]) ∧ NAt w' v ⟨false, [], [], []⟩ ∧ Below w.heap.size w w')
theorem results2c {fn : Func} {p u : Tmp} (h : fn.results = #[.cell p 26, .tmp u]) {tmps : Array Value} {w : World} {R : Nat} {x0 x1 x2 x3 : Value} (ht : tmps.getD p undef = .pointer (some ⟨R, 0, none⟩)) (hx : w.heap[R]? = some (.cells #[x0, x1, x2, x3] 26 (0, 0))) :
    (results fn tmps).run Try.prog w = .ok (.tuple #[.agg #[x0, x1, x2, x3], tmps.getD u undef]) w := by
  have e : (results fn tmps).run Try.prog w = ((asAddr (tmps.getD p undef)).run Try.prog w).andThen fun a w₁ => ((loadVar 26 a).run Try.prog w₁).andThen fun X w₂ => .ok (.tuple #[X, tmps.getD u undef]) w₂ := by
    simp only [results, h]
    simp [Sem.run_bind, Result.andThen]
  refine e.trans ?_
  generalize tmps.getD p undef = P at ht
  subst ht
  have ha : ∀ R : Nat, (asAddr (.pointer (some ⟨R, 0, none⟩))).run Try.prog w = .ok ⟨R, 0, none⟩ w := fun R => by simp [asAddr]
  simp only [ha, Result.andThen_ok, load26 hx]
section
variable {w w' : World} {R : Nat} {l : Bool} {a1 a2 a3 : Option Addr} {n1 n2 n3 c1 c2 c3 : Nat}
theorem At.other {a : Option Addr} {cs : List Value} (h : At w a cs) (hp : ∀ v ∈ cs, plain v = true) (hR : w.heap[R]? = some (.cells #[.bool l, .slice a1 n1 c1, .slice a2 n2 c2, .slice a3 n3 c3] 26 (0, 0))) (hk : ∀ k, k ≠ R → w'.heap[k]? = w.heap[k]?) : At w' a cs := by
  rcases h with h | ⟨b, o, rfl, h⟩
  · exact .inl h
  · refine .inr ⟨b, o, rfl, fun j v hv => ?_⟩
    have hc := h j v hv
    have hb : b ≠ R := by
      intro e
      subst e
      have hpv := hp v (List.mem_of_getElem? hv)
      simp only [World.cell?, hR] at hc
      rcases hh : o + j with _ | _ | _ | _ | k
      all_goals rw [hh] at hc
      all_goals simp at hc
      all_goals subst hc
      all_goals simp [plain] at hpv
    exact (World.cell?_of_block (w := w) (hk b hb)).trans hc
theorem NAt.other {v : Value} {n : Nd} (h : NAt w v n) (hR : w.heap[R]? = some (.cells #[.bool l, .slice a1 n1 c1, .slice a2 n2 c2, .slice a3 n3 c3] 26 (0, 0))) (hk : ∀ k, k ≠ R → w'.heap[k]? = w.heap[k]?) : NAt w' v n := by
  obtain ⟨ka, kp, ia, ep, da, dp, e, h1, h2, h3, r⟩ := h.at_
  exact ⟨⟨ka, kp, ia, ep, da, dp, e, h1.other (kc_plain _) hR hk, h2.other (ic_plain _) hR hk, h3.other (dc_plain _) hR hk, r⟩, h.ks, h.is_⟩
end
theorem other_set4 (w : World) (R : Nat) (y0 y1 y2 y3 : Value) : ∀ k, k ≠ R → ((((w.setCell ⟨R, 0, none⟩ y0).setCell ⟨R, 1, none⟩ y1).setCell ⟨R, 2, none⟩ y2).setCell ⟨R, 3, none⟩ y3).heap[k]? = w.heap[k]? := fun k hk => by
  rw [Below.heap_setCell _ _ _ _ hk, Below.heap_setCell _ _ _ _ hk, Below.heap_setCell _ _ _ _ hk, Below.heap_setCell _ _ _ _ hk]

set_option maxRecDepth 100000 in
set_option maxHeartbeats 2000000 in
theorem decode_leaf (w : World) (s : ByteArray) (hs : s.size ≤ 20000) : Calls Try.prog 19 #[.int .i64 1, .string s] w (DecP w 1 s) := by
  have HB0 := hid (below_box w (.cells #[.bool false, .slice none 0 0, .slice none 0 0, .slice none 0 0] 26))
  have HR0 := hid (heap_alloc_new w (.cells #[.bool false, .slice none 0 0, .slice none 0 0, .slice none 0 0] 26))
  go_enter Try.func19, Try.ntmps19
  go_wp2_with fail
  generalize w.alloc (.cells #[.bool false, .slice none 0 0, .slice none 0 0, .slice none 0 0] 26) = W at HB0 HR0 ⊢
  have hB : w.heap.size ≤ W.heap.size := HB0.out.size
  generalize hBe : w.heap.size = B at HB0 HR0 hB ⊢
  have hRlt : B < W.heap.size := by have := HR0.out; rw [Array.getElem?_eq_some_iff] at this; exact this.1
  refine (read_leaf s hs).mono ?_
  rintro e w1 ⟨v, rfl, ⟨hv, hsm, hlf⟩, hb1⟩
  have HV := hid hv
  have HSm := hid hsm
  have HLf := hid hlf
  have HB1 := hid (HB0.out.trans (hb1.mono hB))
  have HR1 := hid ((hb1.block B hRlt).trans HR0.out)
  have hR1 : B < w1.heap.size := Nat.lt_of_lt_of_le hRlt hb1.size
  obtain ⟨ka, kp, ia, ep, da, dp, rfl, _⟩ := hv.at_
  clear hv hsm hlf hb1 HB0 HR0
  have hd : decB true s = (rightB (readN true s) && ((strOf (contentL (readN true s))).toList == s.toList)) := rfl
  have HD := hid hd
  clear hd
  generalize hm : readN true s = m at *
  have HM := hid hm
  clear hm
  have HV2 := hid (HV.out.later (below_box w1 (.cells #[.bool m.leaf, .slice ka m.keys.length kp, .slice ia m.items.length ep, .slice da m.kids.length dp] 26)))
  have HB2 := hid (below_box w1 (.cells #[.bool m.leaf, .slice ka m.keys.length kp, .slice ia m.items.length ep, .slice da m.kids.length dp] 26))
  have HX := hid (@box4 w1 _ _ _ _ _ _ (Below.refl (w1.alloc (.cells #[.bool m.leaf, .slice ka m.keys.length kp, .slice ia m.items.length ep, .slice da m.kids.length dp] 26)).heap.size _))
  unfold nv at HV HV2 ⊢
  go_wp2_with fail
  generalize w1.alloc (.cells #[.bool m.leaf, .slice ka m.keys.length kp, .slice ia m.items.length ep, .slice da m.kids.length dp] 26) = W2 at HB2 HV2 HX ⊢
  generalize hCe : w1.heap.size = C at HX HB2 hR1 ⊢
  obtain ⟨x0, x1, x2, x3⟩ := HX.out
  refine (right_any HV2.out HSm.out).mono ?_
  rintro e w3 ⟨rfl, hb3⟩
  have HB3 := hid hb3
  have c0 := cell_later hb3 x0
  have c1 := cell_later hb3 x1
  have c2 := cell_later hb3 x2
  have c3 := cell_later hb3 x3
  have hCs : C ≤ W2.heap.size := hCe ▸ HB2.out.size
  have HBB := hid ((HB2.out.mono (Nat.le_of_lt hR1)).trans (hb3.mono (by omega)) : Below B w1 w3)
  clear hb3
  cases hr : rightB m with
  | false =>
    rw [hr] at HD
    have HRX := hid (((HBB.out.mono (Nat.le_refl _)) |> fun (h : Below B w1 w3) => ((HB2.out.block B hR1).symm ▸ (HB3.out.block B (by omega)) : w3.heap[B]? = w1.heap[B]?)).trans HR1.out)
    have HBX := hid (HB1.out.trans HBB.out)
    obtain ⟨⟨q0, q1, q2, q3⟩, hfq⟩ := cells4 HRX.out
    have fq0 := hfq 0
    have fq1 := hfq 1
    have fq2 := hfq 2
    have fq3 := hfq 3
    clear hfq
    go_wp2_with fail
    refine bodyPost_ret (results2c rfl rfl (set4 HRX.out _ _ _ _)) rfl ?_
    exact .inr ⟨(fun l hl => by cases l <;> simp at hl <;> exact HD.out), _, rfl, nat_zero _, hBe ▸ ((HBX.out).trans (below_set4 (Nat.le_refl _) _ _ _ _))⟩
  | true =>
    rw [hr] at HD
    have HC := hid (content_any (HV2.out.later HB3.out) HSm.out (ri_of hr))
    have HRg := hid hr
    clear hr
    go_wp2_with fail
    refine HC.out.mono ?_
    rintro e w4 ⟨rfl, hb4⟩
    have HB4 := hid (HB3.out.trans (hb4.mono HB3.out.size))
    have d0 := cell_later HB4.out x0
    have d1 := cell_later HB4.out x1
    have d2 := cell_later HB4.out x2
    have d3 := cell_later HB4.out x3
    clear hb4 c0 c1 c2 c3 HC
    have HRX := hid (((HB4.out.block B (by omega)).trans (HB2.out.block B hR1)).trans HR1.out)
    have HBX := hid (HB1.out.trans ((HB2.out.mono (Nat.le_of_lt hR1)).trans (HB4.out.mono (by omega))) : Below B w w4)
    generalize strOf (contentL m) = S at HD
    cases heq : (S.toList == s.toList) with
    | true =>
      rw [heq] at HD
      obtain ⟨⟨q0, q1, q2, q3⟩, hfq⟩ := cells4 HRX.out
      have fq0 := hfq 0
      have fq1 := hfq 1
      have fq2 := hfq 2
      have fq3 := hfq 3
      clear hfq
      go_wp2_with fail
      refine bodyPost_ret (results2c rfl rfl (set4 HRX.out _ _ _ _)) rfl ?_
      refine .inl ⟨true, rfl, HD.out, (by rw [HM.out]; exact HSm.out), (by rw [HM.out]; exact HLf.out), _, rfl, ?_, hBe ▸ (HBX.out.trans (below_set4 (Nat.le_refl _) _ _ _ _))⟩
      rw [HM.out]
      exact (HV2.out.later HB4.out).other HRX.out (other_set4 _ _ _ _ _ _)
    | false =>
      rw [heq] at HD
      obtain ⟨⟨q0, q1, q2, q3⟩, hfq⟩ := cells4 HRX.out
      have fq0 := hfq 0
      have fq1 := hfq 1
      have fq2 := hfq 2
      have fq3 := hfq 3
      clear hfq
      go_wp2_with fail
      refine bodyPost_ret (results2c rfl rfl (set4 HRX.out _ _ _ _)) rfl ?_
      exact .inr ⟨(fun l hl => by cases l <;> simp at hl <;> exact HD.out), _, rfl, nat_zero _, hBe ▸ ((HBX.out).trans (below_set4 (Nat.le_refl _) _ _ _ _))⟩

set_option maxRecDepth 100000 in
set_option maxHeartbeats 2000000 in
theorem decode_other (w : World) (s : ByteArray) (hs : s.size ≤ 20000) : Calls Try.prog 19 #[.int .i64 2, .string s] w (DecP w 2 s) := by
  have HB0 := hid (below_box w (.cells #[.bool false, .slice none 0 0, .slice none 0 0, .slice none 0 0] 26))
  have HR0 := hid (heap_alloc_new w (.cells #[.bool false, .slice none 0 0, .slice none 0 0, .slice none 0 0] 26))
  go_enter Try.func19, Try.ntmps19
  go_wp2_with fail
  generalize w.alloc (.cells #[.bool false, .slice none 0 0, .slice none 0 0, .slice none 0 0] 26) = W at HB0 HR0 ⊢
  have hB : w.heap.size ≤ W.heap.size := HB0.out.size
  generalize hBe : w.heap.size = B at HB0 HR0 hB ⊢
  have hRlt : B < W.heap.size := by have := HR0.out; rw [Array.getElem?_eq_some_iff] at this; exact this.1
  refine (read_other s hs).mono ?_
  rintro e w1 ⟨v, rfl, ⟨hv, hsm, hlf⟩, hb1⟩
  have HV := hid hv
  have HSm := hid hsm
  have HLf := hid hlf
  have HB1 := hid (HB0.out.trans (hb1.mono hB))
  have HR1 := hid ((hb1.block B hRlt).trans HR0.out)
  have hR1 : B < w1.heap.size := Nat.lt_of_lt_of_le hRlt hb1.size
  obtain ⟨ka, kp, ia, ep, da, dp, rfl, _⟩ := hv.at_
  clear hv hsm hlf hb1 HB0 HR0
  have hd : decB false s = (rightB (readN false s) && ((strOf (contentL (readN false s))).toList == s.toList)) := rfl
  have HD := hid hd
  clear hd
  generalize hm : readN false s = m at *
  have HM := hid hm
  clear hm
  have HV2 := hid (HV.out.later (below_box w1 (.cells #[.bool m.leaf, .slice ka m.keys.length kp, .slice ia m.items.length ep, .slice da m.kids.length dp] 26)))
  have HB2 := hid (below_box w1 (.cells #[.bool m.leaf, .slice ka m.keys.length kp, .slice ia m.items.length ep, .slice da m.kids.length dp] 26))
  have HX := hid (@box4 w1 _ _ _ _ _ _ (Below.refl (w1.alloc (.cells #[.bool m.leaf, .slice ka m.keys.length kp, .slice ia m.items.length ep, .slice da m.kids.length dp] 26)).heap.size _))
  unfold nv at HV HV2 ⊢
  go_wp2_with fail
  generalize w1.alloc (.cells #[.bool m.leaf, .slice ka m.keys.length kp, .slice ia m.items.length ep, .slice da m.kids.length dp] 26) = W2 at HB2 HV2 HX ⊢
  generalize hCe : w1.heap.size = C at HX HB2 hR1 ⊢
  obtain ⟨x0, x1, x2, x3⟩ := HX.out
  refine (right_any HV2.out HSm.out).mono ?_
  rintro e w3 ⟨rfl, hb3⟩
  have HB3 := hid hb3
  have c0 := cell_later hb3 x0
  have c1 := cell_later hb3 x1
  have c2 := cell_later hb3 x2
  have c3 := cell_later hb3 x3
  have hCs : C ≤ W2.heap.size := hCe ▸ HB2.out.size
  have HBB := hid ((HB2.out.mono (Nat.le_of_lt hR1)).trans (hb3.mono (by omega)) : Below B w1 w3)
  clear hb3
  cases hr : rightB m with
  | false =>
    rw [hr] at HD
    have HRX := hid (((HBB.out.mono (Nat.le_refl _)) |> fun (h : Below B w1 w3) => ((HB2.out.block B hR1).symm ▸ (HB3.out.block B (by omega)) : w3.heap[B]? = w1.heap[B]?)).trans HR1.out)
    have HBX := hid (HB1.out.trans HBB.out)
    obtain ⟨⟨q0, q1, q2, q3⟩, hfq⟩ := cells4 HRX.out
    have fq0 := hfq 0
    have fq1 := hfq 1
    have fq2 := hfq 2
    have fq3 := hfq 3
    clear hfq
    go_wp2_with fail
    refine bodyPost_ret (results2c rfl rfl (set4 HRX.out _ _ _ _)) rfl ?_
    exact .inr ⟨(fun l hl => by cases l <;> simp at hl <;> exact HD.out), _, rfl, nat_zero _, hBe ▸ ((HBX.out).trans (below_set4 (Nat.le_refl _) _ _ _ _))⟩
  | true =>
    rw [hr] at HD
    have HC := hid (content_any (HV2.out.later HB3.out) HSm.out (ri_of hr))
    have HRg := hid hr
    clear hr
    go_wp2_with fail
    refine HC.out.mono ?_
    rintro e w4 ⟨rfl, hb4⟩
    have HB4 := hid (HB3.out.trans (hb4.mono HB3.out.size))
    have d0 := cell_later HB4.out x0
    have d1 := cell_later HB4.out x1
    have d2 := cell_later HB4.out x2
    have d3 := cell_later HB4.out x3
    clear hb4 c0 c1 c2 c3 HC
    have HRX := hid (((HB4.out.block B (by omega)).trans (HB2.out.block B hR1)).trans HR1.out)
    have HBX := hid (HB1.out.trans ((HB2.out.mono (Nat.le_of_lt hR1)).trans (HB4.out.mono (by omega))) : Below B w w4)
    generalize strOf (contentL m) = S at HD
    cases heq : (S.toList == s.toList) with
    | true =>
      rw [heq] at HD
      obtain ⟨⟨q0, q1, q2, q3⟩, hfq⟩ := cells4 HRX.out
      have fq0 := hfq 0
      have fq1 := hfq 1
      have fq2 := hfq 2
      have fq3 := hfq 3
      clear hfq
      go_wp2_with fail
      refine bodyPost_ret (results2c rfl rfl (set4 HRX.out _ _ _ _)) rfl ?_
      refine .inl ⟨false, rfl, HD.out, (by rw [HM.out]; exact HSm.out), (by rw [HM.out]; exact HLf.out), _, rfl, ?_, hBe ▸ (HBX.out.trans (below_set4 (Nat.le_refl _) _ _ _ _))⟩
      rw [HM.out]
      exact (HV2.out.later HB4.out).other HRX.out (other_set4 _ _ _ _ _ _)
    | false =>
      rw [heq] at HD
      obtain ⟨⟨q0, q1, q2, q3⟩, hfq⟩ := cells4 HRX.out
      have fq0 := hfq 0
      have fq1 := hfq 1
      have fq2 := hfq 2
      have fq3 := hfq 3
      clear hfq
      go_wp2_with fail
      refine bodyPost_ret (results2c rfl rfl (set4 HRX.out _ _ _ _)) rfl ?_
      exact .inr ⟨(fun l hl => by cases l <;> simp at hl <;> exact HD.out), _, rfl, nat_zero _, hBe ▸ ((HBX.out).trans (below_set4 (Nat.le_refl _) _ _ _ _))⟩

set_option maxRecDepth 100000 in
set_option maxHeartbeats 1000000 in
theorem decode_none (w : World) (kind : Int) (h1 : kind ≠ 1) (h2 : kind ≠ 2) (s : ByteArray) : Calls Try.prog 19 #[.int .i64 kind, .string s] w (DecP w kind s) := by
  have h1' : (kind != 1) = true := by simp [h1]
  have h2' : (kind != 2) = true := by simp [h2]
  have HE : Hid (∀ leaf : Bool, kind = (if leaf then 1 else 2) → decB leaf s = false) := fun leaf h => by cases leaf <;> simp at h <;> contradiction
  clear h1 h2
  go_enter Try.func19, Try.ntmps19
  go_wp2_with fail
  refine bodyPost_ret (results2c rfl rfl (heap_alloc_new w _)) rfl ?_
  exact .inr ⟨HE.out, _, rfl, nat_zero _, below_box _ _⟩
theorem decode_any (w : World) (kind : Int) (s : ByteArray) (hs : s.size ≤ 20000) : Calls Try.prog 19 #[.int .i64 kind, .string s] w (DecP w kind s) := by
  by_cases h1 : kind = 1
  · subst h1; exact decode_leaf w s hs
  · by_cases h2 : kind = 2
    · subst h2; exact decode_other w s hs
    · exact decode_none w kind h1 h2 s
end Go.Proofs.Ytkipigbfbhecjaa
