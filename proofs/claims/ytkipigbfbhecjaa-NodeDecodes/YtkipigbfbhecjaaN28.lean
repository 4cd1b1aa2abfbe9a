/- What this text holds: the document's bytes that are taken off a text. -/
import Derived.Test.YtkipigbfbhecjaaN25
namespace Go.Proofs.Ytkipigbfbhecjaa
open Go.RowKit
set_option linter.unusedVariables false
set_option linter.unusedSimpArgs false

/-- A text, nothing short. -/
def Rs.of (s : ByteArray) : Rs := ⟨s, false⟩
theorem after_short (r : Rs) (k : Nat) : (r.after k).short = (r.short || decide (r.s.size < k)) := by
  unfold Rs.after
  split
  · rename_i h; simp [h]
  · rename_i h; simp [h]

set_option maxRecDepth 100000 in
set_option maxHeartbeats 1000000 in
theorem rtake_any (s : ByteArray) (hs : s.size ≤ 20000) (k : Nat) (hk : k ≤ 100000) (w : World) :
    Calls Try.prog 40 #[.string s, .int .i64 k] w fun e w' => e = .returned (.tuple #[.string ((Rs.of s).cut k), .string ((Rs.of s).after k).s, .bool (!((Rs.of s).after k).short)]) ∧ Below w.heap.size w w' := by
  by_cases hlt : s.size < k
  · have hlt' : (s.size : Int) < k := by omega
    have E1 := hid (show (Rs.of s).cut k = ⟨#[]⟩ by unfold Rs.cut Rs.of; rw [if_pos hlt])
    have E2 := hid (show (Rs.of s).after k = ⟨⟨#[]⟩, true⟩ by unfold Rs.after Rs.of; rw [if_pos hlt])
    go_enter Try.func40, Try.ntmps40
    go_wp2_with fail
    go_ret3
    exact ⟨by rw [E1.out, E2.out]; rfl, Below.refl _ _⟩
  · have hlt' : ¬ (s.size : Int) < k := by omega
    have h1 : (k : Int) ≤ s.size := by omega
    have E1 := hid (show (Rs.of s).cut k = s.extract 0 k by unfold Rs.cut Rs.of; rw [if_neg hlt])
    have E2 := hid (show (Rs.of s).after k = ⟨s.extract k s.size, false⟩ by unfold Rs.after Rs.of; rw [if_neg hlt])
    go_enter Try.func40, Try.ntmps40
    go_wp2_with fail
    go_quiet (fail)
    go_wp2_with fail
    go_ret3
    exact ⟨by rw [E1.out, E2.out]; rfl, below_drewN _ _ _⟩

set_option maxRecDepth 100000 in
set_option maxHeartbeats 1000000 in
theorem rread_any (s : ByteArray) (hs : s.size ≤ 4) (w : World) :
    Calls Try.prog 41 #[.string s] w fun e w' => e = .returned (.int .i64 (val (bOf s))) ∧ w' = w := by
  have hv : val (bOf s) ≤ 9223372036854775807 := by
    have := val_range (bOf s) (bOf_range _) (bOf s).length (Nat.le_refl _)
    rw [List.take_length, bOf_length] at this
    have h2 := pow_le5 s.size (by omega) 4 (by omega) hs
    omega
  have HV := hid hv
  clear hv
  go_enter Try.func41, Try.ntmps41
  go_wp2
  go_loop [3, 4] (fun s' i => ∃ k : Nat, k ≤ s.size ∧ i = .int .i64 k ∧ s' = .int .i64 (val ((bOf s).take k))) (fun _ i => s.size - (intOf i).toNat)
  case atStart => exact ⟨0, by omega, rfl, rfl⟩
  case round =>
    obtain ⟨k, hk, rfl, rfl⟩ := hrel
    by_cases hlt : k < s.size
    · have hk2 : k < (bOf s).length := by rw [bOf_length]; exact hlt
      have e0 : (bOf s)[k] = ((s[k].toNat : Nat) : Int) := by
        have := bOf_at s k hlt
        rw [List.getElem?_eq_getElem hk2] at this
        exact Option.some.inj this
      have s0 := val_range (bOf s) (bOf_range s) k (by omega)
      have s1 := val_take_le (bOf s) (bOf_range s) (k + 1)
      rw [val_take _ _ hk2, e0] at s1
      have s2 : val ((bOf s).take k) * 256 + (s[k].toNat : Int) ≤ 9223372036854775807 := Int.le_trans s1 HV.out
      have s3 : 0 ≤ val ((bOf s).take k) := s0.1
      have E0 := hid e0
      clear s0 s1 e0
      go_wp2
      go_round
      case rel =>
        refine ⟨k + 1, by omega, by go_num, ?_⟩
        rw [val_take _ k hk2, E0.out, Int.mul_comm]
      case measure => simp [intOf]; omega
    · have e : k = s.size := by omega
      subst e
      go_wp2
      go_ret
      rw [List.take_of_length_le (by rw [bOf_length]; exact Nat.le_refl _)]
      exact ⟨rfl, rfl⟩
theorem results_cell51t {fn : Func} {p u v : Tmp} (h : fn.results = #[.cell p 51, .tmp u, .tmp v]) {tmps : Array Value} {w : World} {R : Nat} {x0 x1 x2 : Value} (ht : tmps.getD p undef = .pointer (some ⟨R, 0, none⟩)) (hx : w.heap[R]? = some (.cells #[x0, x1, x2] 51 (0, 0))) :
    (results fn tmps).run Try.prog w = .ok (.tuple #[.agg #[x0, x1, x2], tmps.getD u undef, tmps.getD v undef]) w := by
  have e : (results fn tmps).run Try.prog w = ((asAddr (tmps.getD p undef)).run Try.prog w).andThen fun a w₁ => ((loadVar 51 a).run Try.prog w₁).andThen fun X w₂ => .ok (.tuple #[X, tmps.getD u undef, tmps.getD v undef]) w₂ := by
    simp only [results, h]
    simp [Sem.run_bind, Result.andThen]
  refine e.trans ?_
  generalize tmps.getD p undef = P at ht
  subst ht
  have ha : ∀ R : Nat, (asAddr (.pointer (some ⟨R, 0, none⟩))).run Try.prog w = .ok ⟨R, 0, none⟩ w := fun R => by simp [asAddr]
  simp only [ha, Result.andThen_ok, load51 hx]

theorem extract_list (s : ByteArray) (i j : Nat) : (s.extract i j).data.toList = (s.data.toList.drop i).take (j - i) := by
  rw [ByteArray.data_extract, Array.toList_extract, List.extract_eq_take_drop]
theorem ba_list {a b : ByteArray} (h : a.data.toList = b.data.toList) : a = b := ByteArray.ext (Array.toList_inj.1 h)
/-- Eight bytes are four and four. -/
theorem eight (t : ByteArray) (h : ¬ t.size < 8) : ((Rs.of t).cut 8).size = 8 ∧ ((Rs.of t).cut 8).extract 0 4 = (Rs.of t).cut 4 ∧ ((Rs.of t).cut 8).extract 4 8 = ((Rs.of t).after 4).cut 4 ∧ ((Rs.of t).after 4).after 4 = (Rs.of t).after 8 ∧ ((Rs.of t).after 8).short = false := by
  have hl : t.data.toList.length = t.size := by rw [Array.length_toList]; rfl
  have e8 : (Rs.of t).cut 8 = t.extract 0 8 := by unfold Rs.cut Rs.of; rw [if_neg h]
  have e4 : (Rs.of t).cut 4 = t.extract 0 4 := by unfold Rs.cut Rs.of; rw [if_neg (by simp; omega)]
  have a4 : (Rs.of t).after 4 = ⟨t.extract 4 t.size, false⟩ := by unfold Rs.after Rs.of; rw [if_neg (by simp; omega)]
  have a8 : (Rs.of t).after 8 = ⟨t.extract 8 t.size, false⟩ := by unfold Rs.after Rs.of; rw [if_neg h]
  have z4 : (t.extract 4 t.size).size = t.size - 4 := by rw [ByteArray.size_extract]; omega
  rw [e8, e4, a4, a8]
  refine ⟨by rw [ByteArray.size_extract]; omega, ?_, ?_, ?_, rfl⟩
  · apply ba_list
    rw [extract_list, extract_list, extract_list]
    simp [List.take_take]
  · have : (Rs.mk (t.extract 4 t.size) false).cut 4 = (t.extract 4 t.size).extract 0 4 := by unfold Rs.cut; rw [if_neg (by simp [z4]; omega)]
    rw [this]
    apply ba_list
    rw [extract_list, extract_list, extract_list, extract_list]
    simp [List.take_take, List.drop_take]
  · have : (Rs.mk (t.extract 4 t.size) false).after 4 = ⟨(t.extract 4 t.size).extract 4 (t.extract 4 t.size).size, false⟩ := by unfold Rs.after; rw [if_neg (by simp [z4]; omega)]
    rw [this, Rs.mk.injEq]
    refine ⟨ba_list ?_, rfl⟩
    rw [extract_list, extract_list, extract_list, z4, List.drop_take, List.drop_drop, List.take_take]
    congr 1
    omega
theorem eight_no (t : ByteArray) (h : t.size < 8) : (((Rs.of t).after 4).after 4).short = true := by
  rw [after_short]
  by_cases h4 : t.size < 4
  · rw [after_short, decide_eq_true (show (Rs.of t).s.size < 4 from h4)]; simp
  · have a4 : (Rs.of t).after 4 = ⟨t.extract 4 t.size, false⟩ := by unfold Rs.after Rs.of; rw [if_neg h4]
    rw [a4]
    have z4 : (t.extract 4 t.size).size = t.size - 4 := by rw [ByteArray.size_extract]; omega
    simp [z4]; omega

/-- What takeItem ends in. -/
def TkI (w : World) (s : ByteArray) (e : Ending) (w' : World) : Prop :=
  (((Rs.of s).afterItem.short = false ∧ e = .returned (.tuple #[itv (Rs.of s).item, .string (Rs.of s).afterItem.s, .bool true])) ∨ ((Rs.of s).afterItem.short = true ∧ ∃ x t, e = .returned (.tuple #[itv x, .string t, .bool false]))) ∧ Below w.heap.size w w'
theorem below_set3 {w : World} {B R : Nat} (hB : B ≤ R) (y0 y1 y2 : Value) : Below B w (((w.setCell ⟨R, 0, none⟩ y0).setCell ⟨R, 1, none⟩ y1).setCell ⟨R, 2, none⟩ y2) :=
  (((Below.refl B w).setCell hB _).setCell hB _).setCell hB _

theorem cut_one {s : ByteArray} (h : ¬ s.size < 1) : ∃ x : UInt8, (Rs.of s).cut 1 = ⟨#[x]⟩ ∧ (Rs.of s).num 1 = (x.toNat : Int) := by
  have hsz : ((Rs.of s).cut 1).size = 1 := by
    unfold Rs.cut Rs.of
    rw [if_neg h, ByteArray.size_extract]
    simp; omega
  unfold Rs.num
  generalize (Rs.of s).cut 1 = t at hsz
  have hl : t.data.toList.length = 1 := by rw [Array.length_toList]; exact hsz
  match hh : t.data.toList, hl with
  | [x], _ =>
    have e : t = ⟨#[x]⟩ := ByteArray.ext (Array.toList_inj.1 (by rw [hh]))
    refine ⟨x, e, ?_⟩
    rw [e]
    simp [bOf, val]
theorem after_off {r : Rs} (h : r.short = false) : r = Rs.of r.s := by cases r; simp_all [Rs.of]
theorem item_short (r : Rs) : r.afterItem.short = true ∨ (r.after 1).short = false := by
  cases h : (r.after 1).short with
  | false => exact .inr rfl
  | true =>
    left
    unfold Rs.afterItem
    split
    · rw [after_short, after_short, h]; rfl
    · rw [after_short, h]; rfl

set_option maxRecDepth 100000 in
set_option maxHeartbeats 2000000 in
theorem titem_any (s : ByteArray) (hs : s.size ≤ 20000) (w : World) : Calls Try.prog 42 #[.string s] w (TkI w s) := by
  have HB0 := hid (below_box w (.cells #[.string ⟨#[]⟩, .int .i64 0, .int .i64 0] 51))
  have HX0 := hid (heap_alloc_new w (.cells #[.string ⟨#[]⟩, .int .i64 0, .int .i64 0] 51))
  have HSz : Hid (w.heap.size < (w.alloc (.cells #[.string ⟨#[]⟩, .int .i64 0, .int .i64 0] 51)).heap.size) := by unfold Hid; simp
  go_enter Try.func42, Try.ntmps42
  go_wp2_with fail
  generalize w.alloc (.cells #[.string ⟨#[]⟩, .int .i64 0, .int .i64 0] 51) = W at HB0 HX0 HSz ⊢
  generalize hRe : w.heap.size = R at HB0 HX0 HSz ⊢
  refine (rtake_any s hs 1 (by omega) _).mono ?_
  rintro e w1 ⟨rfl, hb1⟩
  have HX1 := hid ((hb1.block R HSz.out).trans HX0.out)
  have HB1 := hid (HB0.out.trans (hb1.mono (Nat.le_of_lt HSz.out)))
  have hR1 : R < w1.heap.size := Nat.lt_of_lt_of_le HSz.out hb1.size
  clear hb1 HB0 HX0 HSz
  obtain ⟨⟨c0, c1, c2⟩, hf⟩ := cells3of HX1.out
  have f0 := hf 0
  have f1 := hf 1
  have f2 := hf 2
  clear hf
  by_cases h1 : s.size < 1
  · have hsh : ((Rs.of s).after 1).short = true := by rw [after_short, decide_eq_true (show (Rs.of s).s.size < 1 from h1)]; rfl
    have HE : Hid ((Rs.of s).afterItem.short = true) := (item_short _).resolve_right (by rw [hsh]; decide)
    generalize (Rs.of s).after 1 = A at *
    generalize (Rs.of s).cut 1 = C at *
    go_wp2_with fail
    refine bodyPost_ret (results_cell51t rfl rfl (set3 HX1.out _ _ _)) rfl ?_
    exact ⟨.inr ⟨HE.out, ⟨⟨#[]⟩, 0, 0⟩, _, rfl⟩, hRe ▸ (HB1.out.trans (below_set3 (Nat.le_refl _) _ _ _))⟩
  · have hsh : ((Rs.of s).after 1).short = false := by rw [after_short, decide_eq_false (show ¬ (Rs.of s).s.size < 1 from h1)]; rfl
    obtain ⟨x, hC, hnum⟩ := cut_one h1
    have hx := x.toNat_lt
    have hAs : ((Rs.of s).after 1).s.size ≤ 20000 := Nat.le_trans (after_size (Rs.of s) 1) hs
    have hn1 := num_lt (Rs.of s) 1 (by omega)
    have hn0 := num_nonneg (Rs.of s) 1
    have HI := hid (show (Rs.of s).item = if (Rs.of s).num 1 = 255 then ⟨⟨#[]⟩, ((Rs.of s).after 1).num 4, (((Rs.of s).after 1).after 4).num 4⟩ else ⟨((Rs.of s).after 1).cut ((Rs.of s).num 1).toNat, 0, 0⟩ from rfl)
    have HA := hid (show (Rs.of s).afterItem = if (Rs.of s).num 1 = 255 then ((((Rs.of s).after 1).after 4).after 4) else ((Rs.of s).after 1).after ((Rs.of s).num 1).toNat from rfl)
    rw [after_off hsh] at HI HA
    have HAs := hid hAs
    generalize hAe : ((Rs.of s).after 1) = A at *
    have HAe := hid hAe
    clear hAe
    generalize (Rs.of s).num 1 = N1 at *
    rw [hC]
    clear hC
    have hidx : (({ data := #[x] } : ByteArray)[0]'(Nat.zero_lt_one)).toNat = x.toNat := rfl
    clear h1
    by_cases h255 : N1 = 255
    · rw [if_pos h255] at HI HA
      have h255' : ¬ (x.toNat : Int) < 255 := by omega
      clear h255 hnum hn1 hn0
      go_wp2_with fail
      refine (rtake_any A.s hAs 8 (by omega) _).mono ?_
      by_cases h8 : A.s.size < 8
      · have hsh8 : ((Rs.of A.s).after 8).short = true := by rw [after_short, decide_eq_true (show (Rs.of A.s).s.size < 8 from h8)]; rfl
        have HE := hid (eight_no A.s h8)
        generalize (Rs.of A.s).after 8 = A8 at *
        generalize (Rs.of A.s).cut 8 = C8 at *
        rintro e w2 ⟨rfl, hb2⟩
        have HX2 := hid ((hb2.block R hR1).trans HX1.out)
        have HB2 := hid (HB1.out.trans (hb2.mono (Nat.le_of_lt hR1)))
        clear hb2 c0 c1 c2 f0 f1 f2
        obtain ⟨⟨c0, c1, c2⟩, hf⟩ := cells3of HX2.out
        have f0 := hf 0
        have f1 := hf 1
        have f2 := hf 2
        clear hf
        go_wp2_with fail
        refine bodyPost_ret (results_cell51t rfl rfl (set3 HX2.out _ _ _)) rfl ?_
        exact ⟨.inr ⟨by rw [HA.out]; exact HE.out, ⟨⟨#[]⟩, 0, 0⟩, _, rfl⟩, hRe ▸ (HB2.out.trans (below_set3 (Nat.le_refl _) _ _ _))⟩
      · obtain ⟨g1, g2, g3, g4, g5⟩ := eight A.s h8
        have HG2 := hid g2
        have HG3 := hid g3
        have HG4 := hid g4
        have HG5 := hid g5
        have HN1 := hid (show (Rs.of A.s).num 4 = val (bOf ((Rs.of A.s).cut 4)) from rfl)
        have HN2 := hid (show ((Rs.of A.s).after 4).num 4 = val (bOf (((Rs.of A.s).after 4).cut 4)) from rfl)
        clear g2 g3 g4 h8
        generalize (Rs.of A.s).after 8 = A8 at *
        generalize hC8 : (Rs.of A.s).cut 8 = C8 at *
        clear hC8
        rintro e w2 ⟨rfl, hb2⟩
        have HX2 := hid ((hb2.block R hR1).trans HX1.out)
        have HB2 := hid (HB1.out.trans (hb2.mono (Nat.le_of_lt hR1)))
        clear hb2 c0 c1 c2 f0 f1 f2
        obtain ⟨⟨c0, c1, c2⟩, hf⟩ := cells3of HX2.out
        have f0 := hf 0
        have f1 := hf 1
        have f2 := hf 2
        clear hf
        go_wp2_with fail
        have d0 : w2.drew.cell? ⟨R, 0, none⟩ = some (.string ⟨#[]⟩) := c0
        have d1 : w2.drew.cell? ⟨R, 1, none⟩ = some (.int .i64 0) := c1
        have d2 : w2.drew.cell? ⟨R, 2, none⟩ = some (.int .i64 0) := c2
        have e0 : w2.drew.frozen? ⟨R, 0, none⟩ = false := f0
        have e1 : w2.drew.frozen? ⟨R, 1, none⟩ = false := f1
        have e2 : w2.drew.frozen? ⟨R, 2, none⟩ = false := f2
        go_region_held3 (fun _ => True) (trivial) (first | (go_at_call 41; refine Calls.mono (rread_any _ (by rw [ByteArray.size_extract]; omega) _) ?_; rintro e w3 ⟨rfl, rfl⟩))
        all_goals go_wp2_with fail
        all_goals refine bodyPost_ret (results_cell51t rfl rfl (set3 (w := w2.drew) HX2.out _ _ _)) rfl ?_
        all_goals exact ⟨.inl ⟨by rw [HA.out, HG4.out]; exact HG5.out, by rw [HI.out, HA.out, HG4.out, HN1.out, HN2.out, ← HG2.out, ← HG3.out]; rfl⟩, hRe ▸ (HB2.out.drew.trans (below_set3 (Nat.le_refl _) _ _ _))⟩
    · rw [if_neg h255] at HI HA
      have h255' : (x.toNat : Int) < 255 := by omega
      have HT := hid (rtake_any A.s hAs x.toNat (by omega))
      have hNx : N1.toNat = x.toNat := by omega
      rw [hNx] at HI HA
      clear h255 hnum hn1 hn0 hNx
      go_wp2_with fail
      refine (HT.out _).mono ?_
      generalize hA9 : (Rs.of A.s).after x.toNat = A9 at *
      clear hA9
      generalize (Rs.of A.s).cut x.toNat = C9 at *
      rintro e w2 ⟨rfl, hb2⟩
      have HX2 := hid ((hb2.block R hR1).trans HX1.out)
      have HB2 := hid (HB1.out.trans (hb2.mono (Nat.le_of_lt hR1)))
      clear hb2 c0 c1 c2 f0 f1 f2
      obtain ⟨⟨c0, c1, c2⟩, hf⟩ := cells3of HX2.out
      have f0 := hf 0
      have f1 := hf 1
      have f2 := hf 2
      clear hf
      go_wp2_with fail
      refine bodyPost_ret (results_cell51t rfl rfl (set3 HX2.out _ _ _)) rfl ?_
      refine ⟨?_, hRe ▸ (HB2.out.trans (below_set3 (Nat.le_refl _) _ _ _))⟩
      cases hz : A9.short with
      | false => exact .inl ⟨by rw [HA.out]; exact hz, by rw [HI.out, HA.out]; show _ = Ending.returned (.tuple #[_, _, .bool true]); simp [hz, itv]⟩
      | true => exact .inr ⟨by rw [HA.out]; exact hz, ⟨C9, 0, 0⟩, A9.s, by simp [hz, itv]⟩
end Go.Proofs.Ytkipigbfbhecjaa
