/- What this text holds: all spans of a text are read. -/
import Derived.Test.YtiiegjdclpkeeaaDoorM18
namespace Go.Proofs.YtiiegjdclpkeeaaDoor
open Go.RowKit
set_option linter.unusedVariables false
set_option linter.unusedSimpArgs false

/-- How much is left. -/
def leftN (b : Nat) (w : World) : Nat := match w.cell? ⟨b, 0, none⟩ with
  | some (.string s) => s.size
  | _ => 0
theorem RdAt.leftN {w : World} {B b U : Nat} {l : Bs} {S : List Sp} {fr mn : Bool} (h : RdAt w B b U l S fr mn) : leftN b w = l.length := by
  unfold YtiiegjdclpkeeaaDoor.leftN
  rw [h.c0.1]
  simp [str_size]
/-- What the reader holds when all spans T were read. -/
def RdEnd (w : World) (B b : Nat) (T : List Sp) : Prop := ∃ l U, RdAt w B b U l (T.take 1000) (T.any farB) (decide (1000 < T.length))
def SetIs (n : Nat) (s : Bs) (w : World) (B b : Nat) (e : Ending) (w' : World) : Prop :=
  match setP n s with
  | none => e = .returned (.bool false) ∧ Below B w w'
  | some T => e = .returned (.bool true) ∧ RdEnd w' B b T ∧ Below B w w'
theorem setP_more {n : Nat} {l r : Bs} {x : Sp} (h : spanP l = some (x, r)) (h44 : r.head? = some 44) : setP (n + 1) l = (setP n (r.drop 1)).map (x :: ·) := by
  rw [setP, h]; simp only; rw [if_pos h44]
theorem setP_last {n : Nat} {l r : Bs} {x : Sp} (h : spanP l = some (x, r)) (h44 : ¬ r.head? = some 44) : setP (n + 1) l = if r = [] then some [x] else none := by
  rw [setP, h]; simp only; rw [if_neg h44]
theorem setP_none {n : Nat} {l : Bs} (h : spanP l = none) : setP (n + 1) l = none := by rw [setP, h]
theorem keep_next (D : List Sp) (x : Sp) : (if (D.take 1000).length = 1000 then D.take 1000 else D.take 1000 ++ [x]) = (D ++ [x]).take 1000 ∧ (decide (1000 < D.length) || decide ((D.take 1000).length = 1000)) = decide (1000 < (D ++ [x]).length) := by
  rw [List.length_take, List.length_append]
  by_cases h : 1000 ≤ D.length
  · rw [if_pos (by omega), List.take_append_of_le_length h]
    refine ⟨rfl, ?_⟩
    rw [Bool.eq_iff_iff]; simp; omega
  · rw [if_neg (by omega), List.take_of_length_le (by omega), List.take_of_length_le (by simp; omega)]
    refine ⟨rfl, ?_⟩
    rw [Bool.eq_iff_iff]; simp; omega
set_option maxRecDepth 100000 in
set_option maxHeartbeats 4000000 in
theorem set_any {w : World} {B b U : Nat} {s : Bs} (h : RdAt w B b U s [] false false) (hl : s.length ≤ 10000000) : Calls Tryd.prog 19 #[.pointer (some ⟨b, 0, none⟩)] w (SetIs (s.length + 1) s w B b) := by
  have HR := hid h
  clear h
  go_enter Tryd.func19, Tryd.ntmps19
  go_wp2_with fail
  go_loopw [] (fun wr => ∃ (n : Nat) (l : Bs) (D : List Sp) (U : Nat), RdAt wr B b U l (D.take 1000) (D.any farB) (decide (1000 < D.length)) ∧ l.length < n ∧ l.length ≤ s.length ∧ setP (s.length + 1) s = (setP n l).map (D ++ ·) ∧ Below B w wr) (fun wr => leftN b wr)
  case atStart => exact ⟨s.length + 1, s, [], U, HR.out, by omega, by omega, by cases setP (s.length + 1) s <;> rfl, Below.refl _ _⟩
  case round =>
    obtain ⟨n, l, D, U1, hr, hn, hls, he, hb⟩ := hrel
    have HR1 := hid hr
    have HE := hid he
    have HB := hid hb
    have HM := hid hr.leftN
    clear hr he hb
    obtain ⟨m, rfl⟩ : ∃ m, n = m + 1 := ⟨n - 1, by omega⟩
    have C := span_any HR1.out (by omega)
    unfold SpanIs at C
    rcases h1 : spanP l with _ | ⟨⟨x, y⟩, r⟩
    · rw [h1] at C
      have HX : Hid (∀ w', Below B w w' → SetIs (s.length + 1) s w B b (.returned (.bool false)) w') := by
        intro w' h; unfold SetIs; rw [HE.out, setP_none h1]; exact ⟨rfl, h⟩
      clear h1
      go_wp2_with fail
      refine C.mono ?_
      clear C
      rintro e w1 ⟨⟨x1, y1, rfl⟩, ⟨l1, fr1, hr1⟩, hk1⟩
      have HB1 := hid ((HB.out.trans (hk1.below (by intro i hi; simp at hi; rw [hi]; exact HR1.out.2.1) HR1.out.le)).alloc hr1.le (.cells #[.int .i64 x1, .int .i64 y1] 26))
      clear hk1 hr1
      go_wp2_with fail
      go_ret
      exact HX.out _ HB1.out
    · rw [h1] at C
      simp only at C
      have hsuf : r.length < l.length := by
        obtain ⟨d, hd, hdn⟩ := span_suf h1
        have := List.length_pos_iff.2 hdn
        rw [hd, List.length_append]; omega
      have HS1 := hid h1
      clear h1
      go_wp2_with fail
      refine C.mono ?_
      clear C
      rintro e w1 ⟨rfl, hr1, hk1⟩
      have hba : Below w1.heap.size w1 (w1.alloc (.cells #[.int .i64 x, .int .i64 y] 26)) := (Below.refl _ _).alloc (Nat.le_refl _) _
      have HR2 := hid (hr1.later hba)
      have HB2 := hid ((HB.out.trans (hk1.below (by intro i hi; simp at hi; rw [hi]; exact HR1.out.2.1) HR1.out.le)).alloc hr1.le (.cells #[.int .i64 x, .int .i64 y] 26))
      clear hk1 hr1 hba
      have C2 := keep_any HR2.out x y (by rw [List.length_take]; omega)
      unfold KeepIs at C2
      rw [(keep_next D (x, y)).1, (keep_next D (x, y)).2, show (D.any farB || farB (x, y)) = (D ++ [(x, y)]).any farB by simp] at C2
      go_wp2_with fail
      refine C2.mono ?_
      clear C2
      rintro e w3 ⟨rfl, hr3, hb3⟩
      have HR3 := hid hr3
      have HB3 := hid (HB2.out.trans hb3)
      clear hr3 hb3 HR2 HB2
      have C3 := takes_any HR3.out.c0.1 HR3.out.c0.2 44
      by_cases h44 : r.head? = some 44
      · rw [tk_yes h44, show decide (r.head? = some 44) = true by simpa using h44] at C3
        have HN : Hid (setP (s.length + 1) s = (setP m (r.drop 1)).map ((D ++ [(x, y)]) ++ ·)) := by
          rw [Hid, HE.out, setP_more HS1.out h44, Option.map_map]
          congr 1
          funext z
          simp
        obtain ⟨hr4, hk4⟩ := HR3.out.set0 (r.drop 1)
        have HR4 := hid hr4
        have HB4 := hid (HB3.out.trans (hk4.below (by intro i hi; simp at hi; rw [hi]; exact HR3.out.2.1) HR3.out.le))
        have hdl : (r.drop 1).length ≤ r.length := by rw [List.length_drop]; omega
        clear hr4 hk4 h44
        generalize r.drop 1 = q at *
        generalize w3.setCell ⟨b, 0, none⟩ (.string (str q)) = w4 at *
        go_wp2_with fail
        refine C3.mono ?_
        clear C3
        rintro e w4' ⟨rfl, hw4⟩
        subst hw4
        go_wp2_with fail
        go_roundw
        case rel => exact ⟨m, q, D ++ [(x, y)], _, HR4.out, by omega, by omega, HN.out, HB4.out⟩
        case measure => rw [HR4.out.leftN, HM.out]; omega
      · rw [tk_no h44, show decide (r.head? = some 44) = false by simpa using h44] at C3
        obtain ⟨hr4, hk4⟩ := HR3.out.set0 r
        have HR4 := hid hr4
        have HB4 := hid (HB3.out.trans (hk4.below (by intro i hi; simp at hi; rw [hi]; exact HR3.out.2.1) HR3.out.le))
        clear hr4 hk4
        generalize w3.setCell ⟨b, 0, none⟩ (.string (str r)) = w4 at *
        have C4 := more_any HR4.out.c0.1
        by_cases hr0 : r = []
        · have HX : Hid (∀ w', RdEnd w' B b (D ++ [(x, y)]) → Below B w w' → SetIs (s.length + 1) s w B b (.returned (.bool true)) w') := by
            intro w' h h'; unfold SetIs; rw [HE.out, setP_last HS1.out h44, if_pos hr0]; exact ⟨rfl, h, h'⟩
          rw [show decide (r ≠ []) = false by simpa using hr0] at C4
          clear h44 hr0
          go_wp2_with fail
          refine C3.mono ?_
          clear C3
          rintro e w4' ⟨rfl, hw4⟩
          subst hw4
          go_wp2_with fail
          refine C4.mono ?_
          clear C4
          rintro e w5 ⟨rfl, rfl⟩
          go_wp2_with fail
          go_ret
          exact HX.out _ ⟨_, _, HR4.out⟩ HB4.out
        · have HX : Hid (∀ w', Below B w w' → SetIs (s.length + 1) s w B b (.returned (.bool false)) w') := by
            intro w' h'; unfold SetIs; rw [HE.out, setP_last HS1.out h44, if_neg hr0]; exact ⟨rfl, h'⟩
          rw [show decide (r ≠ []) = true by simpa using hr0] at C4
          clear h44 hr0
          go_wp2_with fail
          refine C3.mono ?_
          clear C3
          rintro e w4' ⟨rfl, hw4⟩
          subst hw4
          go_wp2_with fail
          refine C4.mono ?_
          clear C4
          rintro e w5 ⟨rfl, rfl⟩
          go_wp2_with fail
          go_ret
          exact HX.out _ HB4.out
/-- What Parse answers. -/
def ParseIs (s : Bs) (w : World) (e : Ending) (w' : World) : Prop := (∃ v, e = .returned (.tuple #[v, .int .i64 (parV s).2]) ∧ GO eSp w' w.heap.size v (parV s).1) ∧ Below w.heap.size w w'
theorem parse_no {s : Bs} (h : setP (s.length + 1) s = none) : parV s = ([], 11) := by unfold parV; rw [h]
theorem parse_far {s : Bs} {T : List Sp} (h : setP (s.length + 1) s = some T) (hf : T.any farB = true) : parV s = ([], 3) := by unfold parV; rw [h]; simp only; rw [if_pos hf]
theorem parse_many {s : Bs} {T : List Sp} (h : setP (s.length + 1) s = some T) (hf : T.any farB = false) (hm : 1000 < T.length) : parV s = ([], 5) := by unfold parV; rw [h]; simp only; rw [if_neg (by rw [hf]; simp), if_pos hm]
theorem parse_ok {s : Bs} {T : List Sp} (h : setP (s.length + 1) s = some T) (hf : T.any farB = false) (hm : ¬ 1000 < T.length) : parV s = (T, 0) := by unfold parV; rw [h]; simp only; rw [if_neg (by rw [hf]; simp), if_neg hm]
theorem parse_end {s : Bs} {w w' : World} {n : Int} (hp : parV s = ([], n)) (hb : Below w.heap.size w w') : ParseIs s w (.returned (.tuple #[.slice none 0 0, .int .i64 n])) w' := by
  unfold ParseIs; rw [hp]; exact ⟨⟨_, rfl, GO.nil _ _ _⟩, hb⟩
set_option maxRecDepth 100000 in
set_option maxHeartbeats 4000000 in
theorem parse_any {w : World} (hE : Env w) (s : Bs) (hl : s.length ≤ 10000000) : Calls Tryd.prog 10 #[.string (str s)] w (ParseIs s w) := by
  have hba : Below w.heap.size w (w.alloc (.cells #[.string (str s), .slice none 0 0, .bool false, .bool false] 52)) := (Below.refl _ _).alloc (Nat.le_refl _) _
  have h0 : RdAt (w.alloc (.cells #[.string (str s), .slice none 0 0, .bool false, .bool false] 52)) w.heap.size w.heap.size 0 s [] false false := ⟨⟨_, heap_alloc_new _ _, GO.nil _ _ _, fun g hg => by simp [Value.ownBlock] at hg⟩, Nat.le_refl _, hE.later hba, hE.pos⟩
  have C := set_any h0 hl
  have HBa := hid hba
  clear h0 hba
  unfold SetIs at C
  rcases h1 : setP (s.length + 1) s with _ | T
  · rw [h1] at C
    have HX := hid (fun w' => @parse_end s w w' 11 (parse_no h1))
    clear h1
    go_enter Tryd.func10, Tryd.ntmps10
    go_wp2_with fail
    refine C.mono ?_
    clear C
    rintro e w1 ⟨rfl, hb1⟩
    have HB1 := hid (HBa.out.trans hb1)
    clear hb1
    go_wp2_with fail
    go_ret2
    exact HX.out _ HB1.out
  · rw [h1] at C
    have HF := hid (@parse_far s T h1)
    have HM := hid (@parse_many s T h1)
    have HK := hid (@parse_ok s T h1)
    clear h1
    go_enter Tryd.func10, Tryd.ntmps10
    go_wp2_with fail
    refine C.mono ?_
    clear C
    rintro e w1 ⟨rfl, ⟨l1, U1, hr1⟩, hb1⟩
    have HB1 := hid (HBa.out.trans hb1)
    clear hb1
    obtain ⟨⟨v, hc, ho, _⟩, _⟩ := hr1
    have HO := hid ho
    have c1 : w1.cell? ⟨w.heap.size, 1, none⟩ = some v := by simp [World.cell?, hc]
    have c2 : w1.cell? ⟨w.heap.size, 2, none⟩ = some (.bool (T.any farB)) := by simp [World.cell?, hc]
    have c3 : w1.cell? ⟨w.heap.size, 3, none⟩ = some (.bool (decide (1000 < T.length))) := by simp [World.cell?, hc]
    clear hc ho
    rcases hf : T.any farB with _ | _
    · rw [hf] at c2
      by_cases hm : 1000 < T.length
      · rw [show decide (1000 < T.length) = true by simpa using hm] at c3
        have HX := hid (fun w' => @parse_end s w w' 5 (HM.out hf hm))
        clear hf hm
        go_wp2_with fail
        go_ret2
        exact HX.out _ HB1.out
      · rw [show decide (1000 < T.length) = false by simpa using hm] at c3
        have HX := hid (HK.out hf hm)
        rw [List.take_of_length_le (by omega)] at HO
        clear hf hm
        obtain ⟨a0, c0, hv0⟩ := HO.out.slice (n := T.length) rfl
        subst hv0
        go_wp2_with fail
        go_ret2
        unfold ParseIs
        rw [HX.out]
        exact ⟨⟨_, rfl, HO.out⟩, HB1.out⟩
    · rw [hf] at c2
      have HX := hid (fun w' => @parse_end s w w' 3 (HF.out hf))
      clear hf
      go_wp2_with fail
      go_ret2
      exact HX.out _ HB1.out
end Go.Proofs.YtiiegjdclpkeeaaDoor
