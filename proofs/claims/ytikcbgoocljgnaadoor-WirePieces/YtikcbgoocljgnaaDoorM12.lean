/- What this text holds: a line is parted into its text and its mark. -/
import Derived.Test.YtikcbgoocljgnaaDoorM11
import Derived.Test.YtikcbgoocljgnaaDoorShelf
import Derived.Shelf.Strings.SlTrimAscii
import Derived.Lib.AtoiErrMem
namespace Go.Proofs.YtikcbgoocljgnaaDoor
open Go.RowKit
set_option linter.unusedVariables false
set_option linter.unusedSimpArgs false

def dgs : Bs := [48, 49, 50, 51, 52, 53, 54, 55, 56, 57]
def sufT (s : Bs) (c : UInt8) : Bs := Go.Lib.trimSuffix s [c]
def sufB (s : Bs) (c : UInt8) : Bool := Go.Lib.hasSuffix s [c]
def trimD (s : Bs) : Bs := Go.Lib.trimRightS s dgs
def numV (l : Bs) : Nat := (Go.Lib.decFrom 0 l).getD 0
/-- A line's text, and its mark: how many bytes, and does the client go on? -/
def markP (l : Bs) : Option (Bs × Nat × Bool) :=
  if sufB l 125 = true ∧ sufB (trimD (sufT (sufT l 125) 43)) 123 = true ∧ (sufT (sufT l 125) 43).drop (trimD (sufT (sufT l 125) 43)).length ≠ [] ∧ ((sufT (sufT l 125) 43).drop (trimD (sufT (sufT l 125) 43)).length).length ≤ 6 then
    some (sufT (trimD (sufT (sufT l 125) 43)) 123, numV ((sufT (sufT l 125) 43).drop (trimD (sufT (sufT l 125) 43)).length), sufB (sufT l 125) 43)
  else none
def cutV (l : Bs) : Value := match markP l with
  | none => .tuple #[.string (str l), .agg #[.int .i64 0, .bool false], .bool false]
  | some (t, n, p) => .tuple #[.string (str t), .agg #[.int .i64 n, .bool p], .bool true]
theorem sufT_len (s : Bs) (c : UInt8) : (sufT s c).length ≤ s.length := by
  unfold sufT Go.Lib.trimSuffix
  split
  · rw [List.length_take]; omega
  · exact Nat.le_refl _
theorem trimD_split (s : Bs) : s = trimD s ++ (s.reverse.takeWhile (dgs.contains ·)).reverse := by
  unfold trimD Go.Lib.trimRightS
  rw [← List.reverse_append, List.takeWhile_append_dropWhile, List.reverse_reverse]
theorem trimD_len (s : Bs) : (trimD s).length ≤ s.length := by
  have := congrArg List.length (trimD_split s)
  rw [List.length_append] at this
  omega
theorem trimD_rest (s : Bs) : s.drop (trimD s).length = (s.reverse.takeWhile (dgs.contains ·)).reverse := by
  have := trimD_split s
  conv => lhs; rw [this]
  have h2 : trimD (trimD s ++ (s.reverse.takeWhile (dgs.contains ·)).reverse) = trimD s := by rw [← this]
  rw [h2, List.drop_left]
theorem rest_dig (s : Bs) : ∀ c ∈ s.drop (trimD s).length, c ∈ dgs := by
  intro c hc
  rw [trimD_rest, List.mem_reverse] at hc
  have := List.all_takeWhile (p := fun x => dgs.contains x) (l := s.reverse)
  have := List.all_eq_true.1 this c hc
  simpa using this
theorem dig_some (c : UInt8) (h : c ∈ dgs) : ∃ d, Go.Lib.digitVal c = some d ∧ d ≤ 9 ∧ (c == 45) = false ∧ (c == 43) = false := by
  simp only [dgs, List.mem_cons, List.not_mem_nil, or_false] at h
  rcases h with rfl | rfl | rfl | rfl | rfl | rfl | rfl | rfl | rfl | rfl <;> exact ⟨_, rfl, by decide, by decide, by decide⟩
theorem dec_some : ∀ (l : Bs) (a : Nat), (∀ c ∈ l, c ∈ dgs) → ∃ n, Go.Lib.decFrom a l = some n ∧ n + 1 ≤ (a + 1) * 10 ^ l.length
  | [], a, _ => ⟨a, rfl, by simp⟩
  | c :: l, a, h => by
    obtain ⟨d, hd, h9, _⟩ := dig_some c (h c (by simp))
    obtain ⟨n, h1, h2⟩ := dec_some l (a * 10 + d) (fun x hx => h x (by simp [hx]))
    refine ⟨n, by rw [Go.Lib.decFrom, hd]; exact h1, Nat.le_trans h2 ?_⟩
    rw [List.length_cons, Nat.pow_succ, Nat.mul_comm (10 ^ l.length) 10, ← Nat.mul_assoc]
    exact Nat.mul_le_mul_right _ (by omega)
theorem atoi_num {l : Bs} (h : ∀ c ∈ l, c ∈ dgs) (h0 : l ≠ []) : Go.Lib.atoi l = some (numV l : Int) := by
  obtain ⟨n, h1, _⟩ := dec_some l 0 h
  cases l with
  | nil => exact absurd rfl h0
  | cons c r =>
    obtain ⟨d, hd, _, g1, g2⟩ := dig_some c (h c (by simp))
    rw [Go.Lib.atoi, g1, g2]
    simp [Go.Lib.decNat, h1, numV]
theorem numV_lt {l : Bs} (h : ∀ c ∈ l, c ∈ dgs) (h6 : l.length ≤ 6) : numV l ≤ 999999 := by
  obtain ⟨n, h1, h2⟩ := dec_some l 0 h
  unfold numV
  rw [h1, Option.getD_some]
  have : 10 ^ l.length ≤ 10 ^ 6 := Nat.pow_le_pow_right (by omega) h6
  omega
theorem suf_any (s : Bs) (c : UInt8) (w : World) (hs : s.length ≤ 1000000) : Calls Tryd.prog 45 #[.string (str s), .string ⟨#[c]⟩] w fun e w' => e = .returned (.tuple #[.string (str (sufT s c)), .bool (sufB s c)]) ∧ w' = w :=
  Tryd.strings_CutSuffix (str s) ⟨#[c]⟩ w (by rw [str_size]; omega)
theorem dgs_any (s : Bs) (w : World) (hs : s.length ≤ 1000000) : Calls Tryd.prog 46 #[.string (str s), .string ⟨#[48, 49, 50, 51, 52, 53, 54, 55, 56, 57]⟩] w fun e w' => e = .returned (.string (str (trimD s))) ∧ Below w.heap.size w w' :=
  Go.Proofs.Any.strings_TrimRight_laid Tryd.lays162 (by kernel_rfl) (str s) ⟨#[48, 49, 50, 51, 52, 53, 54, 55, 56, 57]⟩ w (by rw [str_size]; omega) (by decide) (by
    intro j b hj
    have hm : b ∈ dgs := List.mem_of_getElem? hj
    simp only [dgs, List.mem_cons, List.not_mem_nil, or_false] at hm
    rcases hm with rfl | rfl | rfl | rfl | rfl | rfl | rfl | rfl | rfl | rfl <;> decide)
theorem atoi_any {l : Bs} (h : ∀ c ∈ l, c ∈ dgs) (h0 : l ≠ []) (h6 : l.length ≤ 6) (w : World) : Calls Tryd.prog 47 #[.string (str l)] w fun e w' => e = .returned (.tuple #[.int .i64 (numV l), .nilIface]) ∧ Below w.heap.size w w' := by
  refine (Tryd.strconv_Atoi (str l) (numV l) (by rw [str_size]; omega) (by rw [str_data]; exact atoi_num h h0) w).mono ?_
  rintro e w' ⟨rfl, t, rfl⟩
  exact ⟨rfl, Go.Lib.bytesWorld_below w 5 t⟩
theorem eqN (l : Bs) : ((str l).toList == []) = decide (l = []) := by
  rw [toL]
  cases l <;> simp
set_option maxRecDepth 100000 in
theorem results35_run {w : World} {A : Nat} {t : Bs} {n : Int} {p i : Bool} (tmps : Array Value) (h2 : tmps[2]? = some (.string (str t))) (h3 : tmps[3]? = some (.pointer (some ⟨A, 0, none⟩))) (h4 : tmps[4]? = some (.bool i)) (h : w.heap[A]? = some (.cells #[.int .i64 n, .bool p] 75 (0, 0))) :
    (results Tryd.f35 tmps).run Tryd.prog w = .ok (.tuple #[.string (str t), .agg #[.int .i64 n, .bool p], .bool i]) w := by
  have x0 := row_at h 0 (v := .int .i64 n) rfl
  have x1 := row_at h 1 (v := .bool p) rfl
  simp [results, Tryd.results35, go_sem, h2, h3, h4, x0, x1]
theorem drop_from (l : Bs) (n : Nat) : (str l).extract n l.length = str (l.drop n) := by rw [← str_size l]; exact drop_str l n
set_option maxRecDepth 100000 in
set_option maxHeartbeats 2000000 in
theorem cutMark_any (l : Bs) (w : World) (hl : l.length ≤ 1000000) : Calls Tryd.prog 35 #[.string (str l)] w fun e w' => e = .returned (cutV l) ∧ Below w.heap.size w w' := by
  have l1 := sufT_len l 125
  have l2 := sufT_len (sufT l 125) 43
  have l3 := trimD_len (sufT (sufT l 125) 43)
  have l4 := sufT_len (trimD (sufT (sufT l 125) 43)) 123
  have HM : Hid (cutV l = match (if sufB l 125 = true ∧ sufB (trimD (sufT (sufT l 125) 43)) 123 = true ∧ (sufT (sufT l 125) 43).drop (trimD (sufT (sufT l 125) 43)).length ≠ [] ∧ ((sufT (sufT l 125) 43).drop (trimD (sufT (sufT l 125) 43)).length).length ≤ 6 then
    some (sufT (trimD (sufT (sufT l 125) 43)) 123, numV ((sufT (sufT l 125) 43).drop (trimD (sufT (sufT l 125) 43)).length), sufB (sufT l 125) 43)
  else none) with
  | none => .tuple #[.string (str l), .agg #[.int .i64 0, .bool false], .bool false]
  | some (t, n, p) => .tuple #[.string (str t), .agg #[.int .i64 n, .bool p], .bool true]) := rfl
  have C1 := hid (fun W => suf_any l 125 W (by omega))
  have C2 := hid (fun W => suf_any (sufT l 125) 43 W (by omega))
  have C3 := hid (fun W => dgs_any (sufT (sufT l 125) 43) W (by omega))
  have C4 := hid (fun W => suf_any (trimD (sufT (sufT l 125) 43)) 123 W (by omega))
  have hdg := hid (rest_dig (sufT (sufT l 125) 43))
  have hex := drop_from (sufT (sufT l 125) 43) (trimD (sufT (sufT l 125) 43)).length
  have z2 := str_size (sufT (sufT l 125) 43)
  have z3 := str_size (trimD (sufT (sufT l 125) 43))
  have hnl : ((sufT (sufT l 125) 43).drop (trimD (sufT (sufT l 125) 43)).length).length = (sufT (sufT l 125) 43).length - (trimD (sufT (sufT l 125) 43)).length := List.length_drop
  generalize sufB (sufT l 125) 43 = pl at *
  generalize sufB l 125 = cl at *
  generalize sufB (trimD (sufT (sufT l 125) 43)) 123 = op at *
  generalize sufT (trimD (sufT (sufT l 125) 43)) 123 = tx at *
  generalize hnum : (sufT (sufT l 125) 43).drop (trimD (sufT (sufT l 125) 43)).length = num at *
  generalize trimD (sufT (sufT l 125) 43) = hd at *
  generalize sufT (sufT l 125) 43 = i2 at *
  generalize sufT l 125 = i1 at *
  have hnl6 : num.length ≤ 1000000 := by omega
  have HN : Hid (¬ (cl = true ∧ op = true ∧ num ≠ [] ∧ num.length ≤ 6) → cutV l = .tuple #[.string (str l), .agg #[.int .i64 0, .bool false], .bool false]) := fun h => by rw [HM.out, if_neg h]
  have HY : Hid ((cl = true ∧ op = true ∧ num ≠ [] ∧ num.length ≤ 6) → cutV l = .tuple #[.string (str tx), .agg #[.int .i64 (numV num), .bool pl], .bool true]) := fun h => by rw [HM.out, if_pos h]
  have HB : Hid (Below w.heap.size w (w.alloc (.cells #[.int .i64 0, .bool false] 75))) := (Below.refl _ _).alloc (Nat.le_refl _) _
  have HRow := hid (heap_alloc_new w (.cells #[.int .i64 0, .bool false] 75))
  have zn := str_size num
  clear HM hnum hnl
  cases cl with
  | false =>
    have HX := hid (HN.out (by simp))
    clear HN HY
    go_enter Tryd.func35, Tryd.ntmps35
    go_wp2_with fail
    refine (C1.out _).mono ?_
    rintro e w1 ⟨rfl, rfl⟩
    go_wp2_with fail
    refine (C2.out _).mono ?_
    rintro e w2 ⟨rfl, hw2⟩
    subst w2
    go_wp2_with fail
    refine (C3.out _).mono ?_
    rintro e w3 ⟨rfl, hb3⟩
    have HB3 := hid (HB.out.trans (hb3.mono HB.out.size))
    have hr3 : w3.heap[w.heap.size]? = some (.cells #[.int .i64 0, .bool false] 75 (0, 0)) := by rw [hb3.block _ (lt_of_some HRow.out)]; exact HRow.out
    have HR3 := hid hr3
    have x0 := row_at hr3 0 (v := .int .i64 0) rfl
    have x1 := row_at hr3 1 (v := .bool false) rfl
    have y0 : w3.frozen? ⟨w.heap.size, 0, none⟩ = false := by simp [World.frozen?, hr3]
    have y1 : w3.frozen? ⟨w.heap.size, 1, none⟩ = false := by simp [World.frozen?, hr3]
    clear hb3 hr3
    go_wp2_with fail
    refine (C4.out _).mono ?_
    rintro e w4 ⟨rfl, hw4⟩
    subst w4
    go_wp2_with fail
    have HF : Hid (((w3.setCell ⟨w.heap.size, 0, none⟩ (.int .i64 0)).setCell ⟨w.heap.size, 1, none⟩ (.bool false)).heap[w.heap.size]? = some (.cells #[.int .i64 0, .bool false] 75 (0, 0))) := by rw [Hid, heap_setCell_same _ _ _ _ _ _ (heap_setCell_same _ _ _ _ _ _ HR3.out)]; rfl
    rw [HX.out]
    exact bodyPost_ret (results35_run _ rfl rfl rfl HF.out) rfl ⟨rfl, (HB3.out.setCell (Nat.le_refl _) _).setCell (Nat.le_refl _) _⟩
  | true =>
    cases op with
    | false =>
      have HX := hid (HN.out (by simp))
      clear HN HY
      go_enter Tryd.func35, Tryd.ntmps35
      go_wp2_with fail
      refine (C1.out _).mono ?_
      rintro e w1 ⟨rfl, rfl⟩
      go_wp2_with fail
      refine (C2.out _).mono ?_
      rintro e w2 ⟨rfl, hw2⟩
      subst w2
      go_wp2_with fail
      refine (C3.out _).mono ?_
      rintro e w3 ⟨rfl, hb3⟩
      have HB3 := hid (HB.out.trans (hb3.mono HB.out.size))
      have hr3 : w3.heap[w.heap.size]? = some (.cells #[.int .i64 0, .bool false] 75 (0, 0)) := by rw [hb3.block _ (lt_of_some HRow.out)]; exact HRow.out
      have HR3 := hid hr3
      have x0 := row_at hr3 0 (v := .int .i64 0) rfl
      have x1 := row_at hr3 1 (v := .bool false) rfl
      have y0 : w3.frozen? ⟨w.heap.size, 0, none⟩ = false := by simp [World.frozen?, hr3]
      have y1 : w3.frozen? ⟨w.heap.size, 1, none⟩ = false := by simp [World.frozen?, hr3]
      clear hb3 hr3
      go_wp2_with fail
      refine (C4.out _).mono ?_
      rintro e w4 ⟨rfl, hw4⟩
      subst w4
      go_wp2_with fail
      have HF : Hid (((w3.setCell ⟨w.heap.size, 0, none⟩ (.int .i64 0)).setCell ⟨w.heap.size, 1, none⟩ (.bool false)).heap[w.heap.size]? = some (.cells #[.int .i64 0, .bool false] 75 (0, 0))) := by rw [Hid, heap_setCell_same _ _ _ _ _ _ (heap_setCell_same _ _ _ _ _ _ HR3.out)]; rfl
      rw [HX.out]
      exact bodyPost_ret (results35_run _ rfl rfl rfl HF.out) rfl ⟨rfl, (HB3.out.setCell (Nat.le_refl _) _).setCell (Nat.le_refl _) _⟩
    | true =>
      by_cases h0 : num = []
      · have HX := hid (HN.out (by simp [h0]))
        have q0 : ((str num).toList == []) = true := by rw [eqN]; simpa using h0
        clear HN HY h0
        go_enter Tryd.func35, Tryd.ntmps35
        go_wp2_with fail
        refine (C1.out _).mono ?_
        rintro e w1 ⟨rfl, rfl⟩
        go_wp2_with fail
        refine (C2.out _).mono ?_
        rintro e w2 ⟨rfl, hw2⟩
        subst w2
        go_wp2_with fail
        refine (C3.out _).mono ?_
        rintro e w3 ⟨rfl, hb3⟩
        have HB3 := hid (HB.out.trans (hb3.mono HB.out.size))
        have hr3 : w3.heap[w.heap.size]? = some (.cells #[.int .i64 0, .bool false] 75 (0, 0)) := by rw [hb3.block _ (lt_of_some HRow.out)]; exact HRow.out
        have HR3 := hid hr3
        have x0 := row_at hr3 0 (v := .int .i64 0) rfl
        have x1 := row_at hr3 1 (v := .bool false) rfl
        have y0 : w3.frozen? ⟨w.heap.size, 0, none⟩ = false := by simp [World.frozen?, hr3]
        have y1 : w3.frozen? ⟨w.heap.size, 1, none⟩ = false := by simp [World.frozen?, hr3]
        clear hb3 hr3
        go_wp2_with fail
        refine (C4.out _).mono ?_
        rintro e w4 ⟨rfl, hw4⟩
        subst w4
        go_wp2_with fail
        have HF : Hid (((w3.setCell ⟨w.heap.size, 0, none⟩ (.int .i64 0)).setCell ⟨w.heap.size, 1, none⟩ (.bool false)).heap[w.heap.size]? = some (.cells #[.int .i64 0, .bool false] 75 (0, 0))) := by rw [Hid, heap_setCell_same _ _ _ _ _ _ (heap_setCell_same _ _ _ _ _ _ HR3.out)]; rfl
        rw [HX.out]
        exact bodyPost_ret (results35_run _ rfl rfl rfl HF.out) rfl ⟨rfl, (HB3.out.setCell (Nat.le_refl _) _).setCell (Nat.le_refl _) _⟩
      · have q0 : ((str num).toList == []) = false := by rw [eqN]; simpa using h0
        by_cases h6 : num.length ≤ 6
        · have HX := hid (HY.out ⟨rfl, rfl, h0, h6⟩)
          have q6 : ¬ (6 : Int) < num.length := by omega
          have C5 := hid (fun W => atoi_any hdg.out h0 h6 W)
          clear HN HY h0 h6
          go_enter Tryd.func35, Tryd.ntmps35
          go_wp2_with fail
          refine (C1.out _).mono ?_
          rintro e w1 ⟨rfl, rfl⟩
          go_wp2_with fail
          refine (C2.out _).mono ?_
          rintro e w2 ⟨rfl, hw2⟩
          subst w2
          go_wp2_with fail
          refine (C3.out _).mono ?_
          rintro e w3 ⟨rfl, hb3⟩
          have HB3 := hid (HB.out.trans (hb3.mono HB.out.size))
          have hr3 : w3.heap[w.heap.size]? = some (.cells #[.int .i64 0, .bool false] 75 (0, 0)) := by rw [hb3.block _ (lt_of_some HRow.out)]; exact HRow.out
          have HR3 := hid hr3
          have x0 := row_at hr3 0 (v := .int .i64 0) rfl
          have x1 := row_at hr3 1 (v := .bool false) rfl
          have y0 : w3.frozen? ⟨w.heap.size, 0, none⟩ = false := by simp [World.frozen?, hr3]
          have y1 : w3.frozen? ⟨w.heap.size, 1, none⟩ = false := by simp [World.frozen?, hr3]
          clear hb3 hr3
          go_wp2_with fail
          refine (C4.out _).mono ?_
          rintro e w4 ⟨rfl, hw4⟩
          subst w4
          go_wp2_with fail
          refine (C5.out _).mono ?_
          rintro e w5 ⟨rfl, hb5⟩
          have HB5 := hid (HB3.out.trans (hb5.mono HB3.out.size))
          have hr5 : w5.heap[w.heap.size]? = some (.cells #[.int .i64 0, .bool false] 75 (0, 0)) := by rw [hb5.block _ (lt_of_some HR3.out)]; exact HR3.out
          have HR5 := hid hr5
          have x5 := row_at hr5 0 (v := .int .i64 0) rfl
          have x6 := row_at hr5 1 (v := .bool false) rfl
          have y5 : w5.frozen? ⟨w.heap.size, 0, none⟩ = false := by simp [World.frozen?, hr5]
          have y6 : w5.frozen? ⟨w.heap.size, 1, none⟩ = false := by simp [World.frozen?, hr5]
          clear hb5 hr5
          go_wp2_with fail
          have HF : Hid (((w5.setCell ⟨w.heap.size, 0, none⟩ (.int .i64 (numV num))).setCell ⟨w.heap.size, 1, none⟩ (.bool pl)).heap[w.heap.size]? = some (.cells #[.int .i64 (numV num), .bool pl] 75 (0, 0))) := by rw [Hid, heap_setCell_same _ _ _ _ _ _ (heap_setCell_same _ _ _ _ _ _ HR5.out)]; rfl
          rw [HX.out]
          exact bodyPost_ret (results35_run _ rfl rfl rfl HF.out) rfl ⟨rfl, (HB5.out.setCell (Nat.le_refl _) _).setCell (Nat.le_refl _) _⟩
        · have HX := hid (HN.out (by simp [h6]))
          have q6 : (6 : Int) < num.length := by omega
          clear HN HY h0 h6
          go_enter Tryd.func35, Tryd.ntmps35
          go_wp2_with fail
          refine (C1.out _).mono ?_
          rintro e w1 ⟨rfl, rfl⟩
          go_wp2_with fail
          refine (C2.out _).mono ?_
          rintro e w2 ⟨rfl, hw2⟩
          subst w2
          go_wp2_with fail
          refine (C3.out _).mono ?_
          rintro e w3 ⟨rfl, hb3⟩
          have HB3 := hid (HB.out.trans (hb3.mono HB.out.size))
          have hr3 : w3.heap[w.heap.size]? = some (.cells #[.int .i64 0, .bool false] 75 (0, 0)) := by rw [hb3.block _ (lt_of_some HRow.out)]; exact HRow.out
          have HR3 := hid hr3
          have x0 := row_at hr3 0 (v := .int .i64 0) rfl
          have x1 := row_at hr3 1 (v := .bool false) rfl
          have y0 : w3.frozen? ⟨w.heap.size, 0, none⟩ = false := by simp [World.frozen?, hr3]
          have y1 : w3.frozen? ⟨w.heap.size, 1, none⟩ = false := by simp [World.frozen?, hr3]
          clear hb3 hr3
          go_wp2_with fail
          refine (C4.out _).mono ?_
          rintro e w4 ⟨rfl, hw4⟩
          subst w4
          go_wp2_with fail
          have HF : Hid (((w3.setCell ⟨w.heap.size, 0, none⟩ (.int .i64 0)).setCell ⟨w.heap.size, 1, none⟩ (.bool false)).heap[w.heap.size]? = some (.cells #[.int .i64 0, .bool false] 75 (0, 0))) := by rw [Hid, heap_setCell_same _ _ _ _ _ _ (heap_setCell_same _ _ _ _ _ _ HR3.out)]; rfl
          rw [HX.out]
          exact bodyPost_ret (results35_run _ rfl rfl rfl HF.out) rfl ⟨rfl, (HB3.out.setCell (Nat.le_refl _) _).setCell (Nat.le_refl _) _⟩
end Go.Proofs.YtikcbgoocljgnaaDoor
