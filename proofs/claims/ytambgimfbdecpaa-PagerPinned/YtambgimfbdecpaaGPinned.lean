/- What this text holds: what is pinned: plain facts. -/
import Derived.Test.YtambgimfbdecpaaGAborts
import Derived.Test.YtambgimfbdecpaaGWithout
import Derived.Test.YtambgimfbdecpaaGPin2
namespace Go.Proofs.Ytambgimfbdecpaa
open Go.RowKit Go.Maps
set_option linter.unusedVariables false

/-- The first m pages with x; p others that are used; the rest is free. -/
def stP (x : Int × Int) (n m p : Nat) : List (Int × Int) := (List.range n).map fun j => if j < 2 then (0, 0) else if j < m + 2 then x else if j < m + 2 + p then (1, 0) else (0, 0)
/-- The same, and the next one with y. -/
def stY (x y : Int × Int) (n m p : Nat) : List (Int × Int) := (List.range n).map fun j => if j < 2 then (0, 0) else if j < m + 2 then x else if j < m + 2 + p then (1, 0) else if j < m + 2 + p + 1 then y else (0, 0)
theorem range_get (f : Nat → Int × Int) (n j : Nat) : ((List.range n).map f)[j]? = if j < n then some (f j) else none := by
  rw [List.getElem?_map]
  by_cases h : j < n
  · rw [if_pos h, List.getElem?_range h]; rfl
  · rw [if_neg h, List.getElem?_eq_none (by simp; omega)]; rfl
theorem range_ext {f g : Nat → Int × Int} {n : Nat} (h : ∀ j, j < n → f j = g j) : (List.range n).map f = (List.range n).map g := List.map_congr_left fun j hj => h j (List.mem_range.1 hj)
theorem range_set (f : Nat → Int × Int) (n k : Nat) (x : Int × Int) : ((List.range n).map f).set k x = (List.range n).map fun j => if j = k then x else f j := by
  apply List.ext_getElem?
  intro i
  rw [List.getElem?_set, List.length_map, List.length_range, range_get, range_get]
  by_cases e : k = i
  · subst e
    rw [if_pos rfl, if_pos rfl]
  · have e' : ¬ i = k := fun h => e h.symm
    simp only [e, e', if_false]
theorem range_stOf (f : Nat → Int × Int) (n k : Nat) (hk : k < n) : stOf ((List.range n).map f) k = (f k).1 := by
  unfold stOf
  rw [List.getD_eq_getElem?_getD, range_get, if_pos hk]
  rfl
theorem stP_length (x : Int × Int) (n m p : Nat) : (stP x n m p).length = n := by simp [stP]
theorem stP_set (x y : Int × Int) (n m p : Nat) : (stP x n m p).set (m + 2 + p) y = stY x y n m p := by
  unfold stP stY
  rw [range_set]
  refine range_ext fun j hj => ?_
  by_cases e : j = m + 2 + p
  · subst e
    have h1 : ¬ m + 2 + p < 2 := by omega
    have h2 : ¬ m + 2 + p < m + 2 := by omega
    simp [h1, h2]
  · simp only [e, if_false]
    by_cases h1 : j < m + 2 + p
    · simp [h1]
    · have h3 : ¬ j < m + 2 + p + 1 := by omega
      simp [h1, h3]
theorem stY_one (x : Int × Int) (n m p : Nat) : stY x (1, 0) n m p = stP x n m (p + 1) := by
  unfold stP stY
  refine range_ext fun j hj => ?_
  by_cases h1 : j < m + 2 + p
  · have h3 : j < m + 2 + (p + 1) := by omega
    simp [h1, h3]
  · by_cases h2 : j < m + 2 + p + 1
    · have h3 : j < m + 2 + (p + 1) := by omega
      simp [h1, h2, h3]
    · have h3 : ¬ j < m + 2 + (p + 1) := by omega
      simp [h1, h2, h3]
theorem stP_map (f : Int × Int → Int × Int) (x y : Int × Int) (n m p : Nat) (h0 : f (0, 0) = (0, 0)) (h1 : f (1, 0) = (1, 0)) (hx : f x = y) : (stP x n m p).map f = stP y n m p := by
  unfold stP
  rw [List.map_map]
  refine range_ext fun j hj => ?_
  simp only [Function.comp]
  split
  · exact h0
  · split
    · exact hx
    · split
      · exact h1
      · exact h0
theorem stY_map (f : Int × Int → Int × Int) (x y x' y' : Int × Int) (n m p : Nat) (h0 : f (0, 0) = (0, 0)) (h1 : f (1, 0) = (1, 0)) (hx : f x = x') (hy : f y = y') : (stY x y n m p).map f = stY x' y' n m p := by
  unfold stY
  rw [List.map_map]
  refine range_ext fun j hj => ?_
  simp only [Function.comp]
  split
  · exact h0
  · split
    · exact hx
    · split
      · exact h1
      · split
        · exact hy
        · exact h0
theorem stP_low (x : Int × Int) (n m p : Nat) (hx : x.1 ≠ 0) (h : m + 2 + p < n) : lowFree (stP x n m p) = m + 2 + p := by
  refine lowFree_yes (by rw [stP_length]; exact h) (by omega) ?_ fun j h2 hj => ?_
  · unfold stP
    rw [range_stOf _ _ _ h, if_neg (by omega), if_neg (by omega), if_neg (by omega)]
  · unfold stP
    rw [range_stOf _ _ _ (by omega), if_neg (by omega), if_pos hj]
    split
    · exact hx
    · decide
theorem stP_full (x : Int × Int) (n m p : Nat) (hx : x.1 ≠ 0) (h : m + 2 + p = n) : lowFree (stP x n m p) = 0 := by
  refine lowFree_no fun j h2 hj => ?_
  rw [stP_length] at hj
  unfold stP
  rw [range_stOf _ _ _ hj, if_neg (by omega)]
  split
  · exact hx
  · rw [if_pos (by omega)]; decide
theorem cnt_range (f : Nat → Int × Int) : ∀ n, cntFree ((List.range (n + 2)).map f) = (List.range n).countP fun j => (f (j + 2)).1 == 0 := by
  intro n
  unfold cntFree
  rw [← List.map_drop]
  have : (List.range (n + 2)).drop 2 = (List.range n).map (· + 2) := by
    apply List.ext_getElem?
    intro i
    rw [List.getElem?_drop, List.getElem?_map]
    by_cases h : i < n
    · rw [List.getElem?_range (by omega), List.getElem?_range h]; simp; omega
    · rw [List.getElem?_eq_none (by simp; omega), List.getElem?_eq_none (by simp; omega)]; rfl
  rw [this, List.map_map, List.countP_map]
  rfl
theorem count_upto (a : Nat) : ∀ n, (List.range n).countP (fun j => decide (a ≤ j)) = n - a := by
  intro n
  induction n with
  | zero => simp
  | succ n ih =>
    rw [List.range_succ, List.countP_append, ih, List.countP_singleton]
    by_cases h : a ≤ n
    · simp [h]; omega
    · simp [h]; omega
theorem count_gap (a b : Nat) (hab : a ≤ b) : ∀ n, (List.range n).countP (fun j => decide (j < a ∨ b ≤ j)) = min n a + (n - b) := by
  intro n
  induction n with
  | zero => simp
  | succ n ih =>
    rw [List.range_succ, List.countP_append, ih, List.countP_singleton]
    by_cases h : n < a
    · have : n < a ∨ b ≤ n := .inl h
      simp [this]; omega
    · by_cases h2 : b ≤ n
      · simp [h2]; omega
      · simp [h, h2]; omega
theorem stP_cnt (x : Int × Int) (n m p : Nat) (hx : x.1 ≠ 0) (h : m + 2 + p ≤ n) : cntFree (stP x n m p) = n - 2 - m - p := by
  obtain ⟨q, rfl⟩ : ∃ q, n = q + 2 := ⟨n - 2, by omega⟩
  unfold stP
  rw [cnt_range, show q + 2 - 2 - m - p = q - (m + p) by omega, ← count_upto (m + p) q]
  apply List.countP_congr
  intro j hj
  rw [if_neg (by omega)]
  by_cases h1 : j + 2 < m + 2
  · rw [if_pos h1]; simp [hx]; omega
  · rw [if_neg h1]
    by_cases h2 : j + 2 < m + 2 + p
    · rw [if_pos h2]; simp; omega
    · rw [if_neg h2]; simp; omega
theorem stP_cnt0 (n m p : Nat) (h : m + 2 + p ≤ n) : cntFree (stP (0, 0) n m p) = n - 2 - p := by
  obtain ⟨q, rfl⟩ : ∃ q, n = q + 2 := ⟨n - 2, by omega⟩
  unfold stP
  rw [cnt_range]
  have := count_gap m (m + p) (by omega) q
  rw [show q + 2 - 2 - p = min q m + (q - (m + p)) by omega, ← this]
  apply List.countP_congr
  intro j hj
  rw [if_neg (by omega)]
  by_cases h1 : j + 2 < m + 2
  · rw [if_pos h1]; simp; omega
  · rw [if_neg h1]
    by_cases h2 : j + 2 < m + 2 + p
    · rw [if_pos h2]; simp; omega
    · rw [if_neg h2]; simp; omega
theorem stK_stP (x : Int × Int) (n m : Nat) : stK x n m m = stP x n m 0 := by
  unfold stK stP
  refine range_ext fun j hj => ?_
  split
  · rfl
  · split
    · rfl
    · simp only

/-- Pinned, and k pages dropped. -/
structure Dp (n m : Nat) (ss : List ByteArray) (k : Nat) (P : PS) : Prop where
  ok : P.ok
  gen : P.gen = 2
  st : P.st = stK (3, 0) n m k
  pins : P.pins = [2]
  pm : P.pm = 1
  n : P.D.n = n
  s : P.D.steps ≤ 20
  w : P.D.waits = []
  pg : ∀ i, i < m → P.D.read (i + 2) = sealL i 2 (bOf (conAt ss i))
theorem Begun.pin {n m : Nat} {ss : List ByteArray} {P : PS} (h : Begun n m ss P) (hm : m + 2 ≤ n) : Dp n m ss 0 P.pin :=
  ⟨⟨h.ok.d, h.ok.a⟩, h.gen, by show P.st = _; rw [h.st, stK_zero (3, 0) n m hm], by show P.pins ++ [P.gen] = _; rw [h.pins, h.gen]; rfl, by show P.pm + 1 = 1; rw [h.pm], h.n, h.s, h.w, h.pg⟩
theorem Dp.drop {n m k : Nat} {ss : List ByteArray} {P : PS} (h : Dp n m ss k P) (hk : k < m) (hm : m + 2 ≤ n) : (P.drop ((k + 2 : Nat) : Int)).1 = 0 ∧ Dp n m ss (k + 1) (P.drop ((k + 2 : Nat) : Int)).2 := by
  rw [drop_kept h.ok (k + 2) (by omega) (by rw [h.st, stK_length]; omega) (by rw [h.st]; exact stK_st (3, 0) n m k _ (Nat.le_refl _) (by omega) hm)]
  exact ⟨rfl, ⟨h.ok.d, h.ok.a⟩, h.gen, by show P.st.set _ _ = _; rw [h.st, stK_set (3, 0) n m k hk hm], h.pins, h.pm, h.n, h.s, h.w, h.pg⟩
/-- The sheet of a page that was dropped, behind j commits. -/
def shJ (j : Nat) : Int × Int := if j = 0 then (3, 0) else (4, 3)
theorem shJ_ne (j : Nat) : (shJ j).1 ≠ 0 := by unfold shJ; split <;> decide
/-- Behind j rounds. -/
structure Pn (n m : Nat) (ss : List ByteArray) (j p : Nat) (P : PS) : Prop where
  ok : P.ok
  gen : P.gen = 2 + (j : Int)
  st : P.st = stP (shJ j) n m p
  pins : P.pins = [2]
  pm : P.pm = 1
  n : P.D.n = n
  s : P.D.steps ≤ 20 + 4 * (j : Int)
  w : P.D.waits = []
  pg : ∀ i, i < m → P.D.read (i + 2) = sealL i 2 (bOf (conAt ss i))
theorem Dp.pn {n m : Nat} {ss : List ByteArray} {P : PS} (h : Dp n m ss m P) : Pn n m ss 0 0 P :=
  ⟨h.ok, h.gen, by rw [h.st, stK_stP]; rfl, h.pins, h.pm, h.n, h.s, h.w, h.pg⟩
theorem low2 (g : Int) (h : 2 ≤ g) : lowPin [2] g = 2 := by
  show min g 2 = 2
  omega
/-- A commit, without a page more. -/
theorem Pn.commit {n m j p : Nat} {ss : List ByteArray} {P : PS} (h : Pn n m ss j p P) (hg : P.D.good) (hj : j ≤ 100) (h4 : 4 ≤ n) (hmn : m + 2 ≤ n) (s : ByteArray) (hs : s.size ≤ 490) : (P.commit s).1 = 0 ∧ Pn n m ss (j + 1) p (P.commit s).2 := by
  have e : P.gen + 1 = 3 + (j : Int) := by rw [h.gen]; omega
  have hst := h.s
  rw [h.ok.commit s hs (by rw [h.gen]; unfold okGen; omega) (by rw [h.n]; omega), e]
  refine ⟨rfl, ⟨h.ok.d.laid _ _, h.ok.a⟩, by show 3 + (j : Int) = _; omega, ?_, h.pins, h.pm, h.n, ?_, rfl, fun i hi => ?_⟩
  · show ((P.st.map _).map _).map _ = _
    rw [h.st, h.pins, low2 _ (by omega)]
    rw [stP_map (turnF 2 (1, 0)) (shJ j) (shJ j) n m p (by decide) (by decide) (by unfold shJ; split <;> rfl)]
    by_cases h0 : j = 0
    · subst h0
      rw [stP_map (turnF 3 (4, 3 + ((0 : Nat) : Int))) (shJ 0) (4, 3) n m p (by decide) (by decide) (by decide), stP_map (relF 2) (4, 3) (4, 3) n m p (by decide) (by decide) (by decide)]
      rfl
    · have e4 : shJ j = (4, 3) := by unfold shJ; rw [if_neg h0]
      have e5 : shJ (j + 1) = (4, 3) := by unfold shJ; rw [if_neg (by omega)]
      rw [e4, e5, stP_map (turnF 3 _) (4, 3) (4, 3) n m p (by simp [turnF]) (by simp [turnF]) (by simp [turnF]), stP_map (relF 2) (4, 3) (4, 3) n m p (by decide) (by decide) (by decide)]
  · show (DS.laid _ _ _).steps ≤ _
    rw [(laid_facts _ _ _).2.2]
    omega
  · show (DS.laid _ _ _).read _ = _
    rw [laid_read hg _ _ (rootL_length _ _ (by rw [bOf_length]; omega)) (by rw [h.n]; omega) (by omega) (i + 2) (by rw [h.n]; omega), if_neg (by omega)]
    exact h.pg i hi
/-- A page is put. -/
theorem Pn.put {n m j p : Nat} {ss : List ByteArray} {P : PS} (h : Pn n m ss j p P) (hj : j ≤ 100) (hp : m + 2 + p < n) (s : ByteArray) (hs : s.size ≤ 492) :
    P.put 1 s = ((((m + 2 + p : Nat) : Int), 0), { P with D := P.D.wrote ((m + 2 + p : Nat) : Int) (sealL 1 (P.gen + 1) (bOf s)), st := stY (shJ j) (2, 0) n m p }) := by
  have hl : lowFree P.st = m + 2 + p := by rw [h.st]; exact stP_low _ n m p (shJ_ne j) hp
  rw [h.ok.put 1 s (by rw [h.gen]; unfold okPage; omega) hs (by rw [hl]; omega) (by rw [h.st, stP_length, h.n]), hl, h.st, stP_set]
theorem Pn.putFull {n m j p : Nat} {ss : List ByteArray} {P : PS} (h : Pn n m ss j p P) (hj : j ≤ 100) (hp : m + 2 + p = n) (s : ByteArray) (hs : s.size ≤ 492) : P.put 1 s = ((0, 6), P) :=
  h.ok.putFull 1 s (by rw [h.gen]; unfold okPage; omega) hs (by rw [h.st]; exact stP_full _ n m p (shJ_ne j) hp)
/-- And committed. -/
theorem Pn.putCommit {n m j p : Nat} {ss : List ByteArray} {P : PS} (h : Pn n m ss j p P) (hg : P.D.good) (hj : j ≤ 100) (h4 : 4 ≤ n) (hp : m + 2 + p < n) (s c : ByteArray) (hs : s.size ≤ 492) (hc : c.size ≤ 490) :
    ((P.put 1 s).2.commit c).1 = 0 ∧ Pn n m ss (j + 1) (p + 1) ((P.put 1 s).2.commit c).2 := by
  rw [h.put hj hp s hs]
  have hX := sealL_length 1 (P.gen + 1) (bOf s) (by rw [bOf_length]; exact hs)
  have hst := h.s
  have hg2 := hg.wrote ((m + 2 + p : Nat) : Int) (sealL 1 (P.gen + 1) (bOf s)) ⟨by omega, by rw [h.n]; omega⟩ hX (by omega) (by rw [h.w]; decide)
  have hrw := fun i => wrote_read P.D (m + 2 + p) (sealL 1 (P.gen + 1) (bOf s)) i
  generalize sealL 1 (P.gen + 1) (bOf s) = X at *
  have e : P.gen + 1 = 3 + (j : Int) := by rw [h.gen]; omega
  have hok : PS.ok { P with D := P.D.wrote ((m + 2 + p : Nat) : Int) X, st := stY (shJ j) (2, 0) n m p } := ⟨h.ok.d.wrote _ _, h.ok.a⟩
  have hcm := hok.commit c hc (by show okGen (P.gen + 1); rw [h.gen]; unfold okGen; omega) (by show 2 ≤ P.D.n; rw [h.n]; omega)
  simp only at hcm
  rw [e] at hcm
  simp only
  rw [hcm]
  refine ⟨rfl, ⟨(h.ok.d.wrote _ _).laid _ _, h.ok.a⟩, by show 3 + (j : Int) = _; omega, ?_, h.pins, h.pm, h.n, ?_, rfl, fun i hi => ?_⟩
  · show ((List.map _ _).map _).map _ = _
    rw [h.pins, low2 _ (by omega)]
    rw [stY_map (turnF 2 (1, 0)) (shJ j) (2, 0) (shJ j) (1, 0) n m p (by decide) (by decide) (by unfold shJ; split <;> rfl) (by decide), stY_one]
    by_cases h0 : j = 0
    · subst h0
      rw [stP_map (turnF 3 (4, 3 + ((0 : Nat) : Int))) (shJ 0) (4, 3) n m (p + 1) (by decide) (by decide) (by decide), stP_map (relF 2) (4, 3) (4, 3) n m (p + 1) (by decide) (by decide) (by decide)]
      rfl
    · have e4 : shJ j = (4, 3) := by unfold shJ; rw [if_neg h0]
      have e5 : shJ (j + 1) = (4, 3) := by unfold shJ; rw [if_neg (by omega)]
      rw [e4, e5, stP_map (turnF 3 _) (4, 3) (4, 3) n m (p + 1) (by simp [turnF]) (by simp [turnF]) (by simp [turnF]), stP_map (relF 2) (4, 3) (4, 3) n m (p + 1) (by decide) (by decide) (by decide)]
  · show (DS.laid _ _ _).steps ≤ _
    rw [(laid_facts _ _ _).2.2]
    simp only [DS.wrote]
    omega
  · show (DS.laid _ _ _).read _ = _
    rw [laid_read hg2 _ _ (rootL_length _ _ (by rw [bOf_length]; omega)) (by show 2 ≤ P.D.n; rw [h.n]; omega) (by simp only [DS.wrote]; omega) (i + 2) (by show i + 2 < P.D.n; rw [h.n]; omega), if_neg (by omega), hrw, if_neg (by omega)]
    exact h.pg i hi
theorem Pn.read {n m j p i : Nat} {ss : List ByteArray} {P : PS} (h : Pn n m ss j p P) (hi : i < m) (hm : m + 2 ≤ n) (h12 : m ≤ 12) : P.read ((i + 2 : Nat) : Int) = (⟨i, conAt ss i, 0⟩, P) :=
  read_page h.ok (i + 2) (by omega) (by rw [h.st, stP_length]; omega) (by
    rw [h.st]; unfold stP; rw [range_stOf _ _ _ (by omega), if_neg (by omega), if_pos (by omega)]; exact shJ_ne j) i 2 _ (by unfold okPage; omega) (conAt_size ss i) (h.pg i hi)
theorem Pn.unpin {n m j p : Nat} {ss : List ByteArray} {P : PS} (h : Pn n m ss (j + 1) p P) (hmp : m + 2 + p ≤ n) : (P.unpin 2).1 = 0 ∧ (P.unpin 2).2.pins = [] ∧ (P.unpin 2).2.pm = 2 ∧ cntFree (P.unpin 2).2.st = n - 2 - p := by
  have hc : P.pins.count 2 = 1 := by rw [h.pins]; rfl
  unfold PS.unpin
  rw [if_neg (by rw [hc]; decide), if_pos hc]
  refine ⟨rfl, by show P.pins.erase 2 = []; rw [h.pins]; rfl, by show P.pm + 1 = 2; rw [h.pm], ?_⟩
  show cntFree (P.st.map _) = _
  have e5 : shJ (j + 1) = (4, 3) := by unfold shJ; rw [if_neg (by omega)]
  have e6 : P.pins.erase 2 = [] := by rw [h.pins]; rfl
  have e7 : lowPin [] P.gen = P.gen := rfl
  rw [h.st, e5, e6, e7, stP_map (relF P.gen) (4, 3) (0, 0) n m p (by simp [relF]) (by simp [relF]) (by rw [h.gen]; simp [relF]; omega), stP_cnt0 n m p hmp]
theorem withoutL_all (ss : List ByteArray) (m p : Nat) : (withoutL (pagesOf ss m) ((m + 2 + p : Nat) : Int)).length = m := by
  have : withoutL (pagesOf ss m) ((m + 2 + p : Nat) : Int) = pagesOf ss m := by
    unfold withoutL
    rw [List.filter_eq_self]
    intro x hx
    simp only [pagesOf, List.mem_map, List.mem_range] at hx
    obtain ⟨i, hi, rfl⟩ := hx
    simp
    omega
  rw [this, pagesOf_length]
end Go.Proofs.Ytambgimfbdecpaa
