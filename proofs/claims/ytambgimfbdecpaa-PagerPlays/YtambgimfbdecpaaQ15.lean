/- What this text holds: what is taken back: plain facts. · What this text holds: 'without': pages but one. -/
import Derived.Test.YtambgimfbdecpaaQ14
namespace Go.Proofs.Ytambgimfbdecpaa
open Go.RowKit Go.Maps
set_option linter.unusedVariables false

theorem roomSt_get (a n i j : Nat) (h2 : 2 ≤ i) (hi : i ≤ n) : (roomSt a n i)[j]? = if j < n then some (if 2 ≤ j ∧ j < i then ((a : Int), (0 : Int)) else (0, 0)) else none := by
  unfold roomSt
  rcases j with _ | _ | m
  · rw [if_pos (by omega), if_neg (by omega)]; rfl
  · rw [if_pos (by omega), if_neg (by omega)]; rfl
  · rw [List.getElem?_cons_succ, List.getElem?_cons_succ, List.getElem?_append, List.length_replicate]
    by_cases h : m < i - 2
    · rw [if_pos h, List.getElem?_replicate, if_pos h, if_pos (by omega), if_pos (by omega)]
    · rw [if_neg h, List.getElem?_replicate]
      by_cases h' : m + 1 + 1 < n
      · rw [if_pos (by omega), if_pos h', if_neg (by omega)]
      · rw [if_neg (by omega), if_neg h']

/-- What sheets may be, in between. -/
def okSh (m i : Nat) (x : Int × Int) : Prop := if i < 2 then x = (0, 0) else if i < m + 2 then x = (1, 0) ∨ x = (3, 0) else x = (0, 0) ∨ x = (2, 0)
def MidSt (n m : Nat) (st : List (Int × Int)) : Prop := st.length = n ∧ ∀ i x, st[i]? = some x → okSh m i x
theorem MidSt.start (n m : Nat) (h : m + 2 ≤ n) : MidSt n m (roomSt 1 n (m + 2)) := by
  refine ⟨roomSt_length 1 n _ (by omega) h, fun i x hx => ?_⟩
  rw [roomSt_get 1 n _ i (by omega) h] at hx
  split at hx
  · cases hx
    unfold okSh
    by_cases h2 : i < 2
    · rw [if_pos h2, if_neg (by omega)]
    · rw [if_neg h2]
      by_cases h3 : i < m + 2
      · rw [if_pos h3, if_pos (by omega)]; exact .inl rfl
      · rw [if_neg h3, if_neg (by omega)]; exact .inl rfl
  · cases hx
theorem MidSt.set {n m : Nat} {st : List (Int × Int)} (h : MidSt n m st) (k : Nat) (x : Int × Int) (hx : okSh m k x) : MidSt n m (st.set k x) := by
  refine ⟨by rw [List.length_set]; exact h.1, fun i y hy => ?_⟩
  rw [List.getElem?_set] at hy
  split at hy
  · rename_i e
    subst e
    split at hy
    · cases hy; exact hx
    · cases hy
  · exact h.2 i y hy
theorem stOf_get {st : List (Int × Int)} {k : Nat} (h : k < st.length) : ∃ x, st[k]? = some x ∧ stOf st k = x.1 := ⟨st[k], List.getElem?_eq_getElem h, stOf_eq st k h⟩

/-- A pager in between. -/
structure Mid (n m : Nat) (ss : List ByteArray) (j : Nat) (P : PS) : Prop where
  ok : P.ok
  gen : P.gen = 2
  root : P.root = ⟨#[111, 108, 100]⟩
  st : MidSt n m P.st
  pins : P.pins = []
  n : P.D.n = n
  s : P.D.steps ≤ 20 + (j : Int)
  w : P.D.waits.length ≤ j
  pg : ∀ i, i < m → P.D.read (i + 2) = sealL i 2 (bOf (conAt ss i))
theorem Begun.mid {n m : Nat} {ss : List ByteArray} {P : PS} (h : Begun n m ss P) (hm : m + 2 ≤ n) : Mid n m ss 0 P :=
  ⟨h.ok, h.gen, h.root, by rw [h.st]; exact MidSt.start n m hm, h.pins, h.n, by have := h.s; omega, by rw [h.w]; exact Nat.le_refl _, h.pg⟩
theorem Mid.put {n m j : Nat} {ss : List ByteArray} {P : PS} (h : Mid n m ss j P) (s : ByteArray) (hs : s.size ≤ 492) : Mid n m ss (j + 1) (P.put 1 s).2 := by
  by_cases hl : lowFree P.st = 0
  · rw [h.ok.putFull 1 s (by rw [h.gen]; unfold okPage; omega) hs hl]
    exact ⟨h.ok, h.gen, h.root, h.st, h.pins, h.n, by have := h.s; show P.D.steps ≤ _; omega, by have := h.w; show P.D.waits.length ≤ _; omega, h.pg⟩
  · obtain ⟨h2, h3, h4, _⟩ := lowFree_lt P.st hl
    rw [h.ok.put 1 s (by rw [h.gen]; unfold okPage; omega) hs hl (by rw [h.st.1, h.n])]
    generalize lowFree P.st = N at *
    obtain ⟨x, hx, hsx⟩ := stOf_get h3
    have hN : m + 2 ≤ N := by
      have := h.st.2 N x hx
      unfold okSh at this
      rw [if_neg (by omega)] at this
      split at this
      · rw [h4] at hsx; rcases this with rfl | rfl <;> simp at hsx
      · omega
    refine ⟨⟨h.ok.d.wrote _ _, h.ok.a⟩, h.gen, h.root, h.st.set N (2, 0) ?_, h.pins, h.n, ?_, ?_, fun i hi => ?_⟩
    · unfold okSh; rw [if_neg (by omega), if_neg (by omega)]; exact .inr rfl
    · have := h.s; simp only [DS.wrote]; omega
    · have := h.w; simp only [DS.wrote, List.length_append, List.length_cons, List.length_nil]; omega
    · show (DS.wrote _ _ _).read _ = _
      rw [wrote_read, if_neg (by omega)]; exact h.pg i hi
theorem Mid.drop {n m j : Nat} {ss : List ByteArray} {P : PS} (h : Mid n m ss j P) (z : Int) : Mid n m ss j (P.drop z).2 := by
  unfold PS.drop
  rw [if_neg (by simp [h.ok.a])]
  split
  · exact h
  · rename_i hu
    obtain ⟨k, rfl, hk2, hkl, hk0⟩ := usedP_yes (by simpa using hu)
    rw [Int.toNat_natCast]
    obtain ⟨x, hx, hsx⟩ := stOf_get hkl
    have hok := h.st.2 k x hx
    unfold okSh at hok
    rw [if_neg (by omega)] at hok
    split
    · rename_i h2
      refine ⟨⟨h.ok.d, h.ok.a⟩, h.gen, h.root, h.st.set k (0, 0) ?_, h.pins, h.n, h.s, h.w, h.pg⟩
      unfold okSh
      rw [if_neg (by omega)]
      split at hok
      · rw [h2] at hsx; rcases hok with rfl | rfl <;> simp at hsx
      · rename_i hk; rw [if_neg hk]; exact .inl rfl
    · split
      · rename_i h1
        refine ⟨⟨h.ok.d, h.ok.a⟩, h.gen, h.root, h.st.set k (3, 0) ?_, h.pins, h.n, h.s, h.w, h.pg⟩
        unfold okSh
        rw [if_neg (by omega)]
        split at hok
        · rename_i hk; rw [if_pos hk]; exact .inr rfl
        · rw [h1] at hsx; rcases hok with rfl | rfl <;> simp at hsx
      · exact h
theorem mid_abort {n m : Nat} {st : List (Int × Int)} (h : MidSt n m st) (hm : m + 2 ≤ n) : (st.map (turnF 2 (0, 0))).map (turnF 3 (1, 0)) = roomSt 1 n (m + 2) := by
  apply List.ext_getElem?
  intro i
  rw [List.getElem?_map, List.getElem?_map, roomSt_get 1 n _ i (by omega) hm]
  by_cases hi : i < n
  · rw [if_pos hi, List.getElem?_eq_getElem (by rw [h.1]; exact hi)]
    have := h.2 i _ (List.getElem?_eq_getElem (by rw [h.1]; exact hi))
    generalize st[i]'(by rw [h.1]; exact hi) = x at *
    unfold okSh at this
    by_cases h2 : i < 2
    · rw [if_pos h2] at this; subst this; rw [if_neg (by omega)]; rfl
    · rw [if_neg h2] at this
      by_cases h3 : i < m + 2
      · rw [if_pos h3] at this; rw [if_pos (by omega)]; rcases this with rfl | rfl <;> rfl
      · rw [if_neg h3] at this; rw [if_neg (by omega)]; rcases this with rfl | rfl <;> rfl
  · rw [if_neg hi, List.getElem?_eq_none (by rw [h.1]; omega)]; rfl

/-- Some of the pages dropped: each with this sheet. -/
def stK (x : Int × Int) (n m k : Nat) : List (Int × Int) := (List.range n).map fun j => if j < 2 then (0, 0) else if j < k + 2 then x else if j < m + 2 then (1, 0) else (0, 0)
theorem stK_length (x : Int × Int) (n m k : Nat) : (stK x n m k).length = n := by simp [stK]
theorem stK_get (x : Int × Int) (n m k j : Nat) : (stK x n m k)[j]? = if j < n then some (if j < 2 then (0, 0) else if j < k + 2 then x else if j < m + 2 then (1, 0) else (0, 0)) else none := by
  unfold stK
  rw [List.getElem?_map]
  by_cases h : j < n
  · rw [if_pos h, List.getElem?_range h]; rfl
  · rw [if_neg h, List.getElem?_eq_none (by simp; omega)]; rfl
theorem stK_zero (x : Int × Int) (n m : Nat) (h : m + 2 ≤ n) : roomSt 1 n (m + 2) = stK x n m 0 := by
  apply List.ext_getElem?
  intro i
  rw [stK_get, roomSt_get 1 n _ i (by omega) h]
  by_cases hi : i < n
  · rw [if_pos hi, if_pos hi]
    by_cases h2 : i < 2
    · rw [if_neg (by omega), if_pos h2]
    · rw [if_neg h2, if_neg (by omega : ¬ i < 0 + 2)]
      by_cases h3 : i < m + 2
      · rw [if_pos (by omega), if_pos h3]; rfl
      · rw [if_neg (by omega), if_neg h3]
  · rw [if_neg hi, if_neg hi]
theorem stK_set (x : Int × Int) (n m k : Nat) (hk : k < m) (h : m + 2 ≤ n) : (stK x n m k).set (k + 2) x = stK x n m (k + 1) := by
  apply List.ext_getElem?
  intro i
  rw [List.getElem?_set, stK_length, stK_get, stK_get]
  by_cases e : k + 2 = i
  · subst e
    rw [if_pos rfl, if_pos (by omega), if_pos (by omega), if_neg (by omega), if_pos (by omega)]
  · rw [if_neg e]
    by_cases hi : i < n
    · rw [if_pos hi, if_pos hi]
      by_cases h2 : i < 2
      · rw [if_pos h2, if_pos h2]
      · rw [if_neg h2, if_neg h2]
        by_cases h3 : i < k + 2
        · rw [if_pos h3, if_pos (by omega)]
        · rw [if_neg h3, if_neg (show ¬ i < k + 1 + 2 by omega)]
    · rw [if_neg hi, if_neg hi]
theorem stK_st (x : Int × Int) (n m k j : Nat) (hj : k + 2 ≤ j) (hm : j < m + 2) (h : m + 2 ≤ n) : stOf (stK x n m k) j = 1 := by
  unfold stOf
  rw [List.getD_eq_getElem?_getD, stK_get, if_pos (by omega), if_neg (by omega), if_neg (by omega), if_pos hm]
  rfl
theorem stK_map (f : Int × Int → Int × Int) (x y : Int × Int) (n m k : Nat) (h0 : f (0, 0) = (0, 0)) (h1 : f (1, 0) = (1, 0)) (hx : f x = y) : (stK x n m k).map f = stK y n m k := by
  unfold stK
  rw [List.map_map]
  apply List.map_congr_left
  intro j _
  simp only [Function.comp]
  split
  · exact h0
  · split
    · exact hx
    · split
      · exact h1
      · exact h0
theorem stK_none (n m : Nat) (h : m + 2 ≤ n) : stK (0, 0) n m m = List.replicate n (0, 0) := by
  apply List.ext_getElem?
  intro i
  rw [stK_get, List.getElem?_replicate]
  by_cases hi : i < n
  · rw [if_pos hi, if_pos hi]
    by_cases h2 : i < 2
    · rw [if_pos h2]
    · rw [if_neg h2]
      by_cases h3 : i < m + 2
      · rw [if_pos h3]
      · rw [if_neg h3, if_neg h3]
  · rw [if_neg hi, if_neg hi]
/-- A pager with its first k pages dropped. -/
structure Dr (n m : Nat) (ss : List ByteArray) (k : Nat) (P : PS) : Prop where
  ok : P.ok
  gen : P.gen = 2
  root : P.root = ⟨#[111, 108, 100]⟩
  st : P.st = stK (3, 0) n m k
  pins : P.pins = []
  n : P.D.n = n
  s : P.D.steps ≤ 60
  w : P.D.waits.length ≤ 40
  pg : ∀ i, i < m → P.D.read (i + 2) = sealL i 2 (bOf (conAt ss i))
theorem Mid.abort {n m j : Nat} {ss : List ByteArray} {P : PS} (h : Mid n m ss j P) (hm : m + 2 ≤ n) (hj : j ≤ 12) : Dr n m ss 0 P.abort :=
  ⟨⟨h.ok.d, h.ok.a⟩, h.gen, h.root, by show (P.st.map _).map _ = _; rw [mid_abort h.st hm, stK_zero (3, 0) n m hm], h.pins, h.n, by have := h.s; show P.D.steps ≤ 60; omega, by have := h.w; show P.D.waits.length ≤ 40; omega, h.pg⟩
theorem usedP_of {st : List (Int × Int)} {k : Nat} (h2 : 2 ≤ k) (hl : k < st.length) (h0 : stOf st k ≠ 0) : usedP st k = true := by
  unfold usedP
  rw [decide_eq_true (by omega), Int.toNat_natCast, Bool.true_and, bne_iff_ne]
  exact h0
/-- A page is read as it was put. -/
theorem read_page {P : PS} (hok : P.ok) (k : Nat) (h2 : 2 ≤ k) (hl : k < P.st.length) (h0 : stOf P.st k ≠ 0) (kind g : Int) (s : ByteArray) (hp : okPage kind g) (hs : s.size ≤ 492) (hr : P.D.read k = sealL kind g (bOf s)) : P.read k = (⟨kind, s, 0⟩, P) := by
  have hb : (bOf s).length ≤ 492 := by rw [bOf_length]; exact hs
  unfold PS.read
  rw [if_neg (by simp [hok.a]), usedP_of h2 hl h0, if_neg (by simp), if_neg (by simp [hok.d.g]), Int.toNat_natCast, hr, if_pos (isPage_seal _ _ _ hp.1.1.1 hp.1.1.2 hp.1.2 hp.2 hb), kindOf_seal _ _ _ hp.1.1.1 hp.1.1.2, conOf_seal _ _ _ hb, strOf_bOf]
theorem drop_kept {P : PS} (hok : P.ok) (k : Nat) (h2 : 2 ≤ k) (hl : k < P.st.length) (h1 : stOf P.st k = 1) : P.drop k = (0, { P with st := P.st.set k (3, 0) }) := by
  unfold PS.drop
  rw [if_neg (by simp [hok.a]), usedP_of h2 hl (by rw [h1]; decide), if_neg (by simp), Int.toNat_natCast, h1, if_neg (by decide), if_pos rfl]
theorem Dr.read {n m k : Nat} {ss : List ByteArray} {P : PS} (h : Dr n m ss k P) (hk : k < m) (hm : m + 2 ≤ n) (h12 : m ≤ 12) : P.read ((k + 2 : Nat) : Int) = (⟨k, conAt ss k, 0⟩, P) :=
  read_page h.ok (k + 2) (by omega) (by rw [h.st, stK_length]; omega) (by rw [h.st, stK_st (3, 0) n m k _ (Nat.le_refl _) (by omega) hm]; decide) k 2 _ (by unfold okPage; omega) (conAt_size ss k) (h.pg k hk)
theorem Dr.drop {n m k : Nat} {ss : List ByteArray} {P : PS} (h : Dr n m ss k P) (hk : k < m) (hm : m + 2 ≤ n) : (P.drop ((k + 2 : Nat) : Int)).1 = 0 ∧ Dr n m ss (k + 1) (P.drop ((k + 2 : Nat) : Int)).2 := by
  rw [drop_kept h.ok (k + 2) (by omega) (by rw [h.st, stK_length]; omega) (by rw [h.st]; exact stK_st (3, 0) n m k _ (Nat.le_refl _) (by omega) hm)]
  exact ⟨rfl, ⟨h.ok.d, h.ok.a⟩, h.gen, h.root, by show P.st.set _ _ = _; rw [h.st, stK_set (3, 0) n m k hk hm], h.pins, h.n, h.s, h.w, h.pg⟩
theorem Dr.commit {n m : Nat} {ss : List ByteArray} {P : PS} (h : Dr n m ss m P) (hm : m + 2 ≤ n) (h4 : 4 ≤ n) : (P.commit ⟨#[122]⟩).1 = 0 ∧ cntFree (P.commit ⟨#[122]⟩).2.st = n - 2 := by
  have hg : P.gen + 1 = 3 := by rw [h.gen]; rfl
  rw [h.ok.commit ⟨#[122]⟩ (by decide) (by rw [h.gen]; unfold okGen; omega) (by rw [h.n]; omega), hg]
  refine ⟨rfl, ?_⟩
  show cntFree (((P.st.map _).map _).map _) = _
  rw [h.st, h.pins, stK_map (turnF 2 (1, 0)) (3, 0) (3, 0) n m m (by decide) (by decide) (by decide), stK_map (turnF 3 (4, 3)) (3, 0) (4, 3) n m m (by decide) (by decide) (by decide), stK_map (relF (lowPin [] 3)) (4, 3) (0, 0) n m m (by decide) (by decide) (by decide), stK_none n m hm, blank_room n (by omega), roomSt_cnt 2 n 2 (by omega)]
end Go.Proofs.Ytambgimfbdecpaa
namespace Go.Proofs.Ytambgimfbdecpaa
open Go.RowKit Go.Maps
set_option linter.unusedVariables false

def withoutL (ps : List (Int × ByteArray)) (n : Int) : List (Int × ByteArray) := ps.filter fun x => x.1 != n
theorem without_step (ps : List (Int × ByteArray)) (n : Int) (k : Nat) (hk : k < ps.length) : withoutL (ps.take (k + 1)) n = if (ps[k]).1 = n then withoutL (ps.take k) n else withoutL (ps.take k) n ++ [ps[k]] := by
  unfold withoutL
  rw [List.take_succ_eq_append_getElem hk, List.filter_append]
  by_cases h : (ps[k]).1 = n
  · rw [if_pos h, List.filter_cons_of_neg (by simpa using h), List.filter_nil, List.append_nil]
  · rw [if_neg h, List.filter_cons_of_pos (by simpa using h), List.filter_nil]
theorem withoutL_length (ps : List (Int × ByteArray)) (n : Int) : (withoutL ps n).length ≤ ps.length := List.length_filter_le _ _

def WithoutP (w : World) (ps : List (Int × ByteArray)) (n : Int) (e : Ending) (w' : World) : Prop := ∃ v', e = .returned v' ∧ PgsAt w' w.heap.size v' (withoutL ps n) ∧ Below w.heap.size w w'

set_option maxRecDepth 100000 in
set_option maxHeartbeats 4000000 in
theorem without_any {w : World} {B : Nat} {v : Value} {ps : List (Int × ByteArray)} (h : PgsAt w B v ps) (n : Int) (hl : ps.length ≤ 100) :
    Calls Try.prog 30 #[v, .int .i64 n] w (WithoutP w ps n) := by
  have HH := hid h
  obtain ⟨va, vc, hsh⟩ := h.shape
  subst hsh
  clear h
  go_enter Try.func30, Try.ntmps30
  go_wp2_with fail
  go_loopw [10, 5] (fun q hv wr => ∃ k : Nat, k ≤ ps.length ∧ q = .int .i64 k ∧ PgsAt wr w.heap.size hv (withoutL (ps.take k) n) ∧ Below w.heap.size w wr) (fun q _ _ => ps.length - (intOf q).toNat)
  case atStart => exact ⟨0, by omega, rfl, World.ownsRow_nil _ _ _ _, Below.refl _ _⟩
  case round =>
    obtain ⟨k, hkl, rfl, hPg, hBel⟩ := hrel
    have HPG := hid hPg
    have HBL := hid hBel
    clear hPg hBel
    by_cases hlt : k < ps.length
    · have hlt' : (k : Int) < ps.length := by omega
      obtain ⟨g, c, hsh, hob, hc1, hc2⟩ := (HH.out.keep (Kept.ofBelow HBL.out []) (by simp)).get k hlt
      simp only [Value.slice.injEq, true_and] at hsh
      obtain ⟨rfl, rfl⟩ := hsh
      have hst := without_step ps n k hlt
      obtain ⟨X, hX⟩ : ∃ X, X = ps[k] := ⟨_, rfl⟩
      obtain ⟨x, y⟩ := X
      rw [← hX] at hc1 hc2 hst
      simp only at hc1 hc2 hst
      have HST := hid hst
      clear hst hX
      have HPG0 := hid (HPG.out.keep (Kept.alloc [] wr (.cells #[.int .i64 x, .string y] 65)) (by simp))
      have HB0 := hid (HBL.out.alloc HBL.out.size (.cells #[.int .i64 x, .string y] 65))
      by_cases hx : x = n
      · have hx' : (x != n) = false := by simp [hx]
        have hst2 := HST.out
        rw [if_pos hx] at hst2
        have HST2 := hid hst2
        clear hst2 hx
        go_wp2_with fail
        go_roundw
        case rel => exact ⟨k + 1, by omega, by go_num, by rw [HST2.out]; exact HPG0.out, HB0.out⟩
        case measure => simp [intOf]; omega
      · have hx' : (x != n) = true := by simpa using hx
        have hst2 := HST.out
        rw [if_neg hx] at hst2
        have HST2 := hid hst2
        obtain ⟨v', w6, hrun, hpg6, hk6, hloc6⟩ := pgs_append HPG0.out HB0.out.size (x, y) (by have := withoutL_length (ps.take k) n; rw [List.length_take] at this; omega)
        have HPG6 := hid hpg6
        have HB6 := hid (below_kept HB0.out hk6 (fun i hi => by simp only [Option.mem_toList] at hi; exact (HPG0.out.lt i hi).1) HB0.out.size)
        have e1 : (wr.alloc (.cells #[.int .i64 x, .string y] 65)).heap.size = wr.heap.size + 1 := by simp
        rw [e1] at hrun
        have HRun := hid hrun
        clear hrun hpg6 hk6 hloc6 hst2 hx e1
        go_wp2_with (first | (at_builtin; refine wpList_append_run rfl rfl HRun.out ?_))
        go_roundw
        case rel => exact ⟨k + 1, by omega, by go_num, by rw [HST2.out]; exact HPG6.out, HB6.out⟩
        case measure => simp [intOf]; omega
    · obtain rfl : k = ps.length := by omega
      rw [List.take_length] at HPG
      have hlt' : ¬ ((ps.length : Nat) : Int) < (ps.length : Nat) := by omega
      go_wp2_with fail
      go_ret
      exact ⟨_, rfl, HPG.out, HBL.out⟩
end Go.Proofs.Ytambgimfbdecpaa
