/- What this text holds: strings, and numbers, that are handed in; a list of pages in memory. · What this text holds: 'begun': a formatted disk, a pager, and pages that are committed. -/
import Derived.Test.YtambgimfbdecpaaQ13
import Derived.SliceStrings
import Derived.Maps.AppendAt
namespace Go.Proofs.Ytambgimfbdecpaa
open Go.RowKit
set_option linter.unusedVariables false

theorem cell_later {w w' : World} {p : Addr} {v : Value} (hb : Below w.heap.size w w') (h : w.cell? p = some v) : w'.cell? p = some v := (hb.cell (World.block_lt_of_cell? w _ h)).trans h

/-- A slice of strings that was handed in. -/
def StrsOk (w : World) (a : Option Addr) (len : Nat) (ss : List ByteArray) : Prop :=
  ss.length = len ∧ len ≤ maxLen ∧ (∀ s ∈ ss, s.size ≤ maxLen) ∧ (len = 0 ∨ ∃ ab ao, a = some ⟨ab, ao, none⟩ ∧ ∀ j (hj : j < ss.length), w.cell? ⟨ab, ao + j, none⟩ = some (.string ss[j]))
theorem StrsOk.later {w w' : World} {a : Option Addr} {len : Nat} {ss : List ByteArray} (h : StrsOk w a len ss) (hb : Below w.heap.size w w') : StrsOk w' a len ss := by
  refine ⟨h.1, h.2.1, h.2.2.1, ?_⟩
  rcases h.2.2.2 with h0 | ⟨kb, ko, e, hk⟩
  · exact .inl h0
  · exact .inr ⟨kb, ko, e, fun j hj => cell_later hb (hk j hj)⟩
theorem StrsOk.get {w : World} {a : Option Addr} {len : Nat} {ss : List ByteArray} (h : StrsOk w a len ss) (j : Nat) (hj : j < ss.length) : ∃ ab ao, a = some ⟨ab, ao, none⟩ ∧ w.cell? ⟨ab, ao + j, none⟩ = some (.string ss[j]) ∧ (ss[j]).size ≤ maxLen := by
  rcases h.2.2.2 with h0 | ⟨kb, ko, e, hk⟩
  · have := h.1; omega
  · exact ⟨kb, ko, e, hk j hj, h.2.2.1 _ (List.getElem_mem hj)⟩
/-- Numbers that were. -/
def IntsOk (w : World) (a : Option Addr) (len : Nat) (zs : List Int) : Prop :=
  zs.length = len ∧ len ≤ maxLen ∧ (len = 0 ∨ ∃ ab ao, a = some ⟨ab, ao, none⟩ ∧ ∀ j (hj : j < zs.length), w.cell? ⟨ab, ao + j, none⟩ = some (.int .i64 zs[j]))
theorem IntsOk.later {w w' : World} {a : Option Addr} {len : Nat} {zs : List Int} (h : IntsOk w a len zs) (hb : Below w.heap.size w w') : IntsOk w' a len zs := by
  refine ⟨h.1, h.2.1, ?_⟩
  rcases h.2.2 with h0 | ⟨kb, ko, e, hk⟩
  · exact .inl h0
  · exact .inr ⟨kb, ko, e, fun j hj => cell_later hb (hk j hj)⟩
theorem IntsOk.get {w : World} {a : Option Addr} {len : Nat} {zs : List Int} (h : IntsOk w a len zs) (j : Nat) (hj : j < zs.length) : ∃ ab ao, a = some ⟨ab, ao, none⟩ ∧ w.cell? ⟨ab, ao + j, none⟩ = some (.int .i64 zs[j]) := by
  rcases h.2.2 with h0 | ⟨kb, ko, e, hk⟩
  · have := h.1; omega
  · exact ⟨kb, ko, e, hk j hj⟩

theorem cells9 : Try.prog.cellsOf 9 = 1 := by kernel_rfl
theorem cells3 : Try.prog.cellsOf 3 = 1 := by kernel_rfl
section
variable {H : Type} {enc : TypeId × Value → H} {W : World} {held : Bool}
theorem spot_none {W : World} {kb ko : Nat} {sp : Option Nat} {v : Value} (h : W.cell? ((⟨kb, ko, sp⟩ : Addr).add 0) = some v) : sp = none := by
  simp only [Addr.add, if_true, World.cell?] at h
  cases sp with
  | none => rfl
  | some s => split at h <;> simp at h
theorem open_strsOk {fuel : Nat} {a : Option Addr} {len cap : Nat} {x : DataW H × List MemPlace} (h : DataW.trod enc Try.prog W 0 (fun _ => true) held fuel 56 [.slice a len cap] = some x) : ∃ ss, StrsOk W a len ss := by
  rcases Go.ChangeShapes.open_strings Try.underlying56 Try.underlying9 cells9 h with ⟨hcs, _⟩ | ⟨a', len', cap', ss, hcs, _, hl, hm, hz, _, hc, hw⟩
  · simp only [List.cons.injEq, Value.slice.injEq, and_true] at hcs
    obtain ⟨rfl, rfl, rfl⟩ := hcs
    exact ⟨[], rfl, by unfold maxLen; omega, (fun s hs => nomatch hs), .inl rfl⟩
  · simp only [List.cons.injEq, Value.slice.injEq, and_true] at hcs
    obtain ⟨rfl, rfl, rfl⟩ := hcs
    simp only [if_true] at hz
    refine ⟨ss.take len, by rw [List.length_take]; omega, by omega, fun s hs => hw s (List.mem_of_mem_take hs), ?_⟩
    by_cases h0 : len = 0
    · exact .inl h0
    · right
      obtain ⟨kb, ko, sp⟩ := a'
      obtain rfl := spot_none (hc 0 (by omega))
      refine ⟨kb, ko, rfl, fun j hj => ?_⟩
      rw [List.length_take] at hj
      have := hc j (by omega)
      rw [Addr.add_mid, List.getD_eq_getElem?_getD, List.getElem?_eq_getElem (by omega)] at this
      rw [List.getElem_take]
      exact this
theorem open_intsOk {fuel : Nat} {a : Option Addr} {len cap : Nat} {x : DataW H × List MemPlace} (h : DataW.trod enc Try.prog W 0 (fun _ => true) held fuel 51 [.slice a len cap] = some x) : ∃ zs, IntsOk W a len zs := by
  rcases Go.ChangeShapes.open_ints Try.underlying51 Try.underlying3 cells3 h with ⟨hcs, _⟩ | ⟨a', len', cap', ss, hcs, _, hl, hm, hz, _, hc, hw⟩
  · simp only [List.cons.injEq, Value.slice.injEq, and_true] at hcs
    obtain ⟨rfl, rfl, rfl⟩ := hcs
    exact ⟨[], rfl, by unfold maxLen; omega, .inl rfl⟩
  · simp only [List.cons.injEq, Value.slice.injEq, and_true] at hcs
    obtain ⟨rfl, rfl, rfl⟩ := hcs
    simp only [if_true] at hz
    refine ⟨ss.take len, by rw [List.length_take]; omega, by omega, ?_⟩
    by_cases h0 : len = 0
    · exact .inl h0
    · right
      obtain ⟨kb, ko, sp⟩ := a'
      obtain rfl := spot_none (hc 0 (by omega))
      refine ⟨kb, ko, rfl, fun j hj => ?_⟩
      rw [List.length_take] at hj
      have := hc j (by omega)
      rw [Addr.add_mid, List.getD_eq_getElem?_getD, List.getElem?_eq_getElem (by omega)] at this
      rw [List.getElem_take]
      exact this
end

/-- Cells of pages: each a number, and a content. -/
def pgc (l : List (Int × ByteArray)) : List Value := l.flatMap fun x => [.int .i64 x.1, .string x.2]
theorem pgc_length (l : List (Int × ByteArray)) : (pgc l).length = l.length * 2 := by
  induction l with
  | nil => rfl
  | cons x l ih => simp only [pgc, List.flatMap_cons, List.length_append, List.length_cons, List.length_nil] at ih ⊢; omega
theorem pgc_cons (x : Int × ByteArray) (l : List (Int × ByteArray)) : pgc (x :: l) = .int .i64 x.1 :: .string x.2 :: pgc l := by simp [pgc]
theorem pgc_at (l : List (Int × ByteArray)) : ∀ (i : Nat) (hi : i < l.length), (pgc l)[i * 2]? = some (.int .i64 (l[i]).1) ∧ (pgc l)[i * 2 + 1]? = some (.string (l[i]).2) := by
  induction l with
  | nil => intro i hi; simp at hi
  | cons x l ih =>
    intro i hi
    rw [pgc_cons]
    cases i with
    | zero => exact ⟨rfl, rfl⟩
    | succ i =>
      obtain ⟨h1, h2⟩ := ih i (by simpa using hi)
      rw [show (i + 1) * 2 = i * 2 + 1 + 1 by omega]
      simp only [List.getElem?_cons_succ, List.getElem_cons_succ]
      exact ⟨h1, h2⟩
theorem pgc_snoc (l : List (Int × ByteArray)) (x : Int × ByteArray) : pgc (l ++ [x]) = pgc l ++ [.int .i64 x.1, .string x.2] := by simp [pgc]
theorem pgc_oneCell (l : List (Int × ByteArray)) : ∀ v ∈ pgc l, v.oneCell' = true := by
  intro v hv
  simp only [pgc, List.mem_flatMap, List.mem_cons, List.not_mem_nil, or_false] at hv
  obtain ⟨x, _, h | h⟩ := hv <;> subst h <;> rfl
/-- A slice of pages lies in memory. -/
def PgsAt (w : World) (B : Nat) (v : Value) (ps : List (Int × ByteArray)) : Prop := w.ownsRow B 65 2 v ps.length (pgc ps)
theorem PgsAt.keep {w w' : World} {B : Nat} {v : Value} {ps : List (Int × ByteArray)} (h : PgsAt w B v ps) {S : List Nat} (k : Kept S w w') (hS : ∀ g, v.ownBlock = some g → g ∉ S) : PgsAt w' B v ps :=
  ownsRow_block h fun i hi => k.block i (h.lt i hi).2 (hS i hi)
theorem PgsAt.shape {w : World} {B : Nat} {v : Value} {ps : List (Int × ByteArray)} (h : PgsAt w B v ps) : ∃ a c, v = .slice a ps.length c := by
  rcases h.2 with ⟨h1, h2⟩ | ⟨g, cap, cur, h1, _⟩
  · exact ⟨none, 0, by rw [h1, h2]⟩
  · exact ⟨_, _, h1⟩
theorem PgsAt.get {w : World} {B : Nat} {v : Value} {ps : List (Int × ByteArray)} (h : PgsAt w B v ps) (i : Nat) (hi : i < ps.length) : ∃ g c, v = .slice (some ⟨g, 0, none⟩) ps.length c ∧ v.ownBlock = some g ∧ w.cell? ⟨g, i * 2, none⟩ = some (.int .i64 (ps[i]).1) ∧ w.cell? ⟨g, i * 2 + 1, none⟩ = some (.string (ps[i]).2) := by
  obtain ⟨g, c, e, _⟩ := ownsRow_some h (by omega)
  subst e
  obtain ⟨h1, h2⟩ := pgc_at ps i hi
  refine ⟨g, c, rfl, rfl, ?_, ?_⟩
  · rw [World.ownsRow.cellAt h _ (by omega), h1]
  · rw [World.ownsRow.cellAt h _ (by omega), h2]
theorem Try.info65 : (Try.prog.info? 65).map (fun i => (i.zero, i.size, i.bytes)) = some (some (.agg #[.int .i64 0, .string ⟨#[]⟩]), 2, 24) := by kernel_rfl
/-- The first bytes of a string, at most as many as a page has room for. -/
def cutS (s : ByteArray) : ByteArray := s.extract 0 (min s.size 492)
theorem cutS_size (s : ByteArray) : (cutS s).size ≤ 492 := by unfold cutS; rw [ByteArray.size_extract]; omega
end Go.Proofs.Ytambgimfbdecpaa
namespace Go.Proofs.Ytambgimfbdecpaa
open Go.RowKit Go.Maps
set_option linter.unusedVariables false

/-- The i-th content. -/
def conAt (ss : List ByteArray) (i : Nat) : ByteArray := cutS (ss.getD i ⟨#[]⟩)
theorem conAt_size (ss : List ByteArray) (i : Nat) : (conAt ss i).size ≤ 492 := cutS_size _
theorem conAt_eq (ss : List ByteArray) (i : Nat) (hi : i < ss.length) : conAt ss i = cutS ss[i] := by
  unfold conAt; rw [List.getD_eq_getElem?_getD, List.getElem?_eq_getElem hi]; rfl
/-- The first k pages. -/
def pagesOf (ss : List ByteArray) (k : Nat) : List (Int × ByteArray) := (List.range k).map fun (i : Nat) => (((i + 2 : Nat) : Int), conAt ss i)
theorem pagesOf_length (ss : List ByteArray) (k : Nat) : (pagesOf ss k).length = k := by simp [pagesOf]
theorem pagesOf_succ (ss : List ByteArray) (k : Nat) : pagesOf ss (k + 1) = pagesOf ss k ++ [(((k + 2 : Nat) : Int), conAt ss k)] := by simp [pagesOf, List.range_succ]
theorem pagesOf_get (ss : List ByteArray) (k i : Nat) (hi : i < (pagesOf ss k).length) : (pagesOf ss k)[i] = (((i + 2 : Nat) : Int), conAt ss i) := by simp [pagesOf]

/-- Behind k puts. -/
structure Beg (n : Nat) (ss : List ByteArray) (k : Nat) (P : PS) : Prop where
  r : Room n (k + 2) P
  pg : ∀ i, i < k → P.D.read (i + 2) = sealL i 2 (bOf (conAt ss i))
  r0 : P.D.read 0 = Z512
  r1 : P.D.read 1 = rootL 1 []
theorem Beg.start (n : Nat) (h4 : 4 ≤ n) (hn : n ≤ 4096) (ss : List ByteArray) : Beg n ss 0 (PS.fmt n) :=
  ⟨Room.start n h4, fun i hi => by omega, (fmt_read n h4 hn).1, (fmt_read n h4 hn).2⟩
theorem Room.put' {n i : Nat} {P : PS} (h : Room n i P) (h2 : 2 ≤ i) (hi : i < n) (kind : Int) (hk : 0 ≤ kind ∧ kind ≤ 255) (s : ByteArray) (hs : s.size ≤ 492) :
    (P.put kind s).1 = ((i : Int), 0) ∧ Room n (i + 1) (P.put kind s).2 ∧ (P.put kind s).2.D = P.D.wrote i (sealL kind 2 (bOf s)) := by
  have hl : lowFree P.st = i := by rw [h.st]; exact roomSt_low 2 n i (by omega) h2 hi
  have hg : P.gen + 1 = 2 := by rw [h.gen]; rfl
  rw [h.ok.put kind s (by rw [h.gen]; unfold okPage; omega) hs (by rw [hl]; omega) (by rw [h.st, h.n]; exact roomSt_length 2 n i h2 (by omega)), hl, hg]
  refine ⟨rfl, ⟨⟨h.ok.d.wrote _ _, h.ok.a⟩, h.gen, ?_, h.pins, h.n, ?_, ?_⟩, rfl⟩
  · show P.st.set i (2, 0) = _
    rw [h.st]
    exact roomSt_set 2 n i h2 hi
  · have := h.s
    simp only [DS.wrote]
    omega
  · have := h.w
    simp only [DS.wrote, List.length_append, List.length_cons, List.length_nil]
    omega
theorem Beg.put {n k : Nat} {ss : List ByteArray} {P : PS} (h : Beg n ss k P) (hk : k + 2 < n) (hk2 : k ≤ 255) : (P.put k (conAt ss k)).1 = (((k + 2 : Nat) : Int), 0) ∧ Beg n ss (k + 1) (P.put k (conAt ss k)).2 := by
  obtain ⟨h1, h2, h3⟩ := h.r.put' (by omega) hk k (by omega) (conAt ss k) (conAt_size ss k)
  refine ⟨h1, h2, fun i hi => ?_, ?_, ?_⟩
  · rw [h3, wrote_read]
    by_cases e : i = k
    · subst e; rw [if_pos rfl]
    · rw [if_neg (by omega)]; exact h.pg i (by omega)
  · rw [h3, wrote_read, if_neg (by omega)]; exact h.r0
  · rw [h3, wrote_read, if_neg (by omega)]; exact h.r1
/-- Committed. -/
structure Begun (n m : Nat) (ss : List ByteArray) (P : PS) : Prop where
  ok : P.ok
  gen : P.gen = 2
  root : P.root = ⟨#[111, 108, 100]⟩
  st : P.st = roomSt 1 n (m + 2)
  pins : P.pins = []
  pm : P.pm = 0
  n : P.D.n = n
  s : P.D.steps ≤ 20
  w : P.D.waits = []
  pg : ∀ i, i < m → P.D.read (i + 2) = sealL i 2 (bOf (conAt ss i))
  r0 : P.D.read 0 = rootL 2 (bOf ⟨#[111, 108, 100]⟩)
  r1 : P.D.read 1 = rootL 1 []
theorem roomSt_map' (f : Int × Int → Int × Int) (a b n i : Nat) (h0 : f (0, 0) = (0, 0)) (ha : f ((a : Int), 0) = ((b : Int), 0)) : (roomSt a n i).map f = roomSt b n i := by
  unfold roomSt
  simp [h0, ha]
theorem Beg.commit {n m : Nat} {ss : List ByteArray} {P : PS} (h : Beg n ss m P) (hpm : P.pm = 0) (hg : P.D.good) (hm : m ≤ 12) (h4 : 4 ≤ n) (hmn : m + 2 ≤ n) : (P.commit ⟨#[111, 108, 100]⟩).1 = 0 ∧ Begun n m ss (P.commit ⟨#[111, 108, 100]⟩).2 := by
  have hg2 : P.gen + 1 = 2 := by rw [h.r.gen]; rfl
  rw [h.r.ok.commit ⟨#[111, 108, 100]⟩ (by decide) (by rw [h.r.gen]; unfold okGen; omega) (by rw [h.r.n]; omega), hg2]
  have hs := h.r.s
  have hrd := fun j hj => laid_read hg 2 (rootL 2 (bOf ⟨#[111, 108, 100]⟩)) (rootL_length _ _ (by decide)) (by rw [h.r.n]; omega) (by omega) j hj
  refine ⟨rfl, ⟨h.r.ok.d.laid _ _, h.r.ok.a⟩, rfl, rfl, ?_, h.r.pins, hpm, h.r.n, ?_, rfl, fun i hi => ?_, ?_, ?_⟩
  · show ((P.st.map _).map _).map _ = _
    rw [h.r.st, roomSt_map' (turnF 2 (1, 0)) 2 1 n _ (by decide) (by decide), roomSt_map' (turnF 3 (4, 2)) 1 1 n _ (by decide) (by decide), roomSt_map' (relF _) 1 1 n _ (by simp [relF]) (by simp [relF])]
  · show (DS.laid _ _ _).steps ≤ 20
    rw [(laid_facts _ _ _).2.2]
    omega
  · show (DS.laid _ _ _).read _ = _
    rw [hrd (i + 2) (by rw [h.r.n]; omega), if_neg (by omega)]
    exact h.pg i hi
  · show (DS.laid _ _ _).read _ = _
    rw [hrd 0 (by rw [h.r.n]; omega), if_pos (by decide)]
  · show (DS.laid _ _ _).read _ = _
    rw [hrd 1 (by rw [h.r.n]; omega), if_neg (by decide)]
    exact h.r1

theorem hear_pm (P : PS) (e : Int) : (P.hear e).pm = P.pm := by unfold PS.hear; split <;> rfl
theorem put_pm (P : PS) (kind : Int) (s : ByteArray) (h : P.pm = 0) : (P.put kind s).2.pm = 0 := by
  unfold PS.put
  split
  · exact h
  · split
    · exact h
    · split
      · exact h
      · split
        · exact h
        · rw [hear_pm]; exact h
theorem Kept.drewN (S : List Nat) (w : World) : ∀ n, Kept S w (w.drewN n) := fun n => ⟨rfl, rfl, rfl, Nat.le_refl _, fun k _ _ => rfl⟩
theorem cutS_small {s : ByteArray} (h : s.size ≤ 492) : cutS s = s := by
  unfold cutS
  rw [Nat.min_eq_left h]
  exact ByteArray.extract_zero_size
theorem cutS_great {s : ByteArray} (h : ¬ s.size ≤ 492) : cutS s = s.extract 0 492 := by
  unfold cutS
  rw [Nat.min_eq_right (by omega)]

theorem wpList_append_run {ops : Array Oper} {rest : List Oper} {a : Act} {w w' : World} {Q : Exit → Act → World → Prop} {d : Option Tmp} {x y : Operand} {t ty : TypeId} {pos : String} {af : Array Edge} {u s v : Value} (hx : a.eval x = u) (hy : a.eval y = s)
    (hrun : (Builtin.append_ #[t, t] ty #[u, s]).run Try.prog w = .ok v w') (h : wpList Try.prog ops Q rest (a.put d v) w') : wpList Try.prog ops Q (⟨d, .call { callee := .builtin .append, args := #[x, y], argTypes := #[t, t] }, ty, pos, af, none⟩ :: rest) a w :=
  wpList_run rfl (exec_append hx hy hrun) h

/-- What begun ends in. -/
def BegunP (w : World) (n : Nat) (ss : List ByteArray) (e : Ending) (w' : World) : Prop :=
  ∃ db b hv all P, e = .returned (.tuple #[.pointer (some ⟨db, 0, none⟩), .pointer (some ⟨b, 0, none⟩), hv]) ∧ Pgr w' w.heap.size b db all P ∧ PgsAt w' w.heap.size hv (pagesOf ss (min ss.length 12)) ∧
    (∀ g, hv.ownBlock = some g → g ∉ all) ∧ Begun n (min ss.length 12) ss P ∧ Below w.heap.size w w'

/-- A page more in a list: the run of append. -/
theorem pgs_append {w : World} {B : Nat} {v : Value} {ps : List (Int × ByteArray)} (h : PgsAt w B v ps) (hB : B ≤ w.heap.size) (x : Int × ByteArray) (hl : ps.length ≤ 1000) :
    ∃ v' w', (Builtin.append_ #[57, 57] 57 #[v, .slice (some ⟨w.heap.size, 0, none⟩) 1 1]).run Try.prog (w.alloc (.cells #[.int .i64 x.1, .string x.2] 65)) = .ok v' w' ∧ PgsAt w' B v' (ps ++ [x]) ∧
      Kept v.ownBlock.toList w w' ∧ (v'.ownBlock = v.ownBlock ∨ ∃ g, v'.ownBlock = some g ∧ w.heap.size ≤ g) := by
  obtain ⟨i, hi, hz0, hz1, hz2⟩ := info_parts Try.info65
  have hal : (w.alloc (.cells #[.int .i64 x.1, .string x.2] 65)).heap[w.heap.size]? = some (.cells #[.int .i64 x.1, .string x.2] 65 (0, 0)) := heap_alloc_new _ _
  obtain ⟨v', w', hr, ho, hg, _, hloc⟩ := run_append_own_at (P := Try.prog) (w.alloc (.cells #[.int .i64 x.1, .string x.2] 65)) B 57 57 65 i _ 2 24 Try.underlying57 hi hz0 hz1 hz2 rfl (by omega) v ps.length (pgc ps) (World.ownsRow.alloc h _)
    ⟨w.heap.size, 0, none⟩ 1 1 [.int .i64 x.1, .string x.2] rfl (fun j u hu => by
      rw [Addr.add_mid, Nat.zero_add]
      simp only [World.cell?, hal]
      simpa using hu) (fun u hu => by simp only [List.mem_cons, List.not_mem_nil, or_false] at hu; rcases hu with rfl | rfl <;> rfl) (by unfold maxLen; omega) (by omega) (by simp; omega)
  refine ⟨v', w', hr, ?_, (Kept.alloc _ w _).trans (Kept.ofGrown hg v.ownBlock.toList (fun k hk => by simp [hk])) (fun _ _ h => h), ?_⟩
  · unfold PgsAt
    rw [pgc_snoc, List.length_append]
    exact ho
  · rcases hloc with h' | h'
    · exact .inl h'
    · refine .inr ⟨_, h', ?_⟩
      simp

set_option maxRecDepth 100000 in
set_option maxHeartbeats 4000000 in
theorem begun_any (w : World) (n : Nat) (h16 : 16 ≤ n) (hn : n ≤ 30) (a : Option Addr) (len cap : Nat) (ss : List ByteArray) (hS : StrsOk w a len ss) :
    Calls Try.prog 28 #[.int .i64 n, .slice a len cap] w (BegunP w n ss) := by
  have HS := hid hS
  have hlen := hS.1
  have hm := hS.2.1
  unfold maxLen at hm
  clear hS
  go_enter Try.func28, Try.ntmps28
  go_wp2_with fail
  refine (new_yes n _ (by omega) (by omega)).mono ?_
  rintro e w1 ⟨db, own, rfl, hd1, hb1⟩
  have HD1 := hid hd1
  have HB1 := hid hb1
  clear hd1 hb1
  go_wp2_with fail
  have hF := format_all HD1.out (DS.byt.blank n) (by simp [DS.blank]) (by simp [DS.blank])
  rw [format_blank n (by omega)] at hF
  refine hF.mono ?_
  rintro e w2 ⟨rfl, own2, hd2, hk2, hn2⟩
  have HD2 := hid hd2
  have HB2 := hid (HD1.out.below hk2 HB1.out (Nat.le_refl _))
  clear hd2 hk2 hn2 hF HD1 HB1
  go_wp2_with (first | (go_at_call 11; refine (no_any _ _).mono ?_; rintro e wc ⟨rfl, rfl⟩))
  refine (open_fmt HD2.out (by omega) (by omega)).mono ?_
  rintro e w3 ⟨b, gs, mb, rfl, hp3, hb3⟩
  have HP3 := hid hp3
  have HB3 := hid (HB2.out.trans (hb3.mono HB2.out.size))
  clear hp3 hb3 HD2 HB2
  go_wp2_with (first | (go_at_call 11; refine (no_any _ _).mono ?_; rintro e wc ⟨rfl, rfl⟩))
  go_loopw [12, 11] (fun q hv wr => ∃ k : Nat, k ≤ min ss.length 12 ∧ q = .int .i64 k ∧ ∃ P all, Pgr wr w.heap.size b db all P ∧ P.pm = 0 ∧ Beg n ss k P ∧ PgsAt wr w.heap.size hv (pagesOf ss k) ∧ (∀ g, hv.ownBlock = some g → g ∉ all) ∧ Below w.heap.size w wr) (fun q _ _ => 12 - (intOf q).toNat)
  case atStart => exact ⟨0, by omega, rfl, _, _, HP3.out, rfl, Beg.start n (by omega) (by omega) ss, World.ownsRow_nil _ _ _ _, fun g hg => by simp [Value.ownBlock] at hg, HB3.out⟩
  case round =>
    obtain ⟨k, hkm, rfl, P, all, hP, hpm, hBeg, hPg, hSep, hBel⟩ := hrel
    have HP := hid hP
    have HPM := hid hpm
    have HBG := hid hBeg
    have HPG := hid hPg
    have HSP := hid hSep
    have HBL := hid hBel
    clear hP hpm hBeg hPg hSep hBel HP3 HB3
    by_cases hlt : k < min ss.length 12
    · have hk1 : (k : Int) < len := by omega
      have hk2 : (k : Int) < 12 := by omega
      obtain ⟨ab, ao, ha, hc, hsz⟩ := (HS.out.later HBL.out).get k (by omega)
      subst ha
      have hcon := conAt_eq ss k (by omega)
      generalize ss[k]'(by omega) = s at hc hsz hcon
      have HCon := hid hcon
      have HSz := hid hsz
      unfold maxLen at hsz
      clear hcon
      by_cases h492 : s.size ≤ 492
      · have h492' : ¬ (492 : Int) < s.size := by omega
        have HX : Hid (conAt ss k = s) := by have := HCon.out; rw [cutS_small h492] at this; exact this
        clear h492

        obtain ⟨hr1, hr2⟩ := HBG.out.put (by omega) (by omega)
        rw [HX.out] at hr1 hr2

        go_wp2_with fail
        go_quiet (fail)
        have hP0 := HP.out.keep (Kept.drewN [] wr nq) (by simp)
        have hput := put_all hP0 (by rw [HBG.out.r.s]; omega) (by rw [HBG.out.r.w]; omega) k s (by unfold maxLen; have := conAt_size ss k; rw [HX.out] at this; omega)
        rw [hr1] at hput
        have HPut := hid hput
        have HP0 := hid hP0
        have HR2 := hid hr2
        have HPM2 := hid (put_pm P k s HPM.out)
        have HB0 := hid (below_kept HBL.out (Kept.drewN [] wr nq) (by simp) HBL.out.size)
        have HPG0 := hid (HPG.out.keep (Kept.drewN [] wr nq) (by simp))
        clear hput hP0 hr1 hr2
        go_wp2_with fail
        refine HPut.out.mono ?_
        rintro e w5 ⟨rfl, all5, hp5, hk5, hn5⟩
        have HP5 := hid hp5
        have HB5 := hid (DidP.below HP0.out hk5 HB0.out (Nat.le_refl _))
        have HPG5 := hid (HPG0.out.keep hk5 (fun g hg => HSP.out g hg))
        have HSP5 : Hid (∀ g, u11.ownBlock = some g → g ∉ all5) := fun g hg hm => by
          rcases hn5 g hm with h | h
          · exact HSP.out g hg h
          · have := (HPG0.out.lt g hg).2; omega
        clear hp5 hk5 hn5
        obtain ⟨v', w6, hrun, hpg6, hk6, hloc6⟩ := pgs_append HPG5.out (Nat.le_trans (Nat.le_refl _) HB5.out.size) (((k + 2 : Nat) : Int), conAt ss k) (by rw [pagesOf_length]; omega)
        rw [← pagesOf_succ] at hpg6
        have e2 : ((k + 2 : Nat) : Int) = (k : Int) + 2 := by omega
        simp only [HX.out, e2] at hrun
        have HPG6 := hid hpg6
        have HRun := hid hrun
        have HP6 := hid (HP5.out.keep hk6 (fun i hi hm => by simp only [Option.mem_toList] at hm; exact HSP5.out i hm hi))
        have HB6 := hid (below_kept HB5.out hk6 (fun i hi => by simp only [Option.mem_toList] at hi; exact (HPG5.out.lt i hi).1) HB5.out.size)
        have HSP6 : Hid (∀ g, v'.ownBlock = some g → g ∉ all5) := fun g hg hm => by
          rcases hloc6 with h | ⟨g', h1, h2⟩
          · exact HSP5.out g (by rw [← h]; exact hg) hm
          · rw [h1] at hg
            cases hg
            have := (HP5.out.lt _ hm).2
            omega
        clear hrun hpg6 hk6 hloc6
        go_wp2_with (first | (go_at_call 11; refine (no_any _ _).mono ?_; rintro e wc ⟨rfl, rfl⟩) | (at_builtin; refine wpList_append_run rfl rfl HRun.out ?_))
        go_roundw
        case rel => exact ⟨k + 1, by omega, by go_num, _, all5, HP6.out, HPM2.out, HR2.out, HPG6.out, HSP6.out, HB6.out⟩
        case measure => simp [intOf]; omega
      · have h492' : (492 : Int) < s.size := by omega
        have HX : Hid (conAt ss k = s.extract 0 492) := by have := HCon.out; rw [cutS_great h492] at this; exact this
        clear h492

        obtain ⟨hr1, hr2⟩ := HBG.out.put (by omega) (by omega)
        rw [HX.out] at hr1 hr2

        go_wp2_with fail
        go_quiet (fail)
        have hP0 := HP.out.keep (Kept.drewN [] wr nq) (by simp)
        have hput := put_all hP0 (by rw [HBG.out.r.s]; omega) (by rw [HBG.out.r.w]; omega) k (s.extract 0 492) (by unfold maxLen; have := conAt_size ss k; rw [HX.out] at this; omega)
        rw [hr1] at hput
        have HPut := hid hput
        have HP0 := hid hP0
        have HR2 := hid hr2
        have HPM2 := hid (put_pm P k (s.extract 0 492) HPM.out)
        have HB0 := hid (below_kept HBL.out (Kept.drewN [] wr nq) (by simp) HBL.out.size)
        have HPG0 := hid (HPG.out.keep (Kept.drewN [] wr nq) (by simp))
        clear hput hP0 hr1 hr2
        go_wp2_with fail
        refine HPut.out.mono ?_
        rintro e w5 ⟨rfl, all5, hp5, hk5, hn5⟩
        have HP5 := hid hp5
        have HB5 := hid (DidP.below HP0.out hk5 HB0.out (Nat.le_refl _))
        have HPG5 := hid (HPG0.out.keep hk5 (fun g hg => HSP.out g hg))
        have HSP5 : Hid (∀ g, u11.ownBlock = some g → g ∉ all5) := fun g hg hm => by
          rcases hn5 g hm with h | h
          · exact HSP.out g hg h
          · have := (HPG0.out.lt g hg).2; omega
        clear hp5 hk5 hn5
        obtain ⟨v', w6, hrun, hpg6, hk6, hloc6⟩ := pgs_append HPG5.out (Nat.le_trans (Nat.le_refl _) HB5.out.size) (((k + 2 : Nat) : Int), conAt ss k) (by rw [pagesOf_length]; omega)
        rw [← pagesOf_succ] at hpg6
        have e2 : ((k + 2 : Nat) : Int) = (k : Int) + 2 := by omega
        simp only [HX.out, e2] at hrun
        have HPG6 := hid hpg6
        have HRun := hid hrun
        have HP6 := hid (HP5.out.keep hk6 (fun i hi hm => by simp only [Option.mem_toList] at hm; exact HSP5.out i hm hi))
        have HB6 := hid (below_kept HB5.out hk6 (fun i hi => by simp only [Option.mem_toList] at hi; exact (HPG5.out.lt i hi).1) HB5.out.size)
        have HSP6 : Hid (∀ g, v'.ownBlock = some g → g ∉ all5) := fun g hg hm => by
          rcases hloc6 with h | ⟨g', h1, h2⟩
          · exact HSP5.out g (by rw [← h]; exact hg) hm
          · rw [h1] at hg
            cases hg
            have := (HP5.out.lt _ hm).2
            omega
        clear hrun hpg6 hk6 hloc6
        go_wp2_with (first | (go_at_call 11; refine (no_any _ _).mono ?_; rintro e wc ⟨rfl, rfl⟩) | (at_builtin; refine wpList_append_run rfl rfl HRun.out ?_))
        go_roundw
        case rel => exact ⟨k + 1, by omega, by go_num, _, all5, HP6.out, HPM2.out, HR2.out, HPG6.out, HSP6.out, HB6.out⟩
        case measure => simp [intOf]; omega
    · obtain rfl : k = min ss.length 12 := by omega
      have hcom := commit_all HP.out (by rw [HBG.out.r.s]; omega) ⟨#[111, 108, 100]⟩ (by unfold maxLen; decide)
      obtain ⟨hr1, hr2⟩ := HBG.out.commit HPM.out HP.out.good (by omega) (by omega) (by omega)
      rw [hr1] at hcom
      generalize (P.commit ⟨#[111, 108, 100]⟩).2 = P6 at hcom hr2
      have HCom := hid hcom
      have HR6 := hid hr2
      obtain ⟨hva, hvc, hsh⟩ := HPG.out.shape
      have HSH := hid hsh
      clear hcom hr1 hr2 hsh
      by_cases h1 : (((min ss.length 12 : Nat) : Int) < len)
      · have h2 : ¬ (((min ss.length 12 : Nat) : Int) < 12) := by omega
        go_wp2_with fail
        refine HCom.out.mono ?_
        rintro e w6 ⟨rfl, all6, hp6, hk6, hn6⟩
        have HFin : Hid (BegunP w n ss (.returned (.tuple #[.pointer (some ⟨db, 0, none⟩), .pointer (some ⟨b, 0, none⟩), u11])) w6) :=
          ⟨db, b, u11, all6, P6, rfl, hp6, HPG.out.keep hk6 HSP.out, fun g hg hm => by
            rcases hn6 g hm with h | h
            · exact HSP.out g hg h
            · have := (HPG.out.lt g hg).2; omega, HR6.out, DidP.below HP.out hk6 HBL.out (Nat.le_refl _)⟩
        clear hp6 hk6 hn6
        go_wp2_with (first | (go_at_call 11; refine (no_any _ _).mono ?_; rintro e wc ⟨rfl, rfl⟩))
        go_ret3
        exact HFin.out
      · go_wp2_with fail
        refine HCom.out.mono ?_
        rintro e w6 ⟨rfl, all6, hp6, hk6, hn6⟩
        have HFin : Hid (BegunP w n ss (.returned (.tuple #[.pointer (some ⟨db, 0, none⟩), .pointer (some ⟨b, 0, none⟩), u11])) w6) :=
          ⟨db, b, u11, all6, P6, rfl, hp6, HPG.out.keep hk6 HSP.out, fun g hg hm => by
            rcases hn6 g hm with h | h
            · exact HSP.out g hg h
            · have := (HPG.out.lt g hg).2; omega, HR6.out, DidP.below HP.out hk6 HBL.out (Nat.le_refl _)⟩
        clear hp6 hk6 hn6
        go_wp2_with (first | (go_at_call 11; refine (no_any _ _).mono ?_; rintro e wc ⟨rfl, rfl⟩))
        go_ret3
        exact HFin.out
end Go.Proofs.Ytambgimfbdecpaa
