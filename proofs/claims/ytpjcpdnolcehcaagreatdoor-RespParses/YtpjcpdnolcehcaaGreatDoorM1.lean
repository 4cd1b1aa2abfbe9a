/- What this text holds: strings as lists of bytes; lists of texts, of bytes, of numbers, of values and of lines in memory, of one's own and of others. -/
import Derived.Test.YtpjcpdnolcehcaaGreatDoorBase
import Derived.Lib.AppendStr
import Derived.Lib.Strings
import Derived.Maps.AppendAt
import Derived.OneCell
import Derived.Laws.Shifts
import Derived.Laws.Bits64b
import Derived.Laws.MakeOwn
import Derived.Deep.QuietTactic
import Derived.BigQuiet
import Derived.Laws.EntriesVeiled
namespace Go.Proofs.YtpjcpdnolcehcaaGreatDoor
open Go.RowKit
set_option linter.unusedVariables false
set_option linter.unusedSimpArgs false

abbrev Bs := List UInt8
theorem lt_of_some {w : World} {b : Nat} {o : Obj} (h : w.heap[b]? = some o) : b < w.heap.size := (Array.getElem?_eq_some_iff.1 h).1
theorem drewN_below (w : World) (n B : Nat) : Below B w (w.drewN n) := ⟨rfl, rfl, rfl, Nat.le_refl _, fun _ _ => rfl⟩
def str (l : List UInt8) : ByteArray := ⟨l.toArray⟩
theorem str_data (l : List UInt8) : (str l).data.toList = l := rfl
theorem str_size (l : List UInt8) : (str l).size = l.length := by simp [str, ByteArray.size]
theorem str_of (s : ByteArray) : str s.data.toList = s := by cases s; simp [str]
theorem drop_str (l : Bs) (n : Nat) : (str l).extract n (str l).size = str (l.drop n) := by
  rw [Go.Lib.extract_eq, Go.Lib.size_eq, List.take_of_length_le (by simp)]
  rfl
theorem take_str (l : Bs) (n : Nat) : (str l).extract 0 n = str (l.take n) := by
  rw [Go.Lib.extract_eq]
  rfl
theorem mid_str (l : Bs) (m n : Nat) : (str l).extract m n = str ((l.drop m).take (n - m)) := by
  rw [Go.Lib.extract_eq]
  rfl
theorem app_str (l m : Bs) : str l ++ str m = str (l ++ m) := by
  apply ByteArray.ext
  simp [str]
theorem str_inj {l m : Bs} (h : str l = str m) : l = m := by
  have := congrArg (fun s => s.data.toList) h
  exact this
theorem toL (l : Bs) : (str l).toList = l := by rw [Go.Lib.toList_data, str_data]

theorem exec_append {a : Act} {x y : Operand} {u s : Value} {w w' : World} {v : Value} {d : Option Tmp} {t t2 ty : Nat} {pos : String} {af : Array Edge} {g : Option (Nat × Bool)} (hx : a.eval x = u) (hy : a.eval y = s)
    (h : (Builtin.append_ #[t, t2] ty #[u, s]).run Tryz.prog w = .ok v w') : (execOp a.eval ⟨d, .call { callee := .builtin .append, args := #[x, y], argTypes := #[t, t2] }, ty, pos, af, g⟩).run Tryz.prog w = .ok (.value v) w' := by
  simp only [execOp, resolve, invoke, builtin, Sem.run_bind, Sem.run_pure, Result.andThen_ok, List.map_toArray, List.map_cons, List.map_nil, hx, hy, h]
theorem wpList_append_run {ops : Array Oper} {rest : List Oper} {Q : Exit → Act → World → Prop} {a : Act} {x y : Operand} {u s : Value} {w w' : World} {v : Value} {d : Option Tmp} {t t2 ty : Nat} {pos : String} {af : Array Edge} (hx : a.eval x = u) (hy : a.eval y = s)
    (hrun : (Builtin.append_ #[t, t2] ty #[u, s]).run Tryz.prog w = .ok v w') (h : wpList Tryz.prog ops Q rest (a.put d v) w') : wpList Tryz.prog ops Q (⟨d, .call { callee := .builtin .append, args := #[x, y], argTypes := #[t, t2] }, ty, pos, af, none⟩ :: rest) a w := by
  refine wpList_plain rfl fun K hK => ?_
  unfold Oper.wp
  rw [exec_append hx hy hrun]
  exact hK _ _ h

/-- How elements of a list lie in memory. -/
structure En (α : Type) where
  enc : α → List Value
  k : Nat
  T : TypeId
  t : TypeId
  by_ : Nat
  z : Value
  len : ∀ x, (enc x).length = k
  one : ∀ x, ∀ v ∈ enc x, v.oneCell' = true
  ut : Tryz.prog.underlying t = some (.slice T)
  inf : (Tryz.prog.info? T).map (fun i => (i.zero, i.size, i.bytes)) = some (some z, k, by_)
  hz : z.cells.size = k
  hk : 0 < k
  hby : by_ ≤ 1000
variable {α : Type}
def En.cs (E : En α) (l : List α) : List Value := l.flatMap E.enc
theorem En.cs_append (E : En α) (l m : List α) : E.cs (l ++ m) = E.cs l ++ E.cs m := by simp [En.cs]
theorem En.cs_one (E : En α) (l : List α) : ∀ v ∈ E.cs l, v.oneCell' = true := by
  intro v hv
  simp only [En.cs, List.mem_flatMap] at hv
  obtain ⟨x, _, hx⟩ := hv
  exact E.one x v hx
theorem En.cs_len (E : En α) (l : List α) : (E.cs l).length = l.length * E.k := by
  induction l with
  | nil => simp [En.cs]
  | cons a l ih =>
    have : E.cs (a :: l) = E.enc a ++ E.cs l := rfl
    rw [this, List.length_append, E.len, ih, List.length_cons, Nat.succ_mul]; omega
theorem En.cs_at (E : En α) : ∀ (l : List α) (j i : Nat) (x : α) (v : Value), l[j]? = some x → (E.enc x)[i]? = some v → (E.cs l)[j * E.k + i]? = some v
  | [], j, i, x, v, h1, h2 => by simp at h1
  | a :: l, 0, i, x, v, h1, h2 => by
    simp at h1; subst h1
    have hi : i < (E.enc a).length := (List.getElem?_eq_some_iff.1 h2).1
    have : E.cs (a :: l) = E.enc a ++ E.cs l := rfl
    rw [this, Nat.zero_mul, Nat.zero_add, List.getElem?_append_left hi]
    exact h2
  | a :: l, j + 1, i, x, v, h1, h2 => by
    have ih := E.cs_at l j i x v (by simpa using h1) h2
    have : E.cs (a :: l) = E.enc a ++ E.cs l := rfl
    rw [this, List.getElem?_append_right (by rw [E.len, Nat.succ_mul]; omega), E.len, show (j + 1) * E.k + i - E.k = j * E.k + i by rw [Nat.succ_mul]; omega]
    exact ih
/-- Elements lie in memory. -/
def GA (E : En α) (w : World) (g o : Nat) (l : List α) : Prop := ∀ (j i : Nat) (x : α) (v : Value), l[j]? = some x → (E.enc x)[i]? = some v → w.cell? ⟨g, o + (j * E.k + i), none⟩ = some v
def GL (E : En α) (w : World) (v : Value) (l : List α) : Prop := ∃ a c, v = .slice a l.length c ∧ l.length ≤ c ∧ (l = [] ∨ ∃ g o, a = some ⟨g, o, none⟩ ∧ GA E w g o l ∧ g < w.heap.size)
theorem GA.later {E : En α} {w w' : World} {g o : Nat} {l : List α} (h : GA E w g o l) (hb : Below w.heap.size w w') : GA E w' g o l := by
  intro j i x v h1 h2
  have := h j i x v h1 h2
  exact (World.cell?_of_block (hb.block g (World.block_lt_of_cell? w _ this))).trans this
theorem GL.later {E : En α} {w w' : World} {v : Value} {l : List α} (h : GL E w v l) (hb : Below w.heap.size w w') : GL E w' v l := by
  obtain ⟨a, c, rfl, hc, h⟩ := h
  refine ⟨a, c, rfl, hc, ?_⟩
  rcases h with h | ⟨g, o, rfl, h, hg⟩
  · exact .inl h
  · exact .inr ⟨g, o, rfl, h.later hb, Nat.lt_of_lt_of_le hg hb.size⟩
/-- Elements of one's own. -/
def GO (E : En α) (w : World) (B : Nat) (v : Value) (l : List α) : Prop := w.ownsRow B E.T E.k v l.length (E.cs l)
theorem GO.nil (E : En α) (w : World) (B : Nat) : GO E w B (.slice none 0 0) [] := ⟨by simp [En.cs], .inl ⟨rfl, rfl⟩⟩
theorem GO.later {E : En α} {w w' : World} {B : Nat} {v : Value} {l : List α} (h : GO E w B v l) (hb : Below w.heap.size w w') : GO E w' B v l :=
  ownsRow_block h (fun g hg => hb.block g (World.ownsRow.lt h g hg).2)
theorem GO.base {E : En α} {w : World} {B B' : Nat} {v : Value} {l : List α} (h : GO E w B v l) (hB : B' ≤ B) : GO E w B' v l := ownsRow_base h hB
theorem GO.slice {E : En α} {w : World} {B : Nat} {v : Value} {l : List α} (h : GO E w B v l) {n : Nat} (hn : l.length = n) : ∃ a c, v = .slice a n c := by
  subst hn
  rcases h.2 with ⟨h1, h2⟩ | ⟨g, cap, cur, h1, _⟩
  · exact ⟨none, 0, by rw [h1, h2]⟩
  · exact ⟨_, _, h1⟩
theorem GO.gl {E : En α} {w : World} {B : Nat} {v : Value} {l : List α} (h : GO E w B v l) : GL E w v l := by
  rcases id h.2 with ⟨rfl, h0⟩ | ⟨g, cap, cur, rfl, _, hg, hc, _⟩
  · have := List.eq_nil_of_length_eq_zero h0
    subst this
    exact ⟨none, 0, rfl, by simp, .inl rfl⟩
  · refine ⟨_, cap, rfl, hc, .inr ⟨g, 0, rfl, fun j i x v h1 h2 => ?_, lt_of_some hg⟩⟩
    have := World.ownsRow.cells h rfl (j * E.k + i) v (E.cs_at l j i x v h1 h2)
    rw [Addr.add_mid] at this
    exact this
theorem GO.ne {E : En α} {w : World} {B b : Nat} {X : Array Value} {t : TypeId} {fr : Nat × Nat} {v : Value} {l : List α} (ht : t ≠ E.T) (hb : w.heap[b]? = some (.cells X t fr)) (h : GO E w B v l) : v.ownBlock ≠ some b := by
  intro e
  rcases h.2 with ⟨h1, _⟩ | ⟨g, cap, cur, h1, _, h2, _⟩
  · subst h1; simp [Value.ownBlock] at e
  · subst h1
    simp only [Value.ownBlock, Option.some.injEq] at e
    subst e
    rw [hb] at h2
    simp at h2
    exact ht h2.2.1
theorem GO.setOther {E : En α} {w : World} {B b : Nat} {X : Array Value} {t : TypeId} {fr : Nat × Nat} {v : Value} {l : List α} (h : GO E w B v l) (ht : t ≠ E.T) (hb : w.heap[b]? = some (.cells X t fr)) (o : Nat) (u : Value) : GO E (w.setCell ⟨b, o, none⟩ u) B v l :=
  ownsRow_setCell_other h (h.ne ht hb) _
/-- More elements. -/
theorem go_more (E : En α) {w : World} {B : Nat} {v : Value} {l : List α} (h : GO E w B v l) (hBw : B ≤ w.heap.size) {u : Value} {m : List α} (hu : GL E w u m) (hl : l.length ≤ 10000000000) (hm : m.length ≤ 1000000000) (hne : m ≠ []) :
    ∃ v' w', (Builtin.append_ #[E.t, E.t] E.t #[v, u]).run Tryz.prog w = .ok v' w' ∧ GO E w' B v' (l ++ m) ∧ Below B w w' ∧ w.grownBy w' v.ownBlock := by
  obtain ⟨i, hi, hz0, hz1, hz2⟩ := info_parts E.inf
  obtain ⟨a, c, rfl, hc, hs⟩ := hu
  rcases hs with hs | ⟨g, o, rfl, hs, hg⟩
  · exact absurd hs hne
  · obtain ⟨v', w', hr, ho', hg, _, _⟩ := run_append_own_at (P := Tryz.prog) w B E.t E.t E.T i _ E.k E.by_ E.ut hi hz0 hz1 hz2 E.hz E.hk v l.length (E.cs l) h
      ⟨g, o, none⟩ m.length c (E.cs m) (E.cs_len m) (fun j x hx => by
        rw [Addr.add_mid]
        have hj : j < (E.cs m).length := (List.getElem?_eq_some_iff.1 hx).1
        rw [E.cs_len] at hj
        have e1 : j / E.k < m.length := (Nat.div_lt_iff_lt_mul E.hk).2 hj
        have e2 : j % E.k < E.k := Nat.mod_lt _ E.hk
        have e3 : j / E.k * E.k + j % E.k = j := by rw [Nat.mul_comm]; exact Nat.div_add_mod j E.k
        have e4 : m[j / E.k]? = some m[j / E.k] := List.getElem?_eq_getElem e1
        have e5 : (E.enc m[j / E.k])[j % E.k]? = some ((E.enc m[j / E.k])[j % E.k]'(by rw [E.len]; exact e2)) := List.getElem?_eq_getElem _
        have e7 := E.cs_at m _ _ _ _ e4 e5
        rw [e3, hx] at e7
        have := hs _ _ _ _ e4 e5
        rw [e3] at this
        rw [this, Option.some.inj e7]) (E.cs_one m) (by unfold maxLen; omega) (by
          have : (l.length + m.length) * E.by_ ≤ 11000000000 * 1000 := Nat.mul_le_mul (by omega) E.hby
          omega) hBw
    rw [← E.cs_append, show l.length + m.length = (l ++ m).length by simp] at ho'
    exact ⟨v', w', hr, ho', (Below.refl B w).grown hg hBw (fun k hk => (World.ownsRow.lt h k hk).1), hg⟩
theorem ga_one (E : En α) (w : World) (x : α) : GL E (w.alloc (.cells (E.enc x).toArray E.T)) (.slice (some ⟨w.heap.size, 0, none⟩) 1 1) [x] := by
  refine ⟨_, 1, rfl, by simp, .inr ⟨_, 0, rfl, fun j i q v h1 h2 => ?_, by simp⟩⟩
  cases j with
  | zero =>
    simp at h1
    subst h1
    simp only [World.cell?, heap_alloc_new, Nat.zero_add, Nat.zero_mul]
    simp [h2]
  | succ j => simp at h1
/-- One more element. -/
theorem go_one (E : En α) {w : World} {B : Nat} {v : Value} {l : List α} (h : GO E w B v l) (hBw : B ≤ w.heap.size) (hl : l.length ≤ 10000000000) (x : α) (n : Nat) (hn : w.heap.size = n) :
    ∃ v' w', (Builtin.append_ #[E.t, E.t] E.t #[v, .slice (some ⟨n, 0, none⟩) 1 1]).run Tryz.prog (w.alloc (.cells (E.enc x).toArray E.T)) = .ok v' w' ∧ GO E w' B v' (l ++ [x]) ∧ Below B w w' ∧ (w.alloc (.cells (E.enc x).toArray E.T)).grownBy w' v.ownBlock := by
  subst hn
  have hb : Below w.heap.size w (w.alloc (.cells (E.enc x).toArray E.T)) := (Below.refl _ _).alloc (Nat.le_refl _) _
  obtain ⟨v', w', h1, h2, h3, h4⟩ := go_more E (h.later hb) (Nat.le_trans hBw hb.size) (ga_one E w x) hl (by simp) (by simp)
  exact ⟨v', w', h1, h2, (hb.mono hBw).trans h3, h4⟩
/-- A block that lies beside is as it was when an element came. -/
theorem grown_other {E : En α} {w w' : World} {B b : Nat} {v : Value} {l : List α} {x : α} (h : GO E w B v l) (hg : (w.alloc (.cells (E.enc x).toArray E.T)).grownBy w' v.ownBlock) {X : Array Value} {t : TypeId} {fr : Nat × Nat} (ht : t ≠ E.T) (hb : w.heap[b]? = some (.cells X t fr)) : w'.heap[b]? = some (.cells X t fr) := by
  have hl := lt_of_some hb
  rw [hg.block b (by simp; omega) (fun e => h.ne ht hb e.symm), heap_alloc_old _ _ hl]
  exact hb
theorem En.cs_set (E : En α) (l : List α) (j : Nat) (hj : j < l.length) (i : Nat) (hi : i < E.k) (y : α) (v : Value) (hy : E.enc y = (E.enc l[j]).set i v) : E.cs (l.set j y) = (E.cs l).set (j * E.k + i) v := by
  induction l generalizing j with
  | nil => simp at hj
  | cons a l ih =>
    have e : ∀ (a : α) (l : List α), E.cs (a :: l) = E.enc a ++ E.cs l := fun _ _ => rfl
    cases j with
    | zero =>
      simp only [List.getElem_cons_zero] at hy
      rw [List.set_cons_zero, e, e, hy, Nat.zero_mul, Nat.zero_add, List.set_append_left _ _ (by rw [E.len]; exact hi)]
    | succ j =>
      rw [List.set_cons_succ, e, e, ih j (by simpa using hj) (by simpa using hy), List.set_append_right _ _ (by rw [E.len, Nat.succ_mul]; omega), E.len, show (j + 1) * E.k + i - E.k = j * E.k + i by rw [Nat.succ_mul]; omega]
/-- A cell of an element of one's own is written. -/
theorem go_set (E : En α) {w : World} {B g n c : Nat} {l : List α} (h : GO E w B (.slice (some ⟨g, 0, none⟩) n c) l) (hn : l.length = n) (j : Nat) (hj : j < l.length) (i : Nat) (hi : i < E.k) (y : α) (v : Value) (hv : v.oneCell' = true) (hy : E.enc y = (E.enc l[j]).set i v) :
    w.frozen? ⟨g, j * E.k + i, none⟩ = false ∧ GO E (w.setCell ⟨g, j * E.k + i, none⟩ v) B (.slice (some ⟨g, 0, none⟩) n c) (l.set j y) ∧ B ≤ g := by
  subst hn
  have hst : w.ownsRow B E.T E.k (.slice (some ⟨g, 0, none⟩) l.length c) l.length (E.cs l) := h
  refine ⟨World.ownsRow.frozenAt hst _, ?_, ?_⟩
  · have h2 := World.ownsRow.stored hst (j * E.k + i) v
    unfold GO
    rw [E.cs_set l j hj i hi y v hy, List.length_set]
    exact h2.1
  · rcases hst.2 with ⟨e, _⟩ | ⟨g', cap, cur, e, hB, _⟩
    · cases e
    · cases e; exact hB
/-- Texts, bytes. -/
def eS : En Bs := { enc := fun s => [.string (str s)], k := 1, T := 9, t := 104, by_ := 16, z := .string ⟨#[]⟩, len := fun _ => rfl, one := fun x v hv => by simp at hv; rw [hv]; rfl, ut := Tryz.underlying104, inf := by kernel_rfl, hz := rfl, hk := by omega, hby := by omega }
def eB : En UInt8 := { enc := fun c => [.int .u8 (c.toNat : Int)], k := 1, T := 5, t := 58, by_ := 1, z := .int .u8 0, len := fun _ => rfl, one := fun x v hv => by simp at hv; rw [hv]; rfl, ut := Tryz.underlying58, inf := by kernel_rfl, hz := rfl, hk := by omega, hby := by omega }
/-- A slice as it is written: where, how long, how much place. -/
abbrev Sl := Option Addr × Nat × Nat
def Sl.v (s : Sl) : Value := .slice s.1 s.2.1 s.2.2
/-- Values as they are written: a kind, a text, a number, and the slices of kids and of From. -/
structure Rw where
  k : Int
  x : Bs
  n : Int
  kids : Sl
  frm : Sl
def Rw.c (e : Rw) : List Value := [.int .i64 e.k, .string (str e.x), .int .i64 e.n, Sl.v e.kids, Sl.v e.frm]
def eV : En Rw := { enc := Rw.c, k := 5, T := 43, t := 26, by_ := 80, z := .agg #[.int .i64 0, .string ⟨#[]⟩, .int .i64 0, .slice none 0 0, .slice none 0 0], len := fun _ => rfl, one := fun x v hv => by simp [Rw.c] at hv; rcases hv with rfl | rfl | rfl | rfl | rfl <;> rfl, ut := Tryz.underlying26, inf := by kernel_rfl, hz := rfl, hk := by omega, hby := by omega }
/-- Lines as they are written. -/
structure Lw where
  tag : Bs
  vals : Sl
  st : Bs
  code : Sl
  x : Bs
def Lw.c (e : Lw) : List Value := [.string (str e.tag), Sl.v e.vals, .string (str e.st), Sl.v e.code, .string (str e.x)]
def eL : En Lw := { enc := Lw.c, k := 5, T := 28, t := 22, by_ := 96, z := .agg #[.string ⟨#[]⟩, .slice none 0 0, .string ⟨#[]⟩, .slice none 0 0, .string ⟨#[]⟩], len := fun _ => rfl, one := fun x v hv => by simp [Lw.c] at hv; rcases hv with rfl | rfl | rfl | rfl | rfl <;> rfl, ut := Tryz.underlying22, inf := by kernel_rfl, hz := rfl, hk := by omega, hby := by omega }
def eI : En Int := { enc := fun c => [.int .i64 c], k := 1, T := 3, t := 40, by_ := 8, z := .int .i64 0, len := fun _ => rfl, one := fun x v hv => by simp at hv; rw [hv]; rfl, ut := Tryz.underlying40, inf := by kernel_rfl, hz := rfl, hk := by omega, hby := by omega }
theorem GA.s {w : World} {g o : Nat} {l : List Bs} (h : GA eS w g o l) (j : Nat) (s : Bs) (hs : l[j]? = some s) : w.cell? ⟨g, o + j, none⟩ = some (.string (str s)) := by
  have := h j 0 s _ hs rfl
  simpa [eS] using this
theorem GA.b {w : World} {g o : Nat} {l : Bs} (h : GA eB w g o l) (j : Nat) (s : UInt8) (hs : l[j]? = some s) : w.cell? ⟨g, o + j, none⟩ = some (.int .u8 (s.toNat : Int)) := by
  have := h j 0 s _ hs rfl
  simpa [eB] using this
theorem GA.i {w : World} {g o : Nat} {l : List Int} (h : GA eI w g o l) (j : Nat) (s : Int) (hs : l[j]? = some s) : w.cell? ⟨g, o + j, none⟩ = some (.int .i64 s) := by
  have := h j 0 s _ hs rfl
  simpa [eI] using this
theorem GA.v {w : World} {g o : Nat} {l : List Rw} (h : GA eV w g o l) (j : Nat) (e : Rw) (hs : l[j]? = some e) : w.cell? ⟨g, o + j * 5, none⟩ = some (.int .i64 e.k) ∧ w.cell? ⟨g, o + j * 5 + 1, none⟩ = some (.string (str e.x)) ∧ w.cell? ⟨g, o + j * 5 + 2, none⟩ = some (.int .i64 e.n) ∧ w.cell? ⟨g, o + j * 5 + 3, none⟩ = some (Sl.v e.kids) ∧ w.cell? ⟨g, o + j * 5 + 4, none⟩ = some (Sl.v e.frm) :=
  ⟨h j 0 e _ hs rfl, h j 1 e _ hs rfl, h j 2 e _ hs rfl, h j 3 e _ hs rfl, h j 4 e _ hs rfl⟩
theorem GA.l {w : World} {g o : Nat} {l : List Lw} (h : GA eL w g o l) (j : Nat) (e : Lw) (hs : l[j]? = some e) : w.cell? ⟨g, o + j * 5, none⟩ = some (.string (str e.tag)) ∧ w.cell? ⟨g, o + j * 5 + 1, none⟩ = some (Sl.v e.vals) ∧ w.cell? ⟨g, o + j * 5 + 2, none⟩ = some (.string (str e.st)) ∧ w.cell? ⟨g, o + j * 5 + 3, none⟩ = some (Sl.v e.code) ∧ w.cell? ⟨g, o + j * 5 + 4, none⟩ = some (.string (str e.x)) :=
  ⟨h j 0 e _ hs rfl, h j 1 e _ hs rfl, h j 2 e _ hs rfl, h j 3 e _ hs rfl, h j 4 e _ hs rfl⟩
end Go.Proofs.YtpjcpdnolcehcaaGreatDoor
