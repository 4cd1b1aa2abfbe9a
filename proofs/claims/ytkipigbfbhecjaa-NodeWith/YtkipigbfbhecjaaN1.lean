/- What this text holds: nodes as plain data, and how they lie in memory; the order of keys. -/
import Derived.Test.YtkipigbfbhecjaaBase
import Derived.BigQuiet
import Derived.Laws.Cover1
namespace Go.Proofs.Ytkipigbfbhecjaa
open Go.RowKit
set_option linter.unusedVariables false

/-- Is a key below another one? -/
def lt (a b : ByteArray) : Bool := Op.bytesLess a.toList b.toList
theorem ba_toList (a : ByteArray) : a.toList = a.data.toList := ByteArray.toList_eq a
theorem less_irrefl : ∀ x : List UInt8, Op.bytesLess x x = false
  | [] => rfl
  | a :: x => by simp [Op.bytesLess, less_irrefl x]
theorem less_trans : ∀ x y z : List UInt8, Op.bytesLess x y = true → Op.bytesLess y z = true → Op.bytesLess x z = true
  | [], [], _, h, _ => by simp [Op.bytesLess] at h
  | [], _ :: _, [], _, h => by simp [Op.bytesLess] at h
  | [], _ :: _, _ :: _, _, _ => by simp [Op.bytesLess]
  | _ :: _, [], _, h, _ => by simp [Op.bytesLess] at h
  | _ :: _, _ :: _, [], _, h => by simp [Op.bytesLess] at h
  | a :: x, b :: y, c :: z, h, k => by
    simp only [Op.bytesLess, Bool.or_eq_true, Bool.and_eq_true, decide_eq_true_eq, beq_iff_eq] at h k ⊢
    rcases h with h | ⟨h, h'⟩
    · rcases k with k | ⟨k, k'⟩
      · exact .inl (UInt8.lt_trans h k)
      · exact .inl (k ▸ h)
    · rcases k with k | ⟨k, k'⟩
      · exact .inl (h ▸ k)
      · exact .inr ⟨h.trans k, less_trans x y z h' k'⟩
theorem less_total : ∀ x y : List UInt8, Op.bytesLess x y = false → Op.bytesLess y x = false → x = y
  | [], [], _, _ => rfl
  | [], _ :: _, h, _ => by simp [Op.bytesLess] at h
  | _ :: _, [], _, h => by simp [Op.bytesLess] at h
  | a :: x, b :: y, h, k => by
    simp only [Op.bytesLess, Bool.or_eq_false_iff, Bool.and_eq_false_iff, decide_eq_false_iff_not, beq_eq_false_iff_ne] at h k
    have e : a = b := by
      apply UInt8.le_antisymm
      · exact UInt8.not_lt.1 k.1
      · exact UInt8.not_lt.1 h.1
    subst e
    have h2 : Op.bytesLess x y = false := by rcases h.2 with h | h; exact absurd rfl h; exact h
    have k2 : Op.bytesLess y x = false := by rcases k.2 with h | h; exact absurd rfl h; exact h
    rw [less_total x y h2 k2]
theorem toList_inj {a b : ByteArray} (h : a.toList = b.toList) : a = b := by
  rw [ba_toList, ba_toList] at h
  exact ByteArray.ext (Array.toList_inj.1 h)
theorem lt_irrefl (a : ByteArray) : lt a a = false := less_irrefl _
theorem lt_trans {a b c : ByteArray} (h : lt a b = true) (k : lt b c = true) : lt a c = true := less_trans _ _ _ h k
theorem lt_total {a b : ByteArray} (h : lt a b = false) (k : lt b a = false) : a = b := toList_inj (less_total _ _ h k)
theorem lt_asymm {a b : ByteArray} (h : lt a b = true) : lt b a = false := by
  cases e : lt b a with
  | false => rfl
  | true => have := lt_trans h e; rw [lt_irrefl] at this; cases this
theorem leq_eq (a b : ByteArray) : (lt a b || a.toList == b.toList) = !lt b a := by
  cases h : lt b a with
  | true =>
    rw [lt_asymm h]
    simp only [Bool.false_or, Bool.not_true, beq_eq_false_iff_ne]
    intro e
    rw [toList_inj e, lt_irrefl] at h
    cases h
  | false =>
    cases k : lt a b with
    | true => rfl
    | false => rw [lt_total k h]; simp

/-- An item. -/
structure It where
  val : ByteArray
  page : Int
  size : Int
/-- A node. -/
structure Nd where
  leaf : Bool
  keys : List ByteArray
  items : List It
  kids : List Int

/-- So many keys, items and kids are never more. -/
structure Nd.small (n : Nd) : Prop where
  k : n.keys.length ≤ 70000
  i : n.items.length ≤ 70000
  d : n.kids.length ≤ 70000

/-- The cells of each. -/
def itv (x : It) : Value := .agg #[.string x.val, .int .i64 x.page, .int .i64 x.size]
def itc (x : It) : List Value := [.string x.val, .int .i64 x.page, .int .i64 x.size]
def kc (l : List ByteArray) : List Value := l.map .string
def ic (l : List It) : List Value := l.flatMap itc
def dc (l : List Int) : List Value := l.map (.int .i64)
theorem kc_length (l : List ByteArray) : (kc l).length = l.length := by simp [kc]
theorem dc_length (l : List Int) : (dc l).length = l.length := by simp [dc]
theorem ic_length (l : List It) : (ic l).length = l.length * 3 := by
  induction l with
  | nil => rfl
  | cons x l ih => simp only [ic, List.flatMap_cons, List.length_append, List.length_cons] at ih ⊢; rw [ih]; simp [itc]; omega
theorem ic_cons (x : It) (l : List It) : ic (x :: l) = .string x.val :: .int .i64 x.page :: .int .i64 x.size :: ic l := by simp [ic, itc]
theorem ic_at (l : List It) : ∀ (i : Nat) (hi : i < l.length), (ic l)[i * 3]? = some (.string (l[i]).val) ∧ (ic l)[i * 3 + 1]? = some (.int .i64 (l[i]).page) ∧ (ic l)[i * 3 + 2]? = some (.int .i64 (l[i]).size) := by
  induction l with
  | nil => intro i hi; simp at hi
  | cons x l ih =>
    intro i hi
    rw [ic_cons]
    cases i with
    | zero => exact ⟨rfl, rfl, rfl⟩
    | succ i =>
      obtain ⟨h1, h2, h3⟩ := ih i (by simpa using hi)
      rw [show (i + 1) * 3 = i * 3 + 1 + 1 + 1 by omega]
      simp only [List.getElem?_cons_succ, List.getElem_cons_succ]
      exact ⟨h1, h2, h3⟩
theorem kc_oneCell (l : List ByteArray) : ∀ v ∈ kc l, v.oneCell' = true := by
  intro v hv; simp only [kc, List.mem_map] at hv; obtain ⟨x, _, rfl⟩ := hv; rfl
theorem dc_oneCell (l : List Int) : ∀ v ∈ dc l, v.oneCell' = true := by
  intro v hv; simp only [dc, List.mem_map] at hv; obtain ⟨x, _, rfl⟩ := hv; rfl
theorem ic_oneCell (l : List It) : ∀ v ∈ ic l, v.oneCell' = true := by
  intro v hv
  simp only [ic, itc, List.mem_flatMap, List.mem_cons, List.not_mem_nil, or_false] at hv
  obtain ⟨x, _, h | h | h⟩ := hv <;> subst h <;> rfl

/-- Cells lie in memory from a place on. -/
def At (w : World) (a : Option Addr) (cs : List Value) : Prop := cs = [] ∨ ∃ b o, a = some ⟨b, o, none⟩ ∧ ∀ j v, cs[j]? = some v → w.cell? ⟨b, o + j, none⟩ = some v
theorem cell_later {w w' : World} {p : Addr} {v : Value} (hb : Below w.heap.size w w') (h : w.cell? p = some v) : w'.cell? p = some v := (hb.cell (World.block_lt_of_cell? w _ h)).trans h
theorem At.later {w w' : World} {a : Option Addr} {cs : List Value} (h : At w a cs) (hb : Below w.heap.size w w') : At w' a cs := by
  rcases h with h | ⟨b, o, rfl, h⟩
  · exact .inl h
  · exact .inr ⟨b, o, rfl, fun j v hv => cell_later hb (h j v hv)⟩
theorem At.get {w : World} {a : Option Addr} {cs : List Value} (h : At w a cs) (hn : cs ≠ []) : ∃ b o, a = some ⟨b, o, none⟩ ∧ ∀ j v, cs[j]? = some v → w.cell? ⟨b, o + j, none⟩ = some v := h.resolve_left hn
theorem At.key {w : World} {a : Option Addr} {l : List ByteArray} (h : At w a (kc l)) (i : Nat) (hi : i < l.length) : ∃ b o, a = some ⟨b, o, none⟩ ∧ w.cell? ⟨b, o + i, none⟩ = some (.string l[i]) := by
  obtain ⟨b, o, e, h⟩ := h.get (by intro e; have := congrArg List.length e; rw [kc_length, List.length_nil] at this; omega)
  exact ⟨b, o, e, h i _ (by simp [kc, hi])⟩
theorem At.kid {w : World} {a : Option Addr} {l : List Int} (h : At w a (dc l)) (i : Nat) (hi : i < l.length) : ∃ b o, a = some ⟨b, o, none⟩ ∧ w.cell? ⟨b, o + i, none⟩ = some (.int .i64 l[i]) := by
  obtain ⟨b, o, e, h⟩ := h.get (by intro e; have := congrArg List.length e; rw [dc_length, List.length_nil] at this; omega)
  exact ⟨b, o, e, h i _ (by simp [dc, hi])⟩
theorem At.item {w : World} {a : Option Addr} {l : List It} (h : At w a (ic l)) (i : Nat) (hi : i < l.length) : ∃ b o, a = some ⟨b, o, none⟩ ∧ w.cell? ⟨b, o + i * 3, none⟩ = some (.string (l[i]).val) ∧ w.cell? ⟨b, o + i * 3 + 1, none⟩ = some (.int .i64 (l[i]).page) ∧ w.cell? ⟨b, o + i * 3 + 2, none⟩ = some (.int .i64 (l[i]).size) := by
  obtain ⟨b, o, e, h⟩ := h.get (by intro e; have := congrArg List.length e; rw [ic_length, List.length_nil] at this; omega)
  obtain ⟨h1, h2, h3⟩ := ic_at l i hi
  exact ⟨b, o, e, h _ _ h1, h _ _ h2, h _ _ h3⟩

/-- A node's value. -/
def nv (l : Bool) (ka : Option Addr) (kn kp : Nat) (ia : Option Addr) (en ep : Nat) (da : Option Addr) (dn dp : Nat) : Value := .agg #[.bool l, .slice ka kn kp, .slice ia en ep, .slice da dn dp]
/-- A node lies in memory. -/
structure NAt (w : World) (v : Value) (n : Nd) : Prop where
  at_ : ∃ ka kp ia ep da dp, v = nv n.leaf ka n.keys.length kp ia n.items.length ep da n.kids.length dp ∧ At w ka (kc n.keys) ∧ At w ia (ic n.items) ∧ At w da (dc n.kids) ∧ (n.keys.length ≤ kp ∧ kp ≤ maxLen) ∧ (n.items.length ≤ ep ∧ ep ≤ maxLen) ∧ (n.kids.length ≤ dp ∧ dp ≤ maxLen)
  ks : ∀ k ∈ n.keys, k.size ≤ maxLen
  is_ : ∀ x ∈ n.items, x.val.size ≤ maxLen
theorem NAt.later {w w' : World} {v : Value} {n : Nd} (h : NAt w v n) (hb : Below w.heap.size w w') : NAt w' v n := by
  obtain ⟨ka, kp, ia, ep, da, dp, e, h1, h2, h3, r⟩ := h.at_
  exact ⟨⟨ka, kp, ia, ep, da, dp, e, h1.later hb, h2.later hb, h3.later hb, r⟩, h.ks, h.is_⟩

theorem box4 {w wr : World} {x0 x1 x2 x3 : Value} {t : TypeId} (hb : Below (w.alloc (.cells #[x0, x1, x2, x3] t)).heap.size (w.alloc (.cells #[x0, x1, x2, x3] t)) wr) :
    wr.cell? ⟨w.heap.size, 0, none⟩ = some x0 ∧ wr.cell? ⟨w.heap.size, 1, none⟩ = some x1 ∧ wr.cell? ⟨w.heap.size, 2, none⟩ = some x2 ∧ wr.cell? ⟨w.heap.size, 3, none⟩ = some x3 := by
  have hh := heap_alloc_new w (.cells #[x0, x1, x2, x3] t)
  refine ⟨?_, ?_, ?_, ?_⟩ <;> refine cell_later hb ?_ <;> simp only [World.cell?, hh] <;> rfl
end Go.Proofs.Ytkipigbfbhecjaa
