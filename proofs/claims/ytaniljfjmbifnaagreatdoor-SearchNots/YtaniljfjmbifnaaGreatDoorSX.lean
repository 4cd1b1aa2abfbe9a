/- What this text holds: words for bytes that lie in memory, and what keeps them as they were; small moves for a region that leaves its order open. · What this text holds: plain facts of spans of numbers: what they cover, the one way of a set, and how sorted spans are joined. · What this text holds: plain facts of a set's text: how it is read from its beginning on, how it is read in pieces, and that both are the same. · What this text holds: strings as lists of bytes; lists of spans, of numbers and of texts in memory, of one's own and of others. · What this text holds: an end of a span as a number; the numbers that a span covers. · What this text holds: whether a number is in a set. -/
import Derived.Test.YtaniljfjmbifnaaGreatDoorProg
import Derived.WalkKit
import Derived.WalkSpells
import Derived.WalkLawsBesides
import Derived.Laws.BytesString
import Derived.Laws.BytesArg
import Derived.Laws.CopyOwn
import Derived.Laws.CopyRow
import Derived.Laws.OwnMore
import Derived.Deep.MidRow
import Derived.Deep.WholeRow
import Derived.Deep.RegionHeld3
import Derived.DataElems
import Derived.Lib.ItoaNum
import Derived.Lib.AtoiAll
import Derived.Lib.AppendStr
import Derived.Lib.Strings
import Derived.Maps.AppendAt
import Derived.OneCell
import Derived.Laws.Shifts
import Derived.Laws.Bits64b
import Derived.Laws.MakeOwn
import Derived.Deep.QuietTactic
import Derived.BigQuiet
namespace Go.Proofs.YtaniljfjmbifnaaGreatDoor.S
open Go.RowKit
set_option linter.unusedVariables false

/-- Cells of bytes. -/
def bc (l : List Int) : List Value := l.map (Value.int .u8)
theorem bc_length (l : List Int) : (bc l).length = l.length := by simp [bc]
theorem bc_append (l m : List Int) : bc (l ++ m) = bc l ++ bc m := by simp [bc]
theorem bc_oneCell (l : List Int) : ∀ v ∈ bc l, v.oneCell' = true := by
  intro v hv
  simp only [bc, List.mem_map] at hv
  obtain ⟨x, _, rfl⟩ := hv
  rfl

/-- Nothing that was there has turned but the blocks of a list. -/
structure Kept (S : List Nat) (w w' : World) : Prop where
  os : w'.os = w.os
  tape : w'.tape = w.tape
  output : w'.output = w.output
  size : w.heap.size ≤ w'.heap.size
  block : ∀ k, k < w.heap.size → k ∉ S → w'.heap[k]? = w.heap[k]?

theorem Kept.refl (S : List Nat) (w : World) : Kept S w w := ⟨rfl, rfl, rfl, Nat.le_refl _, fun _ _ _ => rfl⟩
theorem Kept.trans {S T : List Nat} {a b c : World} (h : Kept S a b) (k : Kept T b c) (hT : ∀ i, i < a.heap.size → i ∈ T → i ∈ S) : Kept S a c :=
  ⟨k.os.trans h.os, k.tape.trans h.tape, k.output.trans h.output, Nat.le_trans h.size k.size,
    fun i hi hn => (k.block i (Nat.lt_of_lt_of_le hi h.size) (fun e => hn (hT i hi e))).trans (h.block i hi hn)⟩
theorem Kept.mono {S T : List Nat} {a b : World} (h : Kept S a b) (hT : ∀ i, i < a.heap.size → i ∈ S → i ∈ T) : Kept T a b :=
  ⟨h.os, h.tape, h.output, h.size, fun i hi hn => h.block i hi (fun e => hn (hT i hi e))⟩
theorem Kept.below {S : List Nat} {a b : World} {B : Nat} (h : Kept S a b) (hS : ∀ i ∈ S, B ≤ i) (hB : B ≤ a.heap.size) : Below B a b :=
  ⟨h.os, h.tape, h.output, h.size, fun i hi => h.block i (by omega) (fun e => by have := hS i e; omega)⟩
theorem Kept.ofBelow {a b : World} (h : Below a.heap.size a b) (S : List Nat) : Kept S a b :=
  ⟨h.os, h.tape, h.output, h.size, fun i hi _ => h.block i hi⟩
theorem Kept.ofGrown {a b : World} {row : Option Nat} (h : a.grownBy b row) (S : List Nat) (hr : ∀ k, row = some k → k ∈ S) : Kept S a b :=
  ⟨h.os, h.tape, h.output, h.size, fun i hi hn => h.block i hi (fun e => hn (hr i e.symm))⟩
theorem Kept.alloc (S : List Nat) (w : World) (o : Obj) : Kept S w (w.alloc o) := Kept.ofGrown (World.grownBy_alloc w o none) S (fun _ h => by cases h)
theorem Kept.setCell (S : List Nat) (w : World) (p : Addr) (v : Value) (h : p.block ∈ S) : Kept S w (w.setCell p v) :=
  ⟨rfl, rfl, rfl, by simp [World.setCell], fun i _ hn => Below.heap_setCell _ _ _ _ (fun e => hn (e ▸ h))⟩
theorem Kept.drew (S : List Nat) (w : World) : Kept S w w.drew := ⟨rfl, rfl, rfl, Nat.le_refl _, fun _ _ _ => rfl⟩

theorem ownsRow_block {w w' : World} {base : Nat} {e : TypeId} {size : Nat} {v : Value} {n : Nat} {xs : List Value} (h : w.ownsRow base e size v n xs)
    (hb : ∀ k, v.ownBlock = some k → w'.heap[k]? = w.heap[k]?) : w'.ownsRow base e size v n xs := by
  refine ⟨h.1, ?_⟩
  rcases h.2 with hn | ⟨g, cap, cur, rfl, hg, hgg, rest⟩
  · exact .inl hn
  · exact .inr ⟨g, cap, cur, rfl, hg, by rw [hb g rfl]; exact hgg, rest⟩

theorem Tryz.info5 : (Tryz.prog.info? 5).map (fun i => (i.zero, i.size, i.bytes)) = some (some (.int .u8 0), 1, 1) := by kernel_rfl

theorem madeCells_same (m n : Nat) (v : Value) (hm : 0 < m) : (madeCells (Array.replicate m v) n).toList = List.replicate n v := by
  apply List.ext_getElem?
  intro j
  by_cases hj : j < n
  · have : j % m < m := Nat.mod_lt _ hm
    simp [madeCells, hj, this]
  · simp [madeCells, hj]

/-- n times one byte: a word of its own, so that no simp writes it out. -/
def rep (n : Nat) (c : Int) : List Int := List.replicate n c
theorem rep_length (n : Nat) (c : Int) : (rep n c).length = n := by simp [rep]
theorem bc_rep (n : Nat) (c : Int) : bc (rep n c) = List.replicate n (.int .u8 c) := by simp [bc, rep]

theorem hid {p : Prop} (h : p) : Hid p := h

theorem ownsRow_some {w : World} {B n size : Nat} {e : TypeId} {v : Value} {xs : List Value} (h : w.ownsRow B e size v n xs) (h1 : 1 ≤ n) : ∃ g c, v = .slice (some ⟨g, 0, none⟩) n c ∧ B ≤ g := by
  rcases h.2 with ⟨_, h'⟩ | ⟨g, cap, cur, h', hb, _⟩
  · omega
  · exact ⟨g, cap, h', hb⟩

theorem ownsRow_base {w : World} {B B' n size : Nat} {e : TypeId} {v : Value} {xs : List Value} (h : w.ownsRow B e size v n xs) (hB : B' ≤ B) : w.ownsRow B' e size v n xs := by
  refine ⟨h.1, ?_⟩
  rcases h.2 with h' | ⟨g, cap, cur, h', hb, r⟩
  · exact .inl h'
  · exact .inr ⟨g, cap, cur, h', Nat.le_trans hB hb, r⟩

theorem cells_of_owned {w : World} {B bs n sc size : Nat} {e : TypeId} {xs : List Value} (h : w.ownsRow B e size (.slice (some ⟨bs, 0, none⟩) n sc) n xs) :
    ∀ j v, xs[j]? = some v → w.cell? ((⟨bs, 0, none⟩ : Addr).add j) = some v := h.cells rfl

theorem rep_take (n m : Nat) (c : Int) (h : m ≤ n) : (rep n c).take m = rep m c := by
  unfold rep; rw [List.take_replicate, Nat.min_eq_left h]
theorem rep_drop (n m : Nat) (c : Int) : (rep n c).drop m = rep (n - m) c := by
  unfold rep; rw [List.drop_replicate]

/-- A string of bytes. -/
def strOf (l : List Int) : ByteArray := l.foldl (fun r n => r.push (UInt8.ofNat n.toNat)) ByteArray.empty

theorem strOf_data (l : List Int) : ∀ r : ByteArray, (l.foldl (fun r n => r.push (UInt8.ofNat n.toNat)) r).data.toList = r.data.toList ++ l.map fun n => UInt8.ofNat n.toNat := by
  induction l with
  | nil => intro r; simp
  | cons x l ih => intro r; rw [List.foldl_cons, ih]; simp
theorem strOf_toList (l : List Int) : (strOf l).data.toList = l.map fun n => UInt8.ofNat n.toNat := by
  unfold strOf; rw [strOf_data]; rfl
theorem strOf_append (l m : List Int) : strOf (l ++ m) = strOf l ++ strOf m := by
  apply ByteArray.ext
  apply Array.toList_inj.1
  rw [strOf_toList, ByteArray.data_append, Array.toList_append, strOf_toList, strOf_toList, List.map_append]
section
variable {P : Program} {ops : Array Oper} {Q : Exit → Act → World → Prop} {md : Region.Mode} {S : World → Prop}

/-- An operation that comes up, by its run. -/
theorem wpOp_run {i : Nat} {o : Oper} {K : Act → World → Prop} {a : Act} {w w' : World} {v : Value} (ho : ops[i]? = some o) (hg : o.guard = none) (hrun : (execOp a.eval o).run P w = .ok (.value v) w')
    (h : K (a.put o.dst v) w') : wpOp P ops Q i K a w := by
  refine wpOp_step ho fun K' hK => ?_
  rw [if_pos (by simp [Region.wanted, hg])]
  unfold Oper.wp
  rw [hrun]
  exact hK _ _ h
theorem wpOp_skip {i : Nat} {o : Oper} {K : Act → World → Prop} {a : Act} {w w' : World} (ho : ops[i]? = some o) (hg : o.guard = none) (hrun : (execOp a.eval o).run P w = .ok .skip w')
    (h : K (a.put o.dst undef) w') : wpOp P ops Q i K a w := by
  refine wpOp_step ho fun K' hK => ?_
  rw [if_pos (by simp [Region.wanted, hg])]
  unfold Oper.wp
  rw [hrun]
  exact hK _ _ h

theorem anyH_take (i : Nat) (o : Oper) (v : Value) {fuel : Nat} {listed : Array Bool} {a : Act} {w : World} (hi : ops[i]? = some o) (hg : o.guard = none)
    (hs : Region.noSelect ops = true) (hf : Region.free md ops listed i = true) (hr : (Region.ready md ops listed).contains i = true)
    (hQ : ∀ c a w, Q (.panic c) (a.put o.dst v) w → Q (.panic c) a w) (hrun : ∀ w, S w → (execOp a.eval o).run P w = .ok (.value v) w) (hS : S w)
    (h : wpAnyH P md ops Q S fuel (listed.setIfInBounds i true) (a.put o.dst v) w) : wpAnyH P md ops Q S (fuel + 1) listed a w :=
  wpAnyH_take hi hs hf hr hQ (.inl ⟨by simp [Region.wanted, hg], hrun⟩) hS h

theorem anyH_one (i : Nat) (o : Oper) (v : Value) (w' : World) {fuel : Nat} {listed : Array Bool} {a : Act} {w : World} (hr : Region.ready md ops listed = [i]) (hi : ops[i]? = some o) (hg : o.guard = none)
    (hrun : (execOp a.eval o).run P w = .ok (.value v) w') (hS : S w')
    (h : wpAnyH P md ops Q S fuel (listed.setIfInBounds i true) (a.put o.dst v) w') : wpAnyH P md ops Q S (fuel + 1) listed a w := by
  refine wpAnyH_all hr (by simp) fun j hj => ?_
  obtain rfl := List.mem_singleton.1 hj
  exact wpOp_run hi hg hrun ⟨hS, h⟩
theorem anyH_oneSkip (i : Nat) (o : Oper) (w' : World) {fuel : Nat} {listed : Array Bool} {a : Act} {w : World} (hr : Region.ready md ops listed = [i]) (hi : ops[i]? = some o) (hg : o.guard = none)
    (hrun : (execOp a.eval o).run P w = .ok .skip w') (hS : S w')
    (h : wpAnyH P md ops Q S fuel (listed.setIfInBounds i true) (a.put o.dst undef) w') : wpAnyH P md ops Q S (fuel + 1) listed a w := by
  refine wpAnyH_all hr (by simp) fun j hj => ?_
  obtain rfl := List.mem_singleton.1 hj
  exact wpOp_skip hi hg hrun ⟨hS, h⟩
theorem anyH_two (i j : Nat) {fuel : Nat} {listed : Array Bool} {a : Act} {w : World} (hr : Region.ready md ops listed = [i, j])
    (h1 : wpOp P ops Q i (fun a' w' => S w' ∧ wpAnyH P md ops Q S fuel (listed.setIfInBounds i true) a' w') a w)
    (h2 : wpOp P ops Q j (fun a' w' => S w' ∧ wpAnyH P md ops Q S fuel (listed.setIfInBounds j true) a' w') a w) : wpAnyH P md ops Q S (fuel + 1) listed a w := by
  refine wpAnyH_all hr (by simp) fun k hk => ?_
  simp only [List.mem_cons, List.not_mem_nil, or_false] at hk
  rcases hk with rfl | rfl
  · exact h1
  · exact h2
end

theorem Kept.cell {S : List Nat} {w w' : World} (k : Kept S w w') {p : Addr} {v : Value} (h : w.cell? p = some v) (hp : p.block ∉ S) : w'.cell? p = some v :=
  (World.cell?_of_block (k.block p.block (World.block_lt_of_cell? w p h) hp)).trans h

section
variable {P : Program} {ops : Array Oper} {Q : Exit → Act → World → Prop} {md : Region.Mode} {S : World → Prop}

theorem anyH_takeW (i : Nat) (o : Oper) (v : Value) {fuel : Nat} {listed : Array Bool} {a : Act} {w : World} (hi : ops[i]? = some o) (hw : Region.wanted o (yielded ops a.tmps) = true)
    (hs : Region.noSelect ops = true) (hf : Region.free md ops listed i = true) (hr : (Region.ready md ops listed).contains i = true)
    (hQ : ∀ c a w, Q (.panic c) (a.put o.dst v) w → Q (.panic c) a w) (hrun : ∀ w, S w → (execOp a.eval o).run P w = .ok (.value v) w) (hS : S w)
    (h : wpAnyH P md ops Q S fuel (listed.setIfInBounds i true) (a.put o.dst v) w) : wpAnyH P md ops Q S (fuel + 1) listed a w :=
  wpAnyH_take hi hs hf hr hQ (.inl ⟨hw, hrun⟩) hS h

theorem wpOp_runW {i : Nat} {o : Oper} {K : Act → World → Prop} {a : Act} {w w' : World} {v : Value} (ho : ops[i]? = some o) (hw : Region.wanted o (yielded ops a.tmps) = true) (hrun : (execOp a.eval o).run P w = .ok (.value v) w')
    (h : K (a.put o.dst v) w') : wpOp P ops Q i K a w := by
  refine wpOp_step ho fun K' hK => ?_
  rw [if_pos hw]
  unfold Oper.wp
  rw [hrun]
  exact hK _ _ h
theorem wpOp_callW {i : Nat} {o : Oper} {K : Act → World → Prop} {a : Act} {w : World} {f : FuncId} {args : Array Value} (ho : ops[i]? = some o) (hw : Region.wanted o (yielded ops a.tmps) = true) (hrun : (execOp a.eval o).run P w = .ok (.enter f args) w)
    (h : Calls P f args w fun e w' => ∃ v, e = .returned v ∧ K (a.put o.dst v) w') : wpOp P ops Q i K a w := by
  refine wpOp_step ho fun K' hK => ?_
  rw [if_pos hw]
  unfold Oper.wp
  rw [hrun]
  refine Calls.mono h fun e w' he => ?_
  obtain ⟨v, rfl, hv⟩ := he
  exact hK _ _ hv

theorem anyH_oneW (i : Nat) (o : Oper) (v : Value) (w' : World) {fuel : Nat} {listed : Array Bool} {a : Act} {w : World} (hr : Region.ready md ops listed = [i]) (hi : ops[i]? = some o) (hw : Region.wanted o (yielded ops a.tmps) = true)
    (hrun : (execOp a.eval o).run P w = .ok (.value v) w') (hS : S w')
    (h : wpAnyH P md ops Q S fuel (listed.setIfInBounds i true) (a.put o.dst v) w') : wpAnyH P md ops Q S (fuel + 1) listed a w := by
  refine wpAnyH_all hr (by simp) fun j hj => ?_
  obtain rfl := List.mem_singleton.1 hj
  exact wpOp_runW hi hw hrun ⟨hS, h⟩

theorem anyH_callW (i : Nat) (o : Oper) (f : FuncId) (args : Array Value) {fuel : Nat} {listed : Array Bool} {a : Act} {w : World} (hr : Region.ready md ops listed = [i]) (hi : ops[i]? = some o) (hw : Region.wanted o (yielded ops a.tmps) = true)
    (hrun : (execOp a.eval o).run P w = .ok (.enter f args) w)
    (h : Calls P f args w fun e w' => ∃ v, e = .returned v ∧ S w' ∧ wpAnyH P md ops Q S fuel (listed.setIfInBounds i true) (a.put o.dst v) w') : wpAnyH P md ops Q S (fuel + 1) listed a w := by
  refine wpAnyH_all hr (by simp) fun j hj => ?_
  obtain rfl := List.mem_singleton.1 hj
  exact wpOp_callW hi hw hrun h
end

theorem exec_eqlStr {a : Act} {x y : Operand} {s t : ByteArray} {w : World} {d : Option Tmp} {T ty T2 : Nat} {pos : String} {af : Array Edge} {g : Option (Nat × Bool)} (hx : a.eval x = .string s) (hy : a.eval y = .string t) (h : s = t) :
    (execOp a.eval ⟨d, .binOp .eql T x y T2, ty, pos, af, g⟩).run Tryz.prog w = .ok (.value (.bool true)) w := by
  subst h
  simp [execOp, hx, hy, eqGuard, binOp, Op.stringOp]
theorem exec_addStr {a : Act} {x y : Operand} {s t : ByteArray} {w : World} {d : Option Tmp} {T ty T2 : Nat} {pos : String} {af : Array Edge} {g : Option (Nat × Bool)} (hx : a.eval x = .string s) (hy : a.eval y = .string t) (hl : s.size + t.size ≤ 1000000) :
    (execOp a.eval ⟨d, .binOp .add T x y T2, ty, pos, af, g⟩).run Tryz.prog w = .ok (.value (.string (s ++ t))) w := by
  simp [execOp, hx, hy, eqGuard, binOp, Op.stringOp]
  omega
/-- An operation by its run. -/
theorem wpList_run {P : Program} {ops : Array Oper} {rest : List Oper} {o : Oper} {a : Act} {w w' : World} {Q : Exit → Act → World → Prop} {v : Value} (hgd : o.guard = none) (hrun : (execOp a.eval o).run P w = .ok (.value v) w')
    (h : wpList P ops Q rest (a.put o.dst v) w') : wpList P ops Q (o :: rest) a w :=
  wpList_plain hgd fun K hK => by unfold Oper.wp; rw [hrun]; exact hK _ _ h
theorem exec_v {P : Program} {s : Sem Value} {w w' : World} {v : Value} (h : s.run P w = .ok v w') : (do pure (Next.value (← s)) : Sem Next).run P w = .ok (.value v) w' := by
  simp [h]

theorem strOf_size (l : List Int) : (strOf l).size = l.length := by
  have := congrArg List.length (strOf_toList l)
  rw [List.length_map] at this
  exact this
theorem below_kept {B : Nat} {w w2 w3 : World} {S : List Nat} (h : Below B w w2) (k : Kept S w2 w3) (hS : ∀ i ∈ S, B ≤ i) (hB : B ≤ w2.heap.size) : Below B w w3 := h.trans (k.below hS hB)

theorem bc_splice (l : List Int) (o : Nat) (b : List Int) : bc (splice l o b) = splice (bc l) o (bc b) := by
  simp [splice, bc]

theorem take_splice (cur : List Value) (m o : Nat) (cs : List Value) (h : o + cs.length ≤ m) : (cur.take o ++ cs ++ cur.drop (o + cs.length)).take m = splice (cur.take m) o cs := by
  by_cases hm : o ≤ cur.length
  · simp only [splice, List.take_take, List.drop_take, List.append_assoc]
    rw [List.take_append, List.take_append, List.length_take, Nat.min_eq_left hm, List.take_take, Nat.min_eq_right (by omega : o ≤ m), Nat.min_eq_left (by omega : o ≤ m)]
    congr 1
    rw [List.take_of_length_le (show cs.length ≤ m - o by omega)]
    congr 2
    omega
  · have e1 : cur.take o = cur := List.take_of_length_le (by omega)
    have e2 : cur.take m = cur := List.take_of_length_le (by omega)
    have e3 : cur.drop (o + cs.length) = [] := List.drop_of_length_le (by omega)
    simp only [splice, e1, e2, e3, List.append_nil]
    rw [List.take_of_length_le]
    simp; omega

/-- A row that a call owns, some of its cells laid anew. -/
theorem ownsRow_laid {w : World} {B bs n sc size : Nat} {e : TypeId} {xs : List Value} (h : w.ownsRow B e size (.slice (some ⟨bs, 0, none⟩) n sc) n xs) :
    ∃ cur : Array Value, w.heap[bs]? = some (.cells cur e (0, 0)) ∧ n * size ≤ cur.size ∧ cur.toList.take (n * size) = xs ∧ ∀ (o : Nat) (cs : List Value), o + cs.length ≤ n * size →
      (w.setRow bs (cur.toList.take o ++ cs ++ cur.toList.drop (o + cs.length)).toArray).ownsRow B e size (.slice (some ⟨bs, 0, none⟩) n sc) n (splice xs o cs) ∧
      w.grownBy (w.setRow bs (cur.toList.take o ++ cs ++ cur.toList.drop (o + cs.length)).toArray) (some bs) := by
  rcases h.2 with ⟨h', _⟩ | ⟨g', cap', cur, h', hb, hg, hnc, hcm, hcs, htake⟩
  · simp at h'
  · simp only [Value.slice.injEq, Option.some.injEq, Addr.mk.injEq, and_true, true_and] at h'
    obtain ⟨rfl, rfl⟩ := h'
    have hle : n * size ≤ cur.size := by rw [hcs]; exact Nat.mul_le_mul_right _ hnc
    refine ⟨cur, hg, hle, htake, fun o cs ho => ⟨⟨?_, .inr ⟨bs, sc, _, rfl, hb, setRow_heap w bs cur _ e _ hg, hnc, hcm, ?_, ?_⟩⟩, ⟨rfl, rfl, rfl, by simp, fun k _ hk => setRow_other w bs k _ (fun e => hk (by simp [e]))⟩⟩⟩
    · rw [length_splice _ _ _ (by rw [h.1]; exact ho)]; exact h.1
    · simp only [List.size_toArray, List.length_append, List.length_take, List.length_drop, Array.length_toList]
      omega
    · rw [← htake, ← take_splice _ _ _ _ ho]

end Go.Proofs.YtaniljfjmbifnaaGreatDoor.S
namespace Go.Proofs.YtaniljfjmbifnaaGreatDoor.S
set_option linter.unusedVariables false

abbrev Sp := Int × Int
/-- The greatest number. -/
def mx : Int := 4294967295
/-- An end as a number. -/
def kn (n most : Int) : Int := if n = 0 then most else n
/-- Does a span cover a number, with most? -/
def covB (s : Sp) (n most : Int) : Bool :=
  if (s.1 = 0 ∨ s.2 = 0) ∧ most < 1 then false
  else decide ((kn s.1 most ≤ n ∧ n ≤ kn s.2 most) ∨ (kn s.2 most ≤ n ∧ n ≤ kn s.1 most))
def hasB (l : List Sp) (n most : Int) : Bool := l.any fun s => decide (1 ≤ n) && covB s n most
/-- The numbers from 1 on that a span covers. -/
def rchA (s : Sp) (most : Int) : Sp := (max 1 (min (kn s.1 most) (kn s.2 most)), max (kn s.1 most) (kn s.2 most))
def rchB (s : Sp) (most : Int) : Bool := if most < 1 ∧ (s.1 = 0 ∨ s.2 = 0) then false else decide ((rchA s most).1 ≤ (rchA s most).2)
def inS (s : Sp) (n : Int) : Bool := decide (s.1 ≤ n ∧ n ≤ s.2)
theorem rch_cov (s : Sp) (n most : Int) : (rchB s most && inS (rchA s most) n) = (decide (1 ≤ n) && covB s n most) := by
  unfold rchB covB inS rchA
  by_cases h : most < 1 ∧ (s.1 = 0 ∨ s.2 = 0)
  · rw [if_pos h, if_pos ⟨h.2, h.1⟩]; simp
  · rw [if_neg h, if_neg (fun e => h ⟨e.2, e.1⟩)]
    generalize kn s.1 most = a
    generalize kn s.2 most = b
    rw [Bool.eq_iff_iff]
    simp only [Bool.and_eq_true, decide_eq_true_eq]
    omega
/-- The reaches of spans. -/
def rchs (l : List Sp) (most : Int) : List Sp := (l.filter fun s => rchB s most).map fun s => rchA s most
/-- Is a number in one of the spans? -/
def memS (l : List Sp) (n : Int) : Prop := ∃ s ∈ l, s.1 ≤ n ∧ n ≤ s.2
theorem mem_rchs (l : List Sp) (most n : Int) : memS (rchs l most) n ↔ hasB l n most = true := by
  unfold memS rchs hasB
  simp only [List.mem_map, List.mem_filter, List.any_eq_true]
  constructor
  · rintro ⟨s, ⟨x, ⟨hx, hr⟩, rfl⟩, h1, h2⟩
    refine ⟨x, hx, ?_⟩
    rw [← rch_cov, hr]
    simp [inS, h1, h2]
  · rintro ⟨x, hx, h⟩
    rw [← rch_cov] at h
    simp only [Bool.and_eq_true, inS, decide_eq_true_eq] at h
    exact ⟨_, ⟨x, ⟨hx, h.1⟩, rfl⟩, h.2⟩
theorem rch_ok (s : Sp) (most : Int) (h : rchB s most = true) : 1 ≤ (rchA s most).1 ∧ (rchA s most).1 ≤ (rchA s most).2 := by
  unfold rchB at h
  split at h
  · simp at h
  · refine ⟨?_, by simpa using h⟩
    unfold rchA; simp only; omega
theorem rchs_ok (l : List Sp) (most : Int) : ∀ s ∈ rchs l most, 1 ≤ s.1 ∧ s.1 ≤ s.2 := by
  intro s hs
  simp only [rchs, List.mem_map, List.mem_filter] at hs
  obtain ⟨x, ⟨_, hx⟩, rfl⟩ := hs
  exact rch_ok x most hx
/-- Spans rise, with gaps. -/
def Rise : List Sp → Prop
  | [] => True
  | s :: l => 1 ≤ s.1 ∧ s.1 ≤ s.2 ∧ (∀ t ∈ l, s.2 + 1 < t.1) ∧ Rise l
theorem Rise.ok {l : List Sp} (h : Rise l) : ∀ s ∈ l, 1 ≤ s.1 ∧ s.1 ≤ s.2 := by
  induction l with
  | nil => simp
  | cons a l ih =>
    intro s hs
    rcases List.mem_cons.1 hs with rfl | hs
    · exact ⟨h.1, h.2.1⟩
    · exact ih h.2.2.2 s hs
theorem memS_cons (a : Sp) (l : List Sp) (n : Int) : memS (a :: l) n ↔ (a.1 ≤ n ∧ n ≤ a.2) ∨ memS l n := by
  simp [memS]
theorem memS_nil (n : Int) : ¬ memS [] n := by simp [memS]
theorem memS_app (l m : List Sp) (n : Int) : memS (l ++ m) n ↔ memS l n ∨ memS m n := by
  simp only [memS, List.mem_append]
  constructor
  · rintro ⟨s, h | h, r⟩
    · exact .inl ⟨s, h, r⟩
    · exact .inr ⟨s, h, r⟩
  · rintro (⟨s, h, r⟩ | ⟨s, h, r⟩)
    · exact ⟨s, .inl h, r⟩
    · exact ⟨s, .inr h, r⟩
/-- One way of each set. -/
theorem rise_one : ∀ (l m : List Sp), Rise l → Rise m → (∀ n, memS l n ↔ memS m n) → l = m
  | [], [], _, _, _ => rfl
  | [], b :: m, _, hm, h => absurd ((h b.1).2 ((memS_cons _ _ _).2 (.inl ⟨by omega, hm.2.1⟩))) (memS_nil _)
  | a :: l, [], hl, _, h => absurd ((h a.1).1 ((memS_cons _ _ _).2 (.inl ⟨by omega, hl.2.1⟩))) (memS_nil _)
  | a :: l, b :: m, hl, hm, h => by
    obtain ⟨a1, a2, a3, a4⟩ := hl
    obtain ⟨b1, b2, b3, b4⟩ := hm
    have no_l : ∀ n, n ≤ a.2 + 1 → ¬ memS l n := by
      rintro n hn ⟨s, hs, h1, h2⟩
      have := a3 s hs; omega
    have no_m : ∀ n, n ≤ b.2 + 1 → ¬ memS m n := by
      rintro n hn ⟨s, hs, h1, h2⟩
      have := b3 s hs; omega
    have e1 : a.1 = b.1 := by
      have x := (h a.1).1 ((memS_cons _ _ _).2 (.inl ⟨by omega, a2⟩))
      have y := (h b.1).2 ((memS_cons _ _ _).2 (.inl ⟨by omega, b2⟩))
      rw [memS_cons] at x y
      have x' : b.1 ≤ a.1 := by
        rcases x with x | ⟨s, hs, h1, h2⟩
        · exact x.1
        · have := b3 s hs; omega
      have y' : a.1 ≤ b.1 := by
        rcases y with y | ⟨s, hs, h1, h2⟩
        · exact y.1
        · have := a3 s hs; omega
      omega
    have e2 : a.2 = b.2 := by
      rcases Int.lt_trichotomy a.2 b.2 with hlt | he | hgt
      · exfalso
        have y := (h (a.2 + 1)).2 ((memS_cons _ _ _).2 (.inl ⟨by omega, by omega⟩))
        rw [memS_cons] at y
        rcases y with y | y
        · omega
        · exact no_l _ (by omega) y
      · exact he
      · exfalso
        have y := (h (b.2 + 1)).1 ((memS_cons _ _ _).2 (.inl ⟨by omega, by omega⟩))
        rw [memS_cons] at y
        rcases y with y | y
        · omega
        · exact no_m _ (by omega) y
    have eab : a = b := Prod.ext e1 e2
    subst eab
    congr 1
    refine rise_one l m a4 b4 (fun n => ?_)
    have := h n
    rw [memS_cons, memS_cons] at this
    by_cases hn : n ≤ a.2
    · exact ⟨fun x => absurd x (no_l n (by omega)), fun x => absurd x (no_m n (by omega))⟩
    · constructor
      · intro x
        rcases this.1 (.inr x) with y | y
        · omega
        · exact y
      · intro x
        rcases this.2 (.inr x) with y | y
        · omega
        · exact y
theorem rise_app : ∀ (l : List Sp) (s : Sp), Rise (l ++ [s]) ↔ Rise l ∧ (1 ≤ s.1 ∧ s.1 ≤ s.2) ∧ ∀ t ∈ l, t.2 + 1 < s.1
  | [], s => by simp [Rise]
  | a :: l, s => by
    rw [List.cons_append]
    unfold Rise
    rw [rise_app l s]
    simp only [List.mem_append, List.mem_cons, List.not_mem_nil, or_false]
    constructor
    · rintro ⟨h1, h2, h3, h4, h5, h6⟩
      refine ⟨⟨h1, h2, fun t ht => h3 t (.inl ht), h4⟩, h5, ?_⟩
      rintro t (rfl | ht)
      · exact h3 s (.inr rfl)
      · exact h6 t ht
    · rintro ⟨⟨h1, h2, h3, h4⟩, h5, h6⟩
      refine ⟨h1, h2, ?_, h4, h5, fun t ht => h6 t (.inr ht)⟩
      rintro t (ht | rfl)
      · exact h3 t ht
      · exact h6 a (.inl rfl)
/-- What stands while sorted spans are joined: all up to k are in acc. -/
def JInv (done acc : List Sp) : Prop := Rise acc ∧ (∀ n, memS acc n ↔ memS done n) ∧ ∀ t ∈ acc, ∃ d ∈ done, t.1 = d.1
theorem jinv_nil : JInv [] [] := ⟨trivial, fun _ => Iff.rfl, fun _ h => by cases h⟩
theorem jinv_new {done acc : List Sp} (h : JInv done acc) (s : Sp) (hs : 1 ≤ s.1 ∧ s.1 ≤ s.2) (hn : ∀ t ∈ acc, t.2 + 1 < s.1) : JInv (done ++ [s]) (acc ++ [s]) := by
  obtain ⟨h1, h2, h3⟩ := h
  refine ⟨(rise_app _ _).2 ⟨h1, hs, hn⟩, fun n => ?_, ?_⟩
  · rw [memS_app, memS_app, h2 n]
  · intro t ht
    rcases List.mem_append.1 ht with ht | ht
    · obtain ⟨d, hd, e⟩ := h3 t ht
      exact ⟨d, List.mem_append.2 (.inl hd), e⟩
    · rw [List.mem_singleton] at ht
      exact ⟨s, by simp, by rw [ht]⟩
theorem rise_gap {acc : List Sp} {a s : Sp} (h : Rise (acc ++ [a])) (hs : a.2 + 1 < s.1) : ∀ t ∈ acc ++ [a], t.2 + 1 < s.1 := by
  intro t ht
  rw [rise_app] at h
  rcases List.mem_append.1 ht with ht | ht
  · have := h.2.2 t ht; omega
  · rw [List.mem_singleton] at ht; subst ht; exact hs
theorem jinv_old {done acc : List Sp} {a : Sp} (h : JInv done (acc ++ [a])) (s : Sp) (hs : s.1 ≤ s.2) (hd : ∀ d ∈ done, d.1 ≤ s.1) (hn : s.1 - 1 ≤ a.2) : JInv (done ++ [s]) (acc ++ [(a.1, max a.2 s.2)]) := by
  obtain ⟨h1, h2, h3⟩ := h
  rw [rise_app] at h1
  have ha : a.1 ≤ s.1 := by
    obtain ⟨d, hd', e⟩ := h3 a (by simp)
    rw [e]; exact hd d hd'
  refine ⟨(rise_app _ _).2 ⟨h1.1, ⟨h1.2.1.1, by simp only; have := h1.2.1.2; omega⟩, h1.2.2⟩, fun n => ?_, ?_⟩
  · have := h2 n
    rw [memS_app, memS_cons] at this
    rw [memS_app, memS_app, memS_cons, memS_cons, ← this]
    simp only [memS_nil, or_false]
    have := h1.2.1.2
    constructor
    · rintro (h | ⟨h5, h6⟩)
      · exact .inl (.inl h)
      · by_cases h7 : n ≤ a.2
        · exact .inl (.inr ⟨h5, h7⟩)
        · exact .inr ⟨by omega, by omega⟩
    · rintro ((h | ⟨h5, h6⟩) | ⟨h5, h6⟩)
      · exact .inl h
      · exact .inr ⟨h5, by omega⟩
      · exact .inr ⟨by omega, by omega⟩
  · intro t ht
    rcases List.mem_append.1 ht with ht | ht
    · obtain ⟨d, hd', e⟩ := h3 t (by simp [ht])
      exact ⟨d, by simp [hd'], e⟩
    · rw [List.mem_singleton] at ht
      subst ht
      obtain ⟨d, hd', e⟩ := h3 a (by simp)
      exact ⟨d, by simp [hd'], e⟩
/-- A set cut at the greatest number. -/
def cutP (l : List Sp) : List Sp := (l.filter fun s => decide (s.1 ≤ mx)).map fun s => (s.1, min s.2 mx)
theorem rise_cut : ∀ {l : List Sp}, Rise l → Rise (cutP l)
  | [], _ => trivial
  | a :: l, h => by
    obtain ⟨h1, h2, h3, h4⟩ := h
    have ih := rise_cut h4
    unfold cutP at ih ⊢
    by_cases ha : a.1 ≤ mx
    · rw [List.filter_cons_of_pos (by simpa using ha), List.map_cons]
      refine ⟨h1, by simp only; omega, ?_, ih⟩
      intro t ht
      simp only [List.mem_map, List.mem_filter] at ht
      obtain ⟨x, ⟨hx, _⟩, rfl⟩ := ht
      have := h3 x hx
      simp only; omega
    · rw [List.filter_cons_of_neg (by simpa using ha)]
      exact ih
theorem mem_cut (l : List Sp) (n : Int) : memS (cutP l) n ↔ n ≤ mx ∧ memS l n := by
  unfold memS cutP
  simp only [List.mem_map, List.mem_filter, decide_eq_true_eq]
  constructor
  · rintro ⟨s, ⟨x, ⟨hx, hm⟩, rfl⟩, h1, h2⟩
    simp only at h1 h2
    exact ⟨by omega, x, hx, h1, by omega⟩
  · rintro ⟨hn, x, hx, h1, h2⟩
    exact ⟨_, ⟨x, ⟨hx, by omega⟩, rfl⟩, h1, by simp only; omega⟩
/-- A rising set has a number just where the first span that ends no earlier begins no later. -/
theorem rise_search : ∀ {l : List Sp}, Rise l → ∀ n, memS l n ↔ ∃ s, l[l.countP fun s => decide (s.2 < n)]? = some s ∧ s.1 ≤ n
  | [], _, n => by simp [memS]
  | a :: l, h, n => by
    obtain ⟨h1, h2, h3, h4⟩ := h
    have ih := rise_search h4 n
    by_cases ha : a.2 < n
    · rw [List.countP_cons_of_pos (by simpa using ha), List.getElem?_cons_succ, memS_cons, ← ih]
      constructor
      · rintro (h | h)
        · omega
        · exact h
      · exact .inr
    · have hz : (l.countP fun s => decide (s.2 < n)) = 0 := by
        rw [List.countP_eq_zero]
        intro s hs
        have := h3 s hs
        have := (Rise.ok h4 s hs).2
        simp; omega
      rw [List.countP_cons_of_neg (by simpa using ha), hz, memS_cons]
      simp only [List.getElem?_cons_zero, Option.some.injEq]
      constructor
      · rintro (h | ⟨s, hs, h5, h6⟩)
        · exact ⟨a, rfl, h.1⟩
        · have := h3 s hs; omega
      · rintro ⟨s, rfl, h5⟩
        exact .inl ⟨h5, by omega⟩
theorem rise_hi : ∀ {l : List Sp}, Rise l → ∀ (i j : Nat), i ≤ j → ∀ (a b : Sp), l[i]? = some a → l[j]? = some b → a.2 ≤ b.2
  | [], _, i, j, _, a, b, h, _ => by simp at h
  | x :: l, h, 0, 0, _, a, b, h1, h2 => by simp at h1 h2; subst h1 h2; omega
  | x :: l, h, 0, j + 1, _, a, b, h1, h2 => by
    simp at h1 h2; subst h1
    have hm := List.mem_of_getElem? h2
    have := h.2.2.1 b hm
    have := (Rise.ok h.2.2.2 b hm).2
    omega
  | x :: l, h, i + 1, 0, hij, _, _, _, _ => by omega
  | x :: l, h, i + 1, j + 1, hij, a, b, h1, h2 => rise_hi h.2.2.2 i j (by omega) a b (by simpa using h1) (by simpa using h2)
theorem hasB_false_of (l : List Sp) (n most : Int) (h : n < 1) : hasB l n most = false := by
  unfold hasB
  rw [List.any_eq_false]
  intro s _
  simp; omega
theorem hasB_rise {l : List Sp} (h : Rise l) (n most : Int) : hasB l n most = true ↔ memS l n := by
  unfold hasB memS
  simp only [List.any_eq_true, Bool.and_eq_true, decide_eq_true_eq]
  constructor
  · rintro ⟨s, hs, h1, h2⟩
    refine ⟨s, hs, ?_⟩
    have ho := Rise.ok h s hs
    unfold covB at h2
    rw [if_neg (by omega)] at h2
    unfold kn at h2
    rw [if_neg (by omega), if_neg (by omega)] at h2
    simp at h2; omega
  · rintro ⟨s, hs, h1, h2⟩
    have ho := Rise.ok h s hs
    refine ⟨s, hs, by omega, ?_⟩
    unfold covB
    rw [if_neg (by omega)]
    unfold kn
    rw [if_neg (by omega), if_neg (by omega)]
    simp; omega
end Go.Proofs.YtaniljfjmbifnaaGreatDoor.S
namespace Go.Proofs.YtaniljfjmbifnaaGreatDoor.S
set_option linter.unusedVariables false
set_option linter.unusedSimpArgs false

abbrev Bs := List UInt8
def dgB (c : UInt8) : Bool := decide (48 ≤ c.toNat) && decide (c.toNat ≤ 57)
def valF (n : Nat) (l : Bs) : Nat := l.foldl (fun n c => 10 * n + (c.toNat - 48)) n
def valN (l : Bs) : Nat := valF 0 l
def mi : Int := 9223372036854775807
def numC (l : Bs) : Int := min (valN l : Int) mi
/-- A number of a span, and what is left. -/
def endP (l : Bs) : Option (Int × Bs) :=
  if l.head? = some 42 then some (0, l.drop 1)
  else if l.takeWhile dgB = [] ∨ (l.takeWhile dgB).head? = some 48 then none
  else some (numC (l.takeWhile dgB), l.dropWhile dgB)
def spanP (l : Bs) : Option (Sp × Bs) :=
  match endP l with
  | none => none
  | some (a, r) => if r.head? = some 58 then (match endP (r.drop 1) with | none => none | some (b, r2) => some ((a, b), r2)) else some ((a, a), r)
def setP : Nat → Bs → Option (List Sp)
  | 0, _ => none
  | k + 1, l => match spanP l with
    | none => none
    | some (s, r) => if r.head? = some 44 then (setP k (r.drop 1)).map (s :: ·) else if r = [] then some [s] else none
def farB (s : Sp) : Bool := decide (mx < s.1) || decide (mx < s.2)
/-- What Parse answers. -/
def parV (s : Bs) : List Sp × Int :=
  match setP (s.length + 1) s with
  | none => ([], 11)
  | some S => if S.any farB then ([], 3) else if 1000 < S.length then ([], 5) else (S, 0)
/-- The document's number. -/
def numR (t : Bs) : Int :=
  if t = [42] then 0 else if t = [] ∨ t.head? = some 48 then -1
  else if t.all dgB then (if mx < (valN t : Int) then -2 else (valN t : Int)) else -1
/-- The document's pieces. -/
def splB (c : UInt8) : Bs → List Bs
  | [] => [[]]
  | x :: l => if x = c then [] :: splB c l else match splB c l with | [] => [[x]] | p :: ps => (x :: p) :: ps
def docSp (p : Bs) : Option Sp :=
  if 2 < (splB 58 p).length then none
  else if numR ((splB 58 p).headD []) = -1 ∨ numR ((splB 58 p).getLastD []) = -1 then none
  else some (numR ((splB 58 p).headD []), numR ((splB 58 p).getLastD []))
def docL : List Bs → Option (List Sp)
  | [] => some []
  | p :: ps => match docSp p with | none => none | some s => (docL ps).map (s :: ·)
def gr2 (s : Sp) : Bool := decide (s.1 = -2) || decide (s.2 = -2)
def parR (s : Bs) : List Sp × Int :=
  match docL (splB 44 s) with
  | none => ([], 11)
  | some L => if L.any gr2 then ([], 3) else if 1000 < L.length then ([], 5) else (L, 0)

theorem splB_ne (c : UInt8) (l : Bs) : splB c l ≠ [] := by
  cases l with
  | nil => simp [splB]
  | cons x l => unfold splB; split
                · simp
                · split <;> simp
theorem splB_cut (c : UInt8) : ∀ (l : Bs), splB c l = l.takeWhile (· != c) :: (match l.dropWhile (· != c) with | [] => [] | _ :: r => splB c r)
  | [] => by simp [splB]
  | x :: l => by
    by_cases h : x = c
    · subst h; simp [splB]
    · rw [splB, if_neg h, splB_cut c l]
      have hx : (x != c) = true := by simpa using h
      simp [List.takeWhile_cons, List.dropWhile_cons, hx]
theorem dropWhile_head {α} (p : α → Bool) : ∀ (l : List α), (l.dropWhile p = []) ∨ ∃ x r, l.dropWhile p = x :: r ∧ p x = false
  | [] => .inl rfl
  | a :: l => by
    by_cases h : p a = true
    · rw [List.dropWhile_cons_of_pos h]; exact dropWhile_head p l
    · rw [List.dropWhile_cons_of_neg h]; exact .inr ⟨a, l, rfl, by simpa using h⟩
theorem takeWhile_all {α} (p : α → Bool) : ∀ (l : List α), ∀ x ∈ l.takeWhile p, p x = true
  | [], x, h => by simp at h
  | a :: l, x, h => by
    by_cases ha : p a = true
    · rw [List.takeWhile_cons_of_pos ha] at h
      rcases List.mem_cons.1 h with rfl | h
      · exact ha
      · exact takeWhile_all p l x h
    · rw [List.takeWhile_cons_of_neg ha] at h; simp at h
theorem takeWhile_app_of {α} (p : α → Bool) (l r : List α) (hr : ∀ x, r.head? = some x → p x = false) : (l ++ r).takeWhile p = l.takeWhile p ∧ (l ++ r).dropWhile p = l.dropWhile p ++ r := by
  induction l with
  | nil =>
    cases r with
    | nil => simp
    | cons x r => have := hr x rfl; simp [List.takeWhile_cons, List.dropWhile_cons, this]
  | cons a l ih =>
    by_cases ha : p a = true
    · simp [List.takeWhile_cons, List.dropWhile_cons, ha, ih]
    · simp [List.takeWhile_cons, List.dropWhile_cons, ha]
theorem endP_nil : endP [] = none := by simp [endP]
theorem endP_app (p r : Bs) (hr : ∀ x, r.head? = some x → x ≠ 42 ∧ dgB x = false) : endP (p ++ r) = (endP p).map fun x => (x.1, x.2 ++ r) := by
  cases p with
  | nil =>
    rw [endP_nil, List.nil_append]
    have ht : r.takeWhile dgB = [] := by
      cases r with
      | nil => rfl
      | cons x r => rw [List.takeWhile_cons_of_neg (by simp [(hr x rfl).2])]
    unfold endP
    rw [if_neg (fun e => (hr _ e).1 rfl), if_pos (.inl ht)]
    rfl
  | cons a p =>
    unfold endP
    obtain ⟨h1, h2⟩ := takeWhile_app_of dgB (a :: p) r (fun x hx => (hr x hx).2)
    rw [h1, h2]
    simp only [List.cons_append, List.head?_cons, List.drop_succ_cons, List.drop_zero]
    split
    · rfl
    · split <;> rfl
theorem valF_ge : ∀ (l : Bs) (n : Nat), n ≤ valF n l
  | [], n => Nat.le_refl _
  | c :: l, n => by
    have := valF_ge l (10 * n + (c.toNat - 48))
    show n ≤ valF (10 * n + (c.toNat - 48)) l
    omega
theorem numC_pos (l : Bs) : 0 ≤ numC l := by unfold numC mi; omega
theorem numC_far (l : Bs) : mx < numC l ↔ mx < (valN l : Int) := by unfold numC mi mx; omega
theorem endP_pos {l r : Bs} {v : Int} (h : endP l = some (v, r)) : 0 ≤ v := by
  unfold endP at h
  split at h
  · simp at h; omega
  · split at h
    · simp at h
    · simp at h; rw [← h.1]; exact numC_pos _
theorem endP_suf {l r : Bs} {v : Int} (h : endP l = some (v, r)) : ∃ d, l = d ++ r ∧ d ≠ [] := by
  unfold endP at h
  split at h
  · rename_i h0
    cases l with
    | nil => simp at h0
    | cons a l => simp at h; exact ⟨[a], by simp [h.2], by simp⟩
  · split at h
    · simp at h
    · rename_i h1
      simp at h
      exact ⟨l.takeWhile dgB, by rw [← h.2, List.takeWhile_append_dropWhile], fun e => h1 (.inl e)⟩
def cl (v : Int) : Int := if mx < v then -2 else v
def clS (s : Sp) : Sp := (cl s.1, cl s.2)
theorem cl_ne {v : Int} (h : 0 ≤ v) : cl v ≠ -1 := by unfold cl; split <;> omega
theorem numR_yes {t : Bs} {v : Int} (h : endP t = some (v, [])) : numR t = cl v := by
  unfold endP at h
  split at h
  · rename_i h0
    simp at h
    cases t with
    | nil => simp at h0
    | cons a t =>
      simp at h0 h
      obtain ⟨rfl, rfl⟩ := h
      subst h0
      simp [numR, cl, mx]
  · rename_i h0
    split at h
    · simp at h
    · rename_i h1
      simp only [Option.some.injEq, Prod.mk.injEq] at h
      have ht : t.takeWhile dgB = t := by
        have := List.takeWhile_append_dropWhile (p := dgB) (l := t)
        rw [h.2, List.append_nil] at this; exact this
      rw [ht] at h1 h
      have ha : t.all dgB = true := by
        rw [List.all_eq_true]
        intro x hx
        rw [← ht] at hx
        exact takeWhile_all dgB t x hx
      unfold numR
      rw [if_neg (by rintro rfl; simp at h0), if_neg h1, if_pos ha, ← h.1]
      unfold cl
      simp only [numC_far]
      split
      · rfl
      · unfold numC; have : ¬ mx < (valN t : Int) := by assumption
        unfold mx at this; unfold mi; omega
theorem numR_no {t : Bs} (h : ∀ v, endP t ≠ some (v, [])) : numR t = -1 := by
  unfold numR
  by_cases h0 : t = [42]
  · exact absurd (by subst h0; rfl) (h 0)
  · rw [if_neg h0]
    by_cases h1 : t = [] ∨ t.head? = some 48
    · rw [if_pos h1]
    · rw [if_neg h1]
      by_cases ha : t.all dgB = true
      · exfalso
        have ht : t.takeWhile dgB = t ∧ t.dropWhile dgB = [] := by
          rw [List.all_eq_true] at ha
          clear h h0 h1
          induction t with
          | nil => simp
          | cons a t ih =>
            have := ih (fun x hx => ha x (List.mem_cons_of_mem _ hx))
            have ha' := ha a (by simp)
            simp [List.takeWhile_cons, List.dropWhile_cons, ha', this]
        refine h (numC t) ?_
        unfold endP
        rw [ht.1, ht.2, if_neg ?_, if_neg h1]
        intro e
        cases t with
        | nil => simp at e
        | cons a t =>
          simp at e
          subst e
          simp [dgB] at ha
      · rw [if_neg ha]
theorem tw_no {c : UInt8} {l : Bs} {x : UInt8} (h : x ∈ l.takeWhile (· != c)) : x ≠ c := by
  have := takeWhile_all _ _ _ h
  simpa using this
theorem head_mem {l : Bs} {x : UInt8} (h : l.head? = some x) : x ∈ l := by
  cases l with
  | nil => simp at h
  | cons a l => simp at h; simp [h]
theorem dw_head {c : UInt8} {l : Bs} {x : UInt8} (h : (l.dropWhile (· != c)).head? = some x) : x = c := by
  rcases dropWhile_head (· != c) l with e | ⟨y, r, e, hy⟩
  · rw [e] at h; simp at h
  · rw [e] at h; simp at h hy; rw [← h, hy]
/-- A whole piece: read to its end. -/
def whole (o : Option (Sp × Bs)) : Option Sp := match o with | some (s, []) => some (clS s) | _ => none
theorem whole_app {s : Sp} {q : Bs} (h : q ≠ []) : whole (some (s, q)) = none := by
  cases q with
  | nil => exact absurd rfl h
  | cons a q => rfl
theorem doc_span (p : Bs) : docSp p = whole (spanP p) := by
  have hs := splB_cut 58 p
  have hp : p.takeWhile (· != 58) ++ p.dropWhile (· != 58) = p := List.takeWhile_append_dropWhile
  have hd := @dw_head 58 p
  have hn : ∀ x ∈ p.takeWhile (· != 58), x ≠ 58 := fun x hx => tw_no hx
  generalize p.takeWhile (· != 58) = p1 at *
  generalize p.dropWhile (· != 58) = rest at *
  have he := endP_app p1 rest (fun x hx => by rw [hd hx]; exact ⟨by decide, by decide⟩)
  rw [hp] at he
  unfold spanP
  rw [he]
  rcases h1 : endP p1 with _ | ⟨a, q⟩
  · have hr := numR_no (t := p1) (by simp [h1])
    simp only [Option.map_none, whole]
    unfold docSp
    rw [hs, List.headD_cons, hr]
    simp
  · simp only [Option.map_some]
    by_cases hq : q = []
    · subst hq
      have hr := numR_yes h1
      have ha := cl_ne (endP_pos h1)
      rw [List.nil_append]
      cases rest with
      | nil =>
        simp only [List.head?_nil, reduceCtorEq, if_false, whole]
        unfold docSp
        rw [hs]
        simp [hr, ha, clS]
      | cons c r =>
        have := hd (x := c) rfl
        subst this
        simp only [List.head?_cons, if_true, List.drop_succ_cons, List.drop_zero]
        simp only at hs
        have hs2 := splB_cut 58 r
        have hp2 : r.takeWhile (· != 58) ++ r.dropWhile (· != 58) = r := List.takeWhile_append_dropWhile
        have hd2 := @dw_head 58 r
        generalize r.takeWhile (· != 58) = p2 at *
        generalize r.dropWhile (· != 58) = rest2 at *
        have he2 := endP_app p2 rest2 (fun x hx => by rw [hd2 hx]; exact ⟨by decide, by decide⟩)
        rw [hp2] at he2
        cases rest2 with
        | nil =>
          rw [List.append_nil] at hp2
          subst hp2
          unfold docSp
          rw [hs, hs2]
          rcases h2 : endP p2 with _ | ⟨b, q2⟩
          · have hr2 := numR_no (t := p2) (by simp [h2])
            simp [hr, hr2, whole]
          · by_cases hq2 : q2 = []
            · subst hq2
              have hr2 := numR_yes h2
              have hb := cl_ne (endP_pos h2)
              simp [hr, hr2, whole, ha, hb, clS]
            · have hr2 := numR_no (t := p2) (by intro v e; rw [h2] at e; simp at e; exact hq2 e.2)
              rw [whole_app hq2]
              simp [hr, hr2]
        | cons c2 r3 =>
          have hl : 2 < (splB 58 p).length := by
            rw [hs, hs2]
            have := splB_ne 58 r3
            have := List.length_pos_iff.2 this
            simp; omega
          unfold docSp
          rw [if_pos hl, he2]
          rcases h2 : endP p2 with _ | ⟨b, q2⟩
          · rfl
          · simp only [Option.map_some]
            rw [whole_app (by simp)]
    · have hr := numR_no (t := p1) (by intro v e; rw [h1] at e; simp at e; exact hq e.2)
      obtain ⟨d, hd1, _⟩ := endP_suf h1
      have hh : (q ++ rest).head? ≠ some 58 := by
        cases q with
        | nil => exact absurd rfl hq
        | cons x q =>
          simp only [List.cons_append, List.head?_cons, ne_eq, Option.some.injEq]
          exact hn x (by rw [hd1]; simp)
      rw [if_neg hh, whole_app (by simp [hq])]
      unfold docSp
      rw [hs, List.headD_cons, hr]
      simp
theorem span_app (p r : Bs) (hr : ∀ x, r.head? = some x → x = 44) : spanP (p ++ r) = (spanP p).map fun x => (x.1, x.2 ++ r) := by
  have hr' : ∀ x, r.head? = some x → x ≠ 42 ∧ dgB x = false := fun x hx => by rw [hr x hx]; exact ⟨by decide, by decide⟩
  unfold spanP
  rw [endP_app p r hr']
  rcases h1 : endP p with _ | ⟨a, q⟩
  · rfl
  · simp only [Option.map_some]
    cases q with
    | nil =>
      rw [List.nil_append, if_neg (fun e => by have := hr _ e; simp at this)]
      rfl
    | cons x q =>
      simp only [List.cons_append, List.head?_cons, List.drop_succ_cons, List.drop_zero]
      by_cases hx : x = 58
      · subst hx
        simp only [if_true]
        rw [endP_app q r hr']
        rcases h2 : endP q with _ | ⟨b, q2⟩ <;> rfl
      · rw [if_neg (by simpa using hx), if_neg (by simpa using hx)]
        rfl
theorem span_suf {l r : Bs} {s : Sp} (h : spanP l = some (s, r)) : ∃ d, l = d ++ r ∧ d ≠ [] := by
  unfold spanP at h
  rcases h1 : endP l with _ | ⟨a, q⟩
  · rw [h1] at h; simp at h
  · rw [h1] at h
    obtain ⟨d, hd, hn⟩ := endP_suf h1
    simp only at h
    split at h
    · rcases h2 : endP (q.drop 1) with _ | ⟨b, q2⟩
      · rw [h2] at h; simp at h
      · rw [h2] at h
        simp at h
        obtain ⟨d2, hd2, _⟩ := endP_suf h2
        refine ⟨d ++ q.take 1 ++ d2, ?_, by simp [hn]⟩
        rw [← h.2, List.append_assoc, List.append_assoc, ← hd2, List.take_append_drop, hd]
    · simp at h
      exact ⟨d, by rw [← h.2]; exact hd, hn⟩
theorem span_pos {l r : Bs} {s : Sp} (h : spanP l = some (s, r)) : 0 ≤ s.1 ∧ 0 ≤ s.2 := by
  unfold spanP at h
  rcases h1 : endP l with _ | ⟨a, q⟩
  · rw [h1] at h; simp at h
  · rw [h1] at h
    have ha := endP_pos h1
    simp only at h
    split at h
    · rcases h2 : endP (q.drop 1) with _ | ⟨b, q2⟩
      · rw [h2] at h; simp at h
      · rw [h2] at h
        simp at h
        have hb := endP_pos h2
        rw [← h.1]; exact ⟨ha, hb⟩
    · simp at h
      rw [← h.1]; exact ⟨ha, ha⟩
theorem doc_set : ∀ (k : Nat) (s : Bs), s.length < k → docL (splB 44 s) = (setP k s).map fun l => l.map clS
  | 0, s, h => by omega
  | k + 1, s, h => by
    have hs := splB_cut 44 s
    have hp : s.takeWhile (· != 44) ++ s.dropWhile (· != 44) = s := List.takeWhile_append_dropWhile
    have hd := @dw_head 44 s
    have hn : ∀ x ∈ s.takeWhile (· != 44), x ≠ 44 := fun x hx => tw_no hx
    generalize s.takeWhile (· != 44) = p at *
    generalize s.dropWhile (· != 44) = rest at *
    have he := span_app p rest (fun x hx => hd hx)
    rw [hp] at he
    rw [hs, docL, doc_span p, setP, he]
    rcases h1 : spanP p with _ | ⟨a, q⟩
    · rfl
    · simp only [Option.map_some]
      by_cases hq : q = []
      · subst hq
        simp only [whole, List.nil_append]
        cases rest with
        | nil => simp [docL]
        | cons c r =>
          have := hd (x := c) rfl
          subst this
          have hlen : r.length < k := by
            have := congrArg List.length hp
            simp at this; omega
          simp only [List.head?_cons, if_true, List.drop_succ_cons, List.drop_zero]
          rw [doc_set k r hlen]
          rcases setP k r with _ | S <;> simp
      · obtain ⟨d, hd1, _⟩ := span_suf h1
        rw [whole_app hq]
        have hh : (q ++ rest).head? ≠ some 44 := by
          cases q with
          | nil => exact absurd rfl hq
          | cons x q =>
            simp only [List.cons_append, List.head?_cons, ne_eq, Option.some.injEq]
            exact hn x (by rw [hd1]; simp)
        rw [if_neg hh, if_neg (by simp [hq])]
        rfl
theorem set_pos : ∀ (k : Nat) (s : Bs) (S : List Sp), setP k s = some S → ∀ x ∈ S, 0 ≤ x.1 ∧ 0 ≤ x.2
  | 0, s, S, h => by simp [setP] at h
  | k + 1, s, S, h => by
    rw [setP] at h
    rcases h1 : spanP s with _ | ⟨a, q⟩
    · rw [h1] at h; simp at h
    · rw [h1] at h
      simp only at h
      have ha := span_pos h1
      split at h
      · rcases h2 : setP k (q.drop 1) with _ | T
        · rw [h2] at h; simp at h
        · rw [h2] at h; simp at h
          subst h
          intro x hx
          rcases List.mem_cons.1 hx with rfl | hx
          · exact ha
          · exact set_pos k _ T h2 x hx
      · split at h
        · simp at h; subst h
          intro x hx
          simp at hx; subst hx; exact ha
        · simp at h
theorem far_gr {s : Sp} (h : 0 ≤ s.1 ∧ 0 ≤ s.2) : gr2 (clS s) = farB s := by
  unfold gr2 farB clS cl
  by_cases h1 : mx < s.1 <;> by_cases h2 : mx < s.2 <;> simp [h1, h2] <;> omega
theorem cl_id {s : Sp} (h : farB s = false) : clS s = s := by
  unfold farB at h
  simp at h
  unfold clS cl
  rw [if_neg (by omega), if_neg (by omega)]
/-- Both ways read the same. -/
theorem par_is (s : Bs) : parR s = parV s := by
  unfold parR parV
  rw [doc_set (s.length + 1) s (by omega)]
  rcases h : setP (s.length + 1) s with _ | S
  · rfl
  · simp only [Option.map_some]
    have hp := set_pos _ _ _ h
    have e : (S.map clS).any gr2 = S.any farB := by
      rw [List.any_map]
      clear h
      induction S with
      | nil => rfl
      | cons a S ih =>
        simp only [List.any_cons, Function.comp_apply]
        rw [far_gr (hp a (by simp)), ih (fun x hx => hp x (List.mem_cons_of_mem _ hx))]
    rw [e]
    by_cases hf : S.any farB = true
    · simp [hf]
    · simp only [hf, if_false, List.length_map]
      have : S.map clS = S := by
        rw [List.any_eq_true] at hf
        refine (List.map_congr_left (g := id) fun a ha => ?_).trans (List.map_id _)
        exact cl_id (by cases h3 : farB a with | false => rfl | true => exact absurd ⟨a, ha, h3⟩ hf)
      rw [this]
end Go.Proofs.YtaniljfjmbifnaaGreatDoor.S
namespace Go.Proofs.YtaniljfjmbifnaaGreatDoor.S
open Go.RowKit
set_option linter.unusedVariables false
set_option linter.unusedSimpArgs false

theorem lt_of_some {w : World} {b : Nat} {o : Obj} (h : w.heap[b]? = some o) : b < w.heap.size := (Array.getElem?_eq_some_iff.1 h).1
theorem drewN_below (w : World) (n B : Nat) : Below B w (w.drewN n) := ⟨rfl, rfl, rfl, Nat.le_refl _, fun _ _ => rfl⟩
def str (l : List UInt8) : ByteArray := ⟨l.toArray⟩
theorem str_data (l : List UInt8) : (str l).data.toList = l := rfl
theorem str_size (l : List UInt8) : (str l).size = l.length := by simp [str, ByteArray.size]
theorem str_of (s : ByteArray) : str s.data.toList = s := by cases s; simp [str]
theorem drop_str (l : Bs) (n : Nat) : (str l).extract n (str l).size = str (l.drop n) := by
  rw [Go.Lib.extract_eq, Go.Lib.size_eq, List.take_of_length_le (by simp)]
  rfl
theorem take_str (l : Bs) (n : Nat) : (str l).extract 0 n = str (l.take n) := by
  rw [Go.Lib.extract_eq]
  rfl
theorem mid_str (l : Bs) (m n : Nat) : (str l).extract m n = str ((l.drop m).take (n - m)) := by
  rw [Go.Lib.extract_eq]
  rfl
theorem app_str (l m : Bs) : str l ++ str m = str (l ++ m) := by
  apply ByteArray.ext
  simp [str]
theorem str_inj {l m : Bs} (h : str l = str m) : l = m := by
  have := congrArg (fun s => s.data.toList) h
  exact this
theorem toL (l : Bs) : (str l).toList = l := by rw [Go.Lib.toList_data, str_data]

theorem exec_append {a : Act} {x y : Operand} {u s : Value} {w w' : World} {v : Value} {d : Option Tmp} {t t2 ty : Nat} {pos : String} {af : Array Edge} {g : Option (Nat × Bool)} (hx : a.eval x = u) (hy : a.eval y = s)
    (h : (Builtin.append_ #[t, t2] ty #[u, s]).run Tryz.prog w = .ok v w') : (execOp a.eval ⟨d, .call { callee := .builtin .append, args := #[x, y], argTypes := #[t, t2] }, ty, pos, af, g⟩).run Tryz.prog w = .ok (.value v) w' := by
  simp only [execOp, resolve, invoke, builtin, Sem.run_bind, Sem.run_pure, Result.andThen_ok, List.map_toArray, List.map_cons, List.map_nil, hx, hy, h]
theorem wpList_append_run {ops : Array Oper} {rest : List Oper} {Q : Exit → Act → World → Prop} {a : Act} {x y : Operand} {u s : Value} {w w' : World} {v : Value} {d : Option Tmp} {t t2 ty : Nat} {pos : String} {af : Array Edge} (hx : a.eval x = u) (hy : a.eval y = s)
    (hrun : (Builtin.append_ #[t, t2] ty #[u, s]).run Tryz.prog w = .ok v w') (h : wpList Tryz.prog ops Q rest (a.put d v) w') : wpList Tryz.prog ops Q (⟨d, .call { callee := .builtin .append, args := #[x, y], argTypes := #[t, t2] }, ty, pos, af, none⟩ :: rest) a w := by
  refine wpList_plain rfl fun K hK => ?_
  unfold Oper.wp
  rw [exec_append hx hy hrun]
  exact hK _ _ h

/-- How elements of a list lie in memory. -/
structure En (α : Type) where
  enc : α → List Value
  k : Nat
  T : TypeId
  t : TypeId
  by_ : Nat
  z : Value
  len : ∀ x, (enc x).length = k
  one : ∀ x, ∀ v ∈ enc x, v.oneCell' = true
  ut : Tryz.prog.underlying t = some (.slice T)
  inf : (Tryz.prog.info? T).map (fun i => (i.zero, i.size, i.bytes)) = some (some z, k, by_)
  hz : z.cells.size = k
  hk : 0 < k
  hby : by_ ≤ 1000
variable {α : Type}
def En.cs (E : En α) (l : List α) : List Value := l.flatMap E.enc
theorem En.cs_append (E : En α) (l m : List α) : E.cs (l ++ m) = E.cs l ++ E.cs m := by simp [En.cs]
theorem En.cs_one (E : En α) (l : List α) : ∀ v ∈ E.cs l, v.oneCell' = true := by
  intro v hv
  simp only [En.cs, List.mem_flatMap] at hv
  obtain ⟨x, _, hx⟩ := hv
  exact E.one x v hx
theorem En.cs_len (E : En α) (l : List α) : (E.cs l).length = l.length * E.k := by
  induction l with
  | nil => simp [En.cs]
  | cons a l ih =>
    have : E.cs (a :: l) = E.enc a ++ E.cs l := rfl
    rw [this, List.length_append, E.len, ih, List.length_cons, Nat.succ_mul]; omega
theorem En.cs_at (E : En α) : ∀ (l : List α) (j i : Nat) (x : α) (v : Value), l[j]? = some x → (E.enc x)[i]? = some v → (E.cs l)[j * E.k + i]? = some v
  | [], j, i, x, v, h1, h2 => by simp at h1
  | a :: l, 0, i, x, v, h1, h2 => by
    simp at h1; subst h1
    have hi : i < (E.enc a).length := (List.getElem?_eq_some_iff.1 h2).1
    have : E.cs (a :: l) = E.enc a ++ E.cs l := rfl
    rw [this, Nat.zero_mul, Nat.zero_add, List.getElem?_append_left hi]
    exact h2
  | a :: l, j + 1, i, x, v, h1, h2 => by
    have ih := E.cs_at l j i x v (by simpa using h1) h2
    have : E.cs (a :: l) = E.enc a ++ E.cs l := rfl
    rw [this, List.getElem?_append_right (by rw [E.len, Nat.succ_mul]; omega), E.len, show (j + 1) * E.k + i - E.k = j * E.k + i by rw [Nat.succ_mul]; omega]
    exact ih
/-- Elements lie in memory. -/
def GA (E : En α) (w : World) (g o : Nat) (l : List α) : Prop := ∀ (j i : Nat) (x : α) (v : Value), l[j]? = some x → (E.enc x)[i]? = some v → w.cell? ⟨g, o + (j * E.k + i), none⟩ = some v
def GL (E : En α) (w : World) (v : Value) (l : List α) : Prop := ∃ a c, v = .slice a l.length c ∧ l.length ≤ c ∧ (l = [] ∨ ∃ g o, a = some ⟨g, o, none⟩ ∧ GA E w g o l ∧ g < w.heap.size)
theorem GA.later {E : En α} {w w' : World} {g o : Nat} {l : List α} (h : GA E w g o l) (hb : Below w.heap.size w w') : GA E w' g o l := by
  intro j i x v h1 h2
  have := h j i x v h1 h2
  exact (World.cell?_of_block (hb.block g (World.block_lt_of_cell? w _ this))).trans this
theorem GL.later {E : En α} {w w' : World} {v : Value} {l : List α} (h : GL E w v l) (hb : Below w.heap.size w w') : GL E w' v l := by
  obtain ⟨a, c, rfl, hc, h⟩ := h
  refine ⟨a, c, rfl, hc, ?_⟩
  rcases h with h | ⟨g, o, rfl, h, hg⟩
  · exact .inl h
  · exact .inr ⟨g, o, rfl, h.later hb, Nat.lt_of_lt_of_le hg hb.size⟩
/-- Elements of one's own. -/
def GO (E : En α) (w : World) (B : Nat) (v : Value) (l : List α) : Prop := w.ownsRow B E.T E.k v l.length (E.cs l)
theorem GO.nil (E : En α) (w : World) (B : Nat) : GO E w B (.slice none 0 0) [] := ⟨by simp [En.cs], .inl ⟨rfl, rfl⟩⟩
theorem GO.later {E : En α} {w w' : World} {B : Nat} {v : Value} {l : List α} (h : GO E w B v l) (hb : Below w.heap.size w w') : GO E w' B v l :=
  ownsRow_block h (fun g hg => hb.block g (World.ownsRow.lt h g hg).2)
theorem GO.base {E : En α} {w : World} {B B' : Nat} {v : Value} {l : List α} (h : GO E w B v l) (hB : B' ≤ B) : GO E w B' v l := ownsRow_base h hB
theorem GO.slice {E : En α} {w : World} {B : Nat} {v : Value} {l : List α} (h : GO E w B v l) {n : Nat} (hn : l.length = n) : ∃ a c, v = .slice a n c := by
  subst hn
  rcases h.2 with ⟨h1, h2⟩ | ⟨g, cap, cur, h1, _⟩
  · exact ⟨none, 0, by rw [h1, h2]⟩
  · exact ⟨_, _, h1⟩
theorem GO.gl {E : En α} {w : World} {B : Nat} {v : Value} {l : List α} (h : GO E w B v l) : GL E w v l := by
  rcases id h.2 with ⟨rfl, h0⟩ | ⟨g, cap, cur, rfl, _, hg, hc, _⟩
  · have := List.eq_nil_of_length_eq_zero h0
    subst this
    exact ⟨none, 0, rfl, by simp, .inl rfl⟩
  · refine ⟨_, cap, rfl, hc, .inr ⟨g, 0, rfl, fun j i x v h1 h2 => ?_, lt_of_some hg⟩⟩
    have := World.ownsRow.cells h rfl (j * E.k + i) v (E.cs_at l j i x v h1 h2)
    rw [Addr.add_mid] at this
    exact this
theorem GO.ne {E : En α} {w : World} {B b : Nat} {X : Array Value} {t : TypeId} {fr : Nat × Nat} {v : Value} {l : List α} (ht : t ≠ E.T) (hb : w.heap[b]? = some (.cells X t fr)) (h : GO E w B v l) : v.ownBlock ≠ some b := by
  intro e
  rcases h.2 with ⟨h1, _⟩ | ⟨g, cap, cur, h1, _, h2, _⟩
  · subst h1; simp [Value.ownBlock] at e
  · subst h1
    simp only [Value.ownBlock, Option.some.injEq] at e
    subst e
    rw [hb] at h2
    simp at h2
    exact ht h2.2.1
theorem GO.setOther {E : En α} {w : World} {B b : Nat} {X : Array Value} {t : TypeId} {fr : Nat × Nat} {v : Value} {l : List α} (h : GO E w B v l) (ht : t ≠ E.T) (hb : w.heap[b]? = some (.cells X t fr)) (o : Nat) (u : Value) : GO E (w.setCell ⟨b, o, none⟩ u) B v l :=
  ownsRow_setCell_other h (h.ne ht hb) _
/-- More elements. -/
theorem go_more (E : En α) {w : World} {B : Nat} {v : Value} {l : List α} (h : GO E w B v l) (hBw : B ≤ w.heap.size) {u : Value} {m : List α} (hu : GL E w u m) (hl : l.length ≤ 10000000) (hm : m.length ≤ 1000000) (hne : m ≠ []) :
    ∃ v' w', (Builtin.append_ #[E.t, E.t] E.t #[v, u]).run Tryz.prog w = .ok v' w' ∧ GO E w' B v' (l ++ m) ∧ Below B w w' ∧ w.grownBy w' v.ownBlock := by
  obtain ⟨i, hi, hz0, hz1, hz2⟩ := info_parts E.inf
  obtain ⟨a, c, rfl, hc, hs⟩ := hu
  rcases hs with hs | ⟨g, o, rfl, hs, hg⟩
  · exact absurd hs hne
  · obtain ⟨v', w', hr, ho', hg, _, _⟩ := run_append_own_at (P := Tryz.prog) w B E.t E.t E.T i _ E.k E.by_ E.ut hi hz0 hz1 hz2 E.hz E.hk v l.length (E.cs l) h
      ⟨g, o, none⟩ m.length c (E.cs m) (E.cs_len m) (fun j x hx => by
        rw [Addr.add_mid]
        have hj : j < (E.cs m).length := (List.getElem?_eq_some_iff.1 hx).1
        rw [E.cs_len] at hj
        have e1 : j / E.k < m.length := (Nat.div_lt_iff_lt_mul E.hk).2 hj
        have e2 : j % E.k < E.k := Nat.mod_lt _ E.hk
        have e3 : j / E.k * E.k + j % E.k = j := by rw [Nat.mul_comm]; exact Nat.div_add_mod j E.k
        have e4 : m[j / E.k]? = some m[j / E.k] := List.getElem?_eq_getElem e1
        have e5 : (E.enc m[j / E.k])[j % E.k]? = some ((E.enc m[j / E.k])[j % E.k]'(by rw [E.len]; exact e2)) := List.getElem?_eq_getElem _
        have e7 := E.cs_at m _ _ _ _ e4 e5
        rw [e3, hx] at e7
        have := hs _ _ _ _ e4 e5
        rw [e3] at this
        rw [this, Option.some.inj e7]) (E.cs_one m) (by unfold maxLen; omega) (by
          have : (l.length + m.length) * E.by_ ≤ 11000000 * 1000 := Nat.mul_le_mul (by omega) E.hby
          omega) hBw
    rw [← E.cs_append, show l.length + m.length = (l ++ m).length by simp] at ho'
    exact ⟨v', w', hr, ho', (Below.refl B w).grown hg hBw (fun k hk => (World.ownsRow.lt h k hk).1), hg⟩
theorem ga_one (E : En α) (w : World) (x : α) : GL E (w.alloc (.cells (E.enc x).toArray E.T)) (.slice (some ⟨w.heap.size, 0, none⟩) 1 1) [x] := by
  refine ⟨_, 1, rfl, by simp, .inr ⟨_, 0, rfl, fun j i q v h1 h2 => ?_, by simp⟩⟩
  cases j with
  | zero =>
    simp at h1
    subst h1
    simp only [World.cell?, heap_alloc_new, Nat.zero_add, Nat.zero_mul]
    simp [h2]
  | succ j => simp at h1
/-- One more element. -/
theorem go_one (E : En α) {w : World} {B : Nat} {v : Value} {l : List α} (h : GO E w B v l) (hBw : B ≤ w.heap.size) (hl : l.length ≤ 10000000) (x : α) (n : Nat) (hn : w.heap.size = n) :
    ∃ v' w', (Builtin.append_ #[E.t, E.t] E.t #[v, .slice (some ⟨n, 0, none⟩) 1 1]).run Tryz.prog (w.alloc (.cells (E.enc x).toArray E.T)) = .ok v' w' ∧ GO E w' B v' (l ++ [x]) ∧ Below B w w' ∧ (w.alloc (.cells (E.enc x).toArray E.T)).grownBy w' v.ownBlock := by
  subst hn
  have hb : Below w.heap.size w (w.alloc (.cells (E.enc x).toArray E.T)) := (Below.refl _ _).alloc (Nat.le_refl _) _
  obtain ⟨v', w', h1, h2, h3, h4⟩ := go_more E (h.later hb) (Nat.le_trans hBw hb.size) (ga_one E w x) hl (by simp) (by simp)
  exact ⟨v', w', h1, h2, (hb.mono hBw).trans h3, h4⟩
/-- A block that lies beside is as it was when an element came. -/
theorem grown_other {E : En α} {w w' : World} {B b : Nat} {v : Value} {l : List α} {x : α} (h : GO E w B v l) (hg : (w.alloc (.cells (E.enc x).toArray E.T)).grownBy w' v.ownBlock) {X : Array Value} {t : TypeId} {fr : Nat × Nat} (ht : t ≠ E.T) (hb : w.heap[b]? = some (.cells X t fr)) : w'.heap[b]? = some (.cells X t fr) := by
  have hl := lt_of_some hb
  rw [hg.block b (by simp; omega) (fun e => h.ne ht hb e.symm), heap_alloc_old _ _ hl]
  exact hb
theorem En.cs_set (E : En α) (l : List α) (j : Nat) (hj : j < l.length) (i : Nat) (hi : i < E.k) (y : α) (v : Value) (hy : E.enc y = (E.enc l[j]).set i v) : E.cs (l.set j y) = (E.cs l).set (j * E.k + i) v := by
  induction l generalizing j with
  | nil => simp at hj
  | cons a l ih =>
    have e : ∀ (a : α) (l : List α), E.cs (a :: l) = E.enc a ++ E.cs l := fun _ _ => rfl
    cases j with
    | zero =>
      simp only [List.getElem_cons_zero] at hy
      rw [List.set_cons_zero, e, e, hy, Nat.zero_mul, Nat.zero_add, List.set_append_left _ _ (by rw [E.len]; exact hi)]
    | succ j =>
      rw [List.set_cons_succ, e, e, ih j (by simpa using hj) (by simpa using hy), List.set_append_right _ _ (by rw [E.len, Nat.succ_mul]; omega), E.len, show (j + 1) * E.k + i - E.k = j * E.k + i by rw [Nat.succ_mul]; omega]
/-- A cell of an element of one's own is written. -/
theorem go_set (E : En α) {w : World} {B g n c : Nat} {l : List α} (h : GO E w B (.slice (some ⟨g, 0, none⟩) n c) l) (hn : l.length = n) (j : Nat) (hj : j < l.length) (i : Nat) (hi : i < E.k) (y : α) (v : Value) (hv : v.oneCell' = true) (hy : E.enc y = (E.enc l[j]).set i v) :
    w.frozen? ⟨g, j * E.k + i, none⟩ = false ∧ GO E (w.setCell ⟨g, j * E.k + i, none⟩ v) B (.slice (some ⟨g, 0, none⟩) n c) (l.set j y) ∧ B ≤ g := by
  subst hn
  have hst : w.ownsRow B E.T E.k (.slice (some ⟨g, 0, none⟩) l.length c) l.length (E.cs l) := h
  refine ⟨World.ownsRow.frozenAt hst _, ?_, ?_⟩
  · have h2 := World.ownsRow.stored hst (j * E.k + i) v
    unfold GO
    rw [E.cs_set l j hj i hi y v hy, List.length_set]
    exact h2.1
  · rcases hst.2 with ⟨e, _⟩ | ⟨g', cap, cur, e, hB, _⟩
    · cases e
    · cases e; exact hB
/-- Spans, numbers, texts. -/
def eSp : En Sp := { enc := fun s => [.int .i64 s.1, .int .i64 s.2], k := 2, T := 79, t := 25, by_ := 16, z := .agg #[.int .i64 0, .int .i64 0], len := fun _ => rfl, one := fun x v hv => by simp at hv; rcases hv with rfl | rfl <;> rfl, ut := Tryz.underlying25, inf := by kernel_rfl, hz := rfl, hk := by omega, hby := by omega }
def eI : En Int := { enc := fun s => [.int .i64 s], k := 1, T := 3, t := 105, by_ := 8, z := .int .i64 0, len := fun _ => rfl, one := fun x v hv => by simp at hv; rw [hv]; rfl, ut := Tryz.underlying105, inf := by kernel_rfl, hz := rfl, hk := by omega, hby := by omega }
def eS : En Bs := { enc := fun s => [.string (str s)], k := 1, T := 9, t := 29, by_ := 16, z := .string ⟨#[]⟩, len := fun _ => rfl, one := fun x v hv => by simp at hv; rw [hv]; rfl, ut := Tryz.underlying29, inf := by kernel_rfl, hz := rfl, hk := by omega, hby := by omega }
theorem GA.sp {w : World} {g o : Nat} {l : List Sp} (h : GA eSp w g o l) (j : Nat) (s : Sp) (hs : l[j]? = some s) : w.cell? ⟨g, o + j * 2, none⟩ = some (.int .i64 s.1) ∧ w.cell? ⟨g, o + j * 2 + 1, none⟩ = some (.int .i64 s.2) :=
  ⟨h j 0 s _ hs rfl, h j 1 s _ hs rfl⟩
theorem GA.i {w : World} {g o : Nat} {l : List Int} (h : GA eI w g o l) (j : Nat) (s : Int) (hs : l[j]? = some s) : w.cell? ⟨g, o + j, none⟩ = some (.int .i64 s) := by
  have := h j 0 s _ hs rfl
  simpa [eI] using this
theorem GA.s {w : World} {g o : Nat} {l : List Bs} (h : GA eS w g o l) (j : Nat) (s : Bs) (hs : l[j]? = some s) : w.cell? ⟨g, o + j, none⟩ = some (.string (str s)) := by
  have := h j 0 s _ hs rfl
  simpa [eS] using this
theorem sp_set {w : World} {B g n c : Nat} {l : List Sp} (h : GO eSp w B (.slice (some ⟨g, 0, none⟩) n c) l) (hn : l.length = n) (j : Nat) (hj : j < l.length) (x : Int) :
    w.frozen? ⟨g, j * 2 + 1, none⟩ = false ∧ GO eSp (w.setCell ⟨g, j * 2 + 1, none⟩ (.int .i64 x)) B (.slice (some ⟨g, 0, none⟩) n c) (l.set j (l[j].1, x)) ∧ B ≤ g :=
  go_set eSp h hn j hj 1 (by show 1 < 2; omega) (l[j].1, x) (.int .i64 x) rfl rfl
end Go.Proofs.YtaniljfjmbifnaaGreatDoor.S
namespace Go.Proofs.YtaniljfjmbifnaaGreatDoor.S
open Go.RowKit
set_option linter.unusedVariables false
set_option linter.unusedSimpArgs false

def spV (s : Sp) : Value := .agg #[.int .i64 s.1, .int .i64 s.2]
theorem known_any (n most : Int) (w : World) : Calls Tryz.prog 116 #[.int .i64 n, .int .i64 most] w fun e w' => e = .returned (.int .i64 (kn n most)) ∧ w' = w := by
  by_cases h : n = 0
  · have hb : (n == 0) = true := by simp [h]
    have HK : Hid (kn n most = most) := by unfold kn; rw [Hid, if_pos h]
    clear h
    go_enter Tryz.func116, Tryz.ntmps116
    go_wp2_with fail
    go_ret
    rw [HK.out]; exact ⟨rfl, rfl⟩
  · have hb : (n == 0) = false := by simp [h]
    have HK : Hid (kn n most = n) := by unfold kn; rw [Hid, if_neg h]
    clear h
    go_enter Tryz.func116, Tryz.ntmps116
    go_wp2_with fail
    go_ret
    rw [HK.out]; exact ⟨rfl, rfl⟩
/-- What reach answers. -/
def ReachIs (s : Sp) (most : Int) (w : World) (e : Ending) (w' : World) : Prop := (∃ a b : Int, e = .returned (.tuple #[.agg #[.int .i64 a, .int .i64 b], .bool (rchB s most)]) ∧ (rchB s most = true → (a, b) = rchA s most)) ∧ Below w.heap.size w w'
theorem reach_no {s : Sp} {most : Int} (h : most < 1 ∧ (s.1 = 0 ∨ s.2 = 0)) : rchB s most = false := by unfold rchB; rw [if_pos h]
theorem reach_yes {s : Sp} {most : Int} (h : ¬ (most < 1 ∧ (s.1 = 0 ∨ s.2 = 0))) : rchB s most = decide (max 1 (min (kn s.1 most) (kn s.2 most)) ≤ max (kn s.1 most) (kn s.2 most)) := by unfold rchB; rw [if_neg h]; rfl
theorem reach_is {s1 s2 most a b : Int} (h : ¬ (most < 1 ∧ (s1 = 0 ∨ s2 = 0))) (ha : kn s1 most = a) (hb : kn s2 most = b) : rchB (s1, s2) most = decide (max 1 (min a b) ≤ max a b) ∧ rchA (s1, s2) most = (max 1 (min a b), max a b) := by
  subst ha hb
  exact ⟨reach_yes h, rfl⟩
set_option maxRecDepth 100000 in
set_option maxHeartbeats 4000000 in
theorem reach_any (s1 s2 most : Int) (w : World) : Calls Tryz.prog 78 #[.agg #[.int .i64 s1, .int .i64 s2], .int .i64 most] w (ReachIs (s1, s2) most w) := by
  by_cases h : most < 1 ∧ (s1 = 0 ∨ s2 = 0)
  · have HN := hid (reach_no (s := (s1, s2)) h)
    have fin : ∀ W : World, Below w.heap.size w W → ReachIs (s1, s2) most w (.returned (.tuple #[.agg #[.int .i64 0, .int .i64 0], .bool false])) W := fun W hb => ⟨⟨0, 0, by rw [HN.out], fun e => by rw [HN.out] at e; simp at e⟩, hb⟩
    obtain ⟨h1, h2⟩ := h
    have d1 : decide (most < 1) = true := by simpa using h1
    by_cases e1 : s1 = 0
    · have d2 : (s1 == 0) = true := by simp [e1]
      clear e1 h2
      have HF := hid fin
      clear fin
      go_enter Tryz.func78, Tryz.ntmps78
      go_wp2_with fail
      exact bodyPost_ret (v := .tuple #[.agg #[.int .i64 0, .int .i64 0], .bool false]) (by simp [results, Tryz.results78, go_sem]) rfl (HF.out _ (by repeat (first | exact Below.refl _ _ | refine Below.setCell ?_ (by simp) _ | refine Below.alloc ?_ (by simp) _)))
    · have d2 : (s1 == 0) = false := by simp [e1]
      have d3 : (s2 == 0) = true := by simp; omega
      clear e1 h2
      have HF := hid fin
      clear fin
      go_enter Tryz.func78, Tryz.ntmps78
      go_wp2_with fail
      exact bodyPost_ret (v := .tuple #[.agg #[.int .i64 0, .int .i64 0], .bool false]) (by simp [results, Tryz.results78, go_sem]) rfl (HF.out _ (by repeat (first | exact Below.refl _ _ | refine Below.setCell ?_ (by simp) _ | refine Below.alloc ?_ (by simp) _)))
  · by_cases h1 : most < 1
    · have d1 : decide (most < 1) = true := by simpa using h1
      have d2 : (s1 == 0) = false := by simp; omega
      have d3 : (s2 == 0) = false := by simp; omega
      have HF := hid (fun a b h1 h2 => @reach_is s1 s2 most a b h h1 h2)
      clear h
      go_enter Tryz.func78, Tryz.ntmps78
      go_wp2_with fail
      go_quiet ((go_at_call 116; exact Calls.quiet_of_same (known_any _ _ _)))
      obtain ⟨q1, q2⟩ := HF.out _ _ rfl rfl
      generalize kn s1 most = a at *
      generalize kn s2 most = b at *
      have HF2 : Hid (∀ (x y : Int) (W : World), max 1 (min a b) = x → max a b = y → Below w.heap.size w W → ReachIs (s1, s2) most w (.returned (.tuple #[.agg #[.int .i64 x, .int .i64 y], .bool (decide (x ≤ y))])) W) := fun x y W e1 e2 hb => ⟨⟨x, y, by rw [q1, e1, e2], fun _ => by rw [q2, e1, e2]⟩, hb⟩
      clear q1 q2 HF
      rcases Int.lt_trichotomy a b with hab | hab | hab
      · by_cases h1m : (1 : Int) < a
        · go_wp2_with fail
          go_region
          go_wp2_with fail
          refine bodyPost_ret (v := .tuple #[.agg #[.int .i64 a, .int .i64 b], .bool (decide ((a : Int) ≤ b))]) ?_ rfl (HF2.out a b _ ?_ ?_ ?_)
          · simp [results, Tryz.results78, go_sem] <;> omega
          · omega
          · omega
          · exact (by repeat (first | exact Below.refl _ _ | refine Below.setCell ?_ (by simp <;> omega) _ | refine Below.alloc ?_ (by simp <;> omega) _ | refine Below.drew ?_ | refine Below.trans ?_ (drewN_below _ _ _)))
        · go_wp2_with fail
          go_region
          go_wp2_with fail
          refine bodyPost_ret (v := .tuple #[.agg #[.int .i64 1, .int .i64 b], .bool (decide ((1 : Int) ≤ b))]) ?_ rfl (HF2.out 1 b _ ?_ ?_ ?_)
          · simp [results, Tryz.results78, go_sem]
          · omega
          · omega
          · exact (by repeat (first | exact Below.refl _ _ | refine Below.setCell ?_ (by simp <;> omega) _ | refine Below.alloc ?_ (by simp <;> omega) _ | refine Below.drew ?_ | refine Below.trans ?_ (drewN_below _ _ _)))
      · subst hab
        by_cases h1m : (1 : Int) < a
        · go_wp2_with fail
          go_region
          go_wp2_with fail
          refine bodyPost_ret (v := .tuple #[.agg #[.int .i64 a, .int .i64 a], .bool (decide ((a : Int) ≤ a))]) ?_ rfl (HF2.out a a _ ?_ ?_ ?_)
          · simp [results, Tryz.results78, go_sem]
          · omega
          · omega
          · exact (by repeat (first | exact Below.refl _ _ | refine Below.setCell ?_ (by simp <;> omega) _ | refine Below.alloc ?_ (by simp <;> omega) _ | refine Below.drew ?_ | refine Below.trans ?_ (drewN_below _ _ _)))
        · go_wp2_with fail
          go_region
          go_wp2_with fail
          refine bodyPost_ret (v := .tuple #[.agg #[.int .i64 1, .int .i64 a], .bool (decide ((1 : Int) ≤ a))]) ?_ rfl (HF2.out 1 a _ ?_ ?_ ?_)
          · simp [results, Tryz.results78, go_sem]
          · omega
          · omega
          · exact (by repeat (first | exact Below.refl _ _ | refine Below.setCell ?_ (by simp <;> omega) _ | refine Below.alloc ?_ (by simp <;> omega) _ | refine Below.drew ?_ | refine Below.trans ?_ (drewN_below _ _ _)))
      · by_cases h1m : (1 : Int) < b
        · go_wp2_with fail
          go_region
          go_wp2_with fail
          refine bodyPost_ret (v := .tuple #[.agg #[.int .i64 b, .int .i64 a], .bool (decide ((b : Int) ≤ a))]) ?_ rfl (HF2.out b a _ ?_ ?_ ?_)
          · simp [results, Tryz.results78, go_sem] <;> omega
          · omega
          · omega
          · exact (by repeat (first | exact Below.refl _ _ | refine Below.setCell ?_ (by simp <;> omega) _ | refine Below.alloc ?_ (by simp <;> omega) _ | refine Below.drew ?_ | refine Below.trans ?_ (drewN_below _ _ _)))
        · go_wp2_with fail
          go_region
          go_wp2_with fail
          refine bodyPost_ret (v := .tuple #[.agg #[.int .i64 1, .int .i64 a], .bool (decide ((1 : Int) ≤ a))]) ?_ rfl (HF2.out 1 a _ ?_ ?_ ?_)
          · simp [results, Tryz.results78, go_sem]
          · omega
          · omega
          · exact (by repeat (first | exact Below.refl _ _ | refine Below.setCell ?_ (by simp <;> omega) _ | refine Below.alloc ?_ (by simp <;> omega) _ | refine Below.drew ?_ | refine Below.trans ?_ (drewN_below _ _ _)))
    · have d1 : decide (most < 1) = false := by simpa using h1
      have HF := hid (fun a b h1 h2 => @reach_is s1 s2 most a b h h1 h2)
      clear h
      go_enter Tryz.func78, Tryz.ntmps78
      go_wp2_with fail
      go_quiet ((go_at_call 116; exact Calls.quiet_of_same (known_any _ _ _)))
      obtain ⟨q1, q2⟩ := HF.out _ _ rfl rfl
      generalize kn s1 most = a at *
      generalize kn s2 most = b at *
      have HF2 : Hid (∀ (x y : Int) (W : World), max 1 (min a b) = x → max a b = y → Below w.heap.size w W → ReachIs (s1, s2) most w (.returned (.tuple #[.agg #[.int .i64 x, .int .i64 y], .bool (decide (x ≤ y))])) W) := fun x y W e1 e2 hb => ⟨⟨x, y, by rw [q1, e1, e2], fun _ => by rw [q2, e1, e2]⟩, hb⟩
      clear q1 q2 HF
      rcases Int.lt_trichotomy a b with hab | hab | hab
      · by_cases h1m : (1 : Int) < a
        · go_wp2_with fail
          go_region
          go_wp2_with fail
          refine bodyPost_ret (v := .tuple #[.agg #[.int .i64 a, .int .i64 b], .bool (decide ((a : Int) ≤ b))]) ?_ rfl (HF2.out a b _ ?_ ?_ ?_)
          · simp [results, Tryz.results78, go_sem] <;> omega
          · omega
          · omega
          · exact (by repeat (first | exact Below.refl _ _ | refine Below.setCell ?_ (by simp <;> omega) _ | refine Below.alloc ?_ (by simp <;> omega) _ | refine Below.drew ?_ | refine Below.trans ?_ (drewN_below _ _ _)))
        · go_wp2_with fail
          go_region
          go_wp2_with fail
          refine bodyPost_ret (v := .tuple #[.agg #[.int .i64 1, .int .i64 b], .bool (decide ((1 : Int) ≤ b))]) ?_ rfl (HF2.out 1 b _ ?_ ?_ ?_)
          · simp [results, Tryz.results78, go_sem]
          · omega
          · omega
          · exact (by repeat (first | exact Below.refl _ _ | refine Below.setCell ?_ (by simp <;> omega) _ | refine Below.alloc ?_ (by simp <;> omega) _ | refine Below.drew ?_ | refine Below.trans ?_ (drewN_below _ _ _)))
      · subst hab
        by_cases h1m : (1 : Int) < a
        · go_wp2_with fail
          go_region
          go_wp2_with fail
          refine bodyPost_ret (v := .tuple #[.agg #[.int .i64 a, .int .i64 a], .bool (decide ((a : Int) ≤ a))]) ?_ rfl (HF2.out a a _ ?_ ?_ ?_)
          · simp [results, Tryz.results78, go_sem]
          · omega
          · omega
          · exact (by repeat (first | exact Below.refl _ _ | refine Below.setCell ?_ (by simp <;> omega) _ | refine Below.alloc ?_ (by simp <;> omega) _ | refine Below.drew ?_ | refine Below.trans ?_ (drewN_below _ _ _)))
        · go_wp2_with fail
          go_region
          go_wp2_with fail
          refine bodyPost_ret (v := .tuple #[.agg #[.int .i64 1, .int .i64 a], .bool (decide ((1 : Int) ≤ a))]) ?_ rfl (HF2.out 1 a _ ?_ ?_ ?_)
          · simp [results, Tryz.results78, go_sem]
          · omega
          · omega
          · exact (by repeat (first | exact Below.refl _ _ | refine Below.setCell ?_ (by simp <;> omega) _ | refine Below.alloc ?_ (by simp <;> omega) _ | refine Below.drew ?_ | refine Below.trans ?_ (drewN_below _ _ _)))
      · by_cases h1m : (1 : Int) < b
        · go_wp2_with fail
          go_region
          go_wp2_with fail
          refine bodyPost_ret (v := .tuple #[.agg #[.int .i64 b, .int .i64 a], .bool (decide ((b : Int) ≤ a))]) ?_ rfl (HF2.out b a _ ?_ ?_ ?_)
          · simp [results, Tryz.results78, go_sem] <;> omega
          · omega
          · omega
          · exact (by repeat (first | exact Below.refl _ _ | refine Below.setCell ?_ (by simp <;> omega) _ | refine Below.alloc ?_ (by simp <;> omega) _ | refine Below.drew ?_ | refine Below.trans ?_ (drewN_below _ _ _)))
        · go_wp2_with fail
          go_region
          go_wp2_with fail
          refine bodyPost_ret (v := .tuple #[.agg #[.int .i64 1, .int .i64 a], .bool (decide ((1 : Int) ≤ a))]) ?_ rfl (HF2.out 1 a _ ?_ ?_ ?_)
          · simp [results, Tryz.results78, go_sem]
          · omega
          · omega
          · exact (by repeat (first | exact Below.refl _ _ | refine Below.setCell ?_ (by simp <;> omega) _ | refine Below.alloc ?_ (by simp <;> omega) _ | refine Below.drew ?_ | refine Below.trans ?_ (drewN_below _ _ _)))
end Go.Proofs.YtaniljfjmbifnaaGreatDoor.S
namespace Go.Proofs.YtaniljfjmbifnaaGreatDoor.S
open Go.RowKit
set_option linter.unusedVariables false
set_option linter.unusedSimpArgs false

theorem hasB_next (l : List Sp) (n most : Int) (k : Nat) (hk : k < l.length) : hasB (l.take (k + 1)) n most = (hasB (l.take k) n most || (rchB l[k] most && inS (rchA l[k] most) n)) := by
  unfold hasB
  rw [List.take_succ_eq_append_getElem hk, List.any_append, rch_cov]
  simp
theorem hasB_yes (l : List Sp) (n most : Int) (k : Nat) (h : hasB (l.take k) n most = true) : hasB l n most = true := by
  unfold hasB at *
  rw [List.any_eq_true] at *
  obtain ⟨x, hx, h⟩ := h
  exact ⟨x, List.mem_of_mem_take hx, h⟩
set_option maxRecDepth 100000 in
set_option maxHeartbeats 4000000 in
theorem has_any {w : World} {v : Value} {l : List Sp} (h : GL eSp w v l) (hl : l.length ≤ 1000000) (n most : Int) :
    Calls Tryz.prog 43 #[v, .int .i64 n, .int .i64 most] w fun e w' => e = .returned (.bool (hasB l n most)) ∧ Below w.heap.size w w' := by
  obtain ⟨a, c, rfl, hc, hr⟩ := h
  rcases hr with hr | ⟨g, o, rfl, hr, hg⟩
  · subst hr
    go_enter Tryz.func43, Tryz.ntmps43
    go_wp2_with fail
    go_loopw [13] (fun i wr => i = .int .i64 0 ∧ wr = w) (fun _ _ => 0)
    case atStart => exact ⟨rfl, rfl⟩
    case round =>
      obtain ⟨rfl, rfl⟩ := hrel
      go_wp2_with fail
      go_ret
      exact ⟨rfl, Below.refl _ _⟩
  · have HR := hid hr
    clear hr
    go_enter Tryz.func43, Tryz.ntmps43
    go_wp2_with fail
    go_loopw [13] (fun i wr => ∃ k : Nat, k ≤ l.length ∧ i = .int .i64 k ∧ hasB (l.take k) n most = false ∧ Below w.heap.size w wr) (fun i _ => l.length - (intOf i).toNat)
    case atStart => exact ⟨0, by omega, rfl, rfl, Below.refl _ _⟩
    case round =>
      obtain ⟨k, hk, rfl, hf, hb⟩ := hrel
      have HB := hid hb
      have HF := hid hf
      clear hf hb
      by_cases hlt : k < l.length
      · have hlt' : (k : Int) < l.length := by omega
        obtain ⟨hc0, hc1⟩ := (HR.out.later HB.out).sp k l[k] (List.getElem?_eq_getElem hlt)
        have HN := hid (hasB_next l n most k hlt)
        rw [HF.out] at HN
        have HY := hid (hasB_yes l n most (k + 1))
        generalize l[k] = s at *
        obtain ⟨x, y⟩ := s
        simp only at hc0 hc1
        go_wp2_with fail
        have C := reach_any x y most (wr.alloc (.cells #[.int .i64 x, .int .i64 y] 79))
        have hb1 : Below wr.heap.size wr (wr.alloc (.cells #[.int .i64 x, .int .i64 y] 79)) := (Below.refl _ _).alloc (Nat.le_refl _) _
        have HB1 := hid hb1
        clear hb1
        unfold ReachIs at C
        generalize rchB (x, y) most = is at *
        refine C.mono ?_
        clear C
        rintro e w2 ⟨⟨p, q, rfl, hpq⟩, hb2⟩
        have HPQ := hid hpq
        have HB2 := hid (HB1.out.trans (hb2.mono HB1.out.size))
        clear hpq hb2
        have HB3 : Hid (Below w.heap.size w (w2.alloc (.cells #[.int .i64 p, .int .i64 q] 79))) := (HB.out.trans (HB2.out.mono HB.out.size)).alloc (Nat.le_trans HB.out.size HB2.out.size) _
        cases is with
        | false =>
          have HN2 : Hid (hasB (l.take (k + 1)) n most = false) := by rw [Hid, HN.out]; rfl
          go_wp2_with fail
          go_roundw
          case rel => exact ⟨k + 1, by omega, by go_num, HN2.out, HB3.out⟩
          case measure => simp [intOf]; omega
        | true =>
          have HN3 : Hid (hasB (l.take (k + 1)) n most = decide (p ≤ n ∧ n ≤ q)) := by rw [Hid, HN.out, ← HPQ.out rfl]; rfl
          clear HN HPQ
          by_cases c1 : p ≤ n
          · by_cases c2 : n ≤ q
            · have d1 : decide (p ≤ n) = true := by simpa using c1
              have d2 : decide (n ≤ q) = true := by simpa using c2
              have HT : Hid (hasB l n most = true) := HY.out (by rw [HN3.out]; simp [c1, c2])
              go_wp2_with fail
              go_ret
              rw [HT.out]
              exact ⟨rfl, HB3.out⟩
            · have d1 : decide (p ≤ n) = true := by simpa using c1
              have d2 : decide (n ≤ q) = false := by simpa using c2
              have HN2 : Hid (hasB (l.take (k + 1)) n most = false) := by rw [Hid, HN3.out]; simp; omega
              go_wp2_with fail
              go_roundw
              case rel => exact ⟨k + 1, by omega, by go_num, HN2.out, HB3.out⟩
              case measure => simp [intOf]; omega
          · have d1 : decide (p ≤ n) = false := by simpa using c1
            have HN2 : Hid (hasB (l.take (k + 1)) n most = false) := by rw [Hid, HN3.out]; simp; omega
            go_wp2_with fail
            go_roundw
            case rel => exact ⟨k + 1, by omega, by go_num, HN2.out, HB3.out⟩
            case measure => simp [intOf]; omega
      · have hlt' : ¬ (k : Int) < l.length := by omega
        have e : l.take k = l := List.take_of_length_le (by omega)
        rw [e] at HF
        go_wp2_with fail
        go_ret
        rw [HF.out]
        exact ⟨rfl, HB.out⟩
end Go.Proofs.YtaniljfjmbifnaaGreatDoor.S
