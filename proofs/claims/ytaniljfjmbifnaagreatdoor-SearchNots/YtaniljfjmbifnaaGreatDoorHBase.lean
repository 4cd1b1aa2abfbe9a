/- What this text holds: words for bytes that lie in memory, and what keeps them as they were; small moves for a region that leaves its order open. -/
import Derived.Test.YtaniljfjmbifnaaGreatDoorProg
import Derived.WalkKit
import Derived.WalkSpells
import Derived.WalkLawsBesides
import Derived.Laws.BytesString
import Derived.Laws.BytesArg
import Derived.Laws.CopyOwn
import Derived.Laws.CopyRow
import Derived.Laws.OwnMore
import Derived.Deep.MidRow
import Derived.Deep.WholeRow
import Derived.Deep.RegionHeld3
import Derived.DataElems
namespace Go.Proofs.YtaniljfjmbifnaaGreatDoor.H
open Go.RowKit
set_option linter.unusedVariables false

/-- Cells of bytes. -/
def bc (l : List Int) : List Value := l.map (Value.int .u8)
theorem bc_length (l : List Int) : (bc l).length = l.length := by simp [bc]
theorem bc_append (l m : List Int) : bc (l ++ m) = bc l ++ bc m := by simp [bc]
theorem bc_oneCell (l : List Int) : ∀ v ∈ bc l, v.oneCell' = true := by
  intro v hv
  simp only [bc, List.mem_map] at hv
  obtain ⟨x, _, rfl⟩ := hv
  rfl

/-- Nothing that was there has turned but the blocks of a list. -/
structure Kept (S : List Nat) (w w' : World) : Prop where
  os : w'.os = w.os
  tape : w'.tape = w.tape
  output : w'.output = w.output
  size : w.heap.size ≤ w'.heap.size
  block : ∀ k, k < w.heap.size → k ∉ S → w'.heap[k]? = w.heap[k]?

theorem Kept.refl (S : List Nat) (w : World) : Kept S w w := ⟨rfl, rfl, rfl, Nat.le_refl _, fun _ _ _ => rfl⟩
theorem Kept.trans {S T : List Nat} {a b c : World} (h : Kept S a b) (k : Kept T b c) (hT : ∀ i, i < a.heap.size → i ∈ T → i ∈ S) : Kept S a c :=
  ⟨k.os.trans h.os, k.tape.trans h.tape, k.output.trans h.output, Nat.le_trans h.size k.size,
    fun i hi hn => (k.block i (Nat.lt_of_lt_of_le hi h.size) (fun e => hn (hT i hi e))).trans (h.block i hi hn)⟩
theorem Kept.mono {S T : List Nat} {a b : World} (h : Kept S a b) (hT : ∀ i, i < a.heap.size → i ∈ S → i ∈ T) : Kept T a b :=
  ⟨h.os, h.tape, h.output, h.size, fun i hi hn => h.block i hi (fun e => hn (hT i hi e))⟩
theorem Kept.below {S : List Nat} {a b : World} {B : Nat} (h : Kept S a b) (hS : ∀ i ∈ S, B ≤ i) (hB : B ≤ a.heap.size) : Below B a b :=
  ⟨h.os, h.tape, h.output, h.size, fun i hi => h.block i (by omega) (fun e => by have := hS i e; omega)⟩
theorem Kept.ofBelow {a b : World} (h : Below a.heap.size a b) (S : List Nat) : Kept S a b :=
  ⟨h.os, h.tape, h.output, h.size, fun i hi _ => h.block i hi⟩
theorem Kept.ofGrown {a b : World} {row : Option Nat} (h : a.grownBy b row) (S : List Nat) (hr : ∀ k, row = some k → k ∈ S) : Kept S a b :=
  ⟨h.os, h.tape, h.output, h.size, fun i hi hn => h.block i hi (fun e => hn (hr i e.symm))⟩
theorem Kept.alloc (S : List Nat) (w : World) (o : Obj) : Kept S w (w.alloc o) := Kept.ofGrown (World.grownBy_alloc w o none) S (fun _ h => by cases h)
theorem Kept.setCell (S : List Nat) (w : World) (p : Addr) (v : Value) (h : p.block ∈ S) : Kept S w (w.setCell p v) :=
  ⟨rfl, rfl, rfl, by simp [World.setCell], fun i _ hn => Below.heap_setCell _ _ _ _ (fun e => hn (e ▸ h))⟩
theorem Kept.drew (S : List Nat) (w : World) : Kept S w w.drew := ⟨rfl, rfl, rfl, Nat.le_refl _, fun _ _ _ => rfl⟩

theorem ownsRow_block {w w' : World} {base : Nat} {e : TypeId} {size : Nat} {v : Value} {n : Nat} {xs : List Value} (h : w.ownsRow base e size v n xs)
    (hb : ∀ k, v.ownBlock = some k → w'.heap[k]? = w.heap[k]?) : w'.ownsRow base e size v n xs := by
  refine ⟨h.1, ?_⟩
  rcases h.2 with hn | ⟨g, cap, cur, rfl, hg, hgg, rest⟩
  · exact .inl hn
  · exact .inr ⟨g, cap, cur, rfl, hg, by rw [hb g rfl]; exact hgg, rest⟩

theorem Tryz.info5 : (Tryz.prog.info? 5).map (fun i => (i.zero, i.size, i.bytes)) = some (some (.int .u8 0), 1, 1) := by kernel_rfl

theorem madeCells_same (m n : Nat) (v : Value) (hm : 0 < m) : (madeCells (Array.replicate m v) n).toList = List.replicate n v := by
  apply List.ext_getElem?
  intro j
  by_cases hj : j < n
  · have : j % m < m := Nat.mod_lt _ hm
    simp [madeCells, hj, this]
  · simp [madeCells, hj]

/-- n times one byte: a word of its own, so that no simp writes it out. -/
def rep (n : Nat) (c : Int) : List Int := List.replicate n c
theorem rep_length (n : Nat) (c : Int) : (rep n c).length = n := by simp [rep]
theorem bc_rep (n : Nat) (c : Int) : bc (rep n c) = List.replicate n (.int .u8 c) := by simp [bc, rep]

theorem hid {p : Prop} (h : p) : Hid p := h

theorem ownsRow_some {w : World} {B n size : Nat} {e : TypeId} {v : Value} {xs : List Value} (h : w.ownsRow B e size v n xs) (h1 : 1 ≤ n) : ∃ g c, v = .slice (some ⟨g, 0, none⟩) n c ∧ B ≤ g := by
  rcases h.2 with ⟨_, h'⟩ | ⟨g, cap, cur, h', hb, _⟩
  · omega
  · exact ⟨g, cap, h', hb⟩

theorem ownsRow_base {w : World} {B B' n size : Nat} {e : TypeId} {v : Value} {xs : List Value} (h : w.ownsRow B e size v n xs) (hB : B' ≤ B) : w.ownsRow B' e size v n xs := by
  refine ⟨h.1, ?_⟩
  rcases h.2 with h' | ⟨g, cap, cur, h', hb, r⟩
  · exact .inl h'
  · exact .inr ⟨g, cap, cur, h', Nat.le_trans hB hb, r⟩

theorem cells_of_owned {w : World} {B bs n sc size : Nat} {e : TypeId} {xs : List Value} (h : w.ownsRow B e size (.slice (some ⟨bs, 0, none⟩) n sc) n xs) :
    ∀ j v, xs[j]? = some v → w.cell? ((⟨bs, 0, none⟩ : Addr).add j) = some v := h.cells rfl

theorem rep_take (n m : Nat) (c : Int) (h : m ≤ n) : (rep n c).take m = rep m c := by
  unfold rep; rw [List.take_replicate, Nat.min_eq_left h]
theorem rep_drop (n m : Nat) (c : Int) : (rep n c).drop m = rep (n - m) c := by
  unfold rep; rw [List.drop_replicate]

/-- A string of bytes. -/
def strOf (l : List Int) : ByteArray := l.foldl (fun r n => r.push (UInt8.ofNat n.toNat)) ByteArray.empty

theorem strOf_data (l : List Int) : ∀ r : ByteArray, (l.foldl (fun r n => r.push (UInt8.ofNat n.toNat)) r).data.toList = r.data.toList ++ l.map fun n => UInt8.ofNat n.toNat := by
  induction l with
  | nil => intro r; simp
  | cons x l ih => intro r; rw [List.foldl_cons, ih]; simp
theorem strOf_toList (l : List Int) : (strOf l).data.toList = l.map fun n => UInt8.ofNat n.toNat := by
  unfold strOf; rw [strOf_data]; rfl
theorem strOf_append (l m : List Int) : strOf (l ++ m) = strOf l ++ strOf m := by
  apply ByteArray.ext
  apply Array.toList_inj.1
  rw [strOf_toList, ByteArray.data_append, Array.toList_append, strOf_toList, strOf_toList, List.map_append]
section
variable {P : Program} {ops : Array Oper} {Q : Exit → Act → World → Prop} {md : Region.Mode} {S : World → Prop}

/-- An operation that comes up, by its run. -/
theorem wpOp_run {i : Nat} {o : Oper} {K : Act → World → Prop} {a : Act} {w w' : World} {v : Value} (ho : ops[i]? = some o) (hg : o.guard = none) (hrun : (execOp a.eval o).run P w = .ok (.value v) w')
    (h : K (a.put o.dst v) w') : wpOp P ops Q i K a w := by
  refine wpOp_step ho fun K' hK => ?_
  rw [if_pos (by simp [Region.wanted, hg])]
  unfold Oper.wp
  rw [hrun]
  exact hK _ _ h
theorem wpOp_skip {i : Nat} {o : Oper} {K : Act → World → Prop} {a : Act} {w w' : World} (ho : ops[i]? = some o) (hg : o.guard = none) (hrun : (execOp a.eval o).run P w = .ok .skip w')
    (h : K (a.put o.dst undef) w') : wpOp P ops Q i K a w := by
  refine wpOp_step ho fun K' hK => ?_
  rw [if_pos (by simp [Region.wanted, hg])]
  unfold Oper.wp
  rw [hrun]
  exact hK _ _ h

theorem anyH_take (i : Nat) (o : Oper) (v : Value) {fuel : Nat} {listed : Array Bool} {a : Act} {w : World} (hi : ops[i]? = some o) (hg : o.guard = none)
    (hs : Region.noSelect ops = true) (hf : Region.free md ops listed i = true) (hr : (Region.ready md ops listed).contains i = true)
    (hQ : ∀ c a w, Q (.panic c) (a.put o.dst v) w → Q (.panic c) a w) (hrun : ∀ w, S w → (execOp a.eval o).run P w = .ok (.value v) w) (hS : S w)
    (h : wpAnyH P md ops Q S fuel (listed.setIfInBounds i true) (a.put o.dst v) w) : wpAnyH P md ops Q S (fuel + 1) listed a w :=
  wpAnyH_take hi hs hf hr hQ (.inl ⟨by simp [Region.wanted, hg], hrun⟩) hS h

theorem anyH_one (i : Nat) (o : Oper) (v : Value) (w' : World) {fuel : Nat} {listed : Array Bool} {a : Act} {w : World} (hr : Region.ready md ops listed = [i]) (hi : ops[i]? = some o) (hg : o.guard = none)
    (hrun : (execOp a.eval o).run P w = .ok (.value v) w') (hS : S w')
    (h : wpAnyH P md ops Q S fuel (listed.setIfInBounds i true) (a.put o.dst v) w') : wpAnyH P md ops Q S (fuel + 1) listed a w := by
  refine wpAnyH_all hr (by simp) fun j hj => ?_
  obtain rfl := List.mem_singleton.1 hj
  exact wpOp_run hi hg hrun ⟨hS, h⟩
theorem anyH_oneSkip (i : Nat) (o : Oper) (w' : World) {fuel : Nat} {listed : Array Bool} {a : Act} {w : World} (hr : Region.ready md ops listed = [i]) (hi : ops[i]? = some o) (hg : o.guard = none)
    (hrun : (execOp a.eval o).run P w = .ok .skip w') (hS : S w')
    (h : wpAnyH P md ops Q S fuel (listed.setIfInBounds i true) (a.put o.dst undef) w') : wpAnyH P md ops Q S (fuel + 1) listed a w := by
  refine wpAnyH_all hr (by simp) fun j hj => ?_
  obtain rfl := List.mem_singleton.1 hj
  exact wpOp_skip hi hg hrun ⟨hS, h⟩
theorem anyH_two (i j : Nat) {fuel : Nat} {listed : Array Bool} {a : Act} {w : World} (hr : Region.ready md ops listed = [i, j])
    (h1 : wpOp P ops Q i (fun a' w' => S w' ∧ wpAnyH P md ops Q S fuel (listed.setIfInBounds i true) a' w') a w)
    (h2 : wpOp P ops Q j (fun a' w' => S w' ∧ wpAnyH P md ops Q S fuel (listed.setIfInBounds j true) a' w') a w) : wpAnyH P md ops Q S (fuel + 1) listed a w := by
  refine wpAnyH_all hr (by simp) fun k hk => ?_
  simp only [List.mem_cons, List.not_mem_nil, or_false] at hk
  rcases hk with rfl | rfl
  · exact h1
  · exact h2
end

theorem Kept.cell {S : List Nat} {w w' : World} (k : Kept S w w') {p : Addr} {v : Value} (h : w.cell? p = some v) (hp : p.block ∉ S) : w'.cell? p = some v :=
  (World.cell?_of_block (k.block p.block (World.block_lt_of_cell? w p h) hp)).trans h

section
variable {P : Program} {ops : Array Oper} {Q : Exit → Act → World → Prop} {md : Region.Mode} {S : World → Prop}

theorem anyH_takeW (i : Nat) (o : Oper) (v : Value) {fuel : Nat} {listed : Array Bool} {a : Act} {w : World} (hi : ops[i]? = some o) (hw : Region.wanted o (yielded ops a.tmps) = true)
    (hs : Region.noSelect ops = true) (hf : Region.free md ops listed i = true) (hr : (Region.ready md ops listed).contains i = true)
    (hQ : ∀ c a w, Q (.panic c) (a.put o.dst v) w → Q (.panic c) a w) (hrun : ∀ w, S w → (execOp a.eval o).run P w = .ok (.value v) w) (hS : S w)
    (h : wpAnyH P md ops Q S fuel (listed.setIfInBounds i true) (a.put o.dst v) w) : wpAnyH P md ops Q S (fuel + 1) listed a w :=
  wpAnyH_take hi hs hf hr hQ (.inl ⟨hw, hrun⟩) hS h

theorem wpOp_runW {i : Nat} {o : Oper} {K : Act → World → Prop} {a : Act} {w w' : World} {v : Value} (ho : ops[i]? = some o) (hw : Region.wanted o (yielded ops a.tmps) = true) (hrun : (execOp a.eval o).run P w = .ok (.value v) w')
    (h : K (a.put o.dst v) w') : wpOp P ops Q i K a w := by
  refine wpOp_step ho fun K' hK => ?_
  rw [if_pos hw]
  unfold Oper.wp
  rw [hrun]
  exact hK _ _ h
theorem wpOp_callW {i : Nat} {o : Oper} {K : Act → World → Prop} {a : Act} {w : World} {f : FuncId} {args : Array Value} (ho : ops[i]? = some o) (hw : Region.wanted o (yielded ops a.tmps) = true) (hrun : (execOp a.eval o).run P w = .ok (.enter f args) w)
    (h : Calls P f args w fun e w' => ∃ v, e = .returned v ∧ K (a.put o.dst v) w') : wpOp P ops Q i K a w := by
  refine wpOp_step ho fun K' hK => ?_
  rw [if_pos hw]
  unfold Oper.wp
  rw [hrun]
  refine Calls.mono h fun e w' he => ?_
  obtain ⟨v, rfl, hv⟩ := he
  exact hK _ _ hv

theorem anyH_oneW (i : Nat) (o : Oper) (v : Value) (w' : World) {fuel : Nat} {listed : Array Bool} {a : Act} {w : World} (hr : Region.ready md ops listed = [i]) (hi : ops[i]? = some o) (hw : Region.wanted o (yielded ops a.tmps) = true)
    (hrun : (execOp a.eval o).run P w = .ok (.value v) w') (hS : S w')
    (h : wpAnyH P md ops Q S fuel (listed.setIfInBounds i true) (a.put o.dst v) w') : wpAnyH P md ops Q S (fuel + 1) listed a w := by
  refine wpAnyH_all hr (by simp) fun j hj => ?_
  obtain rfl := List.mem_singleton.1 hj
  exact wpOp_runW hi hw hrun ⟨hS, h⟩

theorem anyH_callW (i : Nat) (o : Oper) (f : FuncId) (args : Array Value) {fuel : Nat} {listed : Array Bool} {a : Act} {w : World} (hr : Region.ready md ops listed = [i]) (hi : ops[i]? = some o) (hw : Region.wanted o (yielded ops a.tmps) = true)
    (hrun : (execOp a.eval o).run P w = .ok (.enter f args) w)
    (h : Calls P f args w fun e w' => ∃ v, e = .returned v ∧ S w' ∧ wpAnyH P md ops Q S fuel (listed.setIfInBounds i true) (a.put o.dst v) w') : wpAnyH P md ops Q S (fuel + 1) listed a w := by
  refine wpAnyH_all hr (by simp) fun j hj => ?_
  obtain rfl := List.mem_singleton.1 hj
  exact wpOp_callW hi hw hrun h
end

theorem exec_eqlStr {a : Act} {x y : Operand} {s t : ByteArray} {w : World} {d : Option Tmp} {T ty T2 : Nat} {pos : String} {af : Array Edge} {g : Option (Nat × Bool)} (hx : a.eval x = .string s) (hy : a.eval y = .string t) (h : s = t) :
    (execOp a.eval ⟨d, .binOp .eql T x y T2, ty, pos, af, g⟩).run Tryz.prog w = .ok (.value (.bool true)) w := by
  subst h
  simp [execOp, hx, hy, eqGuard, binOp, Op.stringOp]
theorem exec_addStr {a : Act} {x y : Operand} {s t : ByteArray} {w : World} {d : Option Tmp} {T ty T2 : Nat} {pos : String} {af : Array Edge} {g : Option (Nat × Bool)} (hx : a.eval x = .string s) (hy : a.eval y = .string t) (hl : s.size + t.size ≤ 1000000) :
    (execOp a.eval ⟨d, .binOp .add T x y T2, ty, pos, af, g⟩).run Tryz.prog w = .ok (.value (.string (s ++ t))) w := by
  simp [execOp, hx, hy, eqGuard, binOp, Op.stringOp]
  omega
/-- An operation by its run. -/
theorem wpList_run {P : Program} {ops : Array Oper} {rest : List Oper} {o : Oper} {a : Act} {w w' : World} {Q : Exit → Act → World → Prop} {v : Value} (hgd : o.guard = none) (hrun : (execOp a.eval o).run P w = .ok (.value v) w')
    (h : wpList P ops Q rest (a.put o.dst v) w') : wpList P ops Q (o :: rest) a w :=
  wpList_plain hgd fun K hK => by unfold Oper.wp; rw [hrun]; exact hK _ _ h
theorem exec_v {P : Program} {s : Sem Value} {w w' : World} {v : Value} (h : s.run P w = .ok v w') : (do pure (Next.value (← s)) : Sem Next).run P w = .ok (.value v) w' := by
  simp [h]

theorem strOf_size (l : List Int) : (strOf l).size = l.length := by
  have := congrArg List.length (strOf_toList l)
  rw [List.length_map] at this
  exact this
theorem below_kept {B : Nat} {w w2 w3 : World} {S : List Nat} (h : Below B w w2) (k : Kept S w2 w3) (hS : ∀ i ∈ S, B ≤ i) (hB : B ≤ w2.heap.size) : Below B w w3 := h.trans (k.below hS hB)

theorem bc_splice (l : List Int) (o : Nat) (b : List Int) : bc (splice l o b) = splice (bc l) o (bc b) := by
  simp [splice, bc]

theorem take_splice (cur : List Value) (m o : Nat) (cs : List Value) (h : o + cs.length ≤ m) : (cur.take o ++ cs ++ cur.drop (o + cs.length)).take m = splice (cur.take m) o cs := by
  by_cases hm : o ≤ cur.length
  · simp only [splice, List.take_take, List.drop_take, List.append_assoc]
    rw [List.take_append, List.take_append, List.length_take, Nat.min_eq_left hm, List.take_take, Nat.min_eq_right (by omega : o ≤ m), Nat.min_eq_left (by omega : o ≤ m)]
    congr 1
    rw [List.take_of_length_le (show cs.length ≤ m - o by omega)]
    congr 2
    omega
  · have e1 : cur.take o = cur := List.take_of_length_le (by omega)
    have e2 : cur.take m = cur := List.take_of_length_le (by omega)
    have e3 : cur.drop (o + cs.length) = [] := List.drop_of_length_le (by omega)
    simp only [splice, e1, e2, e3, List.append_nil]
    rw [List.take_of_length_le]
    simp; omega

/-- A row that a call owns, some of its cells laid anew. -/
theorem ownsRow_laid {w : World} {B bs n sc size : Nat} {e : TypeId} {xs : List Value} (h : w.ownsRow B e size (.slice (some ⟨bs, 0, none⟩) n sc) n xs) :
    ∃ cur : Array Value, w.heap[bs]? = some (.cells cur e (0, 0)) ∧ n * size ≤ cur.size ∧ cur.toList.take (n * size) = xs ∧ ∀ (o : Nat) (cs : List Value), o + cs.length ≤ n * size →
      (w.setRow bs (cur.toList.take o ++ cs ++ cur.toList.drop (o + cs.length)).toArray).ownsRow B e size (.slice (some ⟨bs, 0, none⟩) n sc) n (splice xs o cs) ∧
      w.grownBy (w.setRow bs (cur.toList.take o ++ cs ++ cur.toList.drop (o + cs.length)).toArray) (some bs) := by
  rcases h.2 with ⟨h', _⟩ | ⟨g', cap', cur, h', hb, hg, hnc, hcm, hcs, htake⟩
  · simp at h'
  · simp only [Value.slice.injEq, Option.some.injEq, Addr.mk.injEq, and_true, true_and] at h'
    obtain ⟨rfl, rfl⟩ := h'
    have hle : n * size ≤ cur.size := by rw [hcs]; exact Nat.mul_le_mul_right _ hnc
    refine ⟨cur, hg, hle, htake, fun o cs ho => ⟨⟨?_, .inr ⟨bs, sc, _, rfl, hb, setRow_heap w bs cur _ e _ hg, hnc, hcm, ?_, ?_⟩⟩, ⟨rfl, rfl, rfl, by simp, fun k _ hk => setRow_other w bs k _ (fun e => hk (by simp [e]))⟩⟩⟩
    · rw [length_splice _ _ _ (by rw [h.1]; exact ho)]; exact h.1
    · simp only [List.size_toArray, List.length_append, List.length_take, List.length_drop, Array.length_toList]
      omega
    · rw [← htake, ← take_splice _ _ _ _ ho]

end Go.Proofs.YtaniljfjmbifnaaGreatDoor.H
