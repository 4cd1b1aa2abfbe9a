/- What this text holds: the small calls of a feed. -/
import Derived.Test.YtikcbgoocljgnaaDoorM2
namespace Go.Proofs.YtikcbgoocljgnaaDoor
open Go.RowKit
set_option linter.unusedVariables false
set_option linter.unusedSimpArgs false

/-- A feed's row, whatever it holds, and its lists. -/
structure R4 (w : World) (b : Nat) (X : Array Value) (vt vl vu : Value) (T L : List Bs) (U : Bs) : Prop where
  row : w.heap[b]? = some (.cells X 57 (0, 0))
  t : GO eS w 0 vt T
  l : GO eS w 0 vl L
  u : GO eB w 0 vu U
theorem FIn.r4 {w : World} {b : Nat} {vt vl vu : Value} {F : Fd} (h : FIn w b vt vl vu F) : R4 w b (fC b vt vl vu F) vt vl vu F.texts F.lits F.under := ⟨h.row, h.t, h.l, h.u⟩
theorem R4.fin {w : World} {b : Nat} {X : Array Value} {vt vl vu : Value} {T L : List Bs} {U : Bs} (h : R4 w b X vt vl vu T L U) (F : Fd) (hX : X = fC b vt vl vu F) (hT : T = F.texts) (hL : L = F.lits) (hU : U = F.under) (tl : ∀ g, vt.ownBlock = some g → vl.ownBlock ≠ some g) : FIn w b vt vl vu F := by
  subst hX hT hL hU
  exact ⟨h.row, h.t, h.l, h.u, tl⟩
theorem R4.set {w : World} {b : Nat} {X : Array Value} {vt vl vu : Value} {T L : List Bs} {U : Bs} (h : R4 w b X vt vl vu T L U) (i : Nat) (v : Value) : R4 (w.setCell ⟨b, i, none⟩ v) b (X.setIfInBounds i v) vt vl vu T L U :=
  ⟨heap_setCell_same _ _ _ _ _ _ h.row, h.t.setOther (by decide) h.row _ _, h.l.setOther (by decide) h.row _ _, h.u.setOther (by decide) h.row _ _⟩
theorem R4.later {w w' : World} {b : Nat} {X : Array Value} {vt vl vu : Value} {T L : List Bs} {U : Bs} (h : R4 w b X vt vl vu T L U) (hb : Below w.heap.size w w') : R4 w' b X vt vl vu T L U :=
  ⟨(hb.block _ (lt_of_some h.row)).trans h.row, h.t.later hb, h.l.later hb, h.u.later hb⟩
theorem R4.cell {w : World} {b : Nat} {X : Array Value} {vt vl vu : Value} {T L : List Bs} {U : Bs} (h : R4 w b X vt vl vu T L U) (i : Nat) {v : Value} (hi : X[i]? = some v) : w.cell? ⟨b, i, none⟩ = some v := by simp [World.cell?, h.row, hi]
theorem R4.free {w : World} {b : Nat} {X : Array Value} {vt vl vu : Value} {T L : List Bs} {U : Bs} (h : R4 w b X vt vl vu T L U) (i : Nat) : w.frozen? ⟨b, i, none⟩ = false := by simp [World.frozen?, h.row]
/-- A text more. -/
theorem R4.text {w w' : World} {b : Nat} {X : Array Value} {vt vl vu v' : Value} {T L : List Bs} {U : Bs} (h : R4 w b X vt vl vu T L U) (tl : ∀ g, vt.ownBlock = some g → vl.ownBlock ≠ some g) (k : Kept vt.ownBlock.toList w w') {x : Bs} (ho : GO eS w' 0 v' (T ++ [x])) : R4 w' b X v' vl vu (T ++ [x]) L U := by
  refine ⟨?_, ho, ?_, ?_⟩
  · rw [k.block b (lt_of_some h.row) (by rw [Option.mem_toList]; exact h.t.ne (by decide) h.row)]
    exact h.row
  · exact h.l.kept k (fun g hg => by rw [Option.mem_toList]; exact fun e => tl g e hg)
  · exact h.u.kept k (fun g hg => by rw [Option.mem_toList]; exact h.u.ty h.t (by decide) hg)
theorem R4.lit {w w' : World} {b : Nat} {X : Array Value} {vt vl vu v' : Value} {T L : List Bs} {U : Bs} (h : R4 w b X vt vl vu T L U) (tl : ∀ g, vt.ownBlock = some g → vl.ownBlock ≠ some g) (k : Kept vl.ownBlock.toList w w') {x : Bs} (ho : GO eS w' 0 v' (L ++ [x])) : R4 w' b X vt v' vu T (L ++ [x]) U := by
  refine ⟨?_, ?_, ho, ?_⟩
  · rw [k.block b (lt_of_some h.row) (by rw [Option.mem_toList]; exact h.l.ne (by decide) h.row)]
    exact h.row
  · exact h.t.kept k (fun g hg => by rw [Option.mem_toList]; exact tl g hg)
  · exact h.u.kept k (fun g hg => by rw [Option.mem_toList]; exact h.u.ty h.l (by decide) hg)
theorem R4.byte {w w' : World} {b : Nat} {X : Array Value} {vt vl vu v' : Value} {T L : List Bs} {U : Bs} (h : R4 w b X vt vl vu T L U) (k : Kept vu.ownBlock.toList w w') {x : UInt8} (ho : GO eB w' 0 v' (U ++ [x])) : R4 w' b X vt vl v' T L (U ++ [x]) := by
  refine ⟨?_, ?_, ?_, ho⟩
  · rw [k.block b (lt_of_some h.row) (by rw [Option.mem_toList]; exact h.u.ne (by decide) h.row)]
    exact h.row
  · exact h.t.kept k (fun g hg => by rw [Option.mem_toList]; exact h.t.ty h.u (by decide) hg)
  · exact h.l.kept k (fun g hg => by rw [Option.mem_toList]; exact h.l.ty h.u (by decide) hg)
theorem row_at {w : World} {A T : Nat} {cs : Array Value} (h : w.heap[A]? = some (.cells cs T (0, 0))) (i : Nat) {v : Value} (hi : cs[i]? = some v) : w.cell? ⟨A, i, none⟩ = some v := by simp [World.cell?, h, hi]
/-- Seven cells laid as a whole into a feed's row. -/
theorem exec_store51 {a : Act} {x y : Operand} {A : Nat} {c c' : Array Value} {w : World} {ds : Option Tmp} {ty : Nat} {pos : String} {af : Array Edge} {gd : Option (Nat × Bool)}
    (hx : a.eval x = .pointer (some ⟨A, 0, none⟩)) (hy : a.eval y = .agg c) (hA : w.heap[A]? = some (.cells c' 57 (0, 0))) (h1 : c.size = 7) (h2 : c'.size = 8) (h3 : ∀ v ∈ c.toList, v.oneCell' = true) :
    (execOp a.eval ⟨ds, .store 54 x y, ty, pos, af, gd⟩).run Tryd.prog w = .ok .skip (w.setRow A (c.toList ++ c'.toList.drop 7).toArray) := by
  have h := run_storeCells_at (P := Tryd.prog) A 0 57 c.toList 0 c' w hA (by simp; omega) h3
  have hi : (Tryd.prog.info? 54).map (·.size) = some 7 := by kernel_rfl
  have hs : (storeVar 54 ⟨A, 0, none⟩ (.agg c)).run Tryd.prog w = .ok () (w.setRow A (c.toList ++ c'.toList.drop 7).toArray) := by
    cases hq : Tryd.prog.info? 54 with
    | none => simp [hq] at hi
    | some i =>
      have hz : c.size = i.size := by simp [hq] at hi; omega
      have h1' : c.toList.length = 7 := by simpa using h1
      simp only [Nat.add_zero, List.take_zero, List.nil_append, h1', Nat.zero_add] at h
      simp [storeVar, sizeOf, typeInfo, hq, Value.cells, hz, h]
  simp [execOp, hx, hy, Instr.storeAt, Instr.sureAddr, hs]
theorem wpList_store51 {ops : Array Oper} {rest : List Oper} {Q : Exit → Act → World → Prop} {a : Act} {x y : Operand} {A : Nat} {c c' : Array Value} {w : World} {ty : Nat} {pos : String} {af : Array Edge}
    (hx : a.eval x = .pointer (some ⟨A, 0, none⟩)) (hy : a.eval y = .agg c) (hA : w.heap[A]? = some (.cells c' 57 (0, 0))) (h1 : c.size = 7) (h2 : c'.size = 8) (h3 : ∀ v ∈ c.toList, v.oneCell' = true)
    (h : wpList Tryd.prog ops Q rest a (w.setRow A (c.toList ++ c'.toList.drop 7).toArray)) : wpList Tryd.prog ops Q (⟨none, .store 54 x y, ty, pos, af, none⟩ :: rest) a w := by
  refine wpList_plain rfl fun K hK => ?_
  unfold Oper.wp
  rw [exec_store51 hx hy hA h1 h2 h3]
  exact hK _ _ h
theorem Kept.setRow (S : List Nat) (w : World) (b : Nat) (cs : Array Value) (h : b ∈ S) : Kept S w (w.setRow b cs) :=
  ⟨rfl, rfl, rfl, by simp, fun i _ hn => setRow_other w b i cs (fun e => hn (e ▸ h))⟩
def zero7 : Array Value := #[.slice none 0 0, .slice none 0 0, .int .i64 0, .slice none 0 0, .int .i64 0, .int .i64 0, .bool false]
set_option maxRecDepth 100000 in
set_option maxHeartbeats 1000000 in
theorem restart_any {w : World} {b : Nat} {own : List Nat} {F : Fd} (h : FAt w b own F) :
    Calls Tryd.prog 41 #[.pointer (some ⟨b, 0, none⟩)] w fun e w' => e = .returned (.tuple #[]) ∧ FAt w' b [b] Fd.zero ∧ Kept [b] w w' := by
  obtain ⟨vt, vl, vu, f, rfl⟩ := h
  have HR := hid f.row
  have h1 : (w.setRow b (zero7.toList ++ (fC b vt vl vu F).toList.drop 7).toArray).heap[b]? = some (.cells (zero7.toList ++ (fC b vt vl vu F).toList.drop 7).toArray 57 (0, 0)) := setRow_heap w b _ _ 57 _ f.row
  have c7 : (w.setRow b (zero7.toList ++ (fC b vt vl vu F).toList.drop 7).toArray).cell? ⟨b, 7, none⟩ = some (nxV b F.nx) := row_at h1 7 rfl
  have j7 : (w.setRow b (zero7.toList ++ (fC b vt vl vu F).toList.drop 7).toArray).frozen? ⟨b, 7, none⟩ = false := by simp [World.frozen?, h1]
  have HZ : Hid (FAt ((w.setRow b (zero7.toList ++ (fC b vt vl vu F).toList.drop 7).toArray).setCell ⟨b, 7, none⟩ .nilFunc) b [b] Fd.zero) := by
    refine ⟨.slice none 0 0, .slice none 0 0, .slice none 0 0, ⟨?_, GO.nil _ _ _, GO.nil _ _ _, GO.nil _ _ _, fun g hg => by simp [Value.ownBlock] at hg⟩, rfl⟩
    rw [heap_setCell_same _ _ _ _ _ _ h1]
    rfl
  have HK : Hid (Kept [b] w ((w.setRow b (zero7.toList ++ (fC b vt vl vu F).toList.drop 7).toArray).setCell ⟨b, 7, none⟩ .nilFunc)) :=
    (Kept.setRow [b] w b _ (by simp)).trans (Kept.setCell [b] _ _ _ (by simp)) (fun _ _ h => h)
  have HO : Hid (∀ v ∈ zero7.toList, v.oneCell' = true) := by
    intro v hv
    simp only [zero7, List.mem_cons, List.not_mem_nil, or_false] at hv
    rcases hv with rfl | rfl | rfl | rfl | rfl | rfl | rfl <;> rfl
  clear f h1
  generalize hW : w.setRow b (zero7.toList ++ (fC b vt vl vu F).toList.drop 7).toArray = W at *
  go_enter Tryd.func41, Tryd.ntmps41
  go_wp2_with (refine wpList_store51 (A := b) (c := zero7) rfl rfl HR.out rfl rfl HO.out ?_; rw [hW])
  go_end0
  exact ⟨rfl, HZ.out, HK.out⟩
end Go.Proofs.YtikcbgoocljgnaaDoor
