/- What this text holds: one kid more; the teller in memory; operations of the regions of kids and tell, by their runs. -/
import Derived.Test.YtgolcmafbenjbaaGreatDoorN14
namespace Go.Proofs.YtgolcmafbenjbaaGreatDoor
open Go.RowKit
set_option linter.unusedVariables false
set_option linter.unusedSimpArgs false

theorem KO.more {w : World} {B n : Nat} {v : Value} {rows : List Rw} (h : KO w B n v rows) (hB : B ≤ w.heap.size) (r : Rw) (hr : PtAt w (fun q => B ≤ q ∧ v.ownBlock ≠ some q) n r.p r.vp r.vi r.vd r.vk) (h1 : ∀ x ∈ r.c, x.oneCell' = true) (hl : rows.length ≤ 1000000) (q : Nat) (hq : w.heap.size = q) :
    ∃ v' w', (Builtin.append_ #[31, 31] 31 #[v, .slice (some ⟨q, 0, none⟩) 1 1]).run Tryz.prog (w.alloc (.cells (ptC r.p.d r.vp r.vi r.vd r.vk) 33)) = .ok v' w' ∧ KO w' B n v' (rows ++ [r]) ∧ Below B w w' ∧ Kept v.ownBlock.toList w w' := by
  obtain ⟨v', w', hrun, ho, hk, hb, hv⟩ := vo_one Tryz.underlying31 Tryz.info33 rfl (by omega) (by omega) h.o hB (by omega) r.c (Rw.len r) h1 q hq
  refine ⟨v', w', hrun, ⟨?_, ?_⟩, hb, hk⟩
  · rw [show (rows ++ [r]).length = rows.length + 1 by simp, show rowC (rows ++ [r]) = rowC rows ++ r.c by simp [rowC]]
    exact ho
  · have hall : ∀ s : Rw, PtAt w (fun q => B ≤ q ∧ v.ownBlock ≠ some q) n s.p s.vp s.vi s.vd s.vk → PtAt w' (fun q => B ≤ q ∧ v'.ownBlock ≠ some q) n s.p s.vp s.vi s.vd s.vk := by
      intro s hs
      have e1 := hs.mono (N' := fun q => (B ≤ q ∧ v.ownBlock ≠ some q) ∧ v'.ownBlock ≠ some q) (fun q hq hN => ⟨hN, fun e => by
        rcases hv q e with h2 | h2
        · exact hN.2 h2
        · omega⟩)
      have e2 := e1.kept hk (fun i hi hN => by
        rw [Option.mem_toList] at hi
        exact hN.1.2 hi)
      exact e2.mono (fun q _ hN => ⟨hN.1.1, hN.2⟩)
    intro s hs
    rcases List.mem_append.1 hs with hs | hs
    · exact hall s (h.each s hs)
    · simp at hs
      subst hs
      exact hall s hr

/-- The teller lies in memory. -/
def TeAt (w : World) (b : Nat) (m : Bs) (many : Nat) : Prop := w.heap[b]? = some (.cells #[.string (str m), .int .i64 many] 59 (0, 0))
theorem TeAt.c0 {w : World} {b : Nat} {m : Bs} {k : Nat} (h : TeAt w b m k) : w.cell? ⟨b, 0, none⟩ = some (.string (str m)) := by simp [World.cell?, show w.heap[b]? = _ from h]
theorem TeAt.c1 {w : World} {b : Nat} {m : Bs} {k : Nat} (h : TeAt w b m k) : w.cell? ⟨b, 1, none⟩ = some (.int .i64 k) := by simp [World.cell?, show w.heap[b]? = _ from h]
theorem TeAt.fz {w : World} {b : Nat} {m : Bs} {k : Nat} (h : TeAt w b m k) : ∀ j, w.frozen? ⟨b, j, none⟩ = false := fun j => by simp [World.frozen?, show w.heap[b]? = _ from h]
theorem TeAt.lt {w : World} {b : Nat} {m : Bs} {k : Nat} (h : TeAt w b m k) : b < w.heap.size := lt_of_some h
theorem TeAt.later {w w' : World} {b : Nat} {m : Bs} {k : Nat} (h : TeAt w b m k) (hb : Below w.heap.size w w') : TeAt w' b m k := (hb.block b (lt_of_some h)).trans h
theorem TeAt.kept {S : List Nat} {w w' : World} {b : Nat} {m : Bs} {k : Nat} (h : TeAt w b m k) (hk : Kept S w w') (hn : b ∉ S) : TeAt w' b m k := (hk.block b (lt_of_some h) hn).trans h
theorem TeAt.set {w : World} {b : Nat} {m : Bs} {k : Nat} (h : TeAt w b m k) (k' : Nat) : TeAt (w.setCell ⟨b, 1, none⟩ (.int .i64 k')) b m k' := by
  unfold TeAt; rw [heap_setCell_same _ _ _ _ _ _ h]; rfl
theorem SpL.ne {w : World} {v : Value} {l : List (Nat × Nat)} {b : Nat} {m : Bs} {k : Nat} (h : SpL w v l) (ht : TeAt w b m k) {a : Option Addr} {n c g o : Nat} (hv : v = .slice (some ⟨g, o, none⟩) n c) (h0 : l ≠ []) : g ≠ b := by
  obtain ⟨a', c', hv', hc, h⟩ := h
  rw [hv] at hv'
  rcases h with h | ⟨g', o', rfl, hg, h⟩
  · exact absurd h h0
  · simp at hv'
    obtain ⟨⟨rfl, rfl⟩, rfl, rfl⟩ := hv'
    rintro rfl
    have e : w.heap[g]? = _ := ht
    cases l with
    | nil => exact absurd rfl h0
    | cons t l =>
      have h2 := h 0 t rfl
      simp only [World.cell?, e, Nat.zero_mul, Nat.add_zero] at h2
      rcases o with _ | _ | o
      · simp at h2
      · simp at h2
      · simp at h2

theorem fieldk59 (r k : Nat) (w : World) (hk : k < 2) : (Instr.fieldAt 59 (.pointer (some ⟨r, 0, none⟩)) k).run Tryz.prog w = .ok (.pointer (some ⟨r, k, none⟩)) w := by
  rcases (by omega : k = 0 ∨ k = 1) with rfl | rfl <;> kernel_rfl
theorem fieldk33 (r : Nat) (w : World) : (Instr.fieldAt 33 (.pointer (some ⟨r, 0, none⟩)) 1).run Tryz.prog w = .ok (.pointer (some ⟨r, 1, none⟩)) w := by kernel_rfl
theorem load55 {b : Nat} {m : Bs} {w : World} (h : w.cell? ⟨b, 0, none⟩ = some (.string (str m))) : (Instr.loadAt 55 (.pointer (some ⟨b, 0, none⟩))).run Tryz.prog w = .ok (msgV m) w := by
  simp [go_sem, h, msgV]
theorem load62 {b : Nat} {x y : Nat} {w : World} (h0 : w.cell? ⟨b, 0, none⟩ = some (.int .i64 x)) (h1 : w.cell? ⟨b, 1, none⟩ = some (.int .i64 y)) : (Instr.loadAt 62 (.pointer (some ⟨b, 0, none⟩))).run Tryz.prog w = .ok (spV x y) w := by
  simp [go_sem, h0, h1, spV]
theorem load33 {b : Nat} {d : Pd} {vp vi vd vk : Value} {w : World} (h : D11 w b d vp vi vd vk) : (Instr.loadAt 33 (.pointer (some ⟨b, 0, none⟩))).run Tryz.prog w = .ok (ptV d vp vi vd vk) w := by
  obtain ⟨x0, x1, x2, x3, x4, x5, x6, x7, x8, x9, x10⟩ := h.cs
  simp [go_sem, x0, x1, x2, x3, x4, x5, x6, x7, x8, x9, x10, ptV, ptC]
theorem exec_lenL {a : Act} {x : Operand} {ad : Option Addr} {n c t : Nat} {T : TypeId} {w : World} {d : Option Tmp} {ty : Nat} {pos : String} {af : Array Edge} {g : Option (Nat × Bool)} (ht : Tryz.prog.underlying t = some (.slice T)) (hx : a.eval x = .slice ad n c) :
    (execOp a.eval ⟨d, .call { callee := .builtin .len, args := #[x], argTypes := #[t] }, ty, pos, af, g⟩).run Tryz.prog w = .ok (.value (.int .i64 n)) w := by
  simp only [execOp, resolve, invoke, builtin, Sem.run_bind, Sem.run_pure, Result.andThen_ok, List.map_toArray, List.map_cons, List.map_nil, hx]
  simp [Builtin.len_, run_underlying ht]
  rfl
theorem exec_eqlS {a : Act} {x y : Operand} {s : ByteArray} {t : Bs} {w : World} {d : Option Tmp} {T ty T2 : Nat} {pos : String} {af : Array Edge} {g : Option (Nat × Bool)} (hx : a.eval x = .string s) (hy : a.eval y = .string (str t)) :
    (execOp a.eval ⟨d, .binOp .eql T x y T2, ty, pos, af, g⟩).run Tryz.prog w = .ok (.value (.bool (s.toList == t))) w := by
  simp [execOp, hx, hy, eqGuard, binOp, Op.stringOp, toL]
theorem slice31 (d : Pd) (pa ia da ka : Option Addr) (pn pc n1 c1 n2 c2 kn kc : Nat) (w : World) : (Instr.buildSlice 31 1 #[(0, ptV d (.slice pa pn pc) (.slice ia n1 c1) (.slice da n2 c2) (.slice ka kn kc))]).run Tryz.prog w = .ok (.slice (some ⟨w.heap.size, 0, none⟩) 1 1) (w.alloc (.cells (ptC d (.slice pa pn pc) (.slice ia n1 c1) (.slice da n2 c2) (.slice ka kn kc)) 33)) := by kernel_rfl
theorem exec_buildSlice {a : Act} {X : Value} {x : Operand} {w w' : World} {v : Value} {d : Option Tmp} {t n ty : Nat} {pos : String} {af : Array Edge} {g : Option (Nat × Bool)} (hx : a.eval x = X)
    (h : (Instr.buildSlice t n #[(0, X)]).run Tryz.prog w = .ok v w') : (execOp a.eval ⟨d, .buildSlice t n #[(0, x)], ty, pos, af, g⟩).run Tryz.prog w = .ok (.value v) w' := by
  simp only [execOp, List.map_toArray, List.map_cons, List.map_nil, hx]
  exact exec_v h
section
variable {P : Program} {ops : Array Oper} {Q : Exit → Act → World → Prop} {md : Region.Mode} {S : World → Prop}
theorem anyH_takeU (i : Nat) (o : Oper) {fuel : Nat} {listed : Array Bool} {a : Act} {w : World} (hi : ops[i]? = some o) (hw : Region.wanted o (yielded ops a.tmps) = false)
    (hs : Region.noSelect ops = true) (hf : Region.free md ops listed i = true) (hr : (Region.ready md ops listed).contains i = true)
    (hQ : ∀ c a w, Q (.panic c) (a.put o.dst undef) w → Q (.panic c) a w) (hS : S w)
    (h : wpAnyH P md ops Q S fuel (listed.setIfInBounds i true) (a.put o.dst undef) w) : wpAnyH P md ops Q S (fuel + 1) listed a w :=
  wpAnyH_take hi hs hf hr hQ (.inr ⟨hw, rfl⟩) hS h
end

theorem tell_many (m : Bs) : ∀ (n a b : Nat) (dg : Bool) (many : Nat), many ≤ 59 → many < (tellM m n a b dg many).2 ∧ (tellM m n a b dg many).2 ≤ 60
  | 0, a, b, dg, many, h => by simp only [tellM]; omega
  | n + 1, a, b, dg, many, h => by
    have hk : ∀ (l : List (Nat × Nat)) (dg : Bool) (k : Nat), k ≤ 60 → k ≤ (kidsF (tellM m n) dg l k).2 ∧ (kidsF (tellM m n) dg l k).2 ≤ 60 := by
      intro l dg
      induction l with
      | nil => intro k hk; simp only [kidsF]; omega
      | cons t l ih =>
        intro k hk
        simp only [kidsF]
        split
        · exact ⟨Nat.le_refl _, hk⟩
        · have h1 := tell_many m n t.1 t.2 dg k (by omega)
          have h2 := ih (tellM m n t.1 t.2 dg k).2 h1.2
          simp only
          omega
    have := hk (textsM m (partM m a b dg)) (isDig (partM m a b dg)) (many + 1) (by omega)
    simp only [tellM]
    omega
theorem kept_low {b : Nat} {w0 w w' : World} (k : Kept [b] w0 w) (h : Below w0.heap.size w w') : Kept [b] w0 w' := ⟨h.os.trans k.os, h.tape.trans k.tape, h.output.trans k.output, Nat.le_trans k.size h.size, fun i hi hn => (h.block i hi).trans (k.block i hi hn)⟩
end Go.Proofs.YtgolcmafbenjbaaGreatDoor
