/- What this text holds: a byte is put behind those of its key, beside a disk. -/
import Derived.Test.YtahhhpmpgkfkdaaPMap
namespace Go.Proofs.Ytahhhpmpgkfkdaa
open Go.RowKit Go.Maps Go.WideElems Go.ChangeShapes
set_option linter.unusedVariables false

theorem slice40k (x : Int) (w : World) : (Instr.buildSlice 40 1 #[(0, .int .u8 x)]).run Try.prog w = .ok (.slice (some ⟨w.heap.size, 0, none⟩) 1 1) (w.alloc (.cells #[.int .u8 x] 5)) := by kernel_rfl
theorem exec_lookup {a : Act} {x y : Operand} {m i v : Value} {w w' : World} {d : Option Tmp} {t ty : Nat} {pos : String} {af : Array Edge} {g : Option (Nat × Bool)} (hx : a.eval x = m) (hy : a.eval y = i)
    (h : (Instr.lookup t m i false).run Try.prog w = .ok v w') : (execOp a.eval ⟨d, .lookup t x y false, ty, pos, af, g⟩).run Try.prog w = .ok (.value v) w' := by
  simp [execOp, hx, hy, h]
theorem exec_mapUpdate {a : Act} {x y z : Operand} {m i v : Value} {w w' : World} {d : Option Tmp} {t ty : Nat} {pos : String} {af : Array Edge} {g : Option (Nat × Bool)} (hx : a.eval x = m) (hy : a.eval y = i) (hz : a.eval z = v)
    (h : (Instr.mapUpdate t m i v).run Try.prog w = .ok () w') : (execOp a.eval ⟨d, .mapUpdate t x y z, ty, pos, af, g⟩).run Try.prog w = .ok .skip w' := by
  simp [execOp, hx, hy, hz, h]
theorem wf_u8 {x : Int} (h1 : 0 ≤ x) (h2 : x ≤ 255) : (Lit.int .u8 x).wf = true := by
  simp [Lit.wf, IntKind.min, IntKind.max, IntKind.signed, IntKind.bits]; omega

theorem pstore {L X1 : World} {base mb j g9 : Nat} {G : DataW Unit} {v : Value} {zs : List Int} {i : Nat} {x : Int} {No : Nat → Prop} (hg : L.ownsGroups Try.prog 3 base 5 .u8 mb j G) (hj : j < maxLen) (hi : i < 4096)
    (hback : L.groupBack Try.prog 52 3 base 5 .u8 mb j G (.int .i64 i) (.int .i64 i) v) (hoi : L.ownsInts base 5 .u8 v zs) (hzl : zs.length ≤ j) (hj2 : j ≤ 100) (hL : ∀ row, L.grownBy X1 row) (hbase : base ≤ L.heap.size)
    (hsrc : X1.cell? ⟨g9, 0, none⟩ = some (.int .u8 x)) (hx1 : 0 ≤ x) (hx2 : x ≤ 255) (hsh : L.Shuns mb No) (hvn : ∀ g, v.ownBlock = some g → ¬ No g) (hNo : ∀ g, No g → g < L.heap.size) :
    ∃ v' w1 w2, (Builtin.append_ #[40, 40] 40 #[v, .slice (some ⟨g9, 0, none⟩) 1 1]).run Try.prog X1 = .ok v' w1 ∧ (Instr.mapUpdate 52 (.map (some mb)) (.int .i64 i) v').run Try.prog w1 = .ok () w2 ∧
      w2.ownsGroups Try.prog 3 base 5 .u8 mb (j + 1) (G.put (.int .i64 i) (.slice (lits .u8 (zs ++ [x])) [])) ∧ Kept v.ownBlock.toList L w1 ∧ Kept (mb :: v.ownBlock.toList) L w2 ∧ w2.Shuns mb No := by
  obtain ⟨inf, hin, hz0, hz1, hz2⟩ := info_parts Try.info5
  have hL0 := hL none
  have hoi1 : X1.ownsInts base 5 .u8 v zs := hoi.kept hL0 (by cases v.ownBlock <;> simp)
  obtain ⟨v', w1, hrun, hown', hgrow, _, hloc⟩ := run_append_own_at (P := Try.prog) X1 base 40 40 5 inf _ 1 1 Try.underlying40 hin hz0 hz1 hz2 rfl (by omega) v zs.length (zs.map (Value.int .u8)) hoi1.1
    ⟨g9, 0, none⟩ 1 1 [.int .u8 x] rfl (fun m u hu => by
      match m with
      | 0 => rw [Addr.add_mid]; simp only [List.getElem?_cons_zero, Option.some.injEq] at hu; subst hu; exact hsrc
      | m + 1 => simp at hu) (fun u hu => by simp only [List.mem_cons, List.not_mem_nil, or_false] at hu; subst hu; rfl) (by unfold maxLen; omega) (by omega) (Nat.le_trans hbase hL0.size)
  have hall : L.grownBy w1 v.ownBlock := (hL _).trans hgrow
  have happ : w1.ownsInts base 5 .u8 v' (zs ++ [x]) := World.ownsInts.appended hoi hown' (wf_u8 hx1 hx2)
  have hloc' : v'.ownBlock = v.ownBlock ∨ ∃ g, v'.ownBlock = some g ∧ L.heap.size ≤ g := hloc.imp id (fun h => ⟨_, h, hL0.size⟩)
  obtain ⟨w2, hrun2, r1, r2⟩ := hback w1 v' (zs ++ [x]) hall happ (by simp; omega) hloc'
  rw [happ.datum_pos (by simp)] at r1
  have hvb : v.ownBlock ≠ some mb := fun e1 => by
    obtain ⟨_, _, _, _, _, _, hbb, _⟩ := hg
    have := (hoi.1.lt mb e1).1; omega
  have k1 : Kept v.ownBlock.toList L w1 := Kept.ofGrown hall _ (fun k hk => by simp [hk])
  refine ⟨v', w1, w2, hrun, hrun2, r1, k1, ?_, ?_⟩
  · exact (k1.mono (fun k _ h => by simp only [List.mem_cons]; exact .inr h)).trans (Kept.ofGrown r2 [mb] (fun k hk => by simp only [Option.some.injEq] at hk; simp [hk])) (fun k _ h => by simp only [List.mem_singleton] at h; simp [h])
  · obtain ⟨es, clock, h0, fit, size, _⟩ := hg
    have h1 : w1.heap[mb]? = some (.map es clock) := by rw [k1.block mb (Array.getElem?_eq_some_iff.1 h0).1 (by simpa using hvb)]; exact h0
    obtain ⟨es', clock', h2, who⟩ := stored_who keyed3 Try.underlying52 h1 fit (by omega) (key3 i hi) hrun2
    intro es2 clock2 h3 y hy g hyg hN
    rw [h2] at h3
    cases h3
    rcases who y hy with ⟨hy0, _⟩ | ⟨_, e⟩
    · exact hsh es clock h0 y hy0 g hyg hN
    · rw [e] at hyg
      rcases hloc' with e1 | ⟨g', e1, h4⟩
      · exact hvn g (by rw [← e1]; exact hyg) hN
      · have h5 := hNo g hN
        rw [e1] at hyg
        simp only [Option.some.injEq] at hyg
        omega

theorem lits_inj {zs zs' : List Int} (h : (lits .u8 zs : List (DataW Unit)) = lits .u8 zs') : zs = zs' := by
  unfold lits at h
  exact (List.map_inj_right (fun a b hab => by simpa using hab)).1 h
/-- What waits is told by the map. -/
def Told (ws : List (Int × List Int)) (G : DataW Unit) : Prop := ∀ x ∈ ws, ∃ c zs, x.2 = rep 512 c ∧ c ∈ zs ∧ G.atKey (.int .i64 x.1) .nil = .slice (lits .u8 zs) []
theorem told_zs {ws : List (Int × List Int)} {G : DataW Unit} {w : World} {base i : Nat} {v : Value} {zs : List Int} (h : Told ws G) (hoi : w.ownsInts base 5 .u8 v zs) (hat : G.atKey (.int .i64 i) .nil = rowDatum .u8 v zs) :
    ∀ x ∈ ws, x.1 = i → ∃ c, x.2 = rep 512 c ∧ c ∈ zs := by
  intro x hx e
  obtain ⟨c, zs', h1, h2, h3⟩ := h x hx
  rw [e, hat] at h3
  rcases hoi.datum (H := Unit) with ⟨h0, _⟩ | h0
  · rw [h0] at h3; cases h3
  · rw [h0] at h3
    simp only [DataW.slice.injEq, and_true] at h3
    exact ⟨c, h1, by rw [lits_inj h3]; exact h2⟩
theorem told_put {ws : List (Int × List Int)} {G : DataW Unit} {w : World} {base i : Nat} {v : Value} {zs : List Int} {x : Int} (h : Told ws G) (hm : IsMap G) (hoi : w.ownsInts base 5 .u8 v zs) (hat : G.atKey (.int .i64 i) .nil = rowDatum .u8 v zs) :
    Told (ws ++ [((i : Int), rep 512 x)]) (G.put (.int .i64 i) (.slice (lits .u8 (zs ++ [x])) [])) := by
  intro y hy
  simp only [List.mem_append, List.mem_singleton] at hy
  by_cases e : y.1 = i
  · have hc : ∃ c, y.2 = rep 512 c ∧ c ∈ zs ++ [x] := by
      rcases hy with hy | rfl
      · obtain ⟨c, h1, h2⟩ := told_zs h hoi hat y hy e
        exact ⟨c, h1, by simp [h2]⟩
      · exact ⟨x, rfl, by simp⟩
    obtain ⟨c, h1, h2⟩ := hc
    exact ⟨c, zs ++ [x], h1, h2, by rw [e]; exact atKey_put_same hm (show WideAt.IsKeyLit (Lit.int .i64 i) from trivial) _ _⟩
  · rcases hy with hy | rfl
    · obtain ⟨c, zs', h1, h2, h3⟩ := h y hy
      exact ⟨c, zs', h1, h2, by rw [atKey_put_other (by simpa using e)]; exact h3⟩
    · exact absurd rfl e

theorem write_ok (D : DS) (i : Int) (l : List Int) (h : (D.write i l).1 = 0) : (D.write i l).2.waits = D.waits ++ [(i, l)] ∧ (D.write i l).2.secs = D.secs ∧ 0 ≤ i ∧ i < D.n := by
  unfold DS.write at *
  split at h
  · simp at h
  · split at h
    · simp at h
    · rename_i h1 h2
      split at h
      · rename_i h3
        rw [if_neg h1, if_neg h2, if_pos h3]
        refine ⟨by simp [DS.step_waits], ?_, by omega, by omega⟩
        simp only [DS.step]
        split <;> rfl
      · simp at h
theorem write_bad (D : DS) (i : Int) (l : List Int) (h : (D.write i l).1 ≠ 0) : (D.write i l).2.waits = D.waits ∧ (D.write i l).2.secs = D.secs := by
  have hs : D.step.2.secs = D.secs := by simp only [DS.step]; split <;> rfl
  unfold DS.write at *
  split
  · exact ⟨rfl, rfl⟩
  · split
    · exact ⟨rfl, rfl⟩
    · rename_i h1 h2
      split
      · rename_i h3
        rw [if_neg h1, if_neg h2, if_pos h3] at h
        exact absurd rfl h
      · exact ⟨DS.step_waits D, hs⟩

/-- The disk that is written, the one behind the first crash, and the map, apart from each other. -/
structure PInv (w0 wr : World) (b bb mb j : Nat) (own bown ex : List Nat) (D F : DS) (G : DataW Unit) : Prop where
  d : Disk wr w0.heap.size b own D
  o : Disk wr w0.heap.size bb bown F
  g : wr.ownsGroups Try.prog 3 (mb + 1) 5 .u8 mb j G
  sh : wr.Shuns mb (fun x => x ∈ own ++ bown ++ ex)
  dj : ∀ i ∈ own, i ∉ bown
  m1 : mb ∉ own ++ bown ++ ex
  ex1 : ∀ i ∈ ex, i < wr.heap.size
  mB : w0.heap.size ≤ mb
  s : D.steps ≤ 81 + j
  w : D.waits.length ≤ j
  n : D.n = F.n
  secs : D.secs = F.secs
  told : Told D.waits G
  b : Below w0.heap.size w0 wr

theorem PInv.later {w0 wr w' : World} {b bb mb j : Nat} {own bown ex : List Nat} {D F : DS} {G : DataW Unit} (h : PInv w0 wr b bb mb j own bown ex D F G) (hb : Below wr.heap.size wr w') : PInv w0 w' b bb mb j own bown ex D F G :=
  { h with
    d := h.d.keep (Kept.ofBelow hb []) (by simp)
    o := h.o.keep (Kept.ofBelow hb []) (by simp)
    g := groups_keptS h.g (Kept.ofBelow hb []) (by simp) (fun _ _ _ _ _ _ _ => by simp)
    sh := shuns_keptS h.sh (Kept.ofBelow hb []) (groups_lt h.g) (by simp)
    ex1 := fun i hi => Nat.lt_of_lt_of_le (h.ex1 i hi) hb.size
    b := h.b.trans (hb.mono h.b.size) }
/-- A new block to be shunned. -/
theorem PInv.mark {w0 wr : World} {b bb mb j : Nat} {own bown ex : List Nat} {D F : DS} {G : DataW Unit} (h : PInv w0 wr b bb mb j own bown ex D F G) (o : Obj) : PInv w0 (wr.alloc o) b bb mb j own bown [wr.heap.size] D F G := by
  have h2 := h.later ((Below.refl _ _).alloc (Nat.le_refl _) o)
  have hm := groups_lt h.g
  refine { h2 with sh := ?_, m1 := ?_, ex1 := ?_ }
  · refine shuns_keptS (h.sh.reno h.g (fun g hg => ?_)) (Kept.alloc [] wr o) hm (by simp)
    simp only [List.mem_append, List.mem_singleton] at hg ⊢
    rcases hg with hg | hg
    · exact .inl (.inl hg)
    · right; omega
  · have := h.m1
    simp only [List.mem_append, List.mem_singleton, not_or] at this ⊢
    exact ⟨this.1, by omega⟩
  · intro i hi
    simp only [List.mem_singleton] at hi
    simp [hi]
theorem PInv.wrote {w0 wr w' : World} {b bb mb j : Nat} {own own' bown ex : List Nat} {D D' F : DS} {G : DataW Unit} (h : PInv w0 wr b bb mb j own bown ex D F G) (hd : Disk w' w0.heap.size b own' D') (hk : Kept own wr w') (hf : ∀ k ∈ own', k ∈ own ∨ wr.heap.size ≤ k) :
    Disk w' w0.heap.size b own' D' ∧ Disk w' w0.heap.size bb bown F ∧ w'.ownsGroups Try.prog 3 (mb + 1) 5 .u8 mb j G ∧ w'.Shuns mb (fun x => x ∈ own' ++ bown ++ ex) ∧ (∀ i ∈ own', i ∉ bown) ∧ (mb ∉ own' ++ bown ++ ex) ∧ (∀ i ∈ ex, i < w'.heap.size) ∧ Below w0.heap.size w0 w' := by
  have hm := groups_lt h.g
  have hm1 := h.m1
  simp only [List.mem_append, not_or] at hm1
  refine ⟨hd, h.o.keep hk (fun i hi hm => h.dj i hm hi), ?_, ?_, ?_, ?_, ?_, h.d.below hk h.b (Nat.le_refl _)⟩
  · exact groups_keptS h.g hk hm1.1.1 (fun es c he x hx g hg hS => h.sh es c he x hx g hg (by simp only [List.mem_append]; exact .inl (.inl hS)))
  · refine shuns_keptS (h.sh.reno h.g (fun g hg => ?_)) hk hm hm1.1.1
    simp only [List.mem_append] at hg ⊢
    rcases hg with (hg | hg) | hg
    · rcases hf g hg with h1 | h1
      · exact .inl (.inl (.inl h1))
      · exact .inr h1
    · exact .inl (.inl (.inr hg))
    · exact .inl (.inr hg)
  · intro i hi hm
    rcases hf i hi with h1 | h1
    · exact h.dj i h1 hm
    · have := (h.o.lt i hm).2; omega
  · simp only [List.mem_append, not_or]
    refine ⟨⟨fun hi => ?_, hm1.1.2⟩, hm1.2⟩
    rcases hf _ hi with h1 | h1
    · exact hm1.1.1 h1
    · omega
  · exact fun i hi => Nat.lt_of_lt_of_le (h.ex1 i hi) hk.size
/-- A write that was refused. -/
theorem PInv.bad {w0 wr w' : World} {b bb mb j : Nat} {own own' bown ex : List Nat} {D F : DS} {G : DataW Unit} {i : Int} {l : List Int} (h : PInv w0 wr b bb mb j own bown ex D F G) (hd : Disk w' w0.heap.size b own' (D.write i l).2) (hk : Kept own wr w') (hf : ∀ k ∈ own', k ∈ own ∨ wr.heap.size ≤ k) (hw : (D.write i l).1 ≠ 0)
    (hmon : ∀ {w : World} {n : Nat} {G : DataW Unit}, w.ownsGroups Try.prog 3 (mb + 1) 5 .u8 mb n G → w.ownsGroups Try.prog 3 (mb + 1) 5 .u8 mb (n + 1) G) : PInv w0 w' b bb mb (j + 1) own' bown ex (D.write i l).2 F G := by
  obtain ⟨h1, h2, h3, h4, h5, h6, h7, h8⟩ := h.wrote hd hk hf
  obtain ⟨e1, e2⟩ := write_bad D i l hw
  have hg := write_grow D i l
  exact ⟨h1, h2, hmon h3, h4, h5, h6, h7, h.mB, by have := h.s; have := hg.2.1; omega, by rw [e1]; have := h.w; omega, hg.1.trans h.n, e2.trans h.secs, by rw [e1]; exact h.told, h8⟩
theorem groups_mono {w : World} {mb n : Nat} {G : DataW Unit} (h : w.ownsGroups Try.prog 3 (mb + 1) 5 .u8 mb n G) : w.ownsGroups Try.prog 3 (mb + 1) 5 .u8 mb (n + 1) G := by
  obtain ⟨es, clock, hb0, F, hs0, h3, hbb, hlen, hap⟩ := h
  exact ⟨es, clock, hb0, F, by omega, h3, hbb, fun x hx zs ho => Nat.le_succ_of_le (hlen x hx zs ho), hap⟩
end Go.Proofs.Ytahhhpmpgkfkdaa
