/- What this text holds: a span is kept. -/
import Derived.Test.YtiiegjdclpkeeaaDoorM17
import Derived.Deep.RegionLaw
namespace Go.Proofs.YtiiegjdclpkeeaaDoor
open Go.RowKit
set_option linter.unusedVariables false
set_option linter.unusedSimpArgs false

theorem step_more {ops : Array Oper} {o : Oper} {a : Act} {K : Act → World → Prop} {Q : Exit → Act → World → Prop} {E : Prop} {w : World} {B : Nat} {v u : Value} {S m : List Sp} (hgd : o.guard = none) (s x : Operand)
    (ho : o.op = .call { callee := .builtin .append, args := #[s, x], argTypes := #[22, 22] }) (hty : o.type = 22) (hs : a.eval s = v) (hx : a.eval x = u) (hgo : GO eSp w B v S) (hB : B ≤ w.heap.size) (hgl : GL eSp w u m) (hl : S.length ≤ 10000000) (hm : m.length ≤ 1000000) (hne : m ≠ [])
    (h : ∀ v' w', GO eSp w' B v' (S ++ m) → w.grownBy w' v.ownBlock → K (a.put o.dst v') w') :
    if Region.wanted o (yielded ops a.tmps) = true then Oper.wp Tryd.prog o a w K Q else E := by
  have hw : Region.wanted o (yielded ops a.tmps) = true := by simp [Region.wanted, hgd]
  obtain ⟨v', w', hr, ho', _, hg⟩ := go_more eSp hgo hB hgl hl hm hne
  have hr2 : (Builtin.append_ #[22, 22] 22 #[v, u]).run Tryd.prog w = .ok v' w' := hr
  rw [if_pos hw]
  unfold Oper.wp execOp
  simp only [ho, hty, resolve, invoke, builtin, Sem.run_bind, Sem.run_pure, Result.andThen_ok, List.map_toArray, List.map_cons, List.map_nil, hs, hx, hr2]
  exact h v' w' ho' hg
theorem gl_block {W : World} {n : Nat} {x y : Int} (h : W.heap[n]? = some (.cells #[.int .i64 x, .int .i64 y] 26 (0, 0))) : GL eSp W (.slice (some ⟨n, 0, none⟩) 1 1) [(x, y)] := by
  refine ⟨_, 1, rfl, by simp, .inr ⟨n, 0, rfl, fun j i q v h1 h2 => ?_, lt_of_some h⟩⟩
  cases j with
  | zero =>
    simp at h1
    subst h1
    simp only [World.cell?, h, Nat.zero_add, Nat.zero_mul]
    match i, h2 with
    | 0, h2 => simp [eSp] at h2; subst h2; rfl
    | 1, h2 => simp [eSp] at h2; subst h2; rfl
    | i + 2, h2 => simp [eSp] at h2
  | succ j => simp at h1
theorem keep_end {w W w' : World} {B b : Nat} {l : Bs} {S : List Sp} {fr mn : Bool} {v v' : Value} {p : Sp} (hbW : Below w.heap.size w W) (hc : w.heap[b]? = some (.cells #[.string (str l), v, .bool fr, .bool mn] 52 (0, 0))) (ho : GO eSp w B v S) (hB : B ≤ b) (hE : Env w) (h4 : 3 ≤ B)
    (hgr : W.grownBy w' v.ownBlock) (hgo' : GO eSp w' B v' (S ++ [p])) :
    (w'.cell? ⟨b, 1, none⟩ = some v ∧ w'.frozen? ⟨b, 1, none⟩ = false) ∧ RdAt (w'.setCell ⟨b, 1, none⟩ v') B b w'.heap.size l (S ++ [p]) fr mn ∧ Below B w (w'.setCell ⟨b, 1, none⟩ v') := by
  have hcl := lt_of_some hc
  have hcW : W.heap[b]? = some (.cells #[.string (str l), v, .bool fr, .bool mn] 52 (0, 0)) := (hbW.block b hcl).trans hc
  have hoW := ho.later hbW
  have hc' : w'.heap[b]? = some (.cells #[.string (str l), v, .bool fr, .bool mn] 52 (0, 0)) := (hgr.block b (lt_of_some hcW) (fun e => hoW.ne (by decide) hcW e.symm)).trans hcW
  have hBW : B ≤ W.heap.size := by have := lt_of_some hcW; omega
  have hb1 : Below B w w' := (hbW.mono (by omega)).trans ((Below.refl B W).grown hgr hBW (fun k hk => (World.ownsRow.lt hoW k hk).1))
  have hb2 : Below B w (w'.setCell ⟨b, 1, none⟩ v') := hb1.setCell hB _
  refine ⟨⟨by simp [World.cell?, hc'], by simp [World.frozen?, hc']⟩, ⟨⟨v', by rw [heap_setCell_same _ _ _ _ _ _ hc']; rfl, hgo'.setOther (by decide) hc' 1 _, fun g hg => (World.ownsRow.lt hgo' g hg).2⟩, hB, hE.keep hb2 h4, h4⟩, hb2⟩
/-- What keep leaves. -/
def KeepIs (l : Bs) (w : World) (B b : Nat) (S : List Sp) (fr mn : Bool) (s : Sp) (e : Ending) (w' : World) : Prop :=
  e = .returned (.tuple #[]) ∧ RdAt w' B b w'.heap.size l (if S.length = 1000 then S else S ++ [s]) fr (mn || decide (S.length = 1000)) ∧ Below B w w'
set_option maxRecDepth 100000 in
set_option maxHeartbeats 4000000 in
theorem keep_any {w : World} {B b U : Nat} {l : Bs} {S : List Sp} {fr mn : Bool} (h : RdAt w B b U l S fr mn) (x y : Int) (hS : S.length ≤ 1000) : Calls Tryd.prog 29 #[.pointer (some ⟨b, 0, none⟩), .agg #[.int .i64 x, .int .i64 y]] w (KeepIs l w B b S fr mn (x, y)) := by
  have hba : Below w.heap.size w (w.alloc (.cells #[.int .i64 x, .int .i64 y] 26)) := (Below.refl _ _).alloc (Nat.le_refl _) _
  have hle := h.le
  have ht := h.later hba
  have HT := hid ht
  obtain ⟨⟨v, hc, ho, hU⟩, hB, hE, h4⟩ := h
  have hbl := lt_of_some hc
  have HBa := hid hba
  have c1 : w.cell? ⟨b, 1, none⟩ = some v := by simp [World.cell?, hc]
  have c3 : w.cell? ⟨b, 3, none⟩ = some (.bool mn) := by simp [World.cell?, hc]
  have f1 : w.frozen? ⟨b, 1, none⟩ = false := by simp [World.frozen?, hc]
  have f3 : w.frozen? ⟨b, 3, none⟩ = false := by simp [World.frozen?, hc]
  have HC := hid hc
  have HO := hid ho
  have HE := hid hE
  clear hc ho hE ht hba
  by_cases hk : S.length = 1000
  · obtain ⟨a0, c0, hv0⟩ := HO.out.slice hk
    subst hv0
    have HX : Hid (∀ w', RdAt w' B b w'.heap.size l S fr true → Below B w w' → KeepIs l w B b S fr mn (x, y) (.returned (.tuple #[])) w') := fun w' h1 h2 => ⟨rfl, by rw [if_pos hk, show decide (S.length = 1000) = true by simpa using hk, Bool.or_true]; exact h1, h2⟩
    clear hk
    have hb2 : Below B w (w.setCell ⟨b, 3, none⟩ (.bool true)) := (Below.refl B w).setCell hB _
    have hr1 : RdAt (w.setCell ⟨b, 3, none⟩ (.bool true)) B b w.heap.size l S fr true := ⟨⟨_, by rw [heap_setCell_same _ _ _ _ _ _ HC.out]; rfl, HO.out.setOther (by decide) HC.out 3 _, fun g hg => (World.ownsRow.lt HO.out g hg).2⟩, hB, HE.out.keep hb2 h4, h4⟩
    have HFin := hid (hr1.later ((Below.refl _ (w.setCell ⟨b, 3, none⟩ (.bool true))).alloc (Nat.le_refl _) (.cells #[.int .i64 x, .int .i64 y] 26))).top
    have HB2 := hid (hb2.alloc (by simp; exact hle) (.cells #[.int .i64 x, .int .i64 y] 26))
    clear hr1 hb2
    go_enter Tryd.func29, Tryd.ntmps29
    go_wp2_with fail
    refine bodyPost_ret (v := .tuple #[]) (by simp [results, Tryd.results29, go_sem]) rfl ?_
    exact HX.out _ HFin.out HB2.out
  · obtain ⟨a0, c0, hv0⟩ := HO.out.slice (n := S.length) rfl
    subst hv0
    have hkb : ((S.length : Int) == 1000) = false := by simp; omega
    have HX : Hid (∀ w', RdAt w' B b w'.heap.size l (S ++ [(x, y)]) fr mn → Below B w w' → KeepIs l w B b S fr mn (x, y) (.returned (.tuple #[])) w') := fun w' h1 h2 => ⟨rfl, by rw [if_neg hk, show decide (S.length = 1000) = false by simpa using hk, Bool.or_false]; exact h1, h2⟩
    clear hk
    have HBlk : Hid (((w.alloc (.cells #[.int .i64 x, .int .i64 y] 26)).alloc (.cells #[.int .i64 x, .int .i64 y] 26)).heap[w.heap.size + 1]? = some (.cells #[.int .i64 x, .int .i64 y] 26 (0, 0))) := by have := heap_alloc_new (w.alloc (.cells #[.int .i64 x, .int .i64 y] 26)) (.cells #[.int .i64 x, .int .i64 y] 26); rw [World.size_alloc] at this; exact this
    go_enter Tryd.func29, Tryd.ntmps29
    go_wp2_with fail
    go_region_law ((refine step_more (B := B) (S := S) (m := [(x, y)]) (by rfl) (.tmp 17) (.tmp 19) (by rfl) (by rfl) (by rfl) (by rfl) (by exact HO.out.later (by repeat (first | exact HBa.out | refine Below.alloc ?_ (by simp) _ | refine Below.drew ?_))) (by simp <;> omega) (by exact gl_block (by exact HBlk.out)) (by omega) (by simp) (by simp) ?_; intro v' w' hgo' hgr'; obtain ⟨a5, c5, rfl⟩ := hgo'.slice (n := S.length + 1) (by simp); obtain ⟨⟨e1, e2⟩, e3, e4⟩ := keep_end (by repeat (first | exact HBa.out | refine Below.alloc ?_ (by simp) _ | refine Below.drew ?_)) HC.out HO.out hB HE.out h4 hgr' hgo'))
    all_goals
      go_wp2_with fail
      refine bodyPost_ret (v := .tuple #[]) (by simp [results, Tryd.results29, go_sem]) rfl ?_
      exact HX.out _ e3.top e4
end Go.Proofs.YtiiegjdclpkeeaaDoor
