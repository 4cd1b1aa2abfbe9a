/- What this text holds: the part at a path: the program's call. (Written by gen23.py.) -/
import Derived.Test.YtgolcmafbenjbaaGreatDoorN22
namespace Go.Proofs.YtgolcmafbenjbaaGreatDoor
open Go.RowKit
set_option linter.unusedVariables false
set_option linter.unusedSimpArgs false

/-- No part has too many kids. -/
inductive Sm : Pt → Prop
  | mk (p : Pt) (h : p.kids.length ≤ 1000) (hk : ∀ k ∈ p.kids, Sm k) : Sm p
theorem Sm.len {p : Pt} (h : Sm p) : p.kids.length ≤ 1000 := by cases h; assumption
theorem Sm.kid {p k : Pt} (h : Sm p) (hk : k ∈ p.kids) : Sm k := by cases h with | mk _ _ h2 => exact h2 k hk
theorem Sm.mailed {p k : Pt} (h : Sm p) (hk : mailedM p = some k) : Sm k := by
  unfold mailedM at hk
  split at hk
  · exact h.kid (List.mem_of_getElem? hk)
  · cases hk
theorem Sm.within {p k : Pt} (h : Sm p) (hk : withinM p = some k) : Sm k := by
  unfold withinM at hk
  split at hk
  · cases hk; exact h
  · exact h.mailed hk
theorem Sm.numbered {p k : Pt} {n : Int} (h : Sm p) (hk : numberedM p n = some k) : Sm k := by
  unfold numberedM at hk
  split at hk
  · split at hk
    · cases hk
    · exact h.kid (List.mem_of_getElem? hk)
  · split at hk
    · cases hk; exact h
    · cases hk
theorem sm_tell (m : Bs) : ∀ (n a b : Nat) (dg : Bool) (many : Nat), many ≤ 59 → Sm (tellM m n a b dg many).1
  | 0, a, b, dg, many, h => .mk _ (by simp [tellM, Pt.kids]) (by simp [tellM, Pt.kids])
  | n + 1, a, b, dg, many, h => by
    have hk : ∀ (l : List (Nat × Nat)) (dg : Bool) (k : Nat), k ≤ 60 → (kidsF (tellM m n) dg l k).1.length + k ≤ 60 ∧ ∀ p ∈ (kidsF (tellM m n) dg l k).1, Sm p := by
      intro l dg
      induction l with
      | nil => intro k hk; simp [kidsF]; exact hk
      | cons t l ih =>
        intro k hk
        simp only [kidsF]
        split
        · simp; exact hk
        · have h1 := tell_many m n t.1 t.2 dg k (by omega)
          have h2 := ih (tellM m n t.1 t.2 dg k).2 h1.2
          refine ⟨by simp only [List.length_cons]; omega, fun p hp => ?_⟩
          rcases List.mem_cons.1 hp with rfl | hp
          · exact sm_tell m n t.1 t.2 dg k (by omega)
          · exact h2.2 p hp
    have := hk (textsM m (partM m a b dg)) (isDig (partM m a b dg)) (many + 1) (by omega)
    exact .mk _ (by simp only [tellM, Pt.kids]; omega) (by simp only [tellM, Pt.kids]; exact this.2)
theorem sm_struc (s : Bs) : Sm (strucM s) := sm_tell s 7 0 s.length false 0 (by omega)

/-- Numbers lie in memory. -/
def IL (w : World) (v : Value) (l : List Int) : Prop := ∃ a c, v = .slice a l.length c ∧ l.length ≤ c ∧ (l = [] ∨ ∃ g o, a = some ⟨g, o, none⟩ ∧ g < w.heap.size ∧ ∀ j x, l[j]? = some x → w.cell? ⟨g, o + j, none⟩ = some (.int .i64 x))
theorem IL.later {w w' : World} {v : Value} {l : List Int} (h : IL w v l) (hb : Below w.heap.size w w') : IL w' v l := by
  obtain ⟨a, c, rfl, hc, h⟩ := h
  refine ⟨a, c, rfl, hc, ?_⟩
  rcases h with h | ⟨g, o, rfl, hg, h⟩
  · exact .inl h
  · exact .inr ⟨g, o, rfl, Nat.lt_of_lt_of_le hg hb.size, fun j x hx => (World.cell?_of_block (hb.block g hg)).trans (h j x hx)⟩
theorem atG_none (p : Pt) (x : Int) (l : List Int) : atG p none (x :: l) = none := rfl
theorem atG_no (p a : Pt) (x : Int) (l : List Int) (h : numberedM a x = none) : atG p (some a) (x :: l) = none := by rw [atG, h]
theorem atG_yes (p a q : Pt) (x : Int) (l : List Int) (h : numberedM a x = some q) : atG p (some a) (x :: l) = atG q (withinM q) l := by rw [atG, h]
/-- What is asked next lies in its block. -/
def AskAt (w : World) (N : Nat → Prop) (A : Nat) : Option Pt → Prop
  | some a => ∃ pa pn pc ia n1 c1 da n2 c2 ka kn kc, D11 w A a.d (.slice pa pn pc) (.slice ia n1 c1) (.slice da n2 c2) (.slice ka kn kc) ∧ PtAt w N 7 a (.slice pa pn pc) (.slice ia n1 c1) (.slice da n2 c2) (.slice ka kn kc) ∧ Sm a
  | none => ∃ d vp vi vd vk, D11 w A d vp vi vd vk
theorem AskAt.some' {w : World} {N : Nat → Prop} {A : Nat} {a : Pt} {vp vi vd vk : Value} (h : D11 w A a.d vp vi vd vk) (hp : PtAt w N 7 a vp vi vd vk) (hs : Sm a) : AskAt w N A (some a) := by
  obtain ⟨pa, pn, pc, ia, n1, c1, da, n2, c2, ka, kn, kc, rfl, rfl, rfl, rfl⟩ := hp.slices
  exact ⟨_, _, _, _, _, _, _, _, _, _, _, _, h, hp, hs⟩
theorem AskAt.kept {S : List Nat} {w w' : World} {N : Nat → Prop} {A : Nat} {o : Option Pt} (h : AskAt w N A o) (hk : Kept S w w') (hS : ∀ i ∈ S, ¬ N i) (hA : A ∉ S) : AskAt w' N A o := by
  cases o with
  | none => obtain ⟨d, vp, vi, vd, vk, h⟩ := h; exact ⟨d, vp, vi, vd, vk, h.kept hk hA⟩
  | some a => obtain ⟨_, _, _, _, _, _, _, _, _, _, _, _, h, hp, hs⟩ := h; exact ⟨_, _, _, _, _, _, _, _, _, _, _, _, h.kept hk hA, hp.kept hk hS, hs⟩
theorem AskAt.later {w w' : World} {N : Nat → Prop} {A : Nat} {o : Option Pt} (h : AskAt w N A o) (hb : Below w.heap.size w w') : AskAt w' N A o := h.kept (Kept.ofBelow hb []) (by simp) (by simp)
/-- How the way along a path stands. -/
structure Wy (w0 w : World) (N : Nat → Prop) (R A B : Nat) (q : Pt) (ask : Option Pt) : Prop where
  r : D11 w R Pd.zero nilV nilV nilV nilV
  a : AskAt w N A (some q)
  b : AskAt w N B ask
  below : Below w0.heap.size w0 w
  nw : ∀ i, N i → i < w0.heap.size
  lo : w0.heap.size ≤ R ∧ w0.heap.size ≤ A ∧ w0.heap.size ≤ B ∧ A ≠ B ∧ R ≠ A ∧ R ≠ B
theorem Wy.later {w0 w w' : World} {N : Nat → Prop} {R A B : Nat} {q : Pt} {ask : Option Pt} (h : Wy w0 w N R A B q ask) (hb : Below w.heap.size w w') : Wy w0 w' N R A B q ask := ⟨h.r.later hb, h.a.later hb, h.b.later hb, h.below.trans (hb.mono h.below.size), h.nw, h.lo⟩
theorem Wy.setA {w0 w : World} {N : Nat → Prop} {R A B : Nat} {q q' : Pt} {ask : Option Pt} (h : Wy w0 w N R A B q ask) {vp vi vd vk : Value} (hq : PtAt w N 7 q' vp vi vd vk) (hs : Sm q') : Wy w0 (row11 w A q'.d vp vi vd vk) N R A B q' ask := by
  obtain ⟨_, _, _, _, _, _, _, _, _, _, _, _, hd, _, _⟩ := h.a
  have k := row11_self w A q'.d vp vi vd vk
  have hN : ∀ i ∈ [A], ¬ N i := fun i hi hn => by rw [List.mem_singleton] at hi; have := h.nw i hn; have := h.lo.2.1; omega
  have hlo := h.lo
  exact ⟨h.r.kept k (by rw [List.mem_singleton]; exact hlo.2.2.2.2.1), AskAt.some' (row11_is hd _ _ _ _ _) (hq.kept k hN) hs, h.b.kept k hN (by rw [List.mem_singleton]; exact fun e => hlo.2.2.2.1 e.symm), below_kept h.below k (by simp; exact hlo.2.1) h.below.size, h.nw, h.lo⟩
theorem AskAt.d {w : World} {N : Nat → Prop} {A : Nat} {o : Option Pt} (h : AskAt w N A o) : ∃ d vp vi vd vk, D11 w A d vp vi vd vk := by
  cases o with
  | none => exact h
  | some a => obtain ⟨_, _, _, _, _, _, _, _, _, _, _, _, h, _, _⟩ := h; exact ⟨_, _, _, _, _, h⟩
theorem Wy.setB {w0 w : World} {N : Nat → Prop} {R A B : Nat} {q q' : Pt} {ask : Option Pt} (h : Wy w0 w N R A B q ask) {vp vi vd vk : Value} (hq : PtAt w N 7 q' vp vi vd vk) (hs : Sm q') : Wy w0 (row11 w B q'.d vp vi vd vk) N R A B q (some q') := by
  obtain ⟨_, _, _, _, _, hd⟩ := h.b.d
  have k := row11_self w B q'.d vp vi vd vk
  have hN : ∀ i ∈ [B], ¬ N i := fun i hi hn => by rw [List.mem_singleton] at hi; have := h.nw i hn; have := h.lo.2.2.1; omega
  have hlo := h.lo
  exact ⟨h.r.kept k (by rw [List.mem_singleton]; exact hlo.2.2.2.2.2), h.a.kept k hN (by rw [List.mem_singleton]; exact hlo.2.2.2.1), AskAt.some' (row11_is hd _ _ _ _ _) (hq.kept k hN) hs, below_kept h.below k (by simp; exact hlo.2.2.1) h.below.size, h.nw, h.lo⟩
theorem Wy.noB {w0 w : World} {N : Nat → Prop} {R A B : Nat} {q : Pt} {ask : Option Pt} (h : Wy w0 w N R A B q ask) (d : Pd) (vp vi vd vk : Value) : Wy w0 (row11 w B d vp vi vd vk) N R A B q none := by
  obtain ⟨_, _, _, _, _, hd⟩ := h.b.d
  have k := row11_self w B d vp vi vd vk
  have hN : ∀ i ∈ [B], ¬ N i := fun i hi hn => by rw [List.mem_singleton] at hi; have := h.nw i hn; have := h.lo.2.2.1; omega
  have hlo := h.lo
  exact ⟨h.r.kept k (by rw [List.mem_singleton]; exact hlo.2.2.2.2.2), h.a.kept k hN (by rw [List.mem_singleton]; exact hlo.2.2.2.1), ⟨_, _, _, _, _, row11_is hd _ _ _ _ _⟩, below_kept h.below k (by simp; exact hlo.2.2.1) h.below.size, h.nw, h.lo⟩
end Go.Proofs.YtgolcmafbenjbaaGreatDoor
