/- What this text holds: a feed takes bytes. -/
import Derived.Test.YtikcbgoocljgnaaDoorM15
namespace Go.Proofs.YtikcbgoocljgnaaDoor
open Go.RowKit
set_option linter.unusedVariables false
set_option linter.unusedSimpArgs false

/-- An event: its kind, its texts, its literals. -/
abbrev Ev := Int × List Bs × List Bs
def EvOk (w : World) (own : List Nat) (e : Int × Sl × Sl) (E : Ev) : Prop := e.1 = E.1 ∧ GO eS w 0 (Sl.v e.2.1) E.2.1 ∧ GO eS w 0 (Sl.v e.2.2) E.2.2 ∧ (∀ g, (Sl.v e.2.1).ownBlock = some g → g ∉ own) ∧ (∀ g, (Sl.v e.2.2).ownBlock = some g → g ∉ own)
/-- Events in memory, none of them in what a feed may turn. -/
def EvL (w : World) (v : Value) (own : List Nat) (L : List Ev) : Prop := ∃ es : List (Int × Sl × Sl), GO eE w 0 v es ∧ (∀ g, v.ownBlock = some g → g ∉ own) ∧ es.length = L.length ∧ ∀ (j : Nat) e E, es[j]? = some e → L[j]? = some E → EvOk w own e E
theorem EvL.nil (w : World) (own : List Nat) : EvL w (.slice none 0 0) own [] := ⟨[], GO.nil _ _ _, fun g hg => by simp [Value.ownBlock] at hg, rfl, fun j e E h => by simp at h⟩
theorem EvL.kept {w w' : World} {v : Value} {own own' : List Nat} {L : List Ev} (h : EvL w v own L) (k : Kept own w w') (ho : ∀ g ∈ own', g ∈ own ∨ w.heap.size ≤ g) : EvL w' v own' L := by
  obtain ⟨es, h1, h2, h3, h4⟩ := h
  have nb : ∀ {g : Nat}, g < w.heap.size → g ∉ own → g ∉ own' := fun hl hn hm => by rcases ho _ hm with e | e; exact hn e; omega
  refine ⟨es, h1.kept k h2, fun g hg => nb (h1.lt hg) (h2 g hg), h3, fun j e E he hE => ?_⟩
  obtain ⟨a, b, c, d, f⟩ := h4 j e E he hE
  exact ⟨a, b.kept k d, c.kept k f, fun g hg => nb (b.lt hg) (d g hg), fun g hg => nb (c.lt hg) (f g hg)⟩
/-- One event more. -/
theorem EvL.more {w w' : World} {v v' : Value} {own : List Nat} {L : List Ev} {es : List (Int × Sl × Sl)} {e : Int × Sl × Sl} {E : Ev} (h1 : GO eE w 0 v es) (h2 : ∀ g, v.ownBlock = some g → g ∉ own) (h3 : es.length = L.length) (h4 : ∀ (j : Nat) e E, es[j]? = some e → L[j]? = some E → EvOk w own e E) (he : EvOk w own e E) (hown : ∀ g ∈ own, g < w.heap.size)
    (ho : GO eE w' 0 v' (es ++ [e])) (hk : Kept v.ownBlock.toList w w') (hn : ∀ g, v'.ownBlock = some g → v.ownBlock = some g ∨ w.heap.size ≤ g) : EvL w' v' own (L ++ [E]) := by
  have keep : ∀ {x : Value} {l : List Bs}, GO eS w 0 x l → GO eS w' 0 x l := fun hx => hx.kept hk (fun g hg => by rw [Option.mem_toList]; exact hx.ty h1 (by decide) hg)
  refine ⟨es ++ [e], ho, fun g hg hm => ?_, by simp [h3], fun j x X hx hX => ?_⟩
  · rcases hn g hg with q | q
    · exact h2 g q hm
    · have := hown g hm; omega
  · have ok : EvOk w own x X := by
      rcases Nat.lt_or_ge j es.length with hj | hj
      · rw [List.getElem?_append_left hj] at hx
        rw [List.getElem?_append_left (by omega)] at hX
        exact h4 j x X hx hX
      · rw [List.getElem?_append_right hj] at hx
        rw [List.getElem?_append_right (by omega)] at hX
        rw [h3] at hx
        cases hjj : j - L.length with
        | zero =>
          rw [hjj] at hx hX
          simp at hx hX
          rw [← hx, ← hX]
          exact he
        | succ n =>
          rw [hjj] at hx
          simp at hx
    exact ⟨ok.1, keep ok.2.1, keep ok.2.2.1, ok.2.2.2.1, ok.2.2.2.2⟩
def evOf (o : Out) : List Ev := if o.k = 0 then [] else [(o.k, o.t, o.l)]
/-- What comes of bytes. -/
def takeP : Fd → Bs → Fd × List Ev
  | F, [] => (F, [])
  | F, c :: s => ((takeP (stepP F c).f s).1, evOf (stepP F c) ++ (takeP (stepP F c).f s).2)
theorem take_app : ∀ (s t : Bs) (F : Fd), takeP F (s ++ t) = ((takeP (takeP F s).1 t).1, (takeP F s).2 ++ (takeP (takeP F s).1 t).2)
  | [], t, F => by simp [takeP]
  | c :: s, t, F => by
    rw [List.cons_append, takeP, take_app s t, takeP]
    simp [List.append_assoc]
theorem take_snoc (s : Bs) (k : Nat) (hk : k < s.length) (F : Fd) : takeP F (s.take (k + 1)) = ((stepP (takeP F (s.take k)).1 s[k]).f, (takeP F (s.take k)).2 ++ evOf (stepP (takeP F (s.take k)).1 s[k])) := by
  rw [List.take_succ_eq_append_getElem hk, take_app]
  simp [takeP]
/-- Where a feed stands behind so many bytes. -/
structure TkAt (w wr : World) (b : Nat) (own : List Nat) (v : Value) (F : Fd) (L : List Ev) : Prop where
  x : ∃ own', FAt wr b own' F ∧ EvL wr v own' L ∧ ∀ g ∈ own', g ∈ own ∨ w.heap.size ≤ g
  k : Kept own w wr
  n : ∀ g, v.ownBlock = some g → w.heap.size ≤ g
/-- A byte was taken: what lies there. -/
theorem TkAt.step {w wr W w3 : World} {b : Nat} {own own' : List Nat} {v : Value} {F F' : Fd} {L : List Ev} {o : Out} {e : Ending} (hf : FAt wr b own' F) (hv : EvL wr v own' L) (ho : ∀ g ∈ own', g ∈ own ∨ w.heap.size ≤ g) (hk : Kept own w wr) (kW : Kept [b] wr W) (hfW : FAt W b own' F') (s : StepO W b own' o e w3) :
    ∃ vT vL own3, e = .returned (.agg #[.int .i64 o.k, vT, vL]) ∧ GO eS w3 0 vT o.t ∧ GO eS w3 0 vL o.l ∧ FAt w3 b own3 o.f ∧ EvL w3 v own3 L ∧ (∀ g ∈ own3, g ∈ own ∨ w.heap.size ≤ g) ∧ Kept own w w3 ∧ (∀ g, vT.ownBlock = some g → g ∉ own3) ∧ (∀ g, vL.ownBlock = some g → g ∉ own3) := by
  obtain ⟨vT, vL, own3, rfl, gt, gl, hf3, hk3, ho3, n1, n2⟩ := s
  have kk : Kept own' wr w3 := (kW.mono (fun i _ hi => by rw [List.mem_singleton] at hi; rw [hi]; exact hf.mem)).trans hk3 (fun _ _ h => h)
  have hW := kW.size
  have ho3' : ∀ g ∈ own3, g ∈ own' ∨ wr.heap.size ≤ g := fun g hg => by rcases ho3 g hg with q | q; exact .inl q; right; omega
  have hws := hk.size
  refine ⟨vT, vL, own3, rfl, gt, gl, hf3, hv.kept kk ho3', fun g hg => ?_, hk.trans kk (fun i hi hm => by rcases ho i hm with q | q; exact q; omega), n1, n2⟩
  rcases ho3' g hg with q | q
  · exact ho g q
  · right; omega
end Go.Proofs.YtikcbgoocljgnaaDoor
