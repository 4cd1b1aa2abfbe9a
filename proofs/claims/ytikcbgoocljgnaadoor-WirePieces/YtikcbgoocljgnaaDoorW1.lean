/- What this text holds: two feeds side by side, and what the one told, piece by piece. -/
import Derived.Test.YtikcbgoocljgnaaDoorL3
import Derived.Laws.AppendOwnNone
namespace Go.Proofs.YtikcbgoocljgnaaDoor
open Go.RowKit
set_option linter.unusedVariables false
set_option linter.unusedSimpArgs false

/-- Few texts in what is told. -/
def EvFew (L : List Ev) : Prop := ∀ E ∈ L, E.2.1.length ≤ 1000000 ∧ E.2.2.length ≤ 1000000
theorem evOf_few (o : Out) (h1 : o.t.length ≤ 1000000) (h2 : o.l.length ≤ 1000000) : EvFew (evOf o) := by
  intro E hE
  unfold evOf at hE
  split at hE
  · cases hE
  · rw [List.mem_singleton] at hE
    subst hE
    exact ⟨h1, h2⟩
theorem endLine_few (F : Fd) (h1 : F.texts.length ≤ 100) (h2 : F.lits.length ≤ 100) : EvFew (evOf (endLineP F)) := by
  unfold endLineP
  split
  · exact evOf_few _ (by simp; omega) (by simp; omega)
  · split
    · exact evOf_few _ (by simp; omega) (by simp; omega)
    · exact evOf_few _ (by simp) (by simp)
theorem ofLine_few (F : Fd) (c : UInt8) (h1 : F.texts.length ≤ 100) (h2 : F.lits.length ≤ 100) : EvFew (evOf (ofLineP F c)) := by
  unfold ofLineP
  split
  · exact endLine_few F h1 h2
  · split
    · exact evOf_few _ (by simp; omega) (by simp; omega)
    · exact evOf_few _ (by simp) (by simp)
theorem step_few (F : Fd) (c : UInt8) (h : Sound F) : EvFew (evOf (stepP F c)) := by
  have ht := h.t
  have hl := h.l
  unfold stepP
  split
  · exact ofLine_few _ c (by simp; omega) (by simp; omega)
  · exact ofLine_few _ c (by omega) (by omega)
  · exact evOf_few _ (by simp) (by simp)
  · exact evOf_few _ (by simp) (by simp)
  · exact evOf_few _ (by simp) (by simp)
theorem take_few : ∀ (s : Bs) (F : Fd), Sound F → EvFew (takeP F s).2
  | [], F, _ => fun E hE => by simp [takeP] at hE
  | c :: s, F, h => fun E hE => by
    rw [takeP] at hE
    simp only [List.mem_append] at hE
    rcases hE with e | e
    · exact step_few F c h E e
    · exact take_few s _ (sound_step F c h) E e
/-- Elements behind elements. -/
theorem go_cat {α : Type} (E : En α) {w : World} {B : Nat} {v : Value} {l : List α} (h : GO E w B v l) (hBw : B ≤ w.heap.size) {u : Value} {m : List α} (hu : GO E w 0 u m) (hl : l.length ≤ 10000000) (hm : m.length ≤ 1000000) :
    ∃ v' w', (Builtin.append_ #[E.t, E.t] E.t #[v, u]).run Tryd.prog w = .ok v' w' ∧ GO E w' B v' (l ++ m) ∧ Kept v.ownBlock.toList w w' ∧ (∀ g, v'.ownBlock = some g → v.ownBlock = some g ∨ w.heap.size ≤ g) := by
  obtain ⟨i, hi, hz0, hz1, hz2⟩ := info_parts E.inf
  rcases id hu.2 with ⟨rfl, h0⟩ | ⟨g, cap, cur, rfl, _⟩
  · have := List.eq_nil_of_length_eq_zero h0
    subst this
    rw [List.append_nil]
    exact ⟨v, w, run_append_owned_none (P := Tryd.prog) (w := w) B E.t E.t E.T i E.k E.ut hi v l.length (E.cs l) h, h, Kept.refl _ _, fun g hg => .inl hg⟩
  · obtain ⟨v', w', hr, ho', hg, _, hbl⟩ := run_append_own_at (P := Tryd.prog) w B E.t E.t E.T i _ E.k E.by_ E.ut hi hz0 hz1 hz2 E.hz E.hk v l.length (E.cs l) h
      ⟨g, 0, none⟩ m.length cap (E.cs m) (E.cs_len m) (fun j x hx => World.ownsRow.cells hu rfl j x hx) (E.cs_one m) (by unfold maxLen; omega) (by
          have : (l.length + m.length) * E.by_ ≤ 11000000 * 1000 := Nat.mul_le_mul (by omega) E.hby
          omega) hBw
    rw [← E.cs_append, show l.length + m.length = (l ++ m).length by simp] at ho'
    refine ⟨v', w', hr, ho', Kept.ofGrown hg _ (fun k hk => by rw [hk]; simp), fun q e => ?_⟩
    rcases hbl with h3 | h3
    · left; rw [← h3]; exact e
    · right
      rw [h3] at e
      simp at e
      omega
/-- Events of one's own, above a block. -/
def EB (B : Nat) (w : World) (v : Value) (own : List Nat) (L : List Ev) : Prop := ∃ es : List (Int × Sl × Sl), GO eE w B v es ∧ (∀ g, v.ownBlock = some g → g ∉ own) ∧ es.length = L.length ∧ ∀ (j : Nat) e E, es[j]? = some e → L[j]? = some E → EvOk w own e E
theorem EB.nil (B : Nat) (w : World) (own : List Nat) : EB B w (.slice none 0 0) own [] := ⟨[], GO.nil _ _ _, fun g hg => by simp [Value.ownBlock] at hg, rfl, fun j e E h => by simp at h⟩
theorem EB.l {B : Nat} {w : World} {v : Value} {own : List Nat} {L : List Ev} (h : EB B w v own L) : EvL w v own L := by
  obtain ⟨es, h1, h2⟩ := h
  exact ⟨es, h1.base (Nat.zero_le _), h2⟩
theorem EB.out {B : Nat} {w : World} {v : Value} {own : List Nat} {L : List Ev} (h : EB B w v own L) : ∀ g, v.ownBlock = some g → g ∉ own := by
  obtain ⟨es, h1, h2, _⟩ := h
  exact h2
theorem EB.ge {B : Nat} {w : World} {v : Value} {own : List Nat} {L : List Ev} (h : EB B w v own L) : ∀ g, v.ownBlock = some g → B ≤ g := by
  obtain ⟨es, h1, h2, _⟩ := h
  exact fun g hg => (World.ownsRow.lt h1 g hg).1
theorem EB.kept {B : Nat} {w w' : World} {v : Value} {own own' : List Nat} {L : List Ev} (h : EB B w v own L) (k : Kept own w w') (ho : ∀ g ∈ own', g ∈ own ∨ w.heap.size ≤ g) : EB B w' v own' L := by
  obtain ⟨es, h1, h2, h3, h4⟩ := h
  have nb : ∀ {g : Nat}, g < w.heap.size → g ∉ own → g ∉ own' := fun hl hn hm => by rcases ho _ hm with e | e; exact hn e; omega
  have h1' : GO eE w' B v es := ownsRow_block h1 (fun g hg => k.block g (World.ownsRow.lt h1 g hg).2 (h2 g hg))
  refine ⟨es, h1', fun g hg => nb (World.ownsRow.lt h1 g hg).2 (h2 g hg), h3, fun j e E he hE => ?_⟩
  obtain ⟨a, b, c, d, f⟩ := h4 j e E he hE
  exact ⟨a, b.kept k d, c.kept k f, fun g hg => nb (b.lt hg) (d g hg), fun g hg => nb (c.lt hg) (f g hg)⟩
/-- What was told behind what was told. -/
theorem EB.app {B : Nat} {w : World} {v u : Value} {own : List Nat} {L M : List Ev} (h : EB B w v own L) (hBw : B ≤ w.heap.size) (hu : EvL w u own M) (hown : ∀ g ∈ own, g < w.heap.size) (hL : L.length ≤ 10000000) (hM : M.length ≤ 1000000) :
    ∃ v' w', (Builtin.append_ #[29, 29] 29 #[v, u]).run Tryd.prog w = .ok v' w' ∧ EB B w' v' own (L ++ M) ∧ Kept v.ownBlock.toList w w' := by
  obtain ⟨es, h1, h2, h3, h4⟩ := h
  obtain ⟨fs, k1, k2, k3, k4⟩ := hu
  obtain ⟨v', w', hr, ho, hk, hn⟩ := go_cat eE h1 hBw k1 (by omega) (by omega)
  have h10 : GO eE w 0 v es := h1.base (Nat.zero_le _)
  have keep : ∀ {x : Value} {l : List Bs}, GO eS w 0 x l → GO eS w' 0 x l := fun hx => hx.kept hk (fun g hg => by rw [Option.mem_toList]; exact hx.ty h10 (by decide) hg)
  refine ⟨v', w', hr, ⟨es ++ fs, ho, fun g hg hm => ?_, by simp [h3, k3], fun j x X hx hX => ?_⟩, hk⟩
  · rcases hn g hg with q | q
    · exact h2 g q hm
    · have := hown g hm; omega
  · have ok : EvOk w own x X := by
      rcases Nat.lt_or_ge j es.length with hj | hj
      · rw [List.getElem?_append_left hj] at hx
        rw [List.getElem?_append_left (by omega)] at hX
        exact h4 j x X hx hX
      · rw [List.getElem?_append_right hj] at hx
        rw [List.getElem?_append_right (by omega)] at hX
        rw [h3] at hx
        exact k4 _ x X hx hX
    exact ⟨ok.1, keep ok.2.1, keep ok.2.2.1, ok.2.2.2.1, ok.2.2.2.2⟩
theorem FS.kept {w0 w w' : World} {b : Nat} {own S : List Nat} {F : Fd} (h : FS w0 w b own F) (k : Kept S w w') (hS : ∀ g ∈ own, g ∉ S) (hB : ∀ g ∈ S, w0.heap.size ≤ g) : FS w0 w' b own F :=
  ⟨h.f.kept k hS, h.n, h.k.trans (k.below hB h.k.size), h.s⟩
theorem FS.row {w0 w : World} {b : Nat} {own : List Nat} {F : Fd} (h : FS w0 w b own F) : ∃ X fr, w.heap[b]? = some (.cells X 57 fr) := by
  obtain ⟨vt, vl, vu, f, _⟩ := h.f
  exact ⟨_, _, f.row⟩
theorem EvL.apart {w : World} {v : Value} {own : List Nat} {L : List Ev} {b : Nat} {X : Array Value} {fr : Nat × Nat} (h : EvL w v own L) (hr : w.heap[b]? = some (.cells X 57 fr)) : EvL w v [b] L := by
  obtain ⟨es, h1, h2, h3, h4⟩ := h
  refine ⟨es, h1, fun g hg hm => ?_, h3, fun j e E he hE => ?_⟩
  · rw [List.mem_singleton] at hm
    exact h1.ne (by decide) hr (by rw [hg, hm])
  · obtain ⟨a, p, q, _, _⟩ := h4 j e E he hE
    refine ⟨a, p, q, fun g hg hm => ?_, fun g hg hm => ?_⟩
    · rw [List.mem_singleton] at hm
      exact p.ne (by decide) hr (by rw [hg, hm])
    · rw [List.mem_singleton] at hm
      exact q.ne (by decide) hr (by rw [hg, hm])
/-- The second feed, and what it told so far, since the world Wa. -/
structure PV (w0 Wa w : World) (gb : Nat) (vb : Value) (P : Bs) : Prop where
  x : ∃ own, FS w0 w gb own (takeP Fd.zero P).1 ∧ EB Wa.heap.size w vb own (takeP Fd.zero P).2 ∧ ∀ g ∈ own, g = gb ∨ Wa.heap.size ≤ g
  k : Kept [gb] Wa w
theorem PV.begin {w0 Wa : World} {gb : Nat} (h : FS w0 Wa gb [gb] Fd.zero) : PV w0 Wa Wa gb (.slice none 0 0) [] :=
  ⟨⟨[gb], h, EB.nil _ _ _, fun g hg => .inl (by simpa using hg)⟩, Kept.refl _ _⟩
def PvIs (w0 Wa : World) (gb : Nat) (vb : Value) (P : Bs) (e : Ending) (w1 : World) : Prop := ∃ vr, e = .returned vr ∧ ∃ v' w2, (Builtin.append_ #[29, 29] 29 #[vb, vr]).run Tryd.prog w1 = .ok v' w2 ∧ PV w0 Wa w2 gb v' P
theorem PV.take {w0 Wa w : World} {gb : Nat} {vb : Value} {P : Bs} (h : PV w0 Wa w gb vb P) (h0 : w0.heap.size ≤ Wa.heap.size) (t : Bs) (hl : P.length + t.length ≤ 1000000) :
    Calls Tryd.prog 12 #[.pointer (some ⟨gb, 0, none⟩), .slice (some ⟨w.heap.size, 0, none⟩) t.length (grownCap w t.length 0 5)] (strW w t) (PvIs w0 Wa gb vb (P ++ t)) := by
  obtain ⟨own, hf, hb, ho⟩ := h.x
  refine (take_text hf t (by omega)).mono ?_
  rintro e w1 ⟨vr, own', rfl, hf1, hv1, _, hk1, ho1⟩
  have hb1 := hb.kept hk1 ho1
  have hs := h.k.size
  have l1 := take_len P Fd.zero
  have l2 := take_len t (takeP Fd.zero P).1
  obtain ⟨v', w2, hr, hb2, hk2⟩ := hb1.app (by have := hk1.size; omega) hv1 hf1.f.lt (by omega) (by omega)
  have hge := hb1.ge
  have hS : ∀ g ∈ vb.ownBlock.toList, Wa.heap.size ≤ g := fun g hg => hge g (by rwa [Option.mem_toList] at hg)
  refine ⟨vr, rfl, v', w2, hr, ⟨⟨own', ?_, ?_, fun g hg => ?_⟩, ?_⟩⟩
  · rw [take_app]
    refine hf1.kept hk2 (fun g hg hm => ?_) (fun g hg => Nat.le_trans h0 (hS g hg))
    rw [Option.mem_toList] at hm
    exact hb1.out g hm hg
  · rw [take_app]
    exact hb2
  · rcases ho1 g hg with q | q
    · exact ho g q
    · right; omega
  · refine (h.k.trans hk1 (fun i hi hm => ?_)).trans hk2 (fun i hi hm => ?_)
    · rcases ho i hm with q | q
      · simp [q]
      · omega
    · have := hS i hm
      omega
theorem same_yes {w : World} {va vb : Value} {L : List Ev} (h : EvR w va L) (h' : EvR w vb L) (hl : L.length ≤ 1000000) (hf : EvFew L) :
    Calls Tryd.prog 13 #[va, vb] w fun e w' => e = .returned (.bool true) ∧ ∃ n, w' = w.drewN n := by
  have := same_any h h' hl hl hf hf
  rwa [show decide (L = L) = true by simp] at this
def idleB (F : Fd) : Bool := match F.nx with | .no => true | _ => false
theorem idle2 {w : World} {b : Nat} {own : List Nat} {F : Fd} (h : FAt w b own F) : Calls Tryd.prog 14 #[.pointer (some ⟨b, 0, none⟩)] w fun e w' => e = .returned (.bool (idleB F)) ∧ Below w.heap.size w w' := idle_any h
/-- The end: both alike. -/
theorem PV.same {w0 Wa w : World} {fb gb : Nat} {va vb : Value} {P : Bs} {ownF : List Nat} {F : Fd} (h : PV w0 Wa w gb vb P) (hf : FAt Wa fb ownF F) (hn : gb ∉ ownF) (hv : EvL Wa va ownF (takeP Fd.zero P).2) (hg : ∃ X fr, Wa.heap[gb]? = some (.cells X 57 fr)) (hl : P.length ≤ 1000000) :
    (Calls Tryd.prog 13 #[va, vb] w fun e w' => e = .returned (.bool true) ∧ ∃ n, w' = w.drewN n) ∧ FAt w fb ownF F ∧ (∃ own, FAt w gb own (takeP Fd.zero P).1) ∧ Below w0.heap.size w0 w := by
  obtain ⟨own, hf2, hb, ho⟩ := h.x
  obtain ⟨X, fr, hr⟩ := hg
  have hva := ((hv.apart hr).kept (own' := [gb]) h.k (fun g hg => .inl hg)).r
  refine ⟨same_yes hva hb.l.r ?_ (take_few P Fd.zero sound_zero), hf.kept h.k (fun g hg hm => ?_), ⟨own, hf2.f⟩, hf2.k⟩
  · exact Nat.le_trans (take_len P Fd.zero) hl
  · rw [List.mem_singleton] at hm
    exact hn (hm ▸ hg)
/-- Where a cut lies. -/
theorem cut_at (c : Int) (n : Nat) : -(n : Int) ≤ Int.tmod c ((n : Int) + 1) ∧ Int.tmod c ((n : Int) + 1) ≤ n ∧ ∃ k : Nat, k ≤ n ∧ Int.tmod (Int.tmod c ((n : Int) + 1) + n + 1) ((n : Int) + 1) = k := by
  have h1 : Int.tmod c ((n : Int) + 1) < (n : Int) + 1 := Int.tmod_lt_of_pos c (by omega)
  have h2 : -((n : Int) + 1) < Int.tmod c ((n : Int) + 1) := by
    have := Int.tmod_lt_of_pos (-c) (b := (n : Int) + 1) (by omega)
    rw [Int.neg_tmod] at this
    omega
  refine ⟨by omega, by omega, ?_⟩
  have h3 : 0 ≤ Int.tmod (Int.tmod c ((n : Int) + 1) + n + 1) ((n : Int) + 1) := Int.tmod_nonneg _ (by omega)
  have h4 : Int.tmod (Int.tmod c ((n : Int) + 1) + n + 1) ((n : Int) + 1) < (n : Int) + 1 := Int.tmod_lt_of_pos _ (by omega)
  exact ⟨(Int.tmod (Int.tmod c ((n : Int) + 1) + n + 1) ((n : Int) + 1)).toNat, by omega, by omega⟩
end Go.Proofs.YtikcbgoocljgnaaDoor
