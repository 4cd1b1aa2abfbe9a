/- What this text holds: plain facts about a disk: how much it grows, and that its bytes are bytes. -/
import Derived.Test.YtambgimfbdecpaaGPager
namespace Go.Proofs.Ytambgimfbdecpaa
open Go.RowKit
set_option linter.unusedVariables false

theorem step_steps (D : DS) : D.step.2.steps ≤ D.steps + 1 ∧ D.step.2.n = D.n ∧ D.step.2.waits = D.waits := by
  refine ⟨?_, DS.step_n D, DS.step_waits D⟩
  unfold DS.step
  split
  · simp; omega
  · simp
theorem flush_grow (D : DS) : D.flush.2.n = D.n ∧ D.flush.2.steps ≤ D.steps + 1 ∧ D.flush.2.waits.length ≤ D.waits.length ∧ (D.flush.1 = 0 → D.flush.2.waits = []) := by
  obtain ⟨h1, h2, h3⟩ := step_steps D
  unfold DS.flush
  split
  · exact ⟨h2, h1, by simp [DS.flushed], fun _ => rfl⟩
  · exact ⟨h2, h1, by rw [h3]; exact Nat.le_refl _, fun h => by simp at h⟩
theorem flush_err (D : DS) : D.flush.1 = 0 ∨ D.flush.1 = 9 := by
  unfold DS.flush
  split
  · exact .inl rfl
  · exact .inr rfl
theorem write_grow (D : DS) (i : Int) (l : List Int) : (D.write i l).2.n = D.n ∧ (D.write i l).2.steps ≤ D.steps + 1 ∧ (D.write i l).2.waits.length ≤ D.waits.length + 1 := by
  obtain ⟨h1, h2, h3⟩ := step_steps D
  unfold DS.write
  split
  · exact ⟨rfl, by simp; omega, by simp⟩
  · split
    · exact ⟨rfl, by simp; omega, by simp⟩
    · split
      · exact ⟨h2, h1, by simp [h3]⟩
      · exact ⟨h2, h1, by simp only [h3]; omega⟩

theorem byt_splice {l b : List Int} {o : Nat} (h : Byt l) (hb : Byt b) : Byt (splice l o b) := by
  intro x hx
  simp only [splice, List.mem_append] at hx
  rcases hx with hx | hx | hx
  · exact h x (List.mem_of_mem_take hx)
  · exact hb x hx
  · exact h x (List.mem_of_mem_drop hx)
theorem byt_layS {l b : List Int} {i : Nat} (h : Byt l) (hb : Byt b) : Byt (layS l i b) := byt_splice h hb
theorem byt_layAll (ws : List (Int × List Int)) : ∀ l : List Int, Byt l → (∀ x ∈ ws, Byt x.2) → Byt (layAll l ws) := by
  induction ws with
  | nil => intro l h _; exact h
  | cons x ws ih => intro l h hw; exact ih _ (byt_layS h (hw x (by simp))) (fun y hy => hw y (by simp [hy]))
theorem step_secs (D : DS) : D.step.2.secs = D.secs := DS.step_secs D
theorem DS.byt.step {D : DS} (h : D.byt) : D.step.2.byt := ⟨by rw [DS.step_secs]; exact h.s, by rw [DS.step_waits]; exact h.w⟩
theorem DS.byt.flush {D : DS} (h : D.byt) : D.flush.2.byt := by
  unfold DS.flush
  split
  · exact ⟨byt_layAll _ _ h.step.s h.step.w, fun x hx => by simp [DS.flushed] at hx⟩
  · exact h.step
theorem DS.byt.write {D : DS} (h : D.byt) (i : Int) (l : List Int) (hl : Byt l) : (D.write i l).2.byt := by
  unfold DS.write
  split
  · exact h
  · split
    · exact h
    · split
      · refine ⟨h.step.s, fun x hx => ?_⟩
        simp only [List.mem_append, List.mem_singleton] at hx
        rcases hx with hx | rfl
        · exact h.step.w x hx
        · exact hl
      · exact h.step
theorem DS.byt.fused {D : DS} (h : D.byt) (n : Int) : (D.fused n).byt := ⟨h.s, h.w⟩
theorem DS.byt.blank (n : Nat) : (DS.blank n).byt := ⟨byt_rep _, fun x hx => by simp [DS.blank] at hx⟩
theorem byt_keep1 {ws : List (Int × List Int)} {s : List Int} {k : Int × Int} (h : Byt s) (hw : ∀ x ∈ ws, Byt x.2) : Byt (keep1 ws s k) := by
  unfold keep1
  split
  · rename_i hk
    exact byt_layS h ((hw _ (List.getElem_mem hk.2)).take _)
  · exact h
theorem DS.byt.crash {D : DS} (h : D.byt) (ks : List (Int × Int)) : (D.crash ks).byt := by
  refine ⟨?_, fun x hx => by simp [DS.crash] at hx⟩
  show Byt (ks.foldl (keep1 D.waits) D.secs)
  have hs := h.s
  generalize D.secs = s at hs
  induction ks generalizing s with
  | nil => exact hs
  | cons k ks ih => exact ih _ (byt_keep1 hs h.w)
theorem byt_lastW (ws : List (Int × List Int)) (i : Int) : ∀ d : List Int, Byt d → (∀ x ∈ ws, Byt x.2) → Byt (lastW ws i d) := by
  induction ws with
  | nil => intro d h _; exact h
  | cons x ws ih =>
    intro d h hw
    show Byt (lastW ws i (if x.1 = i then x.2 else d))
    refine ih _ ?_ (fun y hy => hw y (by simp [hy]))
    split
    · exact hw x (by simp)
    · exact h
theorem DS.byt.read {D : DS} (h : D.byt) (i : Nat) : Byt (D.read i) := byt_lastW _ _ _ ((h.s.drop _).take _) h.w
theorem lastW_length (ws : List (Int × List Int)) (i : Int) : ∀ d : List Int, d.length = 512 → (∀ x ∈ ws, x.2.length = 512) → (lastW ws i d).length = 512 := by
  induction ws with
  | nil => intro d h _; exact h
  | cons x ws ih =>
    intro d h hw
    show (lastW ws i (if x.1 = i then x.2 else d)).length = 512
    refine ih _ ?_ (fun y hy => hw y (by simp [hy]))
    split
    · exact hw x (by simp)
    · exact h
theorem DS.good.read {D : DS} (h : D.good) (i : Nat) (hi : i < D.n) : (D.read i).length = 512 :=
  lastW_length _ _ _ (sec_length D.secs i D.n h.len hi) (fun x hx => (h.w x hx).2.2)

/-- Read, all its answers in one. -/
def DS.reads (D : DS) (i : Int) : Int := if ¬ (0 ≤ i ∧ i < D.n) then 3 else if D.gone then 9 else 0
theorem read_ok {w : World} {B b : Nat} {own : List Nat} {D : DS} (h : Disk w B b own D) (hy : D.byt) (i : Nat) (hi : i < D.n) (hg : D.gone = false) :
    Calls Try.prog 70 #[.pointer (some ⟨b, 0, none⟩), .int .i64 i] w fun e w' => ∃ g, e = .returned (.tuple #[.slice (some ⟨g, 0, none⟩) 512 512, .int .i64 0]) ∧ w.heap.size ≤ g ∧
      BAt w' (some ⟨g, 0, none⟩) (D.read i) ∧ Below w.heap.size w w' := by
  obtain ⟨bs, sc, wv, hd, rfl⟩ := h
  refine (read_yes hd i hi hg).mono ?_
  rintro e w' ⟨g, rfl, h1, h2, h3⟩
  refine ⟨g, rfl, h1, fun j x hx => ⟨_, rfl, ?_⟩, h3⟩
  rw [Addr.add_mid, Nat.zero_add]
  simp only [World.cell?, h2]
  have : (bc (D.read i))[j]? = some (.int .u8 x) := by rw [bc, List.getElem?_map, hx]; rfl
  simpa using this
theorem read_nopower {w : World} {B b : Nat} {own : List Nat} {D : DS} (h : Disk w B b own D) (i : Nat) (hi : i < D.n) (hg : D.gone = true) :
    Calls Try.prog 70 #[.pointer (some ⟨b, 0, none⟩), .int .i64 i] w fun e w' => e = .returned (.tuple #[.slice none 0 0, .int .i64 9]) ∧ w' = w := by
  obtain ⟨bs, sc, wv, hd, rfl⟩ := h
  exact read_gone hd i hi hg
theorem size_all {w : World} {B b : Nat} {own : List Nat} {D : DS} (h : Disk w B b own D) : Calls Try.prog 74 #[.pointer (some ⟨b, 0, none⟩)] w fun e w' => e = .returned (.int .i64 D.n) ∧ w' = w := by
  obtain ⟨bs, sc, wv, hd, rfl⟩ := h
  exact size_any hd
end Go.Proofs.Ytambgimfbdecpaa
