/- What this text holds: 'Read': what a disk answers for a sector. -/
import Derived.Test.YtambgimfbdecpaaDClone
namespace Go.Proofs.Ytambgimfbdecpaa
open Go.RowKit
set_option linter.unusedVariables false

/-- What the last of some writes to sector i has; d: there is none. -/
def lastW (l : List (Int × List Int)) (i : Int) (d : List Int) : List Int := l.foldl (fun a x => if x.1 = i then x.2 else a) d
/-- What is read. -/
def DS.read (D : DS) (i : Nat) : List Int := lastW D.waits i (sec D.secs i)

theorem lastW_append (l m : List (Int × List Int)) (i : Int) (d : List Int) : lastW (l ++ m) i d = lastW m i (lastW l i d) := by simp [lastW]
theorem lastW_none (l : List (Int × List Int)) (i : Int) (d : List Int) (h : ∀ x ∈ l, x.1 ≠ i) : lastW l i d = d := by
  induction l generalizing d with
  | nil => rfl
  | cons x l ih =>
    show lastW l i (if x.1 = i then x.2 else d) = d
    rw [if_neg (h x (by simp))]
    exact ih d (fun y hy => h y (by simp [hy]))
/-- The k-th is the last one. -/
theorem lastW_at (l : List (Int × List Int)) (i : Int) (d : List Int) (k : Nat) (hk : k < l.length) (h1 : (l[k]).1 = i) (h2 : ∀ j (hj : j < l.length), k < j → (l[j]).1 ≠ i) : lastW l i d = (l[k]).2 := by
  have e : l = l.take k ++ (l[k] :: l.drop (k + 1)) := by simp
  have e2 : lastW l i d = lastW (l.take k ++ (l[k] :: l.drop (k + 1))) i d := congrArg (fun q => lastW q i d) e
  rw [e2, lastW_append]
  show lastW (l.drop (k + 1)) i (if (l[k]).1 = i then (l[k]).2 else lastW (l.take k) i d) = _
  rw [if_pos h1, lastW_none]
  · intro x hx
    obtain ⟨j, hj, rfl⟩ := List.getElem_of_mem hx
    simp only [List.length_drop] at hj
    rw [List.getElem_drop]
    exact h2 _ _ (by omega)

theorem wcs_length (l : List (Int × List Int)) (h : ∀ x ∈ l, x.2.length = 512) : (wcs l).length = l.length * 513 := by
  induction l with
  | nil => rfl
  | cons x l ih =>
    have := ih (fun y hy => h y (by simp [hy]))
    have hx := h x (by simp)
    simp only [wcs, List.flatMap_cons, List.length_append, List.length_cons, bc_length, hx] at this ⊢
    omega
theorem wcs_drop (l : List (Int × List Int)) (h : ∀ x ∈ l, x.2.length = 512) (k : Nat) : (wcs l).drop (k * 513) = wcs (l.drop k) := by
  induction l generalizing k with
  | nil => simp [wcs]
  | cons x l ih =>
    cases k with
    | zero => simp
    | succ k =>
      have hx := h x (by simp)
      rw [List.drop_succ_cons, ← ih (fun y hy => h y (by simp [hy])) k]
      have e : wcs (x :: l) = (.int .i64 x.1 :: bc x.2) ++ wcs l := by simp [wcs]
      have hl : (Value.int .i64 x.1 :: bc x.2).length = 513 := by simp [bc_length, hx]
      have e9 : (k + 1) * 513 - 513 = k * 513 := by omega
      rw [e, List.drop_append, List.drop_of_length_le (by omega), hl, List.nil_append, e9]

/-- The cells of the k-th write. -/
theorem wcs_at (l : List (Int × List Int)) (h : ∀ x ∈ l, x.2.length = 512) (k : Nat) (hk : k < l.length) :
    (wcs l)[k * 513]? = some (.int .i64 (l[k]).1) ∧ ∀ j, j < 512 → (wcs l)[k * 513 + 1 + j]? = (bc (l[k]).2)[j]? := by
  have e := wcs_drop l h k
  have e2 : l.drop k = l[k] :: l.drop (k + 1) := List.drop_eq_getElem_cons hk
  have hx : (l[k]).2.length = 512 := h _ (List.getElem_mem hk)
  rw [e2] at e
  have e3 : wcs (l[k] :: l.drop (k + 1)) = .int .i64 (l[k]).1 :: (bc (l[k]).2 ++ wcs (l.drop (k + 1))) := rfl
  rw [e3] at e
  constructor
  · have : ((wcs l).drop (k * 513))[0]? = some (.int .i64 (l[k]).1) := by rw [e]; rfl
    simpa using this
  · intro j hj
    have : ((wcs l).drop (k * 513))[1 + j]? = (bc (l[k]).2)[j]? := by
      rw [e, Nat.add_comm 1 j, List.getElem?_cons_succ, List.getElem?_append_left (by rw [bc_length, hx]; exact hj)]
    rw [List.getElem?_drop, ← Nat.add_assoc] at this
    exact this

/-- The cells of the k-th write, in memory. -/
theorem wait_cells {w : World} {B b bs sc : Nat} {wv : Value} {D : DS} (h : DiskAt w B b bs sc wv D) (k : Nat) (hk : k < D.waits.length) :
    ∃ bw wc, wv = .slice (some ⟨bw, 0, none⟩) D.waits.length wc ∧ w.cell? ⟨bw, k * 513, none⟩ = some (.int .i64 (D.waits[k]).1) ∧
      ∀ j v, (bc (D.waits[k]).2)[j]? = some v → w.cell? ((⟨bw, k * 513 + 1, none⟩ : Addr).add j) = some v := by
  obtain ⟨bw, wc, e, _⟩ := ownsRow_some h.waits (by omega)
  subst e
  have hw : ∀ x ∈ D.waits, x.2.length = 512 := fun x hx => (h.good.w x hx).2.2
  obtain ⟨h1, h2⟩ := wcs_at D.waits hw k hk
  refine ⟨bw, wc, rfl, ?_, ?_⟩
  · rw [h.waits.cellAt _ (by omega), h1]
  · intro j v hv
    have hj : j < 512 := by
      obtain ⟨h3, _⟩ := List.getElem?_eq_some_iff.1 hv
      rw [bc_length, hw _ (List.getElem_mem hk)] at h3
      exact h3
    rw [Addr.add_mid, h.waits.cellAt _ (by omega), h2 j hj, hv]

set_option maxRecDepth 100000 in
set_option maxHeartbeats 1000000 in
theorem read_range {w : World} {B b bs sc : Nat} {wv : Value} {D : DS} (h : DiskAt w B b bs sc wv D) (i : Int) (hi : ¬ (0 ≤ i ∧ i < D.n)) :
    Calls Try.prog 70 #[.pointer (some ⟨b, 0, none⟩), .int .i64 i] w fun e w' => e = .returned (.tuple #[.slice none 0 0, .int .i64 3]) ∧ w' = w := by
  obtain ⟨c0, c1, c2, c3, c4⟩ := h.cells
  have hn := h.good.n2
  have HH := hid h
  have HI := hid hi
  clear h hi
  go_enter Try.func70, Try.ntmps70
  go_wp2_with (go_at_call 48; refine (has_no b _ _ _ i _ hn c0 HI.out).mono ?_; rintro e w ⟨rfl, rfl⟩)
  go_ret2
  exact ⟨rfl, rfl⟩

set_option maxRecDepth 100000 in
set_option maxHeartbeats 1000000 in
theorem read_gone {w : World} {B b bs sc : Nat} {wv : Value} {D : DS} (h : DiskAt w B b bs sc wv D) (i : Nat) (hi : i < D.n) (hg : D.gone = true) :
    Calls Try.prog 70 #[.pointer (some ⟨b, 0, none⟩), .int .i64 i] w fun e w' => e = .returned (.tuple #[.slice none 0 0, .int .i64 9]) ∧ w' = w := by
  obtain ⟨c0, c1, c2, c3, c4⟩ := h.cells
  have hn := h.good.n2
  have HH := hid h
  clear h
  go_enter Try.func70, Try.ntmps70
  go_wp2_with (go_at_call 48; refine (has_yes b _ _ _ i _ hn c0 (by omega) (by omega)).mono ?_; rintro e w ⟨rfl, rfl⟩)
  go_ret2
  exact ⟨rfl, rfl⟩

set_option maxRecDepth 100000 in
set_option maxHeartbeats 1000000 in
theorem read_yes {w : World} {B b bs sc : Nat} {wv : Value} {D : DS} (h : DiskAt w B b bs sc wv D) (i : Nat) (hi : i < D.n) (hg : D.gone = false) :
    Calls Try.prog 70 #[.pointer (some ⟨b, 0, none⟩), .int .i64 i] w fun e w' => ∃ g, e = .returned (.tuple #[.slice (some ⟨g, 0, none⟩) 512 512, .int .i64 0]) ∧ w.heap.size ≤ g ∧
      w'.heap[g]? = some (.cells (bc (D.read i)).toArray 5 (0, 0)) ∧ Below w.heap.size w w' := by
  obtain ⟨a, c, rfl⟩ := h.wvSlice
  obtain ⟨c0, c1, c2, c3, c4⟩ := h.cells
  have hn := h.good.n2
  have hwl := h.good.wl
  have HH := hid h
  clear h
  go_enter Try.func70, Try.ntmps70
  go_wp2_with (first | (go_at_call 48; refine (has_yes b _ _ _ i _ hn c0 (by omega) (by omega)).mono ?_; rintro e w ⟨rfl, rfl⟩) | (go_at_call 94; refine (held_any c0 HH.out.secs i hi hn).mono ?_; rintro e w1 ⟨v, rfl, ⟨g, rfl, hgB, hgg⟩, hb⟩; have hlen := sec_length D.secs i D.n HH.out.good.len hi; rw [hlen]; have h1 := HH.out.keep (Kept.ofBelow hb []) (by simp); obtain ⟨d0, d1, d2, d3, d4⟩ := h1.cells; have H1 := hid h1; clear h1 hlen))
  go_loop [7] (fun q => ∃ k : Nat, k ≤ D.waits.length ∧ q = .int .i64 ((k : Int) - 1) ∧ Hid (∀ j (hj : j < D.waits.length), k ≤ j → (D.waits[j]).1 ≠ i)) (fun q => (intOf q + 1).toNat)
  case atStart => exact ⟨D.waits.length, Nat.le_refl _, rfl, fun j hj hk => by omega⟩
  case round =>
    obtain ⟨k, hk, rfl, hrest⟩ := hrel
    by_cases hk0 : k = 0
    · subst hk0
      go_wp2
      go_ret2
      refine ⟨g, rfl, hgB, ?_, hb⟩
      have e : D.read i = sec D.secs i := lastW_none _ _ _ (fun x hx => by
        obtain ⟨j, hj, rfl⟩ := List.getElem_of_mem hx
        exact hrest.out j hj (Nat.zero_le _))
      rw [e]; exact hgg
    · obtain ⟨k, rfl⟩ : ∃ k', k = k' + 1 := ⟨k - 1, by omega⟩
      have hkl : k < D.waits.length := by omega
      obtain ⟨bw, wc, e, hc1, hc2⟩ := wait_cells H1.out k hkl
      simp only [Value.slice.injEq, true_and] at e
      obtain ⟨rfl, rfl⟩ := e
      have ek : ((k + 1 : Nat) : Int) - 1 = k := by omega
      rw [ek]
      have hx : (D.waits[k]).2.length = 512 := (HH.out.good.w _ (List.getElem_mem hkl)).2.2
      have hcp : (Builtin.copy_ #[46, 46] 3 #[.slice (some ⟨g, 0, none⟩) 512 512, .slice (some ⟨bw, k * 513 + 1, none⟩) 512 512]).run Try.prog w1 = .ok (goInt 512) (w1.setRow g (bc (D.waits[k]).2).toArray) := by
        have hr := run_copy_row (P := Try.prog) w1 46 46 3 5 g 0 512 512 ⟨bw, k * 513 + 1, none⟩ 512 512 _ 5 (bc (D.waits[k]).2) Try.underlying46 (by kernel_rfl) hgg
          (by rw [bc_length, hx]; rfl) hc2 (by simp [bc_length, hx, sec_length D.secs i D.n HH.out.good.len hi]) (bc_oneCell _)
        have hdr : List.drop 512 (bc (sec D.secs i)) = [] := List.drop_of_length_le (by rw [bc_length, sec_length D.secs i D.n HH.out.good.len hi]; exact Nat.le_refl _)
        rw [hr, bc_length, hx]
        simp [hdr]
      have HX := hid hx
      clear hc2 hx
      by_cases hat : (D.waits[k]).1 = i
      · have hat2 : ((D.waits[k]).1 == (i : Int)) = true := by simp [hat]
        have HA := hid hat
        clear hat
        go_wp2
        go_ret2
        refine ⟨g, rfl, hgB, ?_, below_setRow hb hgB _⟩
        have e : D.read i = (D.waits[k]).2 := lastW_at _ _ _ k hkl HA.out (fun j hj hkj => hrest.out j hj hkj)
        rw [e]
        exact setRow_heap _ _ _ _ _ _ hgg
      · have hat2 : ((D.waits[k]).1 == (i : Int)) = false := by simp [hat]
        have HA := hid hat
        clear hat
        go_wp2
        go_round
        case rel =>
          refine ⟨k, by omega, rfl, fun j hj hkj => ?_⟩
          by_cases e : j = k
          · subst e; exact HA.out
          · exact hrest.out j hj (by omega)
        case measure => simp [intOf]

end Go.Proofs.Ytambgimfbdecpaa
