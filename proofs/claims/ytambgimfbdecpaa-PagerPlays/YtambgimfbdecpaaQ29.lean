/- What this text holds: the program's pager and the document's answer alike: plain facts. · What this text holds: Unpin: what the document's own pager says, and that both are alike. · What this text holds: a pin is cut out of the document's list: the runs of its operations. -/
import Derived.Test.YtambgimfbdecpaaQ27
import Derived.Test.YtambgimfbdecpaaQ28
namespace Go.Proofs.Ytambgimfbdecpaa
open Go.RowKit
set_option linter.unusedVariables false
set_option linter.unusedSimpArgs false

/-- The gen for which a page waits. -/
def genSh (st : List (Int × Int)) (i : Nat) : Int := (st.getD i (0, 0)).2
/-- Both say the same. -/
structure Sim (P : PS) (R : RS) : Prop where
  D : R.D = P.D
  is : R.is = P.st.map (·.1)
  lf : R.fo.length = P.st.length
  len : P.st.length = P.D.n
  fo : ∀ i, stOf P.st i = 4 → R.fo.getD i 0 = genSh P.st i
  pins : R.pins = P.pins
  gen : R.gen = P.gen
  root : R.root = P.root
  dead : R.dead = P.dead
  low : ∀ i, i < 2 → stOf P.st i = 0
  held : ∀ i, stOf P.st i = 4 → genSh P.st i ≤ P.gen ∧ heldP P.pins (genSh P.st i) = true
  pg : ∀ p ∈ P.pins, p ≤ P.gen

theorem is_get (st : List (Int × Int)) (i : Nat) : (st.map (·.1)).getD i 0 = stOf st i := by
  simp only [List.getD, List.getElem?_map, stOf]
  cases st[i]? <;> rfl
theorem stOf_setI (st : List (Int × Int)) (k i : Nat) (x : Int × Int) (hk : k < st.length) : stOf (st.set k x) i = if i = k then x.1 else stOf st i := by
  simp only [stOf, List.getD, List.getElem?_set]
  by_cases h : k = i
  · subst h; simp [hk]
  · rw [if_neg h, if_neg (fun e => h e.symm)]
theorem genSh_set (st : List (Int × Int)) (k i : Nat) (x : Int × Int) (hk : k < st.length) : genSh (st.set k x) i = if i = k then x.2 else genSh st i := by
  simp only [genSh, List.getD, List.getElem?_set]
  by_cases h : k = i
  · subst h; simp [hk]
  · rw [if_neg h, if_neg (fun e => h e.symm)]

theorem Sim.open (D : DS) (hn : 4 ≤ D.n) : Sim (PS.at D 2) (RS.at D 2) := by
  have e : ∀ i, stOf (List.replicate D.n ((0 : Int), (0 : Int))) i = 0 := by
    intro i
    simp only [stOf, List.getD, List.getElem?_replicate]
    split <;> rfl
  refine { D := rfl, is := ?_, lf := ?_, len := ?_, fo := ?_, pins := rfl, gen := rfl, root := rfl, dead := rfl, low := fun i _ => e i, held := ?_, pg := ?_ }
  · simp [RS.at, PS.at, PS.rootless]
  · simp [RS.at, PS.at, PS.rootless]
  · simp [PS.at, PS.rootless]
  · intro i hi
    have := e i
    simp only [PS.at, PS.rootless] at hi
    omega
  · intro i hi
    have := e i
    simp only [PS.at, PS.rootless] at hi
    omega
  · intro p hp
    simp [PS.at, PS.rootless] at hp
theorem Sim.free {P : PS} {R : RS} (h : Sim P R) : rcnt R.is = cntFree P.st := by
  unfold rcnt cntFree
  rw [h.is, ← List.map_drop, List.countP_map]
  rfl
theorem Sim.low_eq {P : PS} {R : RS} (h : Sim P R) : rlow R.is = lowFree P.st := by
  have e : ∀ i, stOf (R.is.map fun x => (x, (0 : Int))) i = stOf P.st i := by
    intro i; rw [stOf_pair, h.is, is_get]
  have hl : (R.is.map fun x => (x, (0 : Int))).length = P.st.length := by rw [List.length_map, h.is, List.length_map]
  unfold rlow lowFree
  rw [hl]
  congr 2
  funext i
  rw [e i]

/-- The disk has turned. -/
theorem Sim.disk {P : PS} {R : RS} (h : Sim P R) (D' : DS) (hn : D'.n = P.D.n) : Sim { P with D := D' } { R with D := D' } :=
  { h with D := rfl, len := by rw [hn]; exact h.len }
theorem Sim.kill {P : PS} {R : RS} (h : Sim P R) : Sim { P with dead := true } { R with dead := true } := { h with dead := rfl }
/-- A page gets a state that waits for nothing. -/
theorem Sim.set {P : PS} {R : RS} (h : Sim P R) (k : Nat) (h2 : 2 ≤ k) (hk : k < P.st.length) (x : Int) (hx : x ≠ 4) : Sim { P with st := P.st.set k (x, 0) } { R with is := R.is.set k x } := by
  refine { h with is := ?_, lf := ?_, len := ?_, fo := ?_, low := ?_, held := ?_ }
  · rw [h.is, List.map_set]
  · rw [List.length_set]; exact h.lf
  · rw [List.length_set]; exact h.len
  · intro i hi
    rw [stOf_setI _ _ _ _ hk] at hi
    rw [genSh_set _ _ _ _ hk]
    by_cases e : i = k
    · rw [if_pos e] at hi; exact absurd hi hx
    · rw [if_neg e] at hi ⊢; exact h.fo i hi
  · intro i hi
    rw [stOf_setI _ _ _ _ hk, if_neg (by omega)]
    exact h.low i hi
  · intro i hi
    rw [stOf_setI _ _ _ _ hk] at hi
    rw [genSh_set _ _ _ _ hk]
    by_cases e : i = k
    · rw [if_pos e] at hi; exact absurd hi hx
    · rw [if_neg e] at hi ⊢; exact h.held i hi

theorem Sim.hear {P : PS} {R : RS} (h : Sim P R) (e : Int) : Sim (P.hear e) (R.hear e) := by
  unfold PS.hear RS.hear
  split
  · exact h.kill
  · exact h
theorem Sim.used {P : PS} {R : RS} (h : Sim P R) (n : Int) : usedP P.st n = (decide (2 ≤ n ∧ n < R.D.n) && (R.is.getD n.toNat 0 != 0)) := by
  unfold usedP
  rw [h.is, is_get, h.D, ← h.len]

theorem Sim.drop {P : PS} {R : RS} (h : Sim P R) (n : Int) : (P.drop n).1 = (R.drop n).1 ∧ Sim (P.drop n).2 (R.drop n).2 := by
  have hu := h.used n
  obtain ⟨D, is, fo, pins, gen, root, dead⟩ := R
  obtain rfl : D = P.D := h.D
  obtain rfl : is = P.st.map (·.1) := h.is
  obtain rfl : dead = P.dead := h.dead
  unfold PS.drop RS.drop
  dsimp only at hu ⊢
  rw [is_get] at hu ⊢
  by_cases hd : P.dead = true
  · rw [if_pos hd, if_pos hd]; exact ⟨rfl, h⟩
  · rw [if_neg hd, if_neg hd]
    by_cases hp : 2 ≤ n ∧ n < P.D.n
    · rw [decide_eq_true hp, Bool.true_and] at hu
      rw [hu, if_neg (show ¬ ¬ (2 ≤ n ∧ n < P.D.n) from fun q => q hp)]
      have hk : n.toNat < P.st.length := by rw [h.len]; omega
      by_cases h2 : stOf P.st n.toNat = 2
      · rw [if_neg (show ¬ (stOf P.st n.toNat != 0) = false by rw [h2]; decide), if_pos h2, if_pos h2]
        exact ⟨rfl, h.set n.toNat (by omega) hk 0 (by decide)⟩
      · by_cases h1 : stOf P.st n.toNat = 1
        · rw [if_neg (show ¬ (stOf P.st n.toNat != 0) = false by rw [h1]; decide), if_neg h2, if_pos h1, if_neg h2, if_pos h1]
          exact ⟨rfl, h.set n.toNat (by omega) hk 3 (by decide)⟩
        · rw [if_neg h2, if_neg h1, if_neg h2, if_neg h1]
          split <;> exact ⟨rfl, h⟩
    · rw [decide_eq_false hp, Bool.false_and] at hu
      rw [hu, if_pos rfl, if_pos hp]; exact ⟨rfl, h⟩

theorem Sim.read {P : PS} {R : RS} (h : Sim P R) (n : Int) : (P.read n).1 = (R.read n).1 ∧ Sim (P.read n).2 (R.read n).2 := by
  have hu := h.used n
  obtain ⟨D, is, fo, pins, gen, root, dead⟩ := R
  obtain rfl : D = P.D := h.D
  obtain rfl : is = P.st.map (·.1) := h.is
  obtain rfl : dead = P.dead := h.dead
  unfold PS.read RS.read
  dsimp only at hu ⊢
  rw [is_get] at hu ⊢
  by_cases hd : P.dead = true
  · rw [if_pos hd, if_pos hd]; exact ⟨rfl, h⟩
  · rw [if_neg hd, if_neg hd]
    by_cases hp : 2 ≤ n ∧ n < P.D.n
    · rw [decide_eq_true hp, Bool.true_and] at hu
      rw [hu, if_neg (show ¬ ¬ (2 ≤ n ∧ n < P.D.n) from fun q => q hp)]
      by_cases h0 : stOf P.st n.toNat = 0
      · rw [if_pos (show (stOf P.st n.toNat != 0) = false by rw [h0]; rfl), if_pos h0]; exact ⟨rfl, h⟩
      · rw [if_neg (show ¬ (stOf P.st n.toNat != 0) = false by simpa using h0), if_neg h0]
        by_cases hg : P.D.gone = true
        · rw [if_pos hg, if_pos hg]; exact ⟨rfl, h.kill⟩
        · rw [if_neg hg, if_neg hg]
          split <;> exact ⟨rfl, h⟩
    · rw [decide_eq_false hp, Bool.false_and] at hu
      rw [hu, if_pos rfl, if_pos hp]; exact ⟨rfl, h⟩

theorem Sim.put {P : PS} {R : RS} (h : Sim P R) (kind : Int) (s : ByteArray) : (P.put kind s).1 = (R.put kind s).1 ∧ Sim (P.put kind s).2 (R.put kind s).2 := by
  have hlow := h.low_eq
  obtain ⟨D, is, fo, pins, gen, root, dead⟩ := R
  obtain rfl : D = P.D := h.D
  obtain rfl : gen = P.gen := h.gen
  obtain rfl : dead = P.dead := h.dead
  unfold PS.put RS.put RS.putTo
  dsimp only at hlow ⊢
  rw [hlow]
  by_cases hd : P.dead = true
  · rw [if_pos hd, if_pos hd]; exact ⟨rfl, h⟩
  · rw [if_neg hd, if_neg hd]
    by_cases he : sealE kind (P.gen + 1) s.size ≠ 0
    · rw [if_pos he, if_pos he]; exact ⟨rfl, h⟩
    · rw [if_neg he, if_neg he]
      by_cases hl : lowFree P.st = 0
      · rw [if_pos hl, if_pos hl]; exact ⟨rfl, h⟩
      · rw [if_neg hl, if_neg hl]
        have hn := (write_grow P.D (lowFree P.st) (sealL kind (P.gen + 1) (bOf s))).1
        obtain ⟨l2, l3, _⟩ := lowFree_lt P.st hl
        have hd' := h.disk _ hn
        split
        · exact ⟨rfl, hd'.set (lowFree P.st) l2 l3 2 (by decide)⟩
        · exact ⟨rfl, hd'.hear _⟩
theorem stOf_map (st : List (Int × Int)) (f : Int × Int → Int × Int) (hf : f (0, 0) = (0, 0)) (i : Nat) : stOf (st.map f) i = (f (st.getD i (0, 0))).1 := by
  simp only [stOf, List.getD, List.getElem?_map]
  cases st[i]? with
  | none => simp [hf]
  | some x => rfl
theorem genSh_map (st : List (Int × Int)) (f : Int × Int → Int × Int) (hf : f (0, 0) = (0, 0)) (i : Nat) : genSh (st.map f) i = (f (st.getD i (0, 0))).2 := by
  simp only [genSh, List.getD, List.getElem?_map]
  cases st[i]? with
  | none => simp [hf]
  | some x => rfl
theorem Sim.abort {P : PS} {R : RS} (h : Sim P R) : Sim P.abort R.abort := by
  have hf : (turnF 3 (1, 0) ∘ turnF 2 (0, 0)) (0, 0) = (0, 0) := rfl
  have key : ∀ x : Int × Int, (turnF 3 (1, 0) (turnF 2 (0, 0) x)).1 = 4 → x.1 = 4 ∧ turnF 3 (1, 0) (turnF 2 (0, 0) x) = x := by
    intro x hx
    unfold turnF at hx ⊢
    by_cases h2 : x.1 = 2
    · simp [h2] at hx
    · by_cases h3 : x.1 = 3
      · simp [h2, h3] at hx
      · simp only [if_neg h2, if_neg h3] at hx ⊢; exact ⟨hx, trivial⟩
  unfold PS.abort RS.abort
  refine { h with is := ?_, lf := ?_, len := ?_, fo := ?_, low := ?_, held := ?_ }
  · rw [h.is]
    apply List.ext_getElem (by simp)
    intro i h1 h2
    simp only [List.getElem_mapIdx, List.getElem_map, abF, turnF]
    by_cases h2 : (P.st[i]'(by simpa using h1)).1 = 2
    · simp [h2]
    · by_cases h3 : (P.st[i]'(by simpa using h1)).1 = 3
      · simp [h2, h3]
      · simp [h2, h3]
  · simp [h.lf]
  · simp [h.len]
  · intro i hi
    simp only [List.map_map] at hi ⊢
    rw [stOf_map _ _ hf] at hi
    rw [genSh_map _ _ hf]
    obtain ⟨k1, k2⟩ := key _ hi
    simp only [Function.comp_apply, k2]
    exact h.fo i k1
  · intro i hi
    simp only [List.map_map]
    rw [stOf_map _ _ hf]
    have e := h.low i hi
    unfold stOf at e
    generalize P.st.getD i (0, 0) = x at e ⊢
    simp [turnF, e]
  · intro i hi
    simp only [List.map_map] at hi ⊢
    rw [stOf_map _ _ hf] at hi
    rw [genSh_map _ _ hf]
    obtain ⟨k1, k2⟩ := key _ hi
    simp only [Function.comp_apply, k2]
    exact h.held i k1
theorem heldP_more (pins : List Int) (g f : Int) (h : heldP pins f = true) : heldP (pins ++ [g]) f = true := by
  unfold heldP at h ⊢
  rw [List.any_append, h]; rfl
theorem Sim.pin {P : PS} {R : RS} (h : Sim P R) : Sim P.pin R.pin := by
  unfold PS.pin RS.pin
  refine { h with pins := by rw [h.pins, h.gen], held := fun i hi => ⟨(h.held i hi).1, heldP_more _ _ _ (h.held i hi).2⟩, pg := ?_ }
  intro p hp
  simp only [List.mem_append, List.mem_singleton] at hp
  rcases hp with hp | hp
  · exact h.pg p hp
  · rw [hp]; exact Int.le_refl _
theorem held_low (pins : List Int) (f g : Int) (h : f ≤ g) : heldP pins f = false ↔ f ≤ lowPin pins g := by
  obtain ⟨l1, l2, l3⟩ := lowPin_le pins g
  constructor
  · intro hh
    rcases l3 with e | e
    · omega
    · unfold heldP at hh
      rw [List.any_eq_false] at hh
      have := hh _ e
      simp only [decide_eq_true_eq] at this
      omega
  · intro hh
    unfold heldP
    rw [List.any_eq_false]
    intro p hp
    have := l2 p hp
    simp only [decide_eq_true_eq]
    omega
/-- A page behind a commit. -/
def coS (pins : List Int) (g : Int) (x : Int × Int) : Int × Int := relF (lowPin pins g) (turnF 3 (4, g) (turnF 2 (1, 0) x))
theorem coS_is (pins : List Int) (g : Int) (x : Int × Int) (f : Int) (i : Nat) (hi : 2 ≤ i ∨ x.1 = 0) (h4 : x.1 = 4 → f = x.2 ∧ x.2 ≤ g) (fo : List Int) (hf : fo.getD i 0 = if x.1 = 3 then g else f) :
    seF fo pins i (coF x.1) = (coS pins g x).1 := by
  unfold seF coF coS turnF relF
  rw [hf]
  by_cases h2 : x.1 = 2
  · simp [h2]
  · by_cases h3 : x.1 = 3
    · have i2 : 2 ≤ i := by rcases hi with h | h; exact h; omega
      have hl := held_low pins g g (Int.le_refl _)
      by_cases hh : heldP pins g = false
      · have := hl.1 hh
        simp [h3, hh, i2, this]
      · have : ¬ g ≤ lowPin pins g := fun q => hh (hl.2 q)
        simp [h3, hh, this]
    · by_cases h4' : x.1 = 4
      · obtain ⟨e1, e2⟩ := h4 h4'
        have i2 : 2 ≤ i := by rcases hi with h | h; exact h; omega
        have hl := held_low pins x.2 g e2
        by_cases hh : heldP pins x.2 = false
        · have := hl.1 hh
          simp [h4', hh, i2, this, e1]
        · have : ¬ x.2 ≤ lowPin pins g := fun q => hh (hl.2 q)
          simp [h4', hh, this, e1]
      · simp [h2, h3, h4']
theorem coS_four (pins : List Int) (g : Int) (x : Int × Int) (h : (coS pins g x).1 = 4) (h4 : x.1 = 4 → x.2 ≤ g) : (coS pins g x).2 ≤ g ∧ heldP pins (coS pins g x).2 = true ∧ ((x.1 = 3 ∧ (coS pins g x).2 = g) ∨ (x.1 = 4 ∧ (coS pins g x).2 = x.2)) := by
  unfold coS turnF relF at h ⊢
  by_cases h2 : x.1 = 2
  · simp [h2] at h
  · by_cases h3 : x.1 = 3
    · by_cases hh : g ≤ lowPin pins g
      · simp [h3, hh] at h
      · have hl := held_low pins g g (Int.le_refl _)
        have : heldP pins g = true := by
          cases e : heldP pins g with
          | true => rfl
          | false => exact absurd (hl.1 e) hh
        simp [h3, hh, this]
    · by_cases h4' : x.1 = 4
      · by_cases hh : x.2 ≤ lowPin pins g
        · simp [h4', hh] at h
        · have hl := held_low pins x.2 g (h4 h4')
          have : heldP pins x.2 = true := by
            cases e : heldP pins x.2 with
            | true => rfl
            | false => exact absurd (hl.1 e) hh
          simp [h4', hh, this, h4 h4']
      · simp [h2, h3, h4'] at h

theorem Sim.fin {P : PS} {R : RS} (h : Sim P R) (D' : DS) (hn : D'.n = P.D.n) (s : ByteArray) :
    Sim { P with D := D', gen := P.gen + 1, root := s, st := P.st.map (coS P.pins (P.gen + 1)) } (R.fin D' s) := by
  have hf : coS P.pins (P.gen + 1) (0, 0) = (0, 0) := by simp [coS, turnF, relF]
  have h4 : ∀ i, stOf P.st i = 4 → genSh P.st i ≤ P.gen + 1 := fun i hi => by have := (h.held i hi).1; omega
  have hfo : ∀ i, i < P.st.length → (R.fo.mapIdx (foF R.is (R.gen + 1))).getD i 0 = if stOf P.st i = 3 then P.gen + 1 else R.fo.getD i 0 := by
    intro i hi
    have hi' : i < R.fo.length := by rw [h.lf]; exact hi
    simp only [List.getD, List.getElem?_mapIdx, List.getElem?_eq_getElem hi', Option.map_some, Option.getD_some]
    unfold foF
    rw [h.is, is_get, h.gen]
  unfold RS.fin RS.settle
  refine { D := rfl, is := ?_, lf := by simp [h.lf], len := by simp [h.len, hn], fo := ?_, pins := h.pins, gen := by simp [h.gen], root := rfl, dead := h.dead, low := ?_, held := ?_, pg := fun p hp => by have := h.pg p hp; simp only; omega }
  · apply List.ext_getElem (by simp [h.is])
    intro i h1 h2
    have hi : i < P.st.length := by simpa using h2
    have es : stOf P.st i = (P.st[i]).1 := stOf_eq _ _ hi
    have eg : genSh P.st i = (P.st[i]).2 := by unfold genSh; rw [List.getD_eq_getElem?_getD, List.getElem?_eq_getElem hi]; rfl
    have ei : (R.is[i]'(by rw [h.is]; simpa using hi)) = (P.st[i]).1 := by simp [h.is]
    simp only [List.getElem_mapIdx, List.getElem_map, ei]
    rw [h.pins]
    refine coS_is P.pins (P.gen + 1) P.st[i] (R.fo.getD i 0) i ?_ ?_ _ ?_
    · by_cases h2 : 2 ≤ i
      · exact .inl h2
      · right; rw [← es]; exact h.low i (by omega)
    · intro q
      rw [← es] at q
      exact ⟨by rw [h.fo i q, eg], by rw [← eg]; exact h4 i q⟩
    · rw [hfo i hi, es]
  · intro i hi
    simp only at hi ⊢
    have hil : i < P.st.length := by
      by_cases q : i < P.st.length
      · exact q
      · rw [stOf_map _ _ hf, List.getD_eq_getElem?_getD, List.getElem?_eq_none (by omega)] at hi
        simp [hf] at hi
    rw [stOf_map _ _ hf] at hi
    rw [genSh_map _ _ hf, hfo i hil]
    obtain ⟨_, _, c⟩ := coS_four _ _ _ hi (fun q => h4 i q)
    rcases c with ⟨c1, c2⟩ | ⟨c1, c2⟩
    · rw [if_pos (show stOf P.st i = 3 from c1), c2]
    · rw [if_neg (by intro q; have : (P.st.getD i (0, 0)).1 = 3 := q; omega), c2]; exact h.fo i c1
  · intro i hi
    simp only
    rw [stOf_map _ _ hf]
    have e := h.low i hi
    unfold stOf at e
    generalize P.st.getD i (0, 0) = x at e ⊢
    simp [coS, turnF, relF, e]
  · intro i hi
    simp only at hi ⊢
    rw [stOf_map _ _ hf] at hi
    rw [genSh_map _ _ hf]
    obtain ⟨c1, c2, _⟩ := coS_four _ _ _ hi (fun q => h4 i q)
    exact ⟨c1, c2⟩
theorem Sim.commit {P : PS} {R : RS} (h : Sim P R) (s : ByteArray) : (P.commit s).1 = (R.commit s).1 ∧ Sim (P.commit s).2 (R.commit s).2 := by
  have hfin := fun D' hn => h.fin D' hn s
  have hdisk := fun D' hn => h.disk D' hn
  obtain ⟨D, is, fo, pins, gen, root, dead⟩ := R
  obtain rfl : D = P.D := h.D
  obtain rfl : gen = P.gen := h.gen
  obtain rfl : dead = P.dead := h.dead
  unfold PS.commit RS.commit RS.commitTo
  dsimp only
  by_cases hd : P.dead = true
  · rw [if_pos hd, if_pos hd]; exact ⟨rfl, h⟩
  · rw [if_neg hd, if_neg hd]
    by_cases he : rootE (P.gen + 1) s.size ≠ 0
    · rw [if_pos he, if_pos he]; exact ⟨rfl, h⟩
    · rw [if_neg he, if_neg he]
      have hn : (P.D.layRoot (P.gen + 1) (rootL (P.gen + 1) (bOf s))).2.n = P.D.n := layRoot_n _ _ _
      generalize P.D.layRoot (P.gen + 1) (rootL (P.gen + 1) (bOf s)) = L at hn ⊢
      obtain ⟨r, D'⟩ := L
      simp only at hn ⊢
      by_cases hr : r = 0
      · rw [if_pos hr, if_pos hr]
        refine ⟨rfl, ?_⟩
        have e : ((P.st.map (turnF 2 (1, 0))).map (turnF 3 (4, P.gen + 1))).map (relF (lowPin P.pins (P.gen + 1))) = P.st.map (coS P.pins (P.gen + 1)) := by
          rw [List.map_map, List.map_map]; rfl
        simp only [e]
        exact hfin D' hn
      · rw [if_neg hr, if_neg hr]
        exact ⟨rfl, (hdisk D' hn).hear r⟩
end Go.Proofs.Ytambgimfbdecpaa
namespace Go.Proofs.Ytambgimfbdecpaa
open Go.RowKit
set_option linter.unusedVariables false

def RS.unpin (R : RS) (g : Int) : Int × RS := if R.pins.count g = 0 then (7, R) else (0, ({ R with pins := R.pins.erase g } : RS).settle)

theorem heldP_iff (pins : List Int) (f : Int) : heldP pins f = true ↔ ∃ p ∈ pins, p < f := by
  unfold heldP
  rw [List.any_eq_true]
  simp
theorem settle_is (fo pins : List Int) (i : Nat) (x : Int × Int) (G : Int) (hi : 2 ≤ i ∨ x.1 = 0) (h4 : x.1 = 4 → fo.getD i 0 = x.2 ∧ x.2 ≤ G) : seF fo pins i x.1 = (relF (lowPin pins G) x).1 := by
  unfold seF relF
  by_cases h : x.1 = 4
  · obtain ⟨e1, e2⟩ := h4 h
    have i2 : 2 ≤ i := by rcases hi with q | q; exact q; omega
    have hl := held_low pins x.2 G e2
    rw [e1]
    by_cases hh : heldP pins x.2 = false
    · rw [if_pos ⟨i2, h, hh⟩, if_pos ⟨h, hl.1 hh⟩]
    · rw [if_neg (fun q => hh q.2.2), if_neg (fun q => hh (hl.2 q.2))]
  · rw [if_neg (fun q => h q.2.1), if_neg (fun q => h q.1)]
/-- Pins are taken away, and what nobody holds is free. -/
theorem Sim.settle {P : PS} {R : RS} (h : Sim P R) (pins : List Int) (pm : Nat) (hp : ∀ p ∈ pins, p ∈ P.pins) : Sim { P with pins := pins, pm := pm, st := P.st.map (relF (lowPin pins P.gen)) } ({ R with pins := pins } : RS).settle := by
  have hf : relF (lowPin pins P.gen) (0, 0) = (0, 0) := by simp [relF]
  have key : ∀ x : Int × Int, (relF (lowPin pins P.gen) x).1 = 4 → x.1 = 4 ∧ relF (lowPin pins P.gen) x = x ∧ ¬ x.2 ≤ lowPin pins P.gen := by
    intro x hx
    unfold relF at hx ⊢
    by_cases q : x.1 = 4 ∧ x.2 ≤ lowPin pins P.gen
    · rw [if_pos q] at hx; simp at hx
    · rw [if_neg q] at hx ⊢; exact ⟨hx, rfl, fun r => q ⟨hx, r⟩⟩
  unfold RS.settle
  refine { D := h.D, is := ?_, lf := by simp [h.lf], len := by simp [h.len], fo := ?_, pins := rfl, gen := h.gen, root := h.root, dead := h.dead, low := ?_, held := ?_, pg := fun p hq => h.pg p (hp p hq) }
  · apply List.ext_getElem (by simp [h.is])
    intro i h1 h2
    have hi : i < P.st.length := by simpa using h2
    have es : stOf P.st i = (P.st[i]).1 := stOf_eq _ _ hi
    have eg : genSh P.st i = (P.st[i]).2 := by unfold genSh; rw [List.getD_eq_getElem?_getD, List.getElem?_eq_getElem hi]; rfl
    have ei : (R.is[i]'(by rw [h.is]; simpa using hi)) = (P.st[i]).1 := by simp [h.is]
    simp only [List.getElem_mapIdx, List.getElem_map, ei]
    refine settle_is R.fo pins i P.st[i] P.gen ?_ ?_
    · by_cases h2 : 2 ≤ i
      · exact .inl h2
      · right; rw [← es]; exact h.low i (by omega)
    · intro q
      rw [← es] at q
      exact ⟨by rw [h.fo i q, eg], by rw [← eg]; exact (h.held i q).1⟩
  · intro i hi
    simp only at hi ⊢
    rw [stOf_map _ _ hf] at hi
    rw [genSh_map _ _ hf]
    obtain ⟨k1, k2, _⟩ := key _ hi
    rw [k2]
    exact h.fo i k1
  · intro i hi
    simp only
    rw [stOf_map _ _ hf]
    have e := h.low i hi
    unfold stOf at e
    generalize P.st.getD i (0, 0) = x at e ⊢
    simp [relF, e]
  · intro i hi
    simp only at hi ⊢
    rw [stOf_map _ _ hf] at hi
    rw [genSh_map _ _ hf]
    obtain ⟨k1, k2, k3⟩ := key _ hi
    rw [k2]
    have hg := (h.held i k1).1
    refine ⟨hg, ?_⟩
    have hl := held_low pins (P.st.getD i (0, 0)).2 P.gen hg
    cases e : heldP pins (P.st.getD i (0, 0)).2 with
    | true => rfl
    | false => exact absurd (hl.1 e) k3
theorem Sim.unpin {P : PS} {R : RS} (h : Sim P R) (g : Int) : (P.unpin g).1 = (R.unpin g).1 ∧ Sim (P.unpin g).2 (R.unpin g).2 := by
  have hs := h.settle (P.pins.erase g) (P.pm + 1) (fun p hp => List.mem_of_mem_erase hp)
  unfold PS.unpin RS.unpin
  rw [h.pins]
  by_cases h0 : P.pins.count g = 0
  · rw [if_pos h0, if_pos h0]; exact ⟨rfl, h⟩
  · rw [if_neg h0, if_neg h0]
    by_cases h1 : P.pins.count g = 1
    · rw [if_pos h1]; exact ⟨rfl, hs⟩
    · rw [if_neg h1]
      refine ⟨rfl, ?_⟩
      have e : P.st.map (relF (lowPin (P.pins.erase g) P.gen)) = P.st := by
        apply List.ext_getElem (by simp)
        intro i q1 q2
        simp only [List.getElem_map]
        unfold relF
        rw [if_neg]
        rintro ⟨a1, a2⟩
        have es : stOf P.st i = (P.st[i]).1 := stOf_eq _ _ q2
        have eg : genSh P.st i = (P.st[i]).2 := by unfold genSh; rw [List.getD_eq_getElem?_getD, List.getElem?_eq_getElem q2]; rfl
        have hh := h.held i (by rw [es]; exact a1)
        rw [eg] at hh
        obtain ⟨p, hp, hlt⟩ := (heldP_iff _ _).1 hh.2
        have hm : p ∈ P.pins.erase g := by
          by_cases ep : p = g
          · subst ep
            rw [← List.count_pos_iff, List.count_erase_self]; omega
          · exact (List.mem_erase_of_ne ep).2 hp
        have := (lowPin_le (P.pins.erase g) P.gen).2.1 p hm
        omega
      rw [e] at hs
      exact hs
end Go.Proofs.Ytambgimfbdecpaa
namespace Go.Proofs.Ytambgimfbdecpaa
open Go.RowKit
set_option linter.unusedVariables false
set_option linter.unusedSimpArgs false

theorem slice0 (w : World) : (Instr.buildSlice 51 0 #[]).run Try.prog w = .ok (.slice (some ⟨w.heap.size, 0, none⟩) 0 0) (w.alloc (.cells #[] 3)) := by kernel_rfl
/-- Where a slice from i + 1 on begins. -/
def cutA (gp cp i : Nat) : Addr := if cp = i + 1 then ⟨gp, 0, none⟩ else ⟨gp, i + 1, none⟩
theorem sliceHi (gp len cp i : Nat) (w : World) (h : i ≤ cp) : (Instr.sliceAt 51 (.slice (some ⟨gp, 0, none⟩) len cp) none (some (.int .i64 i)) none).run Try.prog w = .ok (.slice (some ⟨gp, 0, none⟩) i cp) w := by
  obtain ⟨inf, hin, hz0, hz1, hz2⟩ := info_parts Try.info3p
  have e : Try.prog.elem 51 = 3 := by kernel_rfl
  have ht : Try.prog.underlying 51 = some (.slice (Try.prog.elem 51)) := by kernel_rfl
  simp only [Instr.sliceAt, Sem.run_bind, run_underlying ht, Result.andThen_ok]
  have := run_slice_h w 51 (some ⟨gp, 0, none⟩) len cp ht .i64 i (by omega) (by omega)
  rw [this, e]
  simp [sizeOf, typeInfo, hin, hz1, sliced, Addr.add]
theorem sliceLo (gp len cp i : Nat) (w : World) (h : i + 1 ≤ len) : (Instr.sliceAt 51 (.slice (some ⟨gp, 0, none⟩) len cp) (some (.int .i64 ((i : Int) + 1))) none none).run Try.prog w = .ok (.slice (some (cutA gp cp i)) (len - (i + 1)) (cp - (i + 1))) w := by
  obtain ⟨inf, hin, hz0, hz1, hz2⟩ := info_parts Try.info3p
  have e : Try.prog.elem 51 = 3 := by kernel_rfl
  have ht : Try.prog.underlying 51 = some (.slice (Try.prog.elem 51)) := by kernel_rfl
  simp only [Instr.sliceAt, Sem.run_bind, run_underlying ht, Result.andThen_ok]
  have := run_slice_l w 51 (some ⟨gp, 0, none⟩) len cp ht .i64 ((i : Int) + 1) (by omega) (by omega)
  have e3 : ((i : Int) + 1).toNat = i + 1 := by omega
  rw [this, e, e3]
  unfold cutA
  by_cases hc : cp = i + 1
  · simp [sizeOf, typeInfo, hin, hz1, sliced, hc]
  · simp [sizeOf, typeInfo, hin, hz1, sliced, hc, Addr.add_mid]

section
variable {w w0 w' : World} {B b c gi gf : Nat} {own : List Nat} {R : RS}
/-- The world with an empty slice. -/
def emptyW (w : World) : World := w.drew.alloc (.cells #[] 3)
theorem emptyW_kept (w : World) : Kept [] w (emptyW w) := (Kept.drew [] w).trans (Kept.alloc [] _ _) (fun _ _ h => h)
theorem emptyW_size (w : World) : (emptyW w).heap.size = w.heap.size + 1 := by simp [emptyW]
theorem slice0w (w : World) : (Instr.buildSlice 51 0 #[]).run Try.prog w.drew = .ok (.slice (some ⟨w.heap.size, 0, none⟩) 0 0) (emptyW w) := slice0 w.drew
theorem ints_one (l : List Int) : ∀ u ∈ ints l, u.oneCell' = true := by
  intro u hu
  simp only [ints, List.mem_map] at hu
  obtain ⟨x, _, rfl⟩ := hu
  rfl

theorem rcut_pin {gp cp : Nat} (h : RAt w B b c gi gf (.slice (some ⟨gp, 0, none⟩) R.pins.length cp) own R) (hl : R.pins.length ≤ 1000) (i : Nat) (hi : i < R.pins.length) :
    ∃ g1 c1 w1 g2 c2 w2, (Builtin.append_ #[51, 51] 51 #[.slice (some ⟨w.heap.size, 0, none⟩) 0 0, .slice (some ⟨gp, 0, none⟩) i cp]).run Try.prog (emptyW w) = .ok (.slice (some ⟨g1, 0, none⟩) i c1) w1 ∧
      (Builtin.append_ #[51, 51] 51 #[.slice (some ⟨g1, 0, none⟩) i c1, .slice (some (cutA gp cp i)) (R.pins.length - (i + 1)) (cp - (i + 1))]).run Try.prog w1 = .ok (.slice (some ⟨g2, 0, none⟩) (R.pins.length - 1) c2) w2 ∧
      w2.ownsRow B 3 1 (.slice (some ⟨g2, 0, none⟩) (R.pins.length - 1) c2) (R.pins.length - 1) (ints (R.pins.eraseIdx i)) ∧ Kept [] w w1 ∧ Kept [] w w2 ∧ w.heap.size ≤ g2 := by
  obtain ⟨inf, hin, hz0, hz1, hz2⟩ := info_parts Try.info3p
  have hB : B ≤ w.heap.size := by have := h.hb; have := (h.lt b (by simp [rall])).2; omega
  have hk0 := emptyW_kept w
  have h0 := h.keep hk0 (by simp)
  have hrow : (emptyW w).ownsRow B 3 1 (.slice (some ⟨w.heap.size, 0, none⟩) 0 0) 0 [] :=
    ⟨rfl, .inr ⟨w.heap.size, 0, #[], rfl, hB, heap_alloc_new w.drew _, Nat.le_refl _, Nat.zero_le _, rfl, rfl⟩⟩
  have hpc : ∀ (W : World), Kept [] w W → ∀ j, j < R.pins.length → W.cell? ⟨gp, j, none⟩ = some (.int .i64 (R.pins.getD j 0)) := by
    intro W hk j hj
    obtain ⟨gp', cp', e, hc⟩ := (h.keep hk (by simp)).pinAt j hj
    simp only [Value.slice.injEq, Option.some.injEq, Addr.mk.injEq, and_true, true_and] at e
    rw [e.1]; exact hc
  obtain ⟨v1, w1, hr1, ho1, hg1, hn1, hb1⟩ := run_append_own_at (P := Try.prog) (emptyW w) B 51 51 3 inf _ 1 8 Try.underlying51 hin hz0 hz1 hz2 rfl (by omega) _ 0 [] hrow ⟨gp, 0, none⟩ i cp (ints (R.pins.take i)) (by rw [ints_length, List.length_take]; omega)
    (fun j u hu => by
      rw [Addr.add_mid, Nat.zero_add]
      have hj : j < (R.pins.take i).length := by have := (List.getElem?_eq_some_iff.1 hu).1; rwa [ints_length] at this
      rw [ints_at _ _ hj] at hu
      rw [List.length_take] at hj
      rw [hpc _ hk0 j (by omega), ← hu]
      simp [List.getD, List.getElem?_take, (by omega : j < i)]) (ints_one _) (by unfold maxLen; omega) (by omega) (by rw [emptyW_size]; omega)
  rw [Nat.zero_add, List.nil_append] at ho1
  have hne1 : v1 ≠ .slice none 0 0 := fun e => by have := (hn1.1 e).1; simp at this
  obtain ⟨g1, c1, rfl⟩ : ∃ g1 c1, v1 = .slice (some ⟨g1, 0, none⟩) i c1 := by
    rcases ho1.2 with ⟨e, _⟩ | ⟨g, cap, cur, e, _⟩
    · exact absurd e hne1
    · exact ⟨g, cap, e⟩
  have hgb1 : w.heap.size ≤ g1 := by
    simp only [Value.ownBlock, Option.some.injEq] at hb1
    rcases hb1 with e | e
    · omega
    · rw [emptyW_size] at e; omega
  have hk1 : Kept [] w w1 := by
    have hk := Kept.ofGrown hg1 [w.heap.size] (fun k hk => by simp only [Value.ownBlock, Option.some.injEq] at hk; simp [hk])
    exact hk0.trans hk (fun k hk hm => by simp only [List.mem_singleton] at hm; omega)
  obtain ⟨v2, w2, hr2, ho2, hg2, hn2, hb2⟩ := run_append_own_at (P := Try.prog) w1 B 51 51 3 inf _ 1 8 Try.underlying51 hin hz0 hz1 hz2 rfl (by omega) _ i (ints (R.pins.take i)) ho1 (cutA gp cp i) (R.pins.length - (i + 1)) (cp - (i + 1)) (ints (R.pins.drop (i + 1))) (by rw [ints_length, List.length_drop]; omega)
    (fun j u hu => by
      have hj : j < (R.pins.drop (i + 1)).length := by have := (List.getElem?_eq_some_iff.1 hu).1; rwa [ints_length] at this
      rw [ints_at _ _ hj] at hu
      rw [List.length_drop] at hj
      have hcp : R.pins.length ≤ cp := by
        rcases h.pins.2 with ⟨e, _⟩ | ⟨g, cap, cur, e, _, _, q, _⟩
        · simp at e
        · simp only [Value.slice.injEq, true_and] at e; omega
      have hc : cutA gp cp i = ⟨gp, i + 1, none⟩ := by unfold cutA; rw [if_neg (by omega)]
      rw [hc, Addr.add_mid, hpc _ hk1 (i + 1 + j) (by omega), ← hu]
      simp [List.getD, List.getElem?_drop]) (ints_one _) (by unfold maxLen; omega) (by omega) (by have := hk1.size; omega)
  have hne2 : v2 ≠ .slice none 0 0 := fun e => by have := (hn2.1 e).1; simp at this
  have en : i + (R.pins.length - (i + 1)) = R.pins.length - 1 := by omega
  rw [en] at ho2
  obtain ⟨g2, c2, rfl⟩ : ∃ g2 c2, v2 = .slice (some ⟨g2, 0, none⟩) (R.pins.length - 1) c2 := by
    rcases ho2.2 with ⟨e, _⟩ | ⟨g, cap, cur, e, _⟩
    · exact absurd e hne2
    · exact ⟨g, cap, e⟩
  refine ⟨g1, c1, w1, g2, c2, w2, hr1, hr2, ?_, hk1, ?_, ?_⟩
  · have e : ints (R.pins.eraseIdx i) = ints (R.pins.take i) ++ ints (R.pins.drop (i + 1)) := by
      rw [List.eraseIdx_eq_take_drop_succ]; simp [ints]
    rw [e]; exact ho2
  · have hk := Kept.ofGrown hg2 [g1] (fun k hk => by simp only [Value.ownBlock, Option.some.injEq] at hk; simp [hk])
    exact hk1.trans hk (fun k hk hm => by simp only [List.mem_singleton] at hm; omega)
  · simp only [Value.ownBlock, Option.some.injEq] at hb2
    rcases hb2 with e | e
    · omega
    · have := hk1.size; omega
end
end Go.Proofs.Ytambgimfbdecpaa
