/- What this text holds: a pager that is filled, page by page: plain facts. -/
import Derived.Test.YtambgimfbdecpaaGAlive
namespace Go.Proofs.Ytambgimfbdecpaa
open Go.RowKit Go.Maps
set_option linter.unusedVariables false

def roomSt (a n i : Nat) : List (Int × Int) := (0, 0) :: (0, 0) :: (List.replicate (i - 2) ((a : Int), (0 : Int)) ++ List.replicate (n - i) (0, 0))
theorem roomSt_length (a n i : Nat) (h2 : 2 ≤ i) (hi : i ≤ n) : (roomSt a n i).length = n := by simp [roomSt]; omega
theorem roomSt_at (a n i j : Nat) (h2 : 2 ≤ i) (hi : i ≤ n) (hj : 2 ≤ j) (hjn : j < n) : stOf (roomSt a n i) j = if j < i then (a : Int) else 0 := by
  obtain ⟨m, rfl⟩ : ∃ m, j = m + 2 := ⟨j - 2, by omega⟩
  unfold stOf roomSt
  rw [List.getD_eq_getElem?_getD, List.getElem?_cons_succ, List.getElem?_cons_succ, List.getElem?_append, List.length_replicate]
  by_cases h : m + 2 < i
  · rw [if_pos (by omega), List.getElem?_replicate, if_pos (by omega), if_pos h]; rfl
  · rw [if_neg (by omega), List.getElem?_replicate, if_pos (by omega), if_neg h]; rfl
theorem roomSt_low (a n i : Nat) (ha : a ≠ 0) (h2 : 2 ≤ i) (hi : i < n) : lowFree (roomSt a n i) = i :=
  lowFree_yes (by rw [roomSt_length a n i h2 (by omega)]; exact hi) h2 (by rw [roomSt_at a n i i h2 (by omega) h2 hi, if_neg (by omega)])
    (fun j hj hji => by rw [roomSt_at a n i j h2 (by omega) hj (by omega), if_pos hji]; omega)
theorem roomSt_full (a n : Nat) (ha : a ≠ 0) (h2 : 2 ≤ n) : lowFree (roomSt a n n) = 0 :=
  lowFree_no (fun j hj hjn => by rw [roomSt_length a n n h2 (Nat.le_refl _)] at hjn; rw [roomSt_at a n n j h2 (Nat.le_refl _) hj hjn, if_pos hjn]; omega)
theorem roomSt_set (a n i : Nat) (h2 : 2 ≤ i) (hi : i < n) : (roomSt a n i).set i ((a : Int), 0) = roomSt a n (i + 1) := by
  obtain ⟨m, rfl⟩ : ∃ m, i = m + 2 := ⟨i - 2, by omega⟩
  unfold roomSt
  rw [List.set_cons_succ, List.set_cons_succ, List.set_append_right _ _ (by rw [List.length_replicate]; omega), List.length_replicate, show m - (m + 2 - 2) = 0 by omega, show n - (m + 2) = (n - (m + 2 + 1)) + 1 by omega, List.replicate_succ, List.set_cons_zero,
    show m + 2 + 1 - 2 = (m + 2 - 2) + 1 by omega, List.replicate_succ', List.append_assoc]
  rfl
theorem cnt_replicate (x : Int × Int) (m : Nat) : (List.replicate m x).countP (fun x => x.1 == 0) = if x.1 = 0 then m else 0 := by
  rw [List.countP_replicate]
  simp
theorem roomSt_cnt (a n i : Nat) (ha : a ≠ 0) : cntFree (roomSt a n i) = n - i := by
  unfold cntFree roomSt
  rw [List.drop_succ_cons, List.drop_succ_cons, List.drop_zero, List.countP_append, cnt_replicate, cnt_replicate, if_neg (by simp; omega), if_pos rfl]
  omega
theorem roomSt_map (f : Int × Int → Int × Int) (a b n : Nat) (h0 : f (0, 0) = (0, 0)) (ha : f ((a : Int), 0) = ((b : Int), 0)) : (roomSt a n n).map f = roomSt b n n := by
  unfold roomSt
  simp [h0, ha]
theorem blank_room (n : Nat) (h : 2 ≤ n) : List.replicate n ((0 : Int), (0 : Int)) = roomSt 2 n 2 := by
  obtain ⟨m, rfl⟩ : ∃ m, n = m + 2 := ⟨n - 2, by omega⟩
  unfold roomSt
  rw [List.replicate_succ, List.replicate_succ]
  rfl

/-- A pager with some pages that were put. -/
structure Room (n i : Nat) (P : PS) : Prop where
  ok : P.ok
  gen : P.gen = 1
  st : P.st = roomSt 2 n i
  pins : P.pins = []
  n : P.D.n = n
  s : P.D.steps = 5 + ((i - 2 : Nat) : Int)
  w : P.D.waits.length = i - 2
theorem Room.start (n : Nat) (h : 4 ≤ n) : Room n 2 (PS.fmt n) :=
  ⟨PS.ok.fmt n, rfl, blank_room n (by omega), rfl, rfl, (fmt_facts n h).2.2.1, by rw [show (PS.fmt n).D = DS.fmt n from rfl, (fmt_facts n h).2.1]; rfl⟩
theorem Room.put {n i : Nat} {P : PS} (h : Room n i P) (h2 : 2 ≤ i) (hi : i < n) (s : ByteArray) (hs : s.size ≤ 492) : (P.put 3 s).1 = ((i : Int), 0) ∧ Room n (i + 1) (P.put 3 s).2 := by
  have hl : lowFree P.st = i := by rw [h.st]; exact roomSt_low 2 n i (by omega) h2 hi
  rw [h.ok.put 3 s (by rw [h.gen]; unfold okPage; omega) hs (by rw [hl]; omega) (by rw [h.st, h.n]; exact roomSt_length 2 n i h2 (by omega)), hl]
  refine ⟨rfl, ⟨⟨h.ok.d.wrote _ _, h.ok.a⟩, h.gen, ?_, h.pins, h.n, ?_, ?_⟩⟩
  · show P.st.set i (2, 0) = _
    rw [h.st]
    exact roomSt_set 2 n i h2 hi
  · have := h.s
    simp only [DS.wrote]
    omega
  · have := h.w
    simp only [DS.wrote, List.length_append, List.length_cons, List.length_nil]
    omega
theorem Room.full {n : Nat} {P : PS} (h : Room n n P) (h2 : 2 ≤ n) (s : ByteArray) (hs : s.size ≤ 492) : P.put 3 s = ((0, 6), P) :=
  h.ok.putFull 3 s (by rw [h.gen]; unfold okPage; omega) hs (by rw [h.st]; exact roomSt_full 2 n (by omega) h2)
/-- Behind the first commit. -/
def room2St (x : Int × Int) (n : Nat) : List (Int × Int) := (roomSt 1 n n).set 2 x
theorem room2_at (x : Int × Int) (n j : Nat) (h : 3 ≤ n) (hj : 2 ≤ j) (hjn : j < n) : stOf (room2St x n) j = if j = 2 then x.1 else 1 := by
  have hl := roomSt_length 1 n n (by omega) (Nat.le_refl _)
  unfold room2St stOf
  rw [List.getD_eq_getElem?_getD, List.getElem?_set]
  by_cases e : j = 2
  · subst e; rw [if_pos rfl, if_pos (by omega), if_pos rfl]; rfl
  · rw [if_neg (fun h => e h.symm), if_neg e]
    have := roomSt_at 1 n n j (by omega) (Nat.le_refl _) hj hjn
    unfold stOf at this
    rw [List.getD_eq_getElem?_getD] at this
    rw [this, if_pos hjn]
    rfl
theorem room2_length (x : Int × Int) (n : Nat) (h : 2 ≤ n) : (room2St x n).length = n := by unfold room2St; rw [List.length_set]; exact roomSt_length 1 n n h (Nat.le_refl _)
/-- A pager with these sheets, nothing waiting. -/
structure RoomB (n : Nat) (g : Int) (st : List (Int × Int)) (S : Int) (P : PS) : Prop where
  ok : P.ok
  gen : P.gen = g
  st : P.st = st
  pins : P.pins = []
  n : P.D.n = n
  s : P.D.steps ≤ S
  w : P.D.waits = []
theorem Room.commit {n : Nat} {P : PS} (h : Room n n P) (h4 : 4 ≤ n) (hn : n ≤ 60) : (P.commit ⟨#[97]⟩).1 = 0 ∧ RoomB n 2 (roomSt 1 n n) 100 (P.commit ⟨#[97]⟩).2 := by
  have hg : P.gen + 1 = 2 := by rw [h.gen]; rfl
  rw [h.ok.commit ⟨#[97]⟩ (by decide) (by rw [h.gen]; unfold okGen; omega) (by rw [h.n]; omega), hg]
  refine ⟨rfl, ⟨h.ok.d.laid _ _, h.ok.a⟩, rfl, ?_, h.pins, h.n, ?_, rfl⟩
  · show ((P.st.map _).map _).map _ = _
    rw [h.st, roomSt_map (turnF 2 (1, 0)) 2 1 n (by decide) (by decide), roomSt_map (turnF 3 (4, 2)) 1 1 n (by decide) (by decide), roomSt_map (relF _) 1 1 n (by simp [relF]) (by simp [relF])]
  · show (DS.laid _ _ _).steps ≤ 100
    rw [(laid_facts _ _ _).2.2, h.s]
    omega
theorem RoomB.drop {n : Nat} {P : PS} (h : RoomB n 2 (roomSt 1 n n) 100 P) (h4 : 4 ≤ n) : (P.drop 2).1 = 0 ∧ RoomB n 2 (room2St (3, 0) n) 100 (P.drop 2).2 := by
  have hs : stOf P.st 2 = 1 := by rw [h.st, roomSt_at 1 n n 2 (by omega) (Nat.le_refl _) (by omega) (by omega), if_pos (by omega)]; rfl
  have hl : P.st.length = n := by rw [h.st]; exact roomSt_length 1 n n (by omega) (Nat.le_refl _)
  have hu : usedP P.st 2 = true := by
    unfold usedP
    rw [hl, show (2 : Int).toNat = 2 from rfl, hs, decide_eq_true (by omega)]
    rfl
  have e : P.drop 2 = (0, { P with st := P.st.set 2 (3, 0) }) := by
    unfold PS.drop
    rw [if_neg (by simp [h.ok.a]), hu, if_neg (by simp), show (2 : Int).toNat = 2 from rfl, hs, if_neg (by decide), if_pos rfl]
  rw [e]
  exact ⟨rfl, ⟨h.ok.d, h.ok.a⟩, h.gen, by show P.st.set 2 (3, 0) = _; rw [h.st]; rfl, h.pins, h.n, h.s, h.w⟩
theorem RoomB.full {n : Nat} {P : PS} (h : RoomB n 2 (room2St (3, 0) n) 100 P) (h4 : 4 ≤ n) (s : ByteArray) (hs : s.size ≤ 492) : P.put 3 s = ((0, 6), P) :=
  h.ok.putFull 3 s (by rw [h.gen]; unfold okPage; omega) hs (by
    rw [h.st]
    refine lowFree_no (fun j hj hjn => ?_)
    rw [room2_length _ _ (by omega)] at hjn
    rw [room2_at _ n j (by omega) hj hjn]
    split <;> omega)
theorem room2_map (f : Int × Int → Int × Int) (x y : Int × Int) (n : Nat) (h0 : f (0, 0) = (0, 0)) (h1 : f (1, 0) = (1, 0)) (hx : f x = y) : (room2St x n).map f = room2St y n := by
  unfold room2St
  rw [List.map_set, hx, roomSt_map f 1 1 n h0 h1]
theorem RoomB.commit {n : Nat} {P : PS} (h : RoomB n 2 (room2St (3, 0) n) 100 P) (h4 : 4 ≤ n) : (P.commit ⟨#[98]⟩).1 = 0 ∧ RoomB n 3 (room2St (0, 0) n) 110 (P.commit ⟨#[98]⟩).2 := by
  have hg : P.gen + 1 = 3 := by rw [h.gen]; rfl
  rw [h.ok.commit ⟨#[98]⟩ (by decide) (by rw [h.gen]; unfold okGen; omega) (by rw [h.n]; omega), hg]
  refine ⟨rfl, ⟨h.ok.d.laid _ _, h.ok.a⟩, rfl, ?_, h.pins, h.n, ?_, rfl⟩
  · show ((P.st.map _).map _).map _ = _
    rw [h.st, h.pins, room2_map (turnF 2 (1, 0)) (3, 0) (3, 0) n (by decide) (by decide) (by decide), room2_map (turnF 3 (4, 3)) (3, 0) (4, 3) n (by decide) (by decide) (by decide), room2_map (relF (lowPin [] 3)) (4, 3) (0, 0) n (by decide) (by decide) (by decide)]
  · show (DS.laid _ _ _).steps ≤ 110
    rw [(laid_facts _ _ _).2.2]
    have := h.s
    omega
theorem RoomB.put {n : Nat} {P : PS} (h : RoomB n 3 (room2St (0, 0) n) 110 P) (h4 : 4 ≤ n) (s : ByteArray) (hs : s.size ≤ 492) : (P.put 3 s).1 = (2, 0) := by
  have hl : lowFree P.st = 2 := by
    rw [h.st]
    exact lowFree_yes (by rw [room2_length _ _ (by omega)]; omega) (by omega) (by rw [room2_at _ n 2 (by omega) (by omega) (by omega), if_pos rfl]) (fun j h1 h2 => by omega)
  rw [h.ok.put 3 s (by rw [h.gen]; unfold okPage; omega) hs (by rw [hl]; omega) (by rw [h.st, h.n]; exact room2_length _ _ (by omega)), hl]
  rfl
end Go.Proofs.Ytambgimfbdecpaa
