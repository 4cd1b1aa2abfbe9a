/- What this text holds: sealing, whatever is sealed. · What this text holds: two roots' sectors, cut. · What this text holds: words for a pager's sheets, and what its small functions do with them. · What this text holds: the loops over a pager's sheets. · What this text holds: 'turn' and 'releaseUpTo': sheets that are laid anew. -/
import Derived.Test.YtambgimfbdecpaaQ08
namespace Go.Proofs.Ytambgimfbdecpaa
open Go.RowKit
set_option linter.unusedVariables false

/-- May a page be so? -/
def okPage (kind gen : Int) : Prop := ((0 ≤ kind ∧ kind ≤ 255) ∧ 0 ≤ gen) ∧ gen ≤ 281474976710655
instance (kind gen : Int) : Decidable (okPage kind gen) := by unfold okPage; infer_instance
def okGen (gen : Int) : Prop := 1 ≤ gen ∧ gen ≤ 4611686018427387904
instance (gen : Int) : Decidable (okGen gen) := by unfold okGen; infer_instance
/-- The error of Seal, and the bytes. -/
def sealE (kind gen : Int) (n : Nat) : Int := if okPage kind gen then (if n ≤ 492 then 0 else 4) else 2
def sealS (kind gen : Int) (c : List Int) : List Int := if sealE kind gen c.length = 0 then sealL kind gen c else []
def rootE (gen : Int) (n : Nat) : Int := if okGen gen then (if n ≤ 490 then 0 else 4) else 2
def rootS (gen : Int) (c : List Int) : List Int := if rootE gen c.length = 0 then rootL gen c else []

theorem sealE_yes {kind gen : Int} {n : Nat} (h : okPage kind gen) (hn : n ≤ 492) : sealE kind gen n = 0 := by simp [sealE, h, hn]
theorem sealE_long {kind gen : Int} {n : Nat} (h : okPage kind gen) (hn : ¬ n ≤ 492) : sealE kind gen n = 4 := by simp [sealE, h, hn]
theorem sealE_arg {kind gen : Int} {n : Nat} (h : ¬ okPage kind gen) : sealE kind gen n = 2 := by simp [sealE, h]
theorem rootE_yes {gen : Int} {n : Nat} (h : okGen gen) (hn : n ≤ 490) : rootE gen n = 0 := by simp [rootE, h, hn]
theorem rootE_long {gen : Int} {n : Nat} (h : okGen gen) (hn : ¬ n ≤ 490) : rootE gen n = 4 := by simp [rootE, h, hn]
theorem rootE_arg {gen : Int} {n : Nat} (h : ¬ okGen gen) : rootE gen n = 2 := by simp [rootE, h]
theorem sealE_zero {kind gen : Int} {n : Nat} (h : sealE kind gen n = 0) : okPage kind gen ∧ n ≤ 492 := by
  by_cases h1 : okPage kind gen
  · by_cases h2 : n ≤ 492
    · exact ⟨h1, h2⟩
    · rw [sealE_long h1 h2] at h; omega
  · rw [sealE_arg h1] at h; omega
theorem rootE_zero {gen : Int} {n : Nat} (h : rootE gen n = 0) : okGen gen ∧ n ≤ 490 := by
  by_cases h1 : okGen gen
  · by_cases h2 : n ≤ 490
    · exact ⟨h1, h2⟩
    · rw [rootE_long h1 h2] at h; omega
  · rw [rootE_arg h1] at h; omega

/-- A slice of bytes, wherever it lies. -/
def SOut (w' : World) (v : Value) (L : List Int) : Prop := ∃ a c, v = .slice a L.length c ∧ BArg w' a L.length c L
theorem sOut_nil (w' : World) : SOut w' (.slice none 0 0) [] := ⟨none, 0, rfl, (fun j x hx => by simp at hx), rfl, (fun x hx => nomatch hx), Nat.le_refl _, Nat.zero_le _⟩
theorem NewB.sOut {w w' : World} {v : Value} {l : List Int} (h : NewB w w' v l) (hl : l.length = 512) (hb : Byt l) : SOut w' v l := by
  obtain ⟨g, c, rfl, hg, _, hba, hc, hc'⟩ := h.all hl
  exact ⟨_, c, by rw [hl], hba, rfl, hb, by rw [hl]; exact hc, hc'⟩

theorem seal_all (kind gen : Int) (s : ByteArray) (w : World) (hm : s.size ≤ maxLen) :
    Calls Try.prog 63 #[.int .i64 kind, .int .i64 gen, .string s] w fun e w' => ∃ v, e = .returned (.tuple #[v, .int .i64 (sealE kind gen s.size)]) ∧ SOut w' v (sealS kind gen (bOf s)) ∧ Below w.heap.size w w' := by
  have hl := bOf_length s
  by_cases h1 : okPage kind gen
  · by_cases h2 : s.size ≤ 492
    · refine (seal_yes kind gen s w h1.1.1.1 h1.1.1.2 h1.1.2 h1.2 h2).mono ?_
      rintro e w' ⟨v, rfl, hv, hb⟩
      have e1 := sealE_yes h1 h2
      refine ⟨v, by rw [e1], ?_, hb⟩
      unfold sealS
      rw [hl, if_pos e1]
      exact hv.sOut (sealL_length _ _ _ (by omega)) (byt_seal _ _ _ (bOf_range s))
    · refine (seal_long kind gen s w hm h1 (by omega)).mono ?_
      rintro e w' ⟨rfl, rfl⟩
      have e1 := sealE_long h1 h2
      refine ⟨_, by rw [e1], ?_, Below.refl _ _⟩
      unfold sealS
      rw [hl, if_neg (by rw [e1]; decide)]
      exact sOut_nil _
  · refine (seal_arg kind gen s w h1).mono ?_
    rintro e w' ⟨rfl, rfl⟩
    have e1 := sealE_arg (n := s.size) h1
    refine ⟨_, by rw [e1], ?_, Below.refl _ _⟩
    unfold sealS
    rw [hl, if_neg (by rw [e1]; decide)]
    exact sOut_nil _
theorem root_all (gen : Int) (s : ByteArray) (w : World) (hm : s.size ≤ maxLen) :
    Calls Try.prog 66 #[.int .i64 gen, .string s] w fun e w' => ∃ v, e = .returned (.tuple #[v, .int .i64 (rootE gen s.size)]) ∧ SOut w' v (rootS gen (bOf s)) ∧ Below w.heap.size w w' := by
  have hl := bOf_length s
  by_cases h1 : okGen gen
  · by_cases h2 : s.size ≤ 490
    · refine (root_yes gen s w h1.1 h1.2 h2).mono ?_
      rintro e w' ⟨v, rfl, hv, hb⟩
      have e1 := rootE_yes h1 h2
      refine ⟨v, by rw [e1], ?_, hb⟩
      unfold rootS
      rw [hl, if_pos e1]
      exact hv.sOut (rootL_length _ _ (by omega)) (byt_root _ _ (bOf_range s))
    · refine (root_long gen s w hm h1 (by omega)).mono ?_
      rintro e w' ⟨rfl, rfl⟩
      have e1 := rootE_long h1 h2
      refine ⟨_, by rw [e1], ?_, Below.refl _ _⟩
      unfold rootS
      rw [hl, if_neg (by rw [e1]; decide)]
      exact sOut_nil _
  · refine (root_arg gen s w h1).mono ?_
    rintro e w' ⟨rfl, rfl⟩
    have e1 := rootE_arg (n := s.size) h1
    refine ⟨_, by rw [e1], ?_, Below.refl _ _⟩
    unfold rootS
    rw [hl, if_neg (by rw [e1]; decide)]
    exact sOut_nil _
end Go.Proofs.Ytambgimfbdecpaa
namespace Go.Proofs.Ytambgimfbdecpaa
open Go.RowKit
set_option linter.unusedVariables false

theorem root_take (g : Int) (c : List Int) : (rootL g c).take 8 = numB 8 g := by
  unfold rootL
  rw [List.take_append_of_le_length (by rw [numB_length]; omega), List.take_of_length_le (by rw [numB_length]; omega)]
theorem root_drop (g : Int) (c : List Int) (h : c.length ≤ 494) : (rootL g c).drop 504 = numB 8 g := by
  have e : rootL g c = (numB 8 g ++ (numB 2 c.length ++ (c ++ rep (494 - c.length) 0))) ++ numB 8 g := by
    unfold rootL
    simp only [List.append_assoc]
  rw [e, List.drop_append, List.drop_of_length_le (by simp [numB_length, rep_length]; omega), List.nil_append]
  rw [show 504 - (numB 8 g ++ (numB 2 c.length ++ (c ++ rep (494 - c.length) 0))).length = 0 by simp [numB_length, rep_length]; omega, List.drop_zero]
theorem isRoot_ends {z : List Int} (h : isRoot z) : z.take 8 = z.drop 504 := by
  have h1 := root_take (rgenOf z) (rconOf z)
  have h2 := root_drop (rgenOf z) (rconOf z) (by have := h.2.2.1; omega)
  rw [h.2.2.2] at h1 h2
  rw [h1, h2]
theorem split_at (z : List Int) (n : Nat) : z = z.take n ++ z.drop n := (List.take_append_drop n z).symm

/-- The first bytes of the one, and the rest of the other. -/
theorem torn_one {a b : Int} {S T : List Int} (ha : okGen a) (hb : okGen b) (hS : S.length ≤ 490) (hT : T.length ≤ 490) (hab : a ≠ b) (k : Nat) (hk : k ≤ 512)
    (h : isRoot ((rootL a S).take k ++ (rootL b T).drop k)) : (rootL a S).take k ++ (rootL b T).drop k = rootL a S ∨ (rootL a S).take k ++ (rootL b T).drop k = rootL b T := by
  have hX := rootL_length a S (by omega)
  have hY := rootL_length b T (by omega)
  have x1 := root_take a S
  have x2 := root_drop a S (by omega)
  have y1 := root_take b T
  have y2 := root_drop b T (by omega)
  have he := isRoot_ends h
  generalize hXX : rootL a S = X at *
  generalize hYY : rootL b T = Y at *
  have hlt : (X.take k).length = k := by rw [List.length_take]; omega
  by_cases c1 : k < 8
  · right
    have e1 : (X.take k ++ Y.drop k).drop 504 = Y.drop 504 := by
      rw [List.drop_append, List.drop_of_length_le (by omega), List.nil_append, hlt, List.drop_drop]
      congr 1
      omega
    have e2 : (X.take k ++ Y.drop k).drop 8 = Y.drop 8 := by
      rw [List.drop_append, List.drop_of_length_le (by omega), List.nil_append, hlt, List.drop_drop]
      congr 1
      omega
    rw [e1, y2, ← y1] at he
    rw [split_at (X.take k ++ Y.drop k) 8, he, e2, ← split_at]
  · by_cases c2 : 504 < k
    · left
      have e1 : (X.take k ++ Y.drop k).take 8 = X.take 8 := by
        rw [List.take_append_of_le_length (by omega), List.take_take, Nat.min_eq_left (by omega)]
      have e2 : (X.take k ++ Y.drop k).take 504 = X.take 504 := by
        rw [List.take_append_of_le_length (by omega), List.take_take, Nat.min_eq_left (by omega)]
      rw [e1, x1, ← x2] at he
      rw [split_at (X.take k ++ Y.drop k) 504, e2, ← he, ← split_at]
    · exfalso
      have e1 : (X.take k ++ Y.drop k).take 8 = X.take 8 := by
        rw [List.take_append_of_le_length (by omega), List.take_take, Nat.min_eq_left (by omega)]
      have e2 : (X.take k ++ Y.drop k).drop 504 = Y.drop 504 := by
        rw [List.drop_append, List.drop_of_length_le (by omega), List.nil_append, hlt, List.drop_drop]
        congr 1
        omega
      rw [e1, e2, x1, y2] at he
      have v1 := val_numB' a 8 (by have := ha.1; omega) (by have := ha.2; omega)
      have v2 := val_numB' b 8 (by have := hb.1; omega) (by have := hb.2; omega)
      rw [he, v2] at v1
      exact hab v1.symm
theorem cut_range (cut : Int) : ∃ k : Nat, k ≤ 512 ∧ (wrap64 (wrap64 (cut.tmod 513 + 512) + 1)).tmod 513 = (k : Int) := by
  have h1 := Int.tmod_lt_of_pos cut (show (0 : Int) < 513 by decide)
  have h2 := Int.lt_tmod_of_pos cut (show (0 : Int) < 513 by decide)
  rw [wrap64_fits (cut.tmod 513 + 512) (by omega) (by omega), wrap64_fits _ (by omega) (by omega), Int.tmod_eq_emod_of_nonneg (by omega)]
  exact ⟨((cut.tmod 513 + 512 + 1) % 513).toNat, by omega, by omega⟩
end Go.Proofs.Ytambgimfbdecpaa
namespace Go.Proofs.Ytambgimfbdecpaa
open Go.RowKit
set_option linter.unusedVariables false

/-- Cells of sheets: each a state, and a gen. -/
def shc (l : List (Int × Int)) : List Value := l.flatMap fun x => [.int .i64 x.1, .int .i64 x.2]
theorem shc_length (l : List (Int × Int)) : (shc l).length = l.length * 2 := by
  induction l with
  | nil => rfl
  | cons x l ih => simp only [shc, List.flatMap_cons, List.length_append, List.length_cons, List.length_nil] at ih ⊢; omega
theorem shc_cons (x : Int × Int) (l : List (Int × Int)) : shc (x :: l) = .int .i64 x.1 :: .int .i64 x.2 :: shc l := by simp [shc]
theorem shc_at (l : List (Int × Int)) : ∀ (i : Nat) (hi : i < l.length), (shc l)[i * 2]? = some (.int .i64 (l[i]).1) ∧ (shc l)[i * 2 + 1]? = some (.int .i64 (l[i]).2) := by
  induction l with
  | nil => intro i hi; simp at hi
  | cons x l ih =>
    intro i hi
    rw [shc_cons]
    cases i with
    | zero => exact ⟨rfl, rfl⟩
    | succ i =>
      obtain ⟨h1, h2⟩ := ih i (by simpa using hi)
      rw [show (i + 1) * 2 = i * 2 + 1 + 1 by omega]
      simp only [List.getElem?_cons_succ, List.getElem_cons_succ]
      exact ⟨h1, h2⟩
theorem shc_set (l : List (Int × Int)) : ∀ (i : Nat) (x : Int × Int), i < l.length → ((shc l).set (i * 2) (.int .i64 x.1)).set (i * 2 + 1) (.int .i64 x.2) = shc (l.set i x) := by
  induction l with
  | nil => intro i x hi; simp at hi
  | cons y l ih =>
    intro i x hi
    cases i with
    | zero => simp [shc_cons]
    | succ i =>
      rw [show (i + 1) * 2 = i * 2 + 1 + 1 by omega, List.set_cons_succ, shc_cons, shc_cons, ← ih i x (by simpa using hi)]
      simp

/-- Sheets lie in block gs. -/
structure ShAt (w : World) (b gs n : Nat) (st : List (Int × Int)) : Prop where
  c : w.cell? ⟨b, 1, none⟩ = some (.slice (some ⟨gs, 0, none⟩) n n)
  blk : w.heap[gs]? = some (.cells (shc st).toArray 118 (0, 0))
  len : st.length = n
  max : n ≤ 4096
theorem ShAt.at_ {w : World} {b gs n : Nat} {st : List (Int × Int)} (h : ShAt w b gs n st) (i : Nat) (hi : i < n) :
    w.cell? ⟨gs, i * 2, none⟩ = some (.int .i64 (st[i]'(by rw [h.len]; exact hi)).1) ∧ w.cell? ⟨gs, i * 2 + 1, none⟩ = some (.int .i64 (st[i]'(by rw [h.len]; exact hi)).2) := by
  obtain ⟨h1, h2⟩ := shc_at st i (by rw [h.len]; exact hi)
  simp only [World.cell?, h.blk]
  exact ⟨by simpa using h1, by simpa using h2⟩
theorem ShAt.free {w : World} {b gs n : Nat} {st : List (Int × Int)} (h : ShAt w b gs n st) (k : Nat) : w.frozen? ⟨gs, k, none⟩ = false := by simp [World.frozen?, h.blk]
/-- A sheet is laid anew. -/
def setSh (w : World) (gs i : Nat) (x : Int × Int) : World := (w.setCell ⟨gs, i * 2, none⟩ (.int .i64 x.1)).setCell ⟨gs, i * 2 + 1, none⟩ (.int .i64 x.2)
theorem setSh_kept (w : World) (gs i : Nat) (x : Int × Int) : Kept [gs] w (setSh w gs i x) :=
  (Kept.setCell [gs] w _ _ (by simp)).trans (Kept.setCell [gs] _ _ _ (by simp)) (fun _ _ h => h)
theorem ShAt.set {w : World} {b gs n : Nat} {st : List (Int × Int)} (h : ShAt w b gs n st) (hne : gs ≠ b) (i : Nat) (hi : i < n) (x : Int × Int) : ShAt (setSh w gs i x) b gs n (st.set i x) := by
  refine ⟨?_, ?_, by rw [List.length_set]; exact h.len, h.max⟩
  · exact (setSh_kept w gs i x).cell h.c (by simpa using fun e => hne e.symm)
  · unfold setSh
    simp only [World.setCell, Array.getElem?_modify, h.blk, if_true, Option.map_some]
    rw [← shc_set st i x (by rw [h.len]; exact hi)]
    simp

set_option maxHeartbeats 400000 in
theorem isPage_any {w : World} {b gs n : Nat} {st : List (Int × Int)} (h : ShAt w b gs n st) (i : Int) :
    Calls Try.prog 86 #[.pointer (some ⟨b, 1, none⟩), .int .i64 i] w fun e w' => e = .returned (.bool (decide (2 ≤ i ∧ i < n))) ∧ w' = w := by
  have hc := h.c
  have hm := h.max
  clear h
  by_cases h1 : 2 ≤ i
  · by_cases h2 : i < n
    · rw [decide_eq_true (by exact ⟨h1, h2⟩)]
      go_enter Try.func86, Try.ntmps86
      go_wp2
      go_ret
      exact ⟨rfl, rfl⟩
    · rw [decide_eq_false (fun h => h2 h.2)]
      go_enter Try.func86, Try.ntmps86
      go_wp2
      go_ret
      exact ⟨rfl, rfl⟩
  · rw [decide_eq_false (fun h => h1 h.1)]
    go_enter Try.func86, Try.ntmps86
    go_wp2
    go_ret
    exact ⟨rfl, rfl⟩

/-- The state of sheet i. -/
def stOf (st : List (Int × Int)) (i : Nat) : Int := (st.getD i (0, 0)).1
theorem stOf_eq (st : List (Int × Int)) (i : Nat) (hi : i < st.length) : stOf st i = (st[i]).1 := by
  unfold stOf; rw [List.getD_eq_getElem?_getD, List.getElem?_eq_getElem hi]; rfl
theorem ShAt.st {w : World} {b gs n : Nat} {st : List (Int × Int)} (h : ShAt w b gs n st) (i : Nat) (hi : i < n) : w.cell? ⟨gs, i * 2, none⟩ = some (.int .i64 (stOf st i)) := by
  rw [stOf_eq st i (by rw [h.len]; exact hi)]
  exact (h.at_ i hi).1

/-- Is it a used page? -/
def usedP (st : List (Int × Int)) (i : Int) : Bool := decide (2 ≤ i ∧ i < st.length) && (stOf st i.toNat != 0)
set_option maxHeartbeats 400000 in
theorem isUsed_any {w : World} {b gs n : Nat} {st : List (Int × Int)} (h : ShAt w b gs n st) (i : Int) :
    Calls Try.prog 62 #[.pointer (some ⟨b, 1, none⟩), .int .i64 i] w fun e w' => e = .returned (.bool (usedP st i)) ∧ w' = w := by
  have hc := h.c
  have hm := h.max
  have HH := hid h
  have hp := hid (isPage_any h i)
  unfold usedP
  rw [h.len]
  by_cases h1 : 2 ≤ i ∧ i < n
  · obtain ⟨k, rfl⟩ : ∃ k : Nat, i = k := ⟨i.toNat, by omega⟩
    have hs := h.st k (by omega)
    have hk2 : (k : Int) < n := h1.2
    rw [decide_eq_true h1, Bool.true_and, Int.toNat_natCast]
    rw [decide_eq_true h1] at hp
    clear h h1
    go_enter Try.func62, Try.ntmps62
    go_wp2_with (go_at_call 86; refine hp.out.mono ?_; rintro e w ⟨rfl, rfl⟩)
    go_ret
    exact ⟨rfl, rfl⟩
  · rw [decide_eq_false h1, Bool.false_and]
    rw [decide_eq_false h1] at hp
    clear h h1
    go_enter Try.func62, Try.ntmps62
    go_wp2_with (go_at_call 86; refine hp.out.mono ?_; rintro e w ⟨rfl, rfl⟩)
    go_ret
    exact ⟨rfl, rfl⟩
end Go.Proofs.Ytambgimfbdecpaa
namespace Go.Proofs.Ytambgimfbdecpaa
open Go.RowKit
set_option linter.unusedVariables false

/-- The lowest free page; 0: there is none. -/
def lowFree (st : List (Int × Int)) : Nat := ((List.range st.length).find? fun i => decide (2 ≤ i) && (stOf st i == 0)).getD 0
theorem lowFree_yes {st : List (Int × Int)} {k : Nat} (hk : k < st.length) (h2 : 2 ≤ k) (h0 : stOf st k = 0) (hb : ∀ j, 2 ≤ j → j < k → stOf st j ≠ 0) : lowFree st = k := by
  have : (List.range st.length).find? (fun i => decide (2 ≤ i) && (stOf st i == 0)) = some k := by
    rw [List.find?_range_eq_some]
    refine ⟨by simp [h2, h0], by simpa using hk, ?_⟩
    intro j hj
    by_cases h : 2 ≤ j
    · simp [hb j h hj]
    · simp [h]
  unfold lowFree
  rw [this]
  rfl
theorem lowFree_no {st : List (Int × Int)} (hb : ∀ j, 2 ≤ j → j < st.length → stOf st j ≠ 0) : lowFree st = 0 := by
  have : (List.range st.length).find? (fun i => decide (2 ≤ i) && (stOf st i == 0)) = none := by
    rw [List.find?_range_eq_none]
    intro j hj
    by_cases h : 2 ≤ j
    · simp [hb j h hj]
    · simp [h]
  unfold lowFree
  rw [this]
  rfl

set_option maxRecDepth 100000 in
set_option maxHeartbeats 1000000 in
theorem lowestFree_any {w : World} {b gs n : Nat} {st : List (Int × Int)} (h : ShAt w b gs n st) :
    Calls Try.prog 64 #[.pointer (some ⟨b, 1, none⟩)] w fun e w' => e = .returned (.int .i64 (lowFree st)) ∧ w' = w := by
  have hc := h.c
  have hm := h.max
  have HH := hid h
  have HL := hid h.len
  clear h
  go_enter Try.func64, Try.ntmps64
  go_wp2
  go_loop [3] (fun q => ∃ k : Nat, 2 ≤ k ∧ (k ≤ n ∨ k = 2) ∧ q = .int .i64 k ∧ Hid (∀ j, 2 ≤ j → j < k → stOf st j ≠ 0)) (fun q => n - (intOf q).toNat)
  case atStart => exact ⟨2, Nat.le_refl _, .inr rfl, rfl, fun j h1 h2 => by omega⟩
  case round =>
    obtain ⟨k, hk2, hkn, rfl, hrest⟩ := hrel
    by_cases hlt : k < n
    · have hlt' : (k : Int) < n := by omega
      have hs := HH.out.st k hlt
      by_cases h0 : stOf st k = 0
      · have h0' : (stOf st k == 0) = true := by rw [beq_iff_eq]; exact h0
        have HZ := hid h0
        clear h0
        go_wp2
        go_ret
        rw [lowFree_yes (by rw [HL.out]; exact hlt) hk2 HZ.out hrest.out]
        exact ⟨rfl, rfl⟩
      · have h0' : (stOf st k == 0) = false := by rw [beq_eq_false_iff_ne]; exact h0
        have HZ := hid h0
        clear h0
        go_wp2
        go_round
        case rel =>
          refine ⟨k + 1, by omega, .inl (by omega), by go_num, fun j h1 h2 => ?_⟩
          by_cases e : j = k
          · subst e; exact HZ.out
          · exact hrest.out j h1 (by omega)
        case measure => simp [intOf]; omega
    · have hlt' : ¬ (k : Int) < n := by omega
      go_wp2
      go_ret
      rw [lowFree_no (fun j h1 h2 => hrest.out j h1 (by rw [HL.out] at h2; omega))]
      exact ⟨rfl, rfl⟩

/-- How many pages are free. -/
def cntFree (st : List (Int × Int)) : Nat := (st.drop 2).countP fun x => x.1 == 0
theorem cnt_step (st : List (Int × Int)) (k : Nat) (h2 : 2 ≤ k) (hk : k < st.length) : cntFree (st.take (k + 1)) = cntFree (st.take k) + if stOf st k = 0 then 1 else 0 := by
  unfold cntFree
  rw [List.take_succ_eq_append_getElem hk, List.drop_append_of_le_length (by rw [List.length_take]; omega), List.countP_append, List.countP_singleton, stOf_eq st k hk]
  simp
theorem cnt_le (st : List (Int × Int)) : cntFree st ≤ st.length := by
  unfold cntFree
  exact Nat.le_trans List.countP_le_length (by rw [List.length_drop]; omega)

set_option maxRecDepth 100000 in
set_option maxHeartbeats 1000000 in
theorem countFree_any {w : World} {b gs n : Nat} {st : List (Int × Int)} (h : ShAt w b gs n st) :
    Calls Try.prog 60 #[.pointer (some ⟨b, 1, none⟩)] w fun e w' => e = .returned (.int .i64 (cntFree st)) ∧ w' = w := by
  have hc := h.c
  have hm := h.max
  have HH := hid h
  have HL := hid h.len
  clear h
  go_enter Try.func60, Try.ntmps60
  go_wp2
  go_loop [4, 3] (fun q c => ∃ k : Nat, 2 ≤ k ∧ (k ≤ n ∨ k = 2) ∧ q = .int .i64 k ∧ c = .int .i64 (cntFree (st.take k))) (fun q _ => n - (intOf q).toNat)
  case atStart =>
    refine ⟨2, Nat.le_refl _, .inr rfl, rfl, ?_⟩
    have : cntFree (st.take 2) = 0 := by unfold cntFree; rw [List.drop_of_length_le (by rw [List.length_take]; omega)]; rfl
    rw [this]; rfl
  case round =>
    obtain ⟨k, hk2, hkn, rfl, rfl⟩ := hrel
    by_cases hlt : k < n
    · have hlt' : (k : Int) < n := by omega
      have hs := HH.out.st k hlt
      have hstep := cnt_step st k hk2 (by rw [HL.out]; exact hlt)
      have hcl : cntFree (st.take k) ≤ 4096 := Nat.le_trans (cnt_le _) (by rw [List.length_take]; omega)
      have HS := hid hstep
      clear hstep
      by_cases h0 : stOf st k = 0
      · have h0' : (stOf st k == 0) = true := by rw [beq_iff_eq]; exact h0
        have HZ := hid h0
        clear h0
        go_wp2
        go_round
        case rel =>
          refine ⟨k + 1, by omega, .inl (by omega), by go_num, ?_⟩
          rw [HS.out, if_pos HZ.out]
          go_num
        case measure => simp [intOf]; omega
      · have h0' : (stOf st k == 0) = false := by rw [beq_eq_false_iff_ne]; exact h0
        have HZ := hid h0
        clear h0
        go_wp2
        go_round
        case rel =>
          refine ⟨k + 1, by omega, .inl (by omega), by go_num, ?_⟩
          rw [HS.out, if_neg HZ.out]
          rfl
        case measure => simp [intOf]; omega
    · have hlt' : ¬ (k : Int) < n := by omega
      go_wp2
      go_ret
      have e : cntFree (st.take k) = cntFree st := by
        rcases hkn with h | h
        · rw [List.take_of_length_le (by rw [HL.out]; omega)]
        · subst h
          have hl := HL.out
          unfold cntFree
          rw [List.drop_of_length_le (by rw [List.length_take]; omega), List.drop_of_length_le (by omega)]
      rw [e]
      exact ⟨rfl, rfl⟩
end Go.Proofs.Ytambgimfbdecpaa
namespace Go.Proofs.Ytambgimfbdecpaa
open Go.RowKit
set_option linter.unusedVariables false

/-- The first k sheets by f. -/
def mapTo (f : Int × Int → Int × Int) (st : List (Int × Int)) (k : Nat) : List (Int × Int) := (st.take k).map f ++ st.drop k
theorem mapTo_zero (f : Int × Int → Int × Int) (st : List (Int × Int)) : mapTo f st 0 = st := by simp [mapTo]
theorem mapTo_all (f : Int × Int → Int × Int) (st : List (Int × Int)) (k : Nat) (h : st.length ≤ k) : mapTo f st k = st.map f := by
  unfold mapTo; rw [List.take_of_length_le h, List.drop_of_length_le h, List.append_nil]
theorem mapTo_length (f : Int × Int → Int × Int) (st : List (Int × Int)) (k : Nat) : (mapTo f st k).length = st.length := by
  unfold mapTo; rw [List.length_append, List.length_map, List.length_take, List.length_drop]; omega
theorem mapTo_get (f : Int × Int → Int × Int) (st : List (Int × Int)) (k : Nat) (hk : k < st.length) : (mapTo f st k)[k]'(by rw [mapTo_length]; exact hk) = st[k] := by
  unfold mapTo
  rw [List.getElem_append_right (by rw [List.length_map, List.length_take]; omega)]
  simp only [List.length_map, List.length_take, List.getElem_drop]
  congr 1
  omega
theorem mapTo_succ (f : Int × Int → Int × Int) (st : List (Int × Int)) (k : Nat) (hk : k < st.length) : mapTo f st (k + 1) = (mapTo f st k).set k (f st[k]) := by
  unfold mapTo
  rw [List.set_append_right _ _ (by rw [List.length_map, List.length_take]; omega), List.take_succ_eq_append_getElem hk, List.map_append, List.map_singleton, List.append_assoc]
  congr 1
  rw [List.length_map, List.length_take, Nat.min_eq_left (by omega), Nat.sub_self]
  conv => rhs; rw [List.drop_eq_getElem_cons hk]
  rfl
theorem mapTo_same (f : Int × Int → Int × Int) (st : List (Int × Int)) (k : Nat) (hk : k < st.length) (h : f st[k] = st[k]) : mapTo f st (k + 1) = mapTo f st k := by
  rw [mapTo_succ f st k hk, h]
  have h2 := List.set_getElem_self (i := k) (h := (by rw [mapTo_length]; exact hk : k < (mapTo f st k).length))
  rw [mapTo_get f st k hk] at h2
  exact h2

/-- What releaseUpTo does to a sheet. -/
def relF (g : Int) (x : Int × Int) : Int × Int := if x.1 = 4 ∧ x.2 ≤ g then (0, 0) else x

set_option maxRecDepth 100000 in
set_option maxHeartbeats 1000000 in
theorem releaseUpTo_any {w : World} {b gs n : Nat} {st : List (Int × Int)} (h : ShAt w b gs n st) (hne : gs ≠ b) (g : Int) :
    Calls Try.prog 93 #[.pointer (some ⟨b, 1, none⟩), .int .i64 g] w fun e w' => e = .returned (.tuple #[]) ∧ ShAt w' b gs n (st.map (relF g)) ∧ Kept [gs] w w' := by
  have hc := h.c
  have hm := h.max
  have HH := hid h
  have HL := hid h.len
  have HN := hid hne
  clear h hne
  go_enter Try.func93, Try.ntmps93
  go_wp2
  go_loopw [10] (fun q wr => ∃ k : Nat, k ≤ n ∧ q = .int .i64 k ∧ ShAt wr b gs n (mapTo (relF g) st k) ∧ Kept [gs] w wr) (fun q _ => n - (intOf q).toNat)
  case atStart => exact ⟨0, Nat.zero_le _, rfl, by rw [mapTo_zero]; exact HH.out, Kept.refl _ _⟩
  case round =>
    obtain ⟨k, hkn, rfl, hsh, hkp⟩ := hrel
    by_cases hlt : k < n
    · have hlt' : (k : Int) < n := by omega
      have hl : k < st.length := by rw [HL.out]; exact hlt
      have c1 := hsh.c
      obtain ⟨c2, c3⟩ := hsh.at_ k hlt
      have hf1 := hsh.free (k * 2)
      have hf2 := hsh.free (k * 2 + 1)
      rw [mapTo_get _ st k hl] at c2 c3
      obtain ⟨X, hX⟩ : ∃ X, X = st[k] := ⟨_, rfl⟩
      obtain ⟨x, y⟩ := X
      rw [← hX] at c2 c3
      simp only at c2 c3
      have HX := hid hX
      have HS := hid hsh
      clear hX hsh
      by_cases h1 : x = 4
      · have h1' : (x == 4) = true := by rw [beq_iff_eq]; exact h1
        by_cases h2 : y ≤ g
        · have e : mapTo (relF g) st (k + 1) = (mapTo (relF g) st k).set k (0, 0) := by
            rw [mapTo_succ _ st k hl, ← HX.out, relF, if_pos ⟨h1, h2⟩]
          have HE := hid e
          clear e h1
          go_wp2
          go_roundw
          case rel =>
            refine ⟨k + 1, by omega, by go_num, ?_, ?_⟩
            · rw [HE.out]; exact HS.out.set HN.out k hlt (0, 0)
            · exact hkp.trans (setSh_kept wr gs k (0, 0)) (fun _ _ h => h)
          case measure => simp [intOf]; omega
        · have e : mapTo (relF g) st (k + 1) = mapTo (relF g) st k := mapTo_same _ st k hl (by rw [← HX.out, relF, if_neg (fun h => h2 h.2)])
          have HE := hid e
          clear e h1
          go_wp2
          go_roundw
          case rel => exact ⟨k + 1, by omega, by go_num, by rw [HE.out]; exact HS.out, hkp⟩
          case measure => simp [intOf]; omega
      · have h1' : (x == 4) = false := by rw [beq_eq_false_iff_ne]; exact h1
        have e : mapTo (relF g) st (k + 1) = mapTo (relF g) st k := mapTo_same _ st k hl (by rw [← HX.out, relF, if_neg (fun h => h1 h.1)])
        have HE := hid e
        clear e h1
        go_wp2
        go_roundw
        case rel => exact ⟨k + 1, by omega, by go_num, by rw [HE.out]; exact HS.out, hkp⟩
        case measure => simp [intOf]; omega
    · have hlt' : ¬ (k : Int) < n := by omega
      have HS := hid hsh
      clear hsh
      go_wp2
      go_end0
      refine ⟨rfl, ?_, hkp⟩
      have := HS.out
      rw [mapTo_all _ _ _ (by rw [HL.out]; omega)] at this
      exact this

theorem cell_alloc {w : World} {p : Addr} {v : Value} (h : w.cell? p = some v) (O : Obj) : (w.alloc O).cell? p = some v := by
  rw [World.cell?_alloc_some _ _ _ (by simp [h]), h]
theorem ShAt.keep {w w' : World} {b gs n : Nat} {st : List (Int × Int)} (h : ShAt w b gs n st) {S : List Nat} (k : Kept S w w') (h1 : b ∉ S) (h2 : gs ∉ S) : ShAt w' b gs n st :=
  ⟨k.cell h.c h1, by rw [k.block gs (Array.getElem?_eq_some_iff.1 h.blk).1 h2]; exact h.blk, h.len, h.max⟩
theorem ShAt.alloc {w : World} {b gs n : Nat} {st : List (Int × Int)} (h : ShAt w b gs n st) (O : Obj) : ShAt (w.alloc O) b gs n st := h.keep (Kept.alloc [] w O) (by simp) (by simp)
/-- What turn does to a sheet. -/
def turnF (a : Int) (t : Int × Int) (x : Int × Int) : Int × Int := if x.1 = a then t else x

set_option maxRecDepth 100000 in
set_option maxHeartbeats 1000000 in
theorem turn_any {w : World} {b gs n : Nat} {st : List (Int × Int)} (h : ShAt w b gs n st) (hne : gs ≠ b) (a t1 t2 : Int) :
    Calls Try.prog 68 #[.pointer (some ⟨b, 1, none⟩), .int .i64 a, .agg #[.int .i64 t1, .int .i64 t2]] w fun e w' => e = .returned (.tuple #[]) ∧ ShAt w' b gs n (st.map (turnF a (t1, t2))) ∧ Kept [gs] w w' := by
  have hc := h.c
  have hm := h.max
  have hgs : gs < w.heap.size := (Array.getElem?_eq_some_iff.1 h.blk).1
  have HH := hid h
  have HL := hid h.len
  have HN := hid hne
  have hc' := fun O : Obj => cell_alloc hc O
  have HA := hid (h.alloc (.cells #[.int .i64 t1, .int .i64 t2] 118))
  clear h hne
  go_enter Try.func68, Try.ntmps68
  go_wp2
  go_loopw [12] (fun q wr => ∃ k : Nat, k ≤ n ∧ q = .int .i64 k ∧ ShAt wr b gs n (mapTo (turnF a (t1, t2)) st k) ∧ wr.heap[w.heap.size]? = some (.cells #[.int .i64 t1, .int .i64 t2] 118 (0, 0)) ∧ Kept [gs] w wr) (fun q _ => n - (intOf q).toNat)
  case atStart => exact ⟨0, Nat.zero_le _, rfl, by rw [mapTo_zero]; exact HA.out, heap_alloc_new _ _, Kept.alloc _ _ _⟩
  case round =>
    obtain ⟨k, hkn, rfl, hsh, hbx, hkp⟩ := hrel
    by_cases hlt : k < n
    · have hlt' : (k : Int) < n := by omega
      have hl : k < st.length := by rw [HL.out]; exact hlt
      have c1 := hsh.c
      obtain ⟨c2, c3⟩ := hsh.at_ k hlt
      have hf1 := hsh.free (k * 2)
      have hf2 := hsh.free (k * 2 + 1)
      rw [mapTo_get _ st k hl] at c2 c3
      obtain ⟨X, hX⟩ : ∃ X, X = st[k] := ⟨_, rfl⟩
      obtain ⟨x, y⟩ := X
      rw [← hX] at c2 c3
      simp only at c2 c3
      have HX := hid hX
      have HS := hid hsh
      have HBX := hid hbx
      have d0 : wr.cell? ⟨w.heap.size, 0, none⟩ = some (.int .i64 t1) := by simp [World.cell?, hbx]
      have d1 : wr.cell? ⟨w.heap.size, 1, none⟩ = some (.int .i64 t2) := by simp [World.cell?, hbx]
      clear hX hsh hbx
      by_cases h1 : x = a
      · have h1' : (x == a) = true := by rw [beq_iff_eq]; exact h1
        have e : mapTo (turnF a (t1, t2)) st (k + 1) = (mapTo (turnF a (t1, t2)) st k).set k (t1, t2) := by
          rw [mapTo_succ _ st k hl, ← HX.out, turnF, if_pos h1]
        have HE := hid e
        have n1 : ¬ gs = b := HN.out
        have n2 : ¬ b = gs := fun e => HN.out e.symm
        have n3 : ¬ gs = w.heap.size := by omega
        have n4 : ¬ w.heap.size = gs := by omega
        clear e h1
        go_wp2
        go_region_held3 (fun w' => w'.cell? ⟨b, 1, none⟩ = some (.slice (some ⟨gs, 0, none⟩) n n) ∧ w'.cell? ⟨w.heap.size, 0, none⟩ = some (.int .i64 t1) ∧ w'.cell? ⟨w.heap.size, 1, none⟩ = some (.int .i64 t2)) (first | go_keep) (fail)
        go_wp2
        go_roundw
        case rel =>
          refine ⟨k + 1, by omega, by go_num, ?_, ?_, ?_⟩
          · rw [HE.out]; exact (HS.out.set HN.out k hlt (t1, t2)).keep (Kept.drew [] _) (by simp) (by simp)
          · have := (setSh_kept wr gs k (t1, t2)).block w.heap.size (Array.getElem?_eq_some_iff.1 HBX.out).1 (by simpa using n4)
            exact this.trans HBX.out
          · exact (hkp.trans (setSh_kept wr gs k (t1, t2)) (fun _ _ h => h)).trans (Kept.drew [gs] _) (fun _ _ h => h)
        case measure => simp [intOf]; omega
      · have h1' : (x == a) = false := by rw [beq_eq_false_iff_ne]; exact h1
        have e : mapTo (turnF a (t1, t2)) st (k + 1) = mapTo (turnF a (t1, t2)) st k := mapTo_same _ st k hl (by rw [← HX.out, turnF, if_neg h1])
        have HE := hid e
        clear e h1
        go_wp2
        go_roundw
        case rel => exact ⟨k + 1, by omega, by go_num, by rw [HE.out]; exact HS.out, HBX.out, hkp⟩
        case measure => simp [intOf]; omega
    · have hlt' : ¬ (k : Int) < n := by omega
      have HS := hid hsh
      clear hsh
      go_wp2
      go_end0
      refine ⟨rfl, ?_, hkp⟩
      have := HS.out
      rw [mapTo_all _ _ _ (by rw [HL.out]; omega)] at this
      exact this
end Go.Proofs.Ytambgimfbdecpaa
