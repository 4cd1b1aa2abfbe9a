/- What this text holds: lists of strings: are two the same; joined; the names above one. -/
import Derived.Test.YtkmggkcipgfhdaaDoorM12
namespace Go.Proofs.YtkmggkcipgfhdaaDoor
open Go.RowKit
set_option linter.unusedVariables false
set_option linter.unusedSimpArgs false

/-- A slice of strings. -/
def SL (w : World) (v : Value) (l : List (List UInt8)) : Prop := ∃ a c, v = .slice a l.length c ∧ l.length ≤ c ∧ (l = [] ∨ ∃ g o, a = some ⟨g, o, none⟩ ∧ SAt w g o l)
theorem SL.later {w w' : World} {v : Value} {l : List (List UInt8)} (h : SL w v l) (hb : Below w.heap.size w w') : SL w' v l := by
  obtain ⟨a, c, rfl, hc, h⟩ := h
  refine ⟨a, c, rfl, hc, ?_⟩
  rcases h with h | ⟨g, o, rfl, h⟩
  · exact .inl h
  · exact .inr ⟨g, o, rfl, h.later hb⟩
theorem sl_parts (w : World) (l : List (List UInt8)) : SL (w.alloc (.cells (sc l).toArray 9)) (.slice (some ⟨w.heap.size, 0, none⟩) l.length l.length) l :=
  ⟨_, _, rfl, Nat.le_refl _, .inr ⟨_, _, rfl, sat_new w l⟩⟩
theorem SL.at {w : World} {a : Option Addr} {n c : Nat} {l : List (List UInt8)} (h : SL w (.slice a n c) l) (k : Nat) (hk : k < l.length) : ∃ g o, a = some ⟨g, o, none⟩ ∧ w.cell? ⟨g, o + k, none⟩ = some (.string (str l[k])) := by
  obtain ⟨a', c', e, _, h⟩ := h
  cases e
  rcases h with h | ⟨g, o, rfl, h⟩
  · subst h; simp at hk
  · exact ⟨g, o, rfl, h k _ (List.getElem?_eq_getElem hk)⟩
theorem str_beq (p q : List UInt8) : ((str p).toList == (str q).toList) = decide (p = q) := by
  rw [Go.Lib.toList_data, Go.Lib.toList_data, str_data, str_data, Bool.eq_iff_iff]
  simp

set_option maxRecDepth 100000 in
set_option maxHeartbeats 1000000 in
theorem same_any {w : World} {v1 v2 : Value} {l1 l2 : List (List UInt8)} (h1 : SL w v1 l1) (h2 : SL w v2 l2) (hn : l1.length ≤ 100000) (hn2 : l2.length ≤ 100000) :
    Calls Tryd.prog 23 #[v1, v2] w fun e w' => e = .returned (.bool (decide (l1 = l2))) ∧ Below w.heap.size w w' := by
  obtain ⟨a1, c1, rfl, hc1, _⟩ := id h1
  obtain ⟨a2, c2, rfl, hc2, _⟩ := id h2
  have H1 := hid h1
  have H2 := hid h2
  clear h1 h2 hc1 hc2
  by_cases hl : l1.length = l2.length
  · have HL := hid hl
    have hq : (((l1.length : Nat) : Int) != ((l2.length : Nat) : Int)) = false := by simp; omega
    generalize hm1 : l1.length = n1 at *
    generalize hm2 : l2.length = n2 at *
    have HM1 := hid hm1
    have HM2 := hid hm2
    clear hm1 hm2 hl
    go_enter Tryd.func23, Tryd.ntmps23
    go_wp2_with fail
    go_loopw [5] (fun i wr => ∃ k : Nat, k ≤ n1 ∧ i = .int .i64 k ∧ l1.take k = l2.take k ∧ Below w.heap.size w wr) (fun i _ => n1 - (intOf i).toNat)
    case atStart => exact ⟨0, by omega, rfl, by simp, Below.refl _ _⟩
    case round =>
      obtain ⟨k, hk, rfl, ht, hb⟩ := hrel
      have HT := hid ht
      have HB := hid hb
      clear ht hb
      by_cases hlt : k < n1
      · have hk1 : k < l1.length := by rw [HM1.out]; exact hlt
        have hk2 : k < l2.length := by rw [HM2.out, ← HL.out]; exact hlt
        have hlt' : (k : Int) < n1 := by omega
        have hlt2 : (k : Int) < n2 := by have := HL.out; omega
        have hlt3 : k < n2 := by have := HL.out; omega
        obtain ⟨g1, o1, rfl, e1⟩ := (H1.out.later HB.out).at k hk1
        obtain ⟨g2, o2, rfl, e2⟩ := (H2.out.later HB.out).at k hk2
        have HS1 : Hid (l1.take (k + 1) = l1.take k ++ [l1[k]]) := List.take_succ_eq_append_getElem hk1
        have HS2 : Hid (l2.take (k + 1) = l2.take k ++ [l2[k]]) := List.take_succ_eq_append_getElem hk2
        have HG1 : Hid (l1[k]? = some l1[k]) := List.getElem?_eq_getElem hk1
        have HG2 : Hid (l2[k]? = some l2[k]) := List.getElem?_eq_getElem hk2
        generalize l1[k]'hk1 = p at *
        generalize l2[k]'hk2 = q at *
        have hpq := str_beq p q
        by_cases hc : p = q
        · subst hc
          have hpq2 : ((str p).toList != (str p).toList) = false := by simp
          clear hpq
          go_wp2_with fail
          go_quiet (fail)
          go_wp2_with fail
          go_roundw
          case rel => exact ⟨k + 1, by omega, by go_num, by rw [HS1.out, HS2.out, HT.out], below_drewN HB.out _⟩
          case measure => simp [intOf]; omega
        · rw [decide_eq_false hc] at hpq
          have hpq2 : ((str p).toList != (str q).toList) = true := by rw [bne, hpq]; rfl
          have HD : Hid (decide (l1 = l2) = false) := by
            rw [Hid, decide_eq_false_iff_not]
            intro e
            have := HG1.out
            rw [e, HG2.out] at this
            exact hc (Option.some.inj this).symm
          clear hc
          go_wp2_with fail
          go_quiet (fail)
          go_wp2_with fail
          go_ret
          rw [HD.out]
          exact ⟨rfl, below_drewN HB.out _⟩
      · have HD : Hid (decide (l1 = l2) = true) := by
          have := HT.out
          rw [List.take_of_length_le (by rw [HM1.out]; omega), List.take_of_length_le (by rw [HM2.out]; have := HL.out; omega)] at this
          rw [Hid, decide_eq_true_eq]
          exact this
        go_wp2_with fail
        go_ret
        rw [HD.out]
        exact ⟨rfl, HB.out⟩
  · have hq : (((l1.length : Nat) : Int) != ((l2.length : Nat) : Int)) = true := by simp; omega
    have HD : Hid (decide (l1 = l2) = false) := by
      rw [Hid, decide_eq_false_iff_not]
      intro e
      exact hl (by rw [e])
    clear hl
    go_enter Tryd.func23, Tryd.ntmps23
    go_wp2_with fail
    go_ret
    rw [HD.out]
    exact ⟨rfl, Below.refl _ _⟩

/-- Parts joined. -/
def joinP : List (List UInt8) → List UInt8
  | [] => []
  | [x] => x
  | x :: y :: r => x ++ 47 :: joinP (y :: r)
theorem joinP_cons {x : List UInt8} {l : List (List UInt8)} (h : l ≠ []) : joinP (x :: l) = x ++ 47 :: joinP l := by
  cases l with
  | nil => exact absurd rfl h
  | cons y r => rfl
theorem join_eq (l : List (List UInt8)) : Go.Lib.join l [47] = joinP l := by
  match l with
  | [] => rfl
  | [x] => exact Go.Lib.join_one x [47]
  | x :: y :: r =>
    rw [joinP, ← join_eq (y :: r), Go.Lib.join_cons, Go.Lib.join_cons]
    simp [Go.Lib.joinTail]
theorem map_str (l : List (List UInt8)) : (l.map str).map (fun x => x.data.toList) = l := by
  rw [List.map_map]
  conv => rhs; rw [← List.map_id l]
  apply List.map_congr_left
  intro x _
  rfl

set_option maxRecDepth 100000 in
set_option maxHeartbeats 1000000 in
theorem join_any {w : World} {v : Value} {l : List (List UInt8)} (h : SL w v l) (hl : (joinP l).length ≤ 1000000) (hn : l.length ≤ 100000) :
    Calls Tryd.prog 25 #[v] w fun e w' => e = .returned (.string (str (joinP l))) ∧ Below w.heap.size w w' := by
  have HC : Hid (Calls Tryd.prog 53 #[v, .string ⟨#[47]⟩] w fun e w' => e = .returned (.string (str (joinP l))) ∧ Below w.heap.size w w') := by
    obtain ⟨a, c, rfl, hc, h⟩ := h
    rcases h with h | ⟨g, o, rfl, h⟩
    · subst h
      refine (Tryd.strings_Join_none a c ⟨#[47]⟩ w).mono ?_
      rintro e w1 ⟨rfl, rfl⟩
      exact ⟨rfl, Below.refl _ _⟩
    · by_cases hne : l = []
      · subst hne
        refine (Tryd.strings_Join_none _ c ⟨#[47]⟩ w).mono ?_
        rintro e w1 ⟨rfl, rfl⟩
        exact ⟨rfl, Below.refl _ _⟩
      · have hpos := List.length_pos_iff.2 hne
        have hlt : g < w.heap.size := World.block_lt_of_cell? w _ (h 0 _ (List.getElem?_eq_getElem hpos))
        have := Tryd.strings_Join g o c (l.map str) ⟨#[47]⟩ w (fun j x hx => by
          rw [List.getElem?_map, Option.map_eq_some_iff] at hx
          obtain ⟨p, hp, rfl⟩ := hx
          exact h j p hp) hlt (by rw [List.length_map]; omega) (by rw [List.length_map]; exact hc) (by
            rw [show (⟨#[47]⟩ : ByteArray).data.toList = [47] from rfl, map_str, join_eq]; omega)
        rw [show (⟨#[47]⟩ : ByteArray).data.toList = [47] from rfl, map_str, join_eq, List.length_map] at this
        exact this
  obtain ⟨a, c, rfl, hc, _⟩ := h
  go_enter Tryd.func25, Tryd.ntmps25
  go_wp2_with fail
  refine HC.out.mono ?_
  rintro e w1 ⟨rfl, hb⟩
  have HB := hid hb
  clear hb
  go_wp2_with fail
  go_ret
  exact ⟨rfl, HB.out⟩
end Go.Proofs.YtkmggkcipgfhdaaDoor
