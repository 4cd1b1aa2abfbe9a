/- What this text holds: which names may be: the program's answer. -/
import Derived.Test.YtkmggkcipgfhdaaDoorM8
namespace Go.Proofs.YtkmggkcipgfhdaaDoor
open Go.RowKit
set_option linter.unusedVariables false
set_option linter.unusedSimpArgs false

/-- Strings lie in memory from a place on. -/
def SAt (w : World) (g o : Nat) (l : List (List UInt8)) : Prop := ∀ j p, l[j]? = some p → w.cell? ⟨g, o + j, none⟩ = some (.string (str p))
theorem SAt.later {w w' : World} {g o : Nat} {l : List (List UInt8)} (h : SAt w g o l) (hb : Below w.heap.size w w') : SAt w' g o l := fun j p hp => (hb.cell (World.block_lt_of_cell? w _ (h j p hp))).trans (h j p hp)
theorem sat_new (w : World) (l : List (List UInt8)) : SAt (w.alloc (.cells (sc l).toArray 9)) w.heap.size 0 l := by
  intro j p hp
  simp only [World.cell?, heap_alloc_new, Nat.zero_add]
  simp [sc, hp]
def rpB (l : List (List UInt8)) : Bool := decide (l.length ≤ 8) && l.all (fun p => !p.isEmpty)

theorem empty_eq (p : List UInt8) : ((str p).toList == (⟨#[]⟩ : ByteArray).toList) = p.isEmpty := by
  rw [Go.Lib.toList_data, Go.Lib.toList_data, str_data]
  cases p <;> rfl
theorem empty_eq2 (p : List UInt8) : ((str p).toList == []) = p.isEmpty := by
  rw [Go.Lib.toList_data, str_data]
  cases p <;> rfl

set_option maxRecDepth 100000 in
set_option maxHeartbeats 1000000 in
theorem rparts_any {w : World} {g o c : Nat} {l : List (List UInt8)} (h : SAt w g o l) (hl : l.length ≤ 1000000) :
    Calls Tryd.prog 50 #[.slice (some ⟨g, o, none⟩) l.length c] w fun e w' => e = .returned (.bool (rpB l)) ∧ w' = w := by
  have H := hid h
  clear h
  by_cases h8 : (8 : Int) < l.length
  · have HR : Hid (rpB l = false) := by unfold Hid rpB; rw [decide_eq_false (by omega)]; rfl
    go_enter Tryd.func50, Tryd.ntmps50
    go_wp2_with fail
    go_ret
    rw [HR.out]
    exact ⟨rfl, rfl⟩
  · go_enter Tryd.func50, Tryd.ntmps50
    go_wp2_with fail
    go_loop [10] (fun i => ∃ k : Nat, k ≤ l.length ∧ i = .int .i64 k ∧ (l.take k).all (fun p => !p.isEmpty) = true) (fun i => l.length - (intOf i).toNat)
    case atStart => exact ⟨0, by omega, rfl, by simp⟩
    case round =>
      obtain ⟨k, hk, rfl, ha⟩ := hrel
      have HA := hid ha
      clear ha
      by_cases hlt : k < l.length
      · have hlt' : (k : Int) < l.length := by omega
        have hc := H.out k l[k] (List.getElem?_eq_getElem hlt)
        have HT : Hid (l.take (k + 1) = l.take k ++ [l[k]]) := List.take_succ_eq_append_getElem hlt
        have HM : Hid (l[k] ∈ l) := List.getElem_mem hlt
        generalize l[k]'hlt = p at hc HT HM
        have e1 := empty_eq p
        have e2 := empty_eq2 p
        rcases Bool.eq_false_or_eq_true p.isEmpty with hp | hp
        · have HR : Hid (rpB l = false) := by
            unfold Hid rpB
            rw [show l.all (fun p => !p.isEmpty) = false from List.all_eq_false.2 ⟨p, HM.out, by simp [hp]⟩, Bool.and_false]
          rw [hp] at e1 e2
          clear hp
          go_wp2_with fail
          go_ret
          rw [HR.out]
          exact ⟨rfl, rfl⟩
        · have HP := hid hp
          rw [hp] at e1 e2
          clear hp
          go_wp2_with fail
          go_round
          case rel => exact ⟨k + 1, by omega, by go_num, by rw [HT.out, List.all_append, HA.out]; simp [HP.out]⟩
          case measure => simp [intOf]; omega
      · have HR : Hid (rpB l = true) := by
          unfold Hid rpB
          have := HA.out
          rw [List.take_of_length_le (by omega)] at this
          rw [this, decide_eq_true (by omega)]
          rfl
        go_wp2_with fail
        go_ret
        rw [HR.out]
        exact ⟨rfl, rfl⟩

/-- May this name be? -/
def rightP (l : List UInt8) : Bool := decide (1 ≤ l.length) && decide (l.length ≤ 40) && Go.Lib.validD l && (runes l).all mayR && rpB (parts l)

set_option maxRecDepth 100000 in
set_option maxHeartbeats 1000000 in
theorem right_any (s : ByteArray) {w : World} (h : Env w) (hs : s.size ≤ 100000) : Calls Tryd.prog 19 #[.string s] w fun e w' => e = .returned (.bool (rightP s.data.toList)) ∧ Below w.heap.size w w' := by
  have HE := hid h
  clear h
  by_cases h1 : (s.size : Int) < 1
  · have HR : Hid (rightP s.data.toList = false) := by
      unfold Hid rightP
      rw [← Go.Lib.size_eq, decide_eq_false (by omega : ¬ 1 ≤ s.size)]
      rfl
    go_enter Tryd.func19, Tryd.ntmps19
    go_wp2_with fail
    go_ret
    rw [HR.out]
    exact ⟨rfl, Below.refl _ _⟩
  · by_cases h40 : (40 : Int) < s.size
    · have HR : Hid (rightP s.data.toList = false) := by
        unfold Hid rightP
        rw [← Go.Lib.size_eq, decide_eq_false (by omega : ¬ s.size ≤ 40)]
        simp
      go_enter Tryd.func19, Tryd.ntmps19
      go_wp2_with fail
      go_ret
      rw [HR.out]
      exact ⟨rfl, Below.refl _ _⟩
    · have HR0 : Hid (rightP s.data.toList = (Go.Lib.validD s.data.toList && (runes s.data.toList).all mayR && rpB (parts s.data.toList))) := by
        unfold Hid rightP
        rw [← Go.Lib.size_eq, decide_eq_true (by omega : 1 ≤ s.size), decide_eq_true (by omega : s.size ≤ 40)]
        simp
      go_enter Tryd.func19, Tryd.ntmps19
      go_wp2_with fail
      refine (valid_any s HE.out (by omega)).mono ?_
      rintro e w1 ⟨rfl, hb1⟩
      have HB1 := hid hb1
      clear hb1
      rcases Bool.eq_false_or_eq_true (Go.Lib.validD s.data.toList) with hv | hv
      · have HV := hid hv
        rw [hv]
        clear hv
        go_wp2_with fail
        go_loopw [4] (fun _ wr => ∃ pos : Nat, wr = w1.iter s pos ∧ (runesAt s pos).all mayR = (runesAt s 0).all mayR) (fun _ wr => s.size - wr.iterPos w1.heap.size)
        case atStart => exact ⟨0, rfl, rfl⟩
        case round =>
          obtain ⟨pos, rfl, hp⟩ := hrel
          have HP := hid hp
          clear hp
          by_cases hlt : pos < s.size
          · have hnx : ∀ ty, (Instr.next (.pointer (some ⟨w1.heap.size, 0, none⟩)) true ty).run Tryd.prog (w1.iter s pos) = _ := fun ty => run_next_any w1 s pos ty hlt
            have hrw := Go.Lib.width_pos s pos
            have HStep := hid (runesAt_step s pos hlt)
            generalize (Utf8.decode s pos).1 = r at *
            generalize (Utf8.decode s pos).2 = n at *
            go_wp2_with fail
            refine (may_any r _).mono ?_
            rintro e w3 ⟨rfl, rfl⟩
            rcases Bool.eq_false_or_eq_true (mayR r) with hm | hm
            · have HM := hid hm
              rw [hm]
              clear hm
              go_wp2_with fail
              go_roundw
              case rel => exact ⟨pos + n, rfl, by rw [← HP.out, HStep.out, List.all_cons, HM.out, Bool.true_and]⟩
              case measure => simp; omega
            · have HM := hid hm
              rw [hm]
              clear hm
              go_wp2_with fail
              go_ret
              have e1 : (runes s.data.toList).all mayR = false := by
                have := HP.out
                rw [HStep.out, List.all_cons, HM.out, Bool.false_and] at this
                exact this.symm
              rw [HR0.out, e1, HV.out]
              exact ⟨rfl, HB1.out.alloc HB1.out.size _⟩
          · have hnx : ∀ ty, (Instr.next (.pointer (some ⟨w1.heap.size, 0, none⟩)) true ty).run Tryd.prog (w1.iter s pos) = _ := fun ty => run_next_end w1 s pos ty hlt
            have HE2 : Hid (Env (w1.iter s pos)) := HE.out.later (HB1.out.alloc HB1.out.size _)
            go_wp2_with fail
            refine (parts_any s HE2.out (by omega)).mono ?_
            rintro e w3 ⟨rfl, rfl⟩
            have hl : (parts s.data.toList).length ≤ 1000000 := by
              rw [parts_len]
              have := List.count_le_length (a := (47 : UInt8)) (l := s.data.toList)
              rw [← Go.Lib.size_eq] at this
              omega
            have HS := hid (sat_new (w1.iter s pos) (parts s.data.toList))
            have HBz : Hid (Below w.heap.size w ((w1.iter s pos).alloc (.cells (sc (parts s.data.toList)).toArray 9))) := (HB1.out.alloc HB1.out.size _).alloc (by have := HB1.out.size; simp [World.iter]; omega) _
            generalize (w1.iter s pos).alloc (.cells (sc (parts s.data.toList)).toArray 9) = W at HS HBz ⊢
            go_wp2_with fail
            refine (rparts_any HS.out hl).mono ?_
            rintro e w4 ⟨rfl, rfl⟩
            go_wp2_with fail
            go_ret
            have e1 : (runes s.data.toList).all mayR = true := by
              have := HP.out
              rw [runesAt_end s pos hlt] at this
              exact this.symm
            rw [HR0.out, e1, HV.out]
            exact ⟨rfl, HBz.out⟩
      · have HR : Hid (rightP s.data.toList = false) := by rw [Hid, HR0.out, hv]; rfl
        rw [hv]
        clear hv
        go_wp2_with fail
        go_ret
        rw [HR.out]
        exact ⟨rfl, HB1.out⟩
end Go.Proofs.YtkmggkcipgfhdaaDoor
