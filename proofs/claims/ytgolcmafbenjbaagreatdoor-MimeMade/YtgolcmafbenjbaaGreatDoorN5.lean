/- What this text holds: a message's bytes between two places; borders: the program's calls. -/
import Derived.Test.YtgolcmafbenjbaaGreatDoorN4
import Derived.Test.YtgolcmafbenjbaaGreatDoorK2
namespace Go.Proofs.YtgolcmafbenjbaaGreatDoor
open Go.RowKit
set_option linter.unusedVariables false
set_option linter.unusedSimpArgs false

def msgV (m : Bs) : Value := .agg #[.string (str m)]
def spV (a b : Nat) : Value := .agg #[.int .i64 a, .int .i64 b]
theorem below2 (w : World) (o o' : Obj) : Below w.heap.size w ((w.alloc o).alloc o') := ((Below.refl _ _).alloc (Nat.le_refl _) _).alloc (by simp) _
set_option maxRecDepth 100000 in
set_option maxHeartbeats 1000000 in
theorem in_any (m : Bs) (a b : Nat) (w : World) (h1 : a ≤ b) (h2 : b ≤ m.length) (hm : m.length ≤ 1000000) :
    Calls Tryz.prog 49 #[msgV m, spV a b] w fun e w' => e = .returned (.string (str (inn m a b))) ∧ Below w.heap.size w w' := by
  have hsz := str_size m
  have h1' : (a : Int) ≤ b := by omega
  have h2' : (b : Int) ≤ m.length := by omega
  have HX : Hid ((str m).extract a b = str (inn m a b)) := mid_str m a b
  have HB := hid (below2 w (.cells #[.string (str m)] 55) (.cells #[.int .i64 a, .int .i64 b] 62))
  unfold msgV spV
  clear h1 h2
  go_enter Tryz.func49, Tryz.ntmps49
  go_wp2_with fail
  go_ret
  exact ⟨by rw [← HX.out]; rfl, HB.out⟩

set_option maxRecDepth 100000 in
set_option maxHeartbeats 1000000 in
theorem endl_any (l : Bs) (w : World) (hl : l.length ≤ 10000000) : Calls Tryz.prog 105 #[.string (str l)] w fun e w' => e = .returned (.string (str (bare l))) ∧ w' = w := by
  have hsz := str_size l
  have C := Tryz.strings_CutSuffix (str l) (str [10]) w (by omega)
  rw [str_data, str_data, suf_one, trimSuf_one] at C
  by_cases h1 : l.getLast? = some 10
  · rw [if_pos h1, show decide (l.getLast? = some 10) = true by simp [h1]] at C
    have C2 := Tryz.strings_TrimSuffix (str l.dropLast) (str [13]) w (by have := str_size l.dropLast; simp at this; omega)
    rw [str_data, str_data, trimSuf_one] at C2
    have HE : Hid (bare l = if l.dropLast.getLast? = some 13 then l.dropLast.dropLast else l.dropLast) := by unfold bare; rw [if_pos h1]; rfl
    rw [HE.out]
    have HC := hid C
    have HC2 := hid C2
    clear C C2 h1 HE
    generalize (if l.dropLast.getLast? = some 13 then l.dropLast.dropLast else l.dropLast) = x at *
    go_enter Tryz.func105, Tryz.ntmps105
    go_wp2_with fail
    refine HC.out.mono ?_
    rintro e w1 ⟨rfl, rfl⟩
    go_wp2_with fail
    refine HC2.out.mono ?_
    rintro e w1 ⟨rfl, rfl⟩
    go_wp2_with fail
    go_ret
    exact ⟨rfl, rfl⟩
  · rw [if_neg h1, show decide (l.getLast? = some 10) = false by simp [h1]] at C
    have HE : Hid (bare l = l) := by unfold bare; rw [if_neg h1]; rfl
    rw [HE.out]
    have HC := hid C
    clear C h1 HE
    go_enter Tryz.func105, Tryz.ntmps105
    go_wp2_with fail
    refine HC.out.mono ?_
    rintro e w1 ⟨rfl, rfl⟩
    go_wp2_with fail
    go_ret
    exact ⟨rfl, rfl⟩

set_option maxRecDepth 100000 in
set_option maxHeartbeats 1000000 in
theorem blank_any (l : Bs) (w : World) (hl : l.length ≤ 10000000) : Calls Tryz.prog 104 #[.string (str l)] w fun e w' => e = .returned (.bool (blankM l)) ∧ Below w.heap.size w w' := by
  have HC := hid (endl_any l w hl)
  have hbl := bare_len l
  have C := Tryz.strings_Trim_set (str (bare l)) ⟨#[9, 32]⟩ w (by rw [str_size]; omega) (by decide) (ascii_of_all (by decide))
  rw [str_data, show ({ data := #[9, 32] } : ByteArray).data.toList = [9, 32] from rfl] at C
  have HE : Hid (blankM l = decide (Go.Lib.trimS (bare l) [9, 32] = [])) := rfl
  rw [HE.out]
  have hq := eqL (Go.Lib.trimS (bare l) [9, 32]) []
  generalize Go.Lib.trimS (bare l) [9, 32] = x at *
  have HC2 : Hid (Calls Tryz.prog 98 #[.string (str (bare l)), .string ⟨#[9, 32]⟩] w fun e w' => e = .returned (.string (str x)) ∧ Below w.heap.size w w') := C
  clear HE C
  go_enter Tryz.func104, Tryz.ntmps104
  go_wp2_with fail
  refine HC.out.mono ?_
  rintro e w1 ⟨rfl, rfl⟩
  go_wp2_with fail
  refine HC2.out.mono ?_
  rintro e w2 ⟨rfl, hb⟩
  have HB := hid hb
  clear hb
  go_wp2_with fail
  go_ret
  exact ⟨by simp [hq], HB.out⟩

theorem trimPre (l p : Bs) (h : p.isPrefixOf l = true) : Go.Lib.trimPrefix l p = l.drop p.length := by
  unfold Go.Lib.trimPrefix Go.Lib.hasPrefix
  rw [h]
  rfl
theorem border_no {line beg : Bs} (h : beg.isPrefixOf line = false) : borderM line beg = (false, false) := by unfold borderM; rw [h]; rfl
theorem border_yes {line beg : Bs} (h : beg.isPrefixOf line = true) : borderM line beg = (blankM (line.drop beg.length), [45, 45].isPrefixOf (line.drop beg.length) && blankM ((line.drop beg.length).drop 2)) := by unfold borderM; rw [h]; rfl
set_option maxRecDepth 100000 in
set_option maxHeartbeats 2000000 in
theorem border_any (line beg : Bs) (w : World) (hl : line.length ≤ 10000000) : Calls Tryz.prog 87 #[.string (str line), .string (str beg)] w fun e w' => e = .returned (.tuple #[.bool (borderM line beg).1, .bool (borderM line beg).2]) ∧ Below w.heap.size w w' := by
  have C := Tryz.strings_CutPrefix (str line) (str beg) w
  rw [str_data, str_data] at C
  by_cases h : beg.isPrefixOf line = true
  · rw [trimPre _ _ h, show Go.Lib.hasPrefix line beg = true from h] at C
    rw [border_yes h]
    have hdl : (line.drop beg.length).length ≤ 10000000 := by simp; omega
    generalize line.drop beg.length = x at *
    have HC := hid C
    clear C h
    have C2 := Tryz.strings_CutPrefix (str x) ⟨#[45, 45]⟩ w
    rw [str_data, show ({ data := #[45, 45] } : ByteArray).data.toList = [45, 45] from rfl] at C2
    have HB1 := hid (blank_any x w hdl)
    by_cases h2 : [45, 45].isPrefixOf x = true
    · rw [trimPre _ _ h2, show Go.Lib.hasPrefix x [45, 45] = true from h2] at C2
      rw [h2]
      have hd2 : (x.drop 2).length ≤ 10000000 := by simp; omega
      have HB2 := hid (fun W => blank_any (x.drop 2) W hd2)
      rw [show ([45, 45] : Bs).length = 2 from rfl] at C2
      generalize x.drop 2 = y at *
      have HC2 := hid C2
      clear C2 h2
      go_enter Tryz.func87, Tryz.ntmps87
      go_wp2_with fail
      refine HC.out.mono ?_
      rintro e w1 ⟨rfl, rfl⟩
      go_wp2_with fail
      refine HC2.out.mono ?_
      rintro e w1 ⟨rfl, rfl⟩
      go_wp2_with fail
      refine HB1.out.mono ?_
      rintro e w2 ⟨rfl, hb⟩
      have HB := hid hb
      clear hb
      go_wp2_with fail
      refine (HB2.out _).mono ?_
      rintro e w3 ⟨rfl, hb⟩
      have HB3 := hid (HB.out.trans (hb.mono HB.out.size))
      clear hb
      go_wp2_with fail
      go_ret2
      exact ⟨by simp, HB3.out⟩
    · have h3 : [45, 45].isPrefixOf x = false := Bool.eq_false_iff.2 h2
      rw [show Go.Lib.hasPrefix x [45, 45] = false from h3] at C2
      rw [h3]
      have HC2 := hid C2
      clear C2 h2 h3
      go_enter Tryz.func87, Tryz.ntmps87
      go_wp2_with fail
      refine HC.out.mono ?_
      rintro e w1 ⟨rfl, rfl⟩
      go_wp2_with fail
      refine HC2.out.mono ?_
      rintro e w1 ⟨rfl, rfl⟩
      go_wp2_with fail
      refine HB1.out.mono ?_
      rintro e w2 ⟨rfl, hb⟩
      have HB := hid hb
      clear hb
      go_wp2_with fail
      go_ret2
      exact ⟨by simp, HB.out⟩
  · have h2 : beg.isPrefixOf line = false := Bool.eq_false_iff.2 h
    rw [show Go.Lib.hasPrefix line beg = false from h2] at C
    rw [border_no h2]
    have HC := hid C
    clear C h h2
    go_enter Tryz.func87, Tryz.ntmps87
    go_wp2_with fail
    refine HC.out.mono ?_
    rintro e w1 ⟨rfl, rfl⟩
    go_wp2_with fail
    go_ret2
    exact ⟨rfl, Below.refl _ _⟩
end Go.Proofs.YtgolcmafbenjbaaGreatDoor
