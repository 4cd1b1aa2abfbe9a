/- What this text holds: the chapter's examples. -/
import Derived.Test.YtkmggkcipgfhdaaDoorM11
namespace Go.Proofs.YtkmggkcipgfhdaaDoor
open Go.RowKit
set_option linter.unusedVariables false
set_option linter.unusedSimpArgs false

theorem al1 : encS [97, 38, 98] = [97, 38, 45, 98] ∧ Go.Lib.validD [97, 38, 98] = true := by decide +kernel
theorem al2 : encS [195, 169] = [38, 65, 79, 107, 45] ∧ Go.Lib.validD [195, 169] = true := by decide +kernel
theorem al3 : loose 5 [38, 65, 79, 107, 45] = some [195, 169] := by decide +kernel
theorem al4 : movedP [97, 47, 98] [97] [120] = ([120, 47, 98], true) := by decide +kernel
theorem al5 : normP [105, 110, 66, 111, 120, 47, 97] = [73, 78, 66, 79, 88, 47, 97] := by decide +kernel
theorem al6 : rightP [97] = true := by decide +kernel
theorem al7 : mB [97, 37] [97, 98, 47, 99] = false := by
  rw [mB_false]
  rintro ⟨a, b, e, h1, h2⟩
  have ha : a = [97] := h1
  subst ha
  have hb : b = [98, 47, 99] := by simpa using e.symm
  subst hb
  have h3 := (Mt.one 37 [98, 47, 99]).1 h2
  exact absurd h3 (by unfold one; simp)
theorem al8 : mB [97, 42] [97, 98, 47, 99] = true := by
  rw [mB_true]
  refine ⟨[97], [98, 47, 99], rfl, rfl, (Mt.one 42 _).2 ?_⟩
  unfold one
  simp
theorem ev1 : encV ⟨#[97, 38, 98]⟩ = .tuple #[.string ⟨#[97, 38, 45, 98]⟩, .int .i64 0] := by
  unfold encV
  rw [show (⟨#[97, 38, 98]⟩ : ByteArray).data.toList = [97, 38, 98] from rfl, if_pos al1.2, al1.1]
  rfl
theorem ev2 : encV ⟨#[195, 169]⟩ = .tuple #[.string ⟨#[38, 65, 79, 107, 45]⟩, .int .i64 0] := by
  unfold encV
  rw [show (⟨#[195, 169]⟩ : ByteArray).data.toList = [195, 169] from rfl, if_pos al2.2, al2.1]
  rfl
theorem ev3 : decV ⟨#[38, 65, 79, 107, 45]⟩ = .tuple #[.string ⟨#[195, 169]⟩, .int .i64 0] := by
  unfold decV
  rw [show (⟨#[38, 65, 79, 107, 45]⟩ : ByteArray).data.toList = [38, 65, 79, 107, 45] from rfl, show (⟨#[38, 65, 79, 107, 45]⟩ : ByteArray).size = 5 from rfl, al3]
  simp only [al2.1, al2.2, and_self, if_true]
  rfl

set_option maxRecDepth 100000 in
set_option maxHeartbeats 4000000 in
theorem alive_any {w : World} (h : Env w) : Calls Tryd.prog 10 #[] w fun e w' => e = .returned (.bool true) ∧ Below w.heap.size w w' := by
  have HE := hid h
  clear h
  go_enter Tryd.func10, Tryd.ntmps10
  go_wp2_with fail
  refine (enc_any ⟨#[97, 38, 98]⟩ HE.out (by decide)).mono ?_
  rw [ev1]
  rintro e w1 ⟨rfl, hb⟩
  have B1 := hid hb
  clear hb
  go_wp2_with fail
  refine (enc_any ⟨#[195, 169]⟩ (HE.out.later B1.out) (by decide)).mono ?_
  rw [ev2]
  rintro e w2 ⟨rfl, hb⟩
  have B2 := hid (B1.out.trans (hb.mono B1.out.size))
  clear hb
  go_wp2_with fail
  refine (dec_any ⟨#[38, 65, 79, 107, 45]⟩ (HE.out.later B2.out) (by decide)).mono ?_
  rw [ev3]
  rintro e w3 ⟨rfl, hb⟩
  have B3 := hid (B2.out.trans (hb.mono B2.out.size))
  clear hb
  go_wp2_with fail
  refine (moved_any ⟨#[97, 47, 98]⟩ ⟨#[97]⟩ ⟨#[120]⟩ w3 (by decide) (by decide) (by decide)).mono ?_
  rw [show movedP (⟨#[97, 47, 98]⟩ : ByteArray).data.toList (⟨#[97]⟩ : ByteArray).data.toList (⟨#[120]⟩ : ByteArray).data.toList = ([120, 47, 98], true) from al4, show str ([120, 47, 98], true).1 = ⟨#[120, 47, 98]⟩ from rfl]
  rintro e w4 ⟨rfl, rfl⟩
  go_wp2_with (first | (go_at_call 15; refine (no_any _ _).mono ?_; rintro e wn ⟨rfl, rfl⟩))
  refine (norm_any ⟨#[105, 110, 66, 111, 120, 47, 97]⟩ (HE.out.later B3.out) (by decide)).mono ?_
  rw [show normP (⟨#[105, 110, 66, 111, 120, 47, 97]⟩ : ByteArray).data.toList = [73, 78, 66, 79, 88, 47, 97] from al5, show str [73, 78, 66, 79, 88, 47, 97] = ⟨#[73, 78, 66, 79, 88, 47, 97]⟩ from rfl]
  rintro e w5 ⟨rfl, hb⟩
  have B5 := hid (B3.out.trans (hb.mono B3.out.size))
  clear hb
  go_wp2_with fail
  refine (match_any ⟨#[97, 37]⟩ ⟨#[97, 98, 47, 99]⟩ w5 (by decide) (by decide)).mono ?_
  rw [show mB (⟨#[97, 37]⟩ : ByteArray).data.toList (⟨#[97, 98, 47, 99]⟩ : ByteArray).data.toList = false from al7]
  rintro e w6 ⟨rfl, hb⟩
  have B6 := hid (B5.out.trans (hb.mono B5.out.size))
  clear hb
  go_wp2_with fail
  refine (match_any ⟨#[97, 42]⟩ ⟨#[97, 98, 47, 99]⟩ w6 (by decide) (by decide)).mono ?_
  rw [show mB (⟨#[97, 42]⟩ : ByteArray).data.toList (⟨#[97, 98, 47, 99]⟩ : ByteArray).data.toList = true from al8]
  rintro e w7 ⟨rfl, hb⟩
  have B7 := hid (B6.out.trans (hb.mono B6.out.size))
  clear hb
  go_wp2_with fail
  refine (right_any ⟨#[97]⟩ (HE.out.later B7.out) (by decide)).mono ?_
  rw [show rightP (⟨#[97]⟩ : ByteArray).data.toList = true from al6]
  rintro e w8 ⟨rfl, hb⟩
  have B8 := hid (B7.out.trans (hb.mono B7.out.size))
  clear hb
  go_wp2_with fail
  go_ret
  exact ⟨rfl, B8.out⟩
end Go.Proofs.YtkmggkcipgfhdaaDoor
