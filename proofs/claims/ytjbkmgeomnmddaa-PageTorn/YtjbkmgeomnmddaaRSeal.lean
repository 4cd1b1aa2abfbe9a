/- What this text holds: the document's own sectors. -/
import Derived.Test.YtjbkmgeomnmddaaRef
namespace Go.Proofs.Ytjbkmgeomnmddaa
open Go.RowKit
set_option linter.unusedVariables false

theorem size_num (k : Nat) (x : Int) : (strOf (numB k x)).size = k := by rw [strOf_size, numB_length]
theorem size_rep (n : Nat) : (strOf (rep n 0)).size = n := by rw [strOf_size, rep_length]

theorem byt_bare (kind gen : Int) (c : List Int) (hc : Byt c) : Byt (bareL kind gen c) :=
  byt_append (byt_head _ _ _) (byt_append (byt_rep _) (byt_append hc (byt_rep _)))
theorem str_head (kind gen : Int) (n : Nat) : (⟨#[72, 118]⟩ : ByteArray) ++ strOf (numB 1 kind) ++ ⟨#[0]⟩ ++ strOf (numB 2 n) ++ strOf (numB 6 gen) = strOf (headL kind gen n) := by
  unfold headL
  rw [strOf_append, strOf_append, strOf_append, strOf_append, show strOf [72, 118] = ⟨#[72, 118]⟩ by kernel_rfl, show strOf (numB 1 0) = ⟨#[0]⟩ by kernel_rfl]
theorem str_bare (kind gen : Int) (s : ByteArray) : strOf (headL kind gen s.size) ++ strOf (rep 4 0) ++ (strOf (rep 4 0) ++ s ++ strOf (rep (492 - s.size) 0)) = strOf (bareL kind gen (bOf s)) := by
  unfold bareL
  rw [show rep 8 0 = rep 4 0 ++ rep 4 0 from rfl]
  simp only [strOf_append, bOf_length, strOf_bOf, ByteArray.append_assoc]
theorem str_seal (kind gen : Int) (s : ByteArray) : strOf (headL kind gen s.size) ++ strOf (numB 4 (sumL (bareL kind gen (bOf s)))) ++ (strOf (rep 4 0) ++ s ++ strOf (rep (492 - s.size) 0)) = strOf (sealL kind gen (bOf s)) := by
  unfold sealL
  simp only [strOf_append, bOf_length, strOf_bOf, ByteArray.append_assoc]

set_option maxRecDepth 100000 in
set_option maxHeartbeats 4000000 in
theorem rseal_yes (kind gen : Int) (s : ByteArray) (w : World) (hk0 : 0 ≤ kind) (hk1 : kind ≤ 255) (hg0 : 0 ≤ gen) (hg1 : gen ≤ 281474976710655) (hs : s.size ≤ 492) :
    Calls Try.prog 13 #[.int .i64 kind, .int .i64 gen, .string s] w fun e w' => e = .returned (.tuple #[.string (strOf (sealL kind gen (bOf s))), .int .i64 0]) ∧ Below w.heap.size w w' := by
  have hz1 := size_num
  have hz2 := size_rep
  have hn1 : kind ≤ 9223372036854775807 := by omega
  have hn2 : gen ≤ 9223372036854775807 := by omega
  have HB := hid (Below.refl w.heap.size w)
  go_enter Try.func13, Try.ntmps13
  go_wp2_with fail
  refine (rnumber_any kind 1 _ hk0 hn1 (by omega)).mono ?_
  rintro e w1 ⟨rfl, hb⟩
  replace HB := hid (HB.out.trans (hb.mono HB.out.size))
  clear hb
  go_wp2_with fail
  refine (rnumber_any (s.size : Int) 2 _ (by omega) (by omega) (by omega)).mono ?_
  rintro e w2 ⟨rfl, hb⟩
  replace HB := hid (HB.out.trans (hb.mono HB.out.size))
  clear hb
  go_wp2_with fail
  refine (rnumber_any gen 6 _ hg0 hn2 (by omega)).mono ?_
  rintro e w3 ⟨rfl, hb⟩
  replace HB := hid (HB.out.trans (hb.mono HB.out.size))
  clear hb
  go_wp2_with fail
  refine (rnoughts_any 4 _ (by omega)).mono ?_
  rintro e w4 ⟨rfl, hb⟩
  replace HB := hid (HB.out.trans (hb.mono HB.out.size))
  clear hb
  go_wp2_with fail
  have hsub : (492 : Int) - s.size = ((492 - s.size : Nat) : Int) := by omega
  have hno := rnoughts_any (492 - s.size) w4 (by omega)
  rw [← hsub] at hno
  refine hno.mono ?_
  clear hno hsub
  rintro e w5 ⟨rfl, hb⟩
  replace HB := hid (HB.out.trans (hb.mono HB.out.size))
  clear hb
  go_wp2_with fail
  refine (rnoughts_any 4 _ (by omega)).mono ?_
  rintro e w6 ⟨rfl, hb⟩
  replace HB := hid (HB.out.trans (hb.mono HB.out.size))
  clear hb
  go_wp2_with fail
  rw [str_head, str_bare]
  have hsz : (strOf (bareL kind gen (bOf s))).size ≤ 5000 := by rw [strOf_size, bareL_length _ _ _ (by rw [bOf_length]; exact hs)]; omega
  have hrs := rsum_any (strOf (bareL kind gen (bOf s))) hsz w6
  rw [bOf_strOf _ (byt_bare _ _ _ (bOf_range s))] at hrs
  refine hrs.mono ?_
  clear hrs hsz
  rintro e w7 ⟨rfl, rfl⟩
  have hs0 := sumL_nonneg (bareL kind gen (bOf s))
  have hs1 := sumL_lt (bareL kind gen (bOf s))
  have hfin := hid (str_seal kind gen s)
  have hzh : (strOf (headL kind gen s.size)).size = 12 := by rw [strOf_size, headL_length]
  generalize sumL (bareL kind gen (bOf s)) = T at hs0 hs1 hfin ⊢
  generalize strOf (headL kind gen s.size) = HD at hfin hzh ⊢
  go_wp2_with fail
  refine (rnumber_any T 4 _ hs0 (by omega) (by omega)).mono ?_
  rintro e w8 ⟨rfl, hb⟩
  replace HB := hid (HB.out.trans (hb.mono HB.out.size))
  clear hb
  go_wp2_with fail
  go_ret2
  rw [hfin.out]
  exact ⟨rfl, HB.out⟩

set_option maxHeartbeats 1000000 in
theorem rseal_arg (kind gen : Int) (s : ByteArray) (w : World) (h : ¬ (((0 ≤ kind ∧ kind ≤ 255) ∧ 0 ≤ gen) ∧ gen ≤ 281474976710655)) :
    Calls Try.prog 13 #[.int .i64 kind, .int .i64 gen, .string s] w fun e w' => e = .returned (.tuple #[.string ⟨#[]⟩, .int .i64 2]) ∧ w' = w := by
  go_enter Try.func13, Try.ntmps13
  go_wp2_with fail
  all_goals first | (exfalso; omega) | (go_ret2; exact ⟨rfl, rfl⟩)
set_option maxHeartbeats 1000000 in
theorem rseal_long (kind gen : Int) (s : ByteArray) (w : World) (hm : s.size ≤ maxLen) (h : ((0 ≤ kind ∧ kind ≤ 255) ∧ 0 ≤ gen) ∧ gen ≤ 281474976710655) (hs : 492 < s.size) :
    Calls Try.prog 13 #[.int .i64 kind, .int .i64 gen, .string s] w fun e w' => e = .returned (.tuple #[.string ⟨#[]⟩, .int .i64 4]) ∧ w' = w := by
  unfold maxLen at hm
  have hs' : (492 : Int) < s.size := by omega
  go_enter Try.func13, Try.ntmps13
  go_wp2_with fail
  all_goals first | (exfalso; omega) | (go_ret2; exact ⟨rfl, rfl⟩)

theorem str_root (gen : Int) (s : ByteArray) : strOf (numB 8 gen) ++ strOf (numB 2 s.size) ++ s ++ strOf (rep (494 - s.size) 0) ++ strOf (numB 8 gen) = strOf (rootL gen (bOf s)) := by
  unfold rootL
  simp only [strOf_append, bOf_length, strOf_bOf, ByteArray.append_assoc]

set_option maxRecDepth 100000 in
set_option maxHeartbeats 4000000 in
theorem rroot_yes (gen : Int) (s : ByteArray) (w : World) (hg0 : 1 ≤ gen) (hg1 : gen ≤ 4611686018427387904) (hs : s.size ≤ 490) :
    Calls Try.prog 15 #[.int .i64 gen, .string s] w fun e w' => e = .returned (.tuple #[.string (strOf (rootL gen (bOf s))), .int .i64 0]) ∧ Below w.heap.size w w' := by
  have hz1 := size_num
  have hz2 := size_rep
  have hn0 : 0 ≤ gen := by omega
  have hn2 : gen ≤ 9223372036854775807 := by omega
  have hfin := hid (str_root gen s)
  have HB := hid (Below.refl w.heap.size w)
  go_enter Try.func15, Try.ntmps15
  go_wp2_with fail
  refine (rnumber_any gen 8 _ hn0 hn2 (by omega)).mono ?_
  rintro e w1 ⟨rfl, hb⟩
  replace HB := hid (HB.out.trans (hb.mono HB.out.size))
  clear hb
  go_wp2_with fail
  refine (rnumber_any (s.size : Int) 2 _ (by omega) (by omega) (by omega)).mono ?_
  rintro e w2 ⟨rfl, hb⟩
  replace HB := hid (HB.out.trans (hb.mono HB.out.size))
  clear hb
  go_wp2_with fail
  have hsub : (494 : Int) - s.size = ((494 - s.size : Nat) : Int) := by omega
  have hno := rnoughts_any (494 - s.size) w2 (by omega)
  rw [← hsub] at hno
  refine hno.mono ?_
  clear hno hsub
  rintro e w5 ⟨rfl, hb⟩
  replace HB := hid (HB.out.trans (hb.mono HB.out.size))
  clear hb
  go_wp2_with fail
  refine (rnumber_any gen 8 _ hn0 hn2 (by omega)).mono ?_
  rintro e w6 ⟨rfl, hb⟩
  replace HB := hid (HB.out.trans (hb.mono HB.out.size))
  clear hb
  go_wp2_with fail
  go_ret2
  rw [hfin.out]
  exact ⟨rfl, HB.out⟩
set_option maxHeartbeats 1000000 in
theorem rroot_arg (gen : Int) (s : ByteArray) (w : World) (h : ¬ (1 ≤ gen ∧ gen ≤ 4611686018427387904)) :
    Calls Try.prog 15 #[.int .i64 gen, .string s] w fun e w' => e = .returned (.tuple #[.string ⟨#[]⟩, .int .i64 2]) ∧ w' = w := by
  go_enter Try.func15, Try.ntmps15
  go_wp2_with fail
  all_goals first | (exfalso; omega) | (go_ret2; exact ⟨rfl, rfl⟩)
set_option maxHeartbeats 1000000 in
theorem rroot_long (gen : Int) (s : ByteArray) (w : World) (hm : s.size ≤ maxLen) (h : 1 ≤ gen ∧ gen ≤ 4611686018427387904) (hs : 490 < s.size) :
    Calls Try.prog 15 #[.int .i64 gen, .string s] w fun e w' => e = .returned (.tuple #[.string ⟨#[]⟩, .int .i64 4]) ∧ w' = w := by
  unfold maxLen at hm
  have hs' : (490 : Int) < s.size := by omega
  go_enter Try.func15, Try.ntmps15
  go_wp2_with fail
  all_goals first | (exfalso; omega) | (go_ret2; exact ⟨rfl, rfl⟩)
end Go.Proofs.Ytjbkmgeomnmddaa
