/- What this text holds: what the document says of any bytes, as a sector. -/
import Derived.Test.YtjbkmgeomnmddaaBoth
namespace Go.Proofs.Ytjbkmgeomnmddaa
open Go.RowKit
set_option linter.unusedVariables false

set_option maxHeartbeats 1000000 in
theorem rdoc_len (s : ByteArray) (w : World) (hm : s.size ≤ maxLen) (h : s.size ≠ 512) :
    Calls Try.prog 18 #[.string s] w fun e w' => e = .returned (.tuple #[.int .i64 0, .int .i64 0, .string ⟨#[]⟩, .int .i64 11]) ∧ w' = w := by
  have hl2 : ((s.size : Int) != 512) = true := by rw [bne_iff_ne]; omega
  unfold maxLen at hm
  go_enter Try.func18, Try.ntmps18
  go_wp2_with fail
  refine bodyPost_ret (v := .tuple #[.int .i64 0, .int .i64 0, .string ⟨#[]⟩, .int .i64 11]) (by simp [results, Try.results18, go_sem]) rfl ⟨rfl, rfl⟩

theorem bOf_extract (S : ByteArray) (i j : Nat) : bOf (S.extract i j) = ((bOf S).drop i).take (j - i) := by
  unfold bOf
  rw [ByteArray.data_extract, Array.toList_extract, List.extract_eq_take_drop, List.map_take, List.map_drop]
theorem size_extract (S : ByteArray) (i j : Nat) : (S.extract i j).size = min (j - i) (S.size - i) := by
  rw [← bOf_length, bOf_extract, List.length_take, List.length_drop, bOf_length]
theorem bOf_get (S : ByteArray) (k : Nat) (hk : k < S.size) : ((S[k]'hk).toNat : Int) = (bOf S).getD k 0 := by
  rw [List.getD_eq_getElem?_getD, bOf_at S k hk]
  rfl
theorem isPage_len {l : List Int} (h : isPage l) : lenOf l ≤ 492 := by
  have h1 := conOf_length h.1
  have h2 := lenOf_seal (kindOf l) (genOf l) (conOf l) h1
  rw [h.2] at h2
  omega

set_option maxRecDepth 100000 in
set_option maxHeartbeats 4000000 in
theorem rdoc_any (S : ByteArray) (l : List Int) (hS : bOf S = l) (w : World) (hl : l.length = 512) :
    Calls Try.prog 18 #[.string S] w fun e w' => e = .returned (openV l) ∧ Below w.heap.size w w' := by
  have hb : Byt l := hS ▸ bOf_range S
  have hsz : S.size = 512 := by rw [← bOf_length, hS, hl]
  have hk := kindOf_range hb
  have hg := genOf_range hb hl
  have hn := lenOf_range hb hl
  have hr1 := rread_any (S.extract 4 6) (by rw [size_extract]; omega) (by rw [bOf_extract, hS]; show lenOf l ≤ _; omega)
  rw [bOf_extract, hS] at hr1
  have hr2 := rread_any (S.extract 6 12) (by rw [size_extract]; omega) (by rw [bOf_extract, hS]; show genOf l ≤ _; omega)
  rw [bOf_extract, hS] at hr2
  have hkk : ((S[2]'(by omega)).toNat : Int) = kindOf l := by rw [bOf_get, hS]; rfl
  have HR1 : Hid (∀ w, Calls Try.prog 30 #[.string (S.extract 4 6)] w fun e w' => e = .returned (.int .i64 (lenOf l)) ∧ w' = w) := hr1
  have HR2 : Hid (∀ w, Calls Try.prog 30 #[.string (S.extract 6 12)] w fun e w' => e = .returned (.int .i64 (genOf l)) ∧ w' = w) := hr2
  have HB := hid hb
  have HL := hid hl
  have HS := hid hS
  clear hb hS hr1 hr2 hl
  obtain ⟨n, hln⟩ : ∃ n : Nat, lenOf l = (n : Int) := ⟨(lenOf l).toNat, by omega⟩
  have hsub : S.extract 20 (20 + n) = strOf (conOf l) := by
    rw [← strOf_bOf (S.extract 20 _), bOf_extract, HS.out, Nat.add_sub_cancel_left]
    unfold conOf
    rw [hln, Int.toNat_natCast]
  have HSUB := hid hsub
  have HLN := hid hln
  rw [hln] at HR1 hn
  clear hln hsub
  go_enter Try.func18, Try.ntmps18
  go_wp2_with fail
  refine (HR1.out _).mono ?_
  rintro e w ⟨rfl, rfl⟩
  by_cases hlen : n ≤ 492
  · have hcl : (conOf l).length ≤ 492 := conOf_length HL.out
    have hsc := hid (rseal_yes (kindOf l) (genOf l) (strOf (conOf l)) · hk.1 (by omega) hg.1 hg.2 (by rw [strOf_size]; exact hcl))
    have hbc := hid (bOf_strOf (conOf l) ((HB.out.drop 20).take _))
    have hw1 : IntKind.i64.wrap (20 + (n : Int)) = 20 + n := wrap_i64 _ (by omega) (by omega)
    have hw0 : IntKind.i64.wrap (kindOf l) = kindOf l := wrap_i64 _ (by omega) (by omega)
    have HSUB2 : Hid (S.extract 20 (20 + (n : Int)).toNat = strOf (conOf l)) := by
      have e : (20 + (n : Int)).toNat = 20 + n := by omega
      rw [e]; exact HSUB.out
    have hi0 : (0 : Int) ≤ 20 + n := by omega
    have hi1 : (20 : Int) ≤ 20 + n := by omega
    have hi2 : (20 : Int) + n ≤ 512 := by omega
    have hlen' : (n : Int) ≤ 492 := by omega
    have heq0 : Hid (((strOf (sealL (kindOf l) (genOf l) (conOf l))).toList == S.toList) = decide (sealL (kindOf l) (genOf l) (conOf l) = l)) := by
      have := eq_strOf (byt_seal (kindOf l) (genOf l) (conOf l) ((HB.out.drop 20).take _)) HB.out
      rw [← HS.out, strOf_bOf] at this
      rw [← HS.out]; exact this
    go_wp2_with fail
    go_region_held3 (fun _ => True) (trivial) (first | (go_at_call 30; refine (HR2.out _).mono ?_; rintro e w' ⟨rfl, rfl⟩) | (go_at_call 13; rw [HSUB2.out]; refine (hsc.out _).mono ?_; rw [hbc.out]; rintro e w' ⟨rfl, hb⟩))
    all_goals
      have HW := hid hb
      clear hb
      by_cases hp : sealL (kindOf l) (genOf l) (conOf l) = l
      · have heq := heq0.out
        rw [decide_eq_true hp] at heq
        have HP := hid hp
        clear hp
        generalize strOf (sealL (kindOf l) (genOf l) (conOf l)) = X at heq ⊢
        go_wp2_with fail
        go_region_held3 (fun _ => True) (trivial) (first | (go_at_call 30; refine (HR2.out _).mono ?_; rintro e w' ⟨rfl, rfl⟩))
        all_goals
          rw [HSUB2.out]
          go_wp2_with fail
          refine bodyPost_ret (v := .tuple #[.int .i64 (kindOf l), .int .i64 (genOf l), .string (strOf (conOf l)), .int .i64 0]) (by simp [results, Try.results18, go_sem]) rfl ⟨?_, ?_⟩
          · rw [openV_yes ⟨HL.out, HP.out⟩]
          · first
            | exact (Below.refl _ _).drew.trans HW.out
            | exact ((Below.refl _ _).drew.trans HW.out).drew
      · have heq := heq0.out
        rw [decide_eq_false hp] at heq
        have HP := hid hp
        clear hp
        generalize strOf (sealL (kindOf l) (genOf l) (conOf l)) = X at heq ⊢
        go_wp2_with fail
        refine bodyPost_ret (v := .tuple #[.int .i64 0, .int .i64 0, .string ⟨#[]⟩, .int .i64 11]) (by simp [results, Try.results18, go_sem]) rfl ⟨?_, (Below.refl _ _).drew.trans HW.out⟩
        rw [openV_no (fun h => HP.out h.2)]
  · have hlen' : (492 : Int) < n := by omega
    go_wp2_with fail
    refine bodyPost_ret (v := .tuple #[.int .i64 0, .int .i64 0, .string ⟨#[]⟩, .int .i64 11]) (by simp [results, Try.results18, go_sem]) rfl ⟨?_, Below.refl _ _⟩
    rw [openV_no (fun h => by have := isPage_len h; rw [HLN.out] at this; omega)]
end Go.Proofs.Ytjbkmgeomnmddaa
