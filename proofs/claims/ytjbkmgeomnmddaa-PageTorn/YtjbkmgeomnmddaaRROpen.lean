/- What this text holds: what the document says of any bytes, as a root's sector. -/
import Derived.Test.YtjbkmgeomnmddaaROpen
namespace Go.Proofs.Ytjbkmgeomnmddaa
open Go.RowKit
set_option linter.unusedVariables false

theorem val_cons (x : Int) (t : List Int) : val (x :: t) = x * 256 ^ t.length + val t := by
  have aux : ∀ (t : List Int) (y : Int), t.foldl (fun n c => n * 256 + c) y = y * 256 ^ t.length + t.foldl (fun n c => n * 256 + c) 0 := by
    intro t
    induction t with
    | nil => intro y; simp
    | cons z t ih =>
      intro y
      rw [List.foldl_cons, List.foldl_cons, ih, ih (0 * 256 + z), List.length_cons, Int.pow_succ, Int.zero_mul, Int.zero_add, Int.add_mul]
      have e : y * 256 * 256 ^ t.length = y * (256 ^ t.length * 256) := by rw [Int.mul_assoc, Int.mul_comm 256]
      omega
  have := aux t x
  unfold val
  rw [List.foldl_cons, Int.zero_mul, Int.zero_add]
  exact this
theorem val_first {l : List Int} (hb : Byt l) (hl : l.length = 512) (h : l.getD 0 0 ≤ 64) : 0 ≤ val (l.take 8) ∧ val (l.take 8) ≤ 9223372036854775807 := by
  cases l with
  | nil => simp at hl
  | cons x t =>
    have hx : x ≤ 64 := h
    have ht : ((x :: t).take 8) = x :: t.take 7 := rfl
    have h0 := hb x (by simp)
    have h1 := val_len (l := t.take 7) (n := 7) (fun y hy => hb y (List.mem_cons_of_mem _ (List.mem_of_mem_take hy))) (by rw [List.length_take]; simp at hl; omega)
    rw [ht, val_cons, show (t.take 7).length = 7 by rw [List.length_take]; simp at hl; omega]
    omega
theorem isRoot_first {l : List Int} (h : isRoot l) : l.getD 0 0 ≤ 64 := by
  obtain ⟨hl, hg, hc, he⟩ := h
  have e : l.getD 0 0 = (rootL (rgenOf l) (rconOf l)).getD 0 0 := by rw [he]
  rw [e]
  unfold rootL
  simp only [numB, List.cons_append, List.getD_cons_zero]
  omega
theorem isRoot_len {l : List Int} (h : isRoot l) : rlenOf l ≤ 490 := by
  obtain ⟨hl, hg, hc, he⟩ := h
  have h2 := rlenOf_root (rgenOf l) (rconOf l) (by omega)
  rw [he] at h2
  omega

set_option maxHeartbeats 1000000 in
theorem rrdoc_len (s : ByteArray) (w : World) (hm : s.size ≤ maxLen) (h : s.size ≠ 512) :
    Calls Try.prog 20 #[.string s] w fun e w' => e = .returned (.tuple #[.int .i64 0, .string ⟨#[]⟩, .int .i64 11]) ∧ w' = w := by
  have hl2 : ((s.size : Int) != 512) = true := by rw [bne_iff_ne]; omega
  unfold maxLen at hm
  go_enter Try.func20, Try.ntmps20
  go_wp2_with fail
  refine bodyPost_ret (v := .tuple #[.int .i64 0, .string ⟨#[]⟩, .int .i64 11]) (by simp [results, Try.results20, go_sem]) rfl ⟨rfl, rfl⟩

set_option maxRecDepth 100000 in
set_option maxHeartbeats 4000000 in
theorem rrdoc_any (S : ByteArray) (l : List Int) (hS : bOf S = l) (w : World) (hl : l.length = 512) :
    Calls Try.prog 20 #[.string S] w fun e w' => e = .returned (ropenV l) ∧ Below w.heap.size w w' := by
  have hb : Byt l := hS ▸ bOf_range S
  have hsz : S.size = 512 := by rw [← bOf_length, hS, hl]
  have hn := rlenOf_range hb hl
  have hkk : ((S[0]'(by omega)).toNat : Int) = l.getD 0 0 := by rw [bOf_get, hS]
  have HL := hid hl
  have HS := hid hS
  have HB := hid hb
  by_cases hf : l.getD 0 0 ≤ 64
  · have hv := val_first hb hl hf
    have hr1 := rread_any (S.extract 0 8) (by rw [size_extract]; omega) (by rw [bOf_extract, hS]; exact hv.2)
    rw [bOf_extract, hS, List.drop_zero] at hr1
    have hgen : rgenOf l = val (l.take 8) := wrap64_fits _ hv.1 hv.2
    rw [show (8 - 0) = 8 from rfl, ← hgen] at hr1
    have hr2 := rread_any (S.extract 8 10) (by rw [size_extract]; omega) (by rw [bOf_extract, hS]; show rlenOf l ≤ _; omega)
    rw [bOf_extract, hS] at hr2
    obtain ⟨n, hln⟩ : ∃ n : Nat, rlenOf l = (n : Int) := ⟨(rlenOf l).toNat, by omega⟩
    have HR1 : Hid (∀ w, Calls Try.prog 30 #[.string (S.extract 0 8)] w fun e w' => e = .returned (.int .i64 (rgenOf l)) ∧ w' = w) := hr1
    have HR2 : Hid (∀ w, Calls Try.prog 30 #[.string (S.extract 8 10)] w fun e w' => e = .returned (.int .i64 (rlenOf l)) ∧ w' = w) := hr2
    rw [hln] at HR2 hn
    have HLN := hid hln
    clear hb hS hr1 hr2 hl hln hgen
    have hf' : ((S[0]'(by omega)).toNat : Int) ≤ 64 := by rw [hkk]; exact hf
    have HKK := hid hkk
    clear hkk
    go_enter Try.func20, Try.ntmps20
    go_wp2_with fail
    refine (HR1.out _).mono ?_
    rintro e w ⟨rfl, rfl⟩
    go_wp2_with fail
    refine (HR2.out _).mono ?_
    rintro e w ⟨rfl, rfl⟩
    generalize hG : rgenOf l = G
    have HG := hid hG
    clear hG
    by_cases hlen : n ≤ 490
    · have hsub : S.extract 10 (10 + n) = strOf (rconOf l) := by
        rw [← strOf_bOf (S.extract 10 _), bOf_extract, HS.out, Nat.add_sub_cancel_left]
        unfold rconOf
        rw [HLN.out, Int.toNat_natCast, List.take_take, Nat.min_eq_left (by omega)]
      have hlen' : (n : Int) ≤ 490 := by omega
      have HSUB2 : Hid (S.extract 10 (10 + (n : Int)).toNat = strOf (rconOf l)) := by
        have e : (10 + (n : Int)).toNat = 10 + n := by omega
        rw [e]; exact hsub
      have HSUB := hid hsub
      clear hsub
      have hw1 : IntKind.i64.wrap (10 + (n : Int)) = 10 + n := wrap_i64 _ (by omega) (by omega)
      have hi0 : (0 : Int) ≤ 10 + n := by omega
      have hi1 : (10 : Int) ≤ 10 + n := by omega
      have hi2 : (10 : Int) + n ≤ 512 := by omega
      have hcl : (rconOf l).length ≤ 490 := by unfold rconOf; rw [HLN.out, Int.toNat_natCast, List.length_take]; omega
      have hbc := hid (bOf_strOf (rconOf l) (((HB.out.drop 10).take _).take _))
      have hsc := hid (rroot_all G (strOf (rconOf l)) · (by rw [strOf_size]; unfold maxLen; omega))
      have heq0 : Hid (((strOf (rootS G (rconOf l))).toList == S.toList) = decide (isRoot l)) := by
        have hbt : Byt (rootS G (rconOf l)) := by
          unfold rootS
          split
          · exact byt_root _ _ (((HB.out.drop 10).take _).take _)
          · exact fun x hx => nomatch hx
        have h1 := eq_strOf hbt HB.out
        have h2 : (rootS G (rconOf l) = l) ↔ isRoot l := by
          unfold isRoot
          rw [HG.out]
          unfold rootS
          constructor
          · intro h
            split at h
            · next he => exact ⟨HL.out, (rootE_zero he).1, (rootE_zero he).2, h⟩
            · rw [← h] at HL; exact absurd HL.out (by simp)
          · intro h
            rw [if_pos (rootE_yes h.2.1 h.2.2.1)]
            exact h.2.2.2
        have h3 : decide (rootS G (rconOf l) = l) = decide (isRoot l) := decide_eq_decide.2 h2
        have h4 : strOf l = S := by rw [← HS.out, strOf_bOf]
        rw [h3, h4] at h1
        exact h1
      go_wp2_with fail
      rw [HSUB.out]
      refine (hsc.out _).mono ?_
      rw [hbc.out]
      rintro e w1 ⟨rfl, hb⟩
      have HW := hid hb
      clear hb
      generalize rootE G (strOf (rconOf l)).size = E
      by_cases hp : isRoot l
      · have heq := heq0.out
        rw [decide_eq_true hp] at heq
        have HP := hid hp
        clear hp heq0
        generalize strOf (rootS G (rconOf l)) = X at heq ⊢
        go_wp2_with fail
        go_region_held3 (fun _ => True) (trivial) (fail)
        all_goals
          rw [HSUB2.out]
          go_wp2_with fail
          refine bodyPost_ret (v := .tuple #[.int .i64 G, .string (strOf (rconOf l)), .int .i64 0]) (by simp [results, Try.results20, go_sem]) rfl ⟨?_, ?_⟩
          · rw [ropenV_yes HP.out, HG.out]
          · first
            | exact HW.out
            | exact HW.out.drew
      · have heq := heq0.out
        rw [decide_eq_false hp] at heq
        have HP := hid hp
        clear hp heq0
        generalize strOf (rootS G (rconOf l)) = X at heq ⊢
        go_wp2_with fail
        refine bodyPost_ret (v := .tuple #[.int .i64 0, .string ⟨#[]⟩, .int .i64 11]) (by simp [results, Try.results20, go_sem]) rfl ⟨?_, HW.out⟩
        rw [ropenV_no HP.out]
    · have hlen' : (490 : Int) < n := by omega
      go_wp2_with fail
      refine bodyPost_ret (v := .tuple #[.int .i64 0, .string ⟨#[]⟩, .int .i64 11]) (by simp [results, Try.results20, go_sem]) rfl ⟨?_, Below.refl _ _⟩
      rw [ropenV_no (fun h => by have := isRoot_len h; rw [HLN.out] at this; omega)]
  · have hf' : (64 : Int) < ((S[0]'(by omega)).toNat : Int) := by rw [hkk]; omega
    clear hb hS hl
    have HF := hid hf
    clear hf hkk
    go_enter Try.func20, Try.ntmps20
    go_wp2_with fail
    refine bodyPost_ret (v := .tuple #[.int .i64 0, .string ⟨#[]⟩, .int .i64 11]) (by simp [results, Try.results20, go_sem]) rfl ⟨?_, Below.refl _ _⟩
    rw [ropenV_no (fun h => by have := isRoot_first h; have := HF.out; omega)]
end Go.Proofs.Ytjbkmgeomnmddaa
