/- What this text holds: the document's Unbase64. -/
import Derived.Test.YtjmjeiegbkfdbaaDoorR4
namespace Go.Proofs.YtjmjeiegbkfdbaaDoor
open Go.RowKit
set_option linter.unusedVariables false
set_option linter.unusedSimpArgs false

def accX (g : Bs) : Nat → Nat
  | 0 => 0
  | j + 1 => accX g j * 64 + digR (g.getD j 0)
def accN (g : Bs) : Nat → Nat
  | 0 => 0
  | j + 1 => accN g j + (if 0 ≤ six (g.getD j 0) then 1 else 0)
theorem accX4 (g : Bs) : accX g 4 = valR g := by simp [accX, valR]
theorem accN_le (g : Bs) : ∀ j, accN g j ≤ j
  | 0 => by simp [accN]
  | j + 1 => by
    have := accN_le g j
    unfold accN
    split <;> omega
theorem digR_lt (c : UInt8) : digR c < 64 := by
  have := six_lt c
  unfold digR
  split <;> omega
theorem accX_lt (g : Bs) : ∀ j, accX g j < 64 ^ j
  | 0 => by simp [accX]
  | j + 1 => by
    have h1 := accX_lt g j
    have h2 := digR_lt (g.getD j 0)
    unfold accX
    rw [Nat.pow_succ]
    omega
theorem accN4 (g : Bs) (h : 4 ≤ g.length) : accN g 4 = cntR g := by
  match g, h with
  | a :: b :: c :: d :: r, _ =>
    simp only [accN, cntR, List.getD_cons_zero, List.getD_cons_succ, List.take_succ_cons, List.take_zero, List.countP_cons, List.countP_nil, decide_eq_true_eq]
    omega
theorem getD_drop (s : Bs) (k j : Nat) (h : k + j < s.length) : (s.drop k).getD j 0 = s[k + j] := by
  rw [List.getD_eq_getElem?_getD, List.getElem?_drop, List.getElem?_eq_getElem h]; rfl
/-- The three bytes of a number. -/
def bytes3 (X : Nat) : Bs := [UInt8.ofNat (X / 65536), UInt8.ofNat (X / 256), UInt8.ofNat X]
theorem conv3 (w : World) (a b c : Int) (X : Nat) (ha : a = (UInt8.ofNat (X / 65536)).toNat) (hb : b = (UInt8.ofNat (X / 256)).toNat) (hc : c = (UInt8.ofNat X).toNat) :
    (convert 44 9 (.slice (some ⟨w.heap.size, 0, none⟩) 3 3)).run Tryd.prog (w.alloc (.cells #[.int .u8 a, .int .u8 b, .int .u8 c] 5)) = .ok (.string (str (bytes3 X))) (w.alloc (.cells #[.int .u8 a, .int .u8 b, .int .u8 c] 5)) := by
  subst ha
  subst hb
  subst hc
  have := run_convert_bytes_arg (P := Tryd.prog) (w.alloc (.cells #[.int .u8 (UInt8.ofNat (X / 65536)).toNat, .int .u8 (UInt8.ofNat (X / 256)).toNat, .int .u8 (UInt8.ofNat X).toNat] 5)) 44 5 Tryd.underlying44 Tryd.underlying5 w.heap.size 0 3 3 ((bytes3 X).map fun b => (b.toNat : Int)) (by simp [bytes3]) (fun i hi => by
    simp only [World.cell?, heap_alloc_new]
    match i, hi with
    | 0, _ => rfl
    | 1, _ => rfl
    | 2, _ => rfl) 9 Tryd.underlying9
  rw [this]
  have e : strOfNums ((bytes3 X).map fun b => (b.toNat : Int)) = str (bytes3 X) := by
    unfold strOfNums str
    rw [List.map_map]
    have : ((fun n : Int => UInt8.ofNat n.toNat) ∘ fun b : UInt8 => (b.toNat : Int)) = id := by funext x; simp
    rw [this, List.map_id]
  rw [e]
theorem unR_no {s : Bs} (h : ¬ s.length % 4 = 0) : unR s = none := by unfold unR; rw [if_neg h]
theorem threeR_is (g : Bs) (h : 4 ≤ g.length) : threeR g = if accN g 4 < 2 then none else some ((bytes3 (accX g 4)).take (accN g 4 - 1)) := by
  unfold threeR bytes3
  rw [accN4 g h, accX4]

set_option maxRecDepth 100000 in
set_option maxHeartbeats 4000000 in
theorem runbase64_any (s : Bs) (w : World) (hs : s.length ≤ 100000) : Calls Tryd.prog 11 #[.string (str s)] w fun e w' => e = .returned (unV s) ∧ Below w.heap.size w w' := by
  have hsz := str_size s
  by_cases h4 : s.length % 4 = 0
  · have h4' : (s.length : Int) % 4 = 0 := by omega
    have HU : Hid (un s = match runO threeR 4 s with
      | some b => if b64 b = s then some b else none
      | none => none) := by rw [Hid, un_unR]; unfold unR; rw [if_pos h4]; rfl
    have H4 := hid h4
    clear h4
    go_enter Tryd.func11, Tryd.ntmps11
    go_wp2_with fail
    clear h4'
    go_loopw [4, 5] (fun v i wr => ∃ (k : Nat) (d : Bs), k ≤ s.length ∧ k % 4 = 0 ∧ i = .int .i64 k ∧ v = .string (str d) ∧ Below w.heap.size w wr ∧ (runO threeR 4 (s.drop k)).map (d ++ ·) = runO threeR 4 s ∧ d.length ≤ k) (fun _ i _ => s.length - (intOf i).toNat)
    case atStart => exact ⟨0, [], by omega, rfl, rfl, rfl, Below.refl _ _, by simp, by simp⟩
    case round =>
      obtain ⟨k, d, hk, hk4, rfl, rfl, hb, hd, hdl⟩ := hrel
      have HB := hid hb
      have HD := hid hd
      have HK := hid hk4
      have hds := str_size d
      have hdl' : (d.length : Int) ≤ 100000 := by omega
      clear hb hd hk4
      by_cases hlt : k < s.length
      · have hlt' : (k : Int) < s.length := by omega
        have hk4 : k + 4 ≤ s.length := by have := H4.out; have := HK.out; omega
        have hne : s.drop k ≠ [] := by rw [drop1 s k hlt]; exact List.cons_ne_nil _ _
        have HT := hid (threeR_is (s.drop k) (by rw [List.length_drop]; omega))
        go_wp2_with fail
        go_loop [6, 7, 8] (fun x n i => ∃ j : Nat, j ≤ 4 ∧ i = .int .i64 j ∧ x = .int .i64 (accX (s.drop k) j) ∧ n = .int .i64 (accN (s.drop k) j)) (fun _ _ i => 4 - (intOf i).toNat)
        case atStart => exact ⟨0, by omega, rfl, rfl, rfl⟩
        case round =>
          obtain ⟨j, hj, rfl, rfl, rfl⟩ := hrel
          have hnj := accN_le (s.drop k) j
          by_cases hj4 : j < 4
          · have hj4' : (j : Int) < 4 := by omega
            have g0 : ((str s)[k + j]'(by omega)) = s[k + j] := rfl
            have C := rdigit_any s[k + j] wr
            have hxj : accX (s.drop k) j < 64 ^ 4 := Nat.lt_of_lt_of_le (accX_lt (s.drop k) j) (Nat.pow_le_pow_right (by omega) hj)
            have HX : Hid (accX (s.drop k) (j + 1) = accX (s.drop k) j * 64 + digR s[k + j]) := by
              rw [Hid, accX, getD_drop s k j (by omega)]
            have HN : Hid (accN (s.drop k) (j + 1) = accN (s.drop k) j + (if 0 ≤ six s[k + j] then 1 else 0)) := by
              rw [Hid, accN, getD_drop s k j (by omega)]
            have hr := six_lt s[k + j]
            have HDg : Hid (digR s[k + j] = if 0 ≤ six s[k + j] then (six s[k + j]).toNat else 0) := rfl
            generalize six s[k + j] = d6 at *
            generalize accX (s.drop k) j = X at *
            generalize accN (s.drop k) j = M at *
            by_cases h0 : 0 ≤ d6
            · obtain ⟨q, rfl⟩ := Int.eq_ofNat_of_zero_le h0
              have hX2 : Hid (accX (s.drop k) (j + 1) = X * 64 + q) := by rw [Hid, HX.out, HDg.out, if_pos h0]; simp
              have hN2 : Hid (accN (s.drop k) (j + 1) = M + 1) := by rw [Hid, HN.out, if_pos h0]
              go_wp2_with fail
              refine C.mono ?_
              clear C
              rintro e w2 ⟨rfl, rfl⟩
              go_wp2_with fail
              go_round
              case rel => exact ⟨j + 1, by omega, by go_num, by rw [hX2.out]; go_num, by rw [hN2.out]; go_num⟩
              case measure => simp [intOf]; omega
            · have hX2 : Hid (accX (s.drop k) (j + 1) = X * 64) := by rw [Hid, HX.out, HDg.out, if_neg h0]; simp
              have hN2 : Hid (accN (s.drop k) (j + 1) = M) := by rw [Hid, HN.out, if_neg h0]; simp
              go_wp2_with fail
              refine C.mono ?_
              clear C
              rintro e w2 ⟨rfl, rfl⟩
              go_wp2_with fail
              go_round
              case rel => exact ⟨j + 1, by omega, by go_num, by rw [hX2.out]; go_num, by rw [hN2.out]⟩
              case measure => simp [intOf]; omega
          · have hj4e : j = 4 := by omega
            subst hj4e
            have hxj : accX (s.drop k) 4 < 64 ^ 4 := accX_lt (s.drop k) 4
            generalize accX (s.drop k) 4 = X at *
            generalize accN (s.drop k) 4 = M at *
            have hX : X < 16777216 := by omega
            clear hxj
            have hcv := conv3 wr ((X : Int) / 65536) ((X : Int) / 256 % 256) ((X : Int) % 256) X (by rw [UInt8.toNat_ofNat']; omega) (by rw [UInt8.toNat_ofNat']; omega) (by rw [UInt8.toNat_ofNat']; omega)
            have hb3 : (str (bytes3 X)).size = 3 := rfl
            have HB3 : Hid (Below w.heap.size w (wr.alloc (.cells #[.int .u8 ((X : Int) / 65536), .int .u8 ((X : Int) / 256 % 256), .int .u8 ((X : Int) % 256)] 5))) := HB.out.alloc HB.out.size _
            by_cases hM : M < 2
            · have hM' : (M : Int) < 2 := by omega
              have HV : Hid (unV s = .tuple #[.string ⟨#[]⟩, .int .i64 11]) := by
                rw [Hid, unV_no]
                rw [HU.out, ← HD.out, runO_none (by omega) hne (by rw [HT.out, if_pos hM])]
                rfl
              go_wp2_with fail
              go_ret2
              rw [HV.out]
              exact ⟨rfl, HB3.out⟩
            · have hM' : ¬ (M : Int) < 2 := by omega
              have HTk := hid (take_str (bytes3 X))
              have hM1 : (M : Int) - 1 = ((M - 1 : Nat) : Int) := by omega
              have hM3 : ((M - 1 : Nat) : Int) ≤ 3 := by omega
              have hbl : ((bytes3 X).take (M - 1)).length ≤ 3 := by rw [List.length_take]; omega
              have hbs := str_size ((bytes3 X).take (M - 1))
              have HAp := hid (app_str d ((bytes3 X).take (M - 1)))
              have HS : Hid ((runO threeR 4 (s.drop (k + 4))).map ((d ++ (bytes3 X).take (M - 1)) ++ ·) = runO threeR 4 s) := by
                rw [Hid, ← HD.out, runO_some (by omega) hne (x := (bytes3 X).take (M - 1)) (by rw [HT.out, if_neg hM]), Option.map_map, List.drop_drop]
                congr 1
                funext y
                simp
              go_wp2_with fail
              rw [HTk.out, HAp.out]
              go_roundw
              case rel => exact ⟨k + 4, d ++ (bytes3 X).take (M - 1), by omega, by have := HK.out; omega, by go_num, rfl, HB3.out, HS.out, by rw [List.length_append]; omega⟩
              case measure => simp [intOf]; omega
      · have hlt' : ¬ (k : Int) < s.length := by omega
        have HA : Hid (runO threeR 4 s = some d) := by
          rw [Hid, ← HD.out, List.drop_eq_nil_of_le (by omega), runO_nil]
          simp
        have hq := eq_str (b64 d) s
        by_cases he : b64 d = s
        · rw [decide_eq_true he] at hq
          have HV := hid (unV_ok (s := s) (b := d) (by rw [HU.out, HA.out]; simp [he]))
          clear he
          go_wp2_with fail
          refine (rbase64_any d wr (by omega)).mono ?_
          rintro e w2 ⟨rfl, rfl⟩
          go_wp2_with fail
          go_ret2
          rw [HV.out]
          exact ⟨rfl, HB.out⟩
        · rw [decide_eq_false he] at hq
          have HV := hid (unV_no (s := s) (by rw [HU.out, HA.out]; simp [he]))
          clear he
          go_wp2_with fail
          refine (rbase64_any d wr (by omega)).mono ?_
          rintro e w2 ⟨rfl, rfl⟩
          go_wp2_with fail
          go_ret2
          rw [HV.out]
          exact ⟨rfl, HB.out⟩
  · have h4' : ((s.length : Int) % 4 == 0) = false := by rw [beq_eq_false_iff_ne]; omega
    have HV := hid (unV_no (s := s) (by rw [un_unR]; exact unR_no h4))
    clear h4
    go_enter Tryd.func11, Tryd.ntmps11
    go_wp2_with fail
    go_ret2
    rw [HV.out]
    exact ⟨rfl, Below.refl _ _⟩
end Go.Proofs.YtjmjeiegbkfdbaaDoor
