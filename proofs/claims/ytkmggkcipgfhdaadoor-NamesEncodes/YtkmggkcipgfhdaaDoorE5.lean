/- What this text holds: what a text in seven bits is: the document's answer. -/
import Derived.Test.YtkmggkcipgfhdaaDoorQ4
namespace Go.Proofs.YtkmggkcipgfhdaaDoor
open Go.RowKit
set_option linter.unusedVariables false
set_option linter.unusedSimpArgs false

/-- What is cut off lies at the front. -/
theorem cut_get (c : UInt8) : ∀ (l : List UInt8) (j : Nat) (hj : j < (cutc c l).1.length), l[j]? = some ((cutc c l).1[j]) ∧ (cutc c l).1[j] ≠ c
  | [], j, hj => by simp [cutc] at hj
  | b :: l, j, hj => by
    by_cases hb : b = c
    · have e : cutc c (b :: l) = ([], l, true) := by rw [cutc, if_pos hb]
      simp only [e] at hj
      simp at hj
    · have e : (cutc c (b :: l)).1 = b :: (cutc c l).1 := by rw [cutc, if_neg hb]
      simp only [e] at hj ⊢
      cases j with
      | zero => exact ⟨rfl, hb⟩
      | succ j => exact cut_get c l j (by simpa using hj)
theorem cut_end {c : UInt8} {l : List UInt8} (h : (cutc c l).2.2 = true) : l[(cutc c l).1.length]? = some c ∧ l.drop ((cutc c l).1.length + 1) = (cutc c l).2.1 := by
  have hs := (cut_split h).1
  generalize (cutc c l).1 = a at hs ⊢
  generalize (cutc c l).2.1 = b at hs ⊢
  clear h
  subst hs
  constructor
  · rw [List.getElem?_append_right (Nat.le_refl _), Nat.sub_self]
    rfl
  · rw [List.drop_append, List.drop_eq_nil_of_le (by omega), show a.length + 1 - a.length = 1 by omega]
    rfl
theorem push_plain (X d n : Nat) (hn : n ≤ 16) (hd : d < 64) : (X * 64 % 4194304 + d) % 2 ^ (n + 6) = X % 2 ^ n * 64 + d ∧ X * 64 % 4194304 + d < 4194304 := by
  have hp : (2 : Nat) ^ (n + 6) = 64 * 2 ^ n := by rw [Nat.pow_add, Nat.mul_comm]
  have hdv : (2 : Nat) ^ (n + 6) ∣ 4194304 := by
    rw [show (4194304 : Nat) = 2 ^ 22 by decide]
    exact Nat.pow_dvd_pow 2 (by omega)
  constructor
  · rw [Nat.add_mod, Nat.mod_mod_of_dvd _ hdv, ← Nat.add_mod, hp, Nat.mul_comm X, Nat.mod_mul, Nat.mul_add_mod, Nat.mod_eq_of_lt hd, Nat.mul_add_div (by omega), Nat.div_eq_of_lt hd, Nat.add_zero, Nat.mul_comm 64]
    omega
  · omega
/-- How the inner loop stands. -/
structure RIn (B : Nat) (run : List UInt8) (w0 w : World) (v : Value) (j X : Nat) (bl us : List Nat) : Prop where
  io : IO w B v us
  le : j ≤ run.length
  x22 : X < 4194304
  val : X % 2 ^ bl.length = valB bl
  bits : Bits bl
  b16 : bl.length < 16
  rest : (usGo (run.drop j) bl).map (us ++ ·) = usGo run []
  ul : us.length ≤ j
  usm : ∀ u ∈ us, u < 65536
  below : Below B w0 w

set_option maxRecDepth 100000 in
set_option maxHeartbeats 8000000 in
theorem rdec_any (s : ByteArray) {w : World} (h : Env w) (hs : s.size ≤ 1200) :
    Calls Tryd.prog 14 #[.string s] w fun e w' => e = .returned (rdecV s) ∧ Below w.heap.size w w' := by
  have HE0 := hid h
  clear h
  go_enter Tryd.func14, Tryd.ntmps14
  go_wp2_with fail
  go_loopw [4, 5] (fun o i wr => ∃ (pos n : Nat) (out : List UInt8), pos ≤ s.size ∧ i = .int .i64 pos ∧ o = .string (str out) ∧ (looseR n (s.data.toList.drop pos)).map (out ++ ·) = looseR s.size s.data.toList ∧ s.size - pos ≤ n ∧ out.length ≤ 4 * pos ∧ Below w.heap.size w wr) (fun _ i _ => s.size - (intOf i).toNat)
  case atStart => exact ⟨0, s.size, [], by omega, rfl, rfl, by simp, by omega, by simp, Below.refl _ _⟩
  case round =>
    obtain ⟨pos, n, out, hpos, rfl, rfl, hrest, hfu, hol, hb⟩ := hrel
    have HRest := hid hrest
    have HB := hid hb
    have hosz : (str out).size ≤ 5000 := by rw [str_size]; omega
    clear hrest hb
    by_cases hlt : pos < s.size
    · have hlt' : (pos : Int) < s.size := by omega
      have hle1 : (pos : Int) + 1 ≤ s.size := by omega
      obtain ⟨m, rfl⟩ : ∃ m, n = m + 1 := ⟨n - 1, by omega⟩
      have HD : Hid (s.data.toList.drop pos = s[pos] :: s.data.toList.drop (pos + 1)) := by
        rw [Hid, List.drop_eq_getElem_cons (by rw [← Go.Lib.size_eq]; exact hlt)]
        rfl
      by_cases hc : s[pos] = 38
      · have hq : ((s[pos].toNat : Int) != 38) = false := by rw [hc]; rfl
        rw [HD.out, hc] at HRest
        clear hc
        have HGet : Hid (∀ j (hj : j < (cutc 45 (s.data.toList.drop (pos + 1))).1.length), ∃ hk : pos + 1 + j < s.size, s[pos + 1 + j] = (cutc 45 (s.data.toList.drop (pos + 1))).1[j] ∧ s[pos + 1 + j] ≠ 45) := fun j hj => by
          obtain ⟨e1, e2⟩ := cut_get 45 (s.data.toList.drop (pos + 1)) j hj
          rw [List.getElem?_drop] at e1
          have hk := (List.getElem?_eq_some_iff.1 e1).1
          rw [← Go.Lib.size_eq] at hk
          have e3 := (List.getElem?_eq_some_iff.1 e1).2
          have e4 : s[pos + 1 + j] = (cutc 45 (s.data.toList.drop (pos + 1))).1[j] := e3
          exact ⟨hk, e4, by rw [e4]; exact e2⟩
        have HCl := hid (cut_len 45 (s.data.toList.drop (pos + 1)))
        have HCe := hid (@cut_end 45 (s.data.toList.drop (pos + 1)))
        have HCn := hid (@cut_no 45 (s.data.toList.drop (pos + 1)))
        rw [List.length_drop, ← Go.Lib.size_eq] at HCl
        generalize hrun : (cutc 45 (s.data.toList.drop (pos + 1))).1 = run at HGet HCl HCe HCn
        have HRun := hid hrun
        clear hrun
        go_wp2_with fail
        go_loopw [6, 7, 8, 9] (fun x nn v k wr => ∃ (K X : Nat) (bl us : List Nat), pos + 1 ≤ K ∧ x = .int .i64 X ∧ nn = .int .i64 (bl.length : Nat) ∧ k = .int .i64 K ∧ RIn w.heap.size run w wr v (K - (pos + 1)) X bl us) (fun _ _ _ k _ => pos + 1 + run.length - (intOf k).toNat)
        case atStart => exact ⟨pos + 1, 0, [], [], Nat.le_refl _, rfl, rfl, by go_num, ⟨io_nil _ _, by omega, by omega, rfl, fun b hb => by simp at hb, by simp, by rw [Nat.sub_self]; simp, by simp, fun u hu => by simp at hu, HB.out⟩⟩
        case round =>
          obtain ⟨K, X, bl, us, hK, rfl, rfl, rfl, hin⟩ := hrel
          obtain ⟨va, vn, vc, rfl, hvn⟩ := hin.io.slice3
          have HIn := hid hin
          have HVn := hid hvn
          have hjl := hin.le
          have hb16 := hin.b16
          have hx22 := hin.x22
          have hcl1 := HCl.out.1
          generalize hbn : bl.length = bn at *
          have HBn := hid hbn
          clear hin hvn hbn
          by_cases hin2 : K < pos + 1 + run.length
          · obtain ⟨hk0, hk1, hk2⟩ := HGet.out (K - (pos + 1)) (by omega)
            have hKe : pos + 1 + (K - (pos + 1)) = K := by omega
            simp only [hKe] at hk0 hk1 hk2
            have hkl' : (K : Int) < s.size := by omega
            have hq45 : ((s[K].toNat : Int) != 45) = true := by
              rw [bne_iff_ne]
              exact fun e => hk2 (UInt8.toNat_inj.1 (by show s[K].toNat = 45; omega))
            have HDr : Hid (run.drop (K - (pos + 1)) = s[K] :: run.drop (K + 1 - (pos + 1))) := by
              rw [Hid, List.drop_eq_getElem_cons (show K - (pos + 1) < run.length by omega), ← hk1]
              congr 2
              omega
            have HUs := hid HIn.out.rest
            rw [HDr.out] at HUs
            have HC := hid (digit_any s[K] wr)
            unfold digI at HC
            clear hk1 hk2 hKe
            rcases hdd : dig64 s[K] with _ | d
            · rw [hdd] at HC
              rw [usGo_none hdd] at HUs
              have HN : Hid (looseR s.size s.data.toList = none) := by
                have hne : run ≠ [] := by intro e; rw [e] at hin2; simp at hin2; omega
                have hr : readR (cutc 45 (s.data.toList.drop (pos + 1))).1 = none := by
                  rw [HRun.out, readR, if_neg hne, ← HUs.out]
                  rfl
                rw [Hid, ← HRest.out, looseR_bad hr]
                rfl
              have HBX := hid HIn.out.below
              clear hdd
              go_wp2_with fail
              refine HC.out.mono ?_
              rintro e w2 ⟨rfl, rfl⟩
              go_wp2_with fail
              go_ret2
              refine ⟨?_, HBX.out⟩
              unfold rdecV
              rw [HN.out]
              rfl
            · rw [hdd] at HC
              rw [usGo_some hdd] at HUs
              have hd : d < 64 := (index_dig' s[K]).2 d hdd
              clear hdd
              obtain ⟨p1, p2⟩ := push_plain X d bl.length (by rw [HBn.out]; omega) hd
              rw [HIn.out.val] at p1
              have hX' : (X : Int) * 64 % 4194304 + (d : Int) = ((X * 64 % 4194304 + d : Nat) : Int) := by omega
              have hb6 : (bl ++ bitsN 6 d).length = bn + 6 := by rw [List.length_append, bitsN_length, HBn.out]
              have HBits : Hid (Bits (bl ++ bitsN 6 d)) := bits_append HIn.out.bits (bitsN_bits _ _)
              have HVal : Hid ((X * 64 % 4194304 + d) % 2 ^ (bl ++ bitsN 6 d).length = valB (bl ++ bitsN 6 d)) := by
                rw [Hid, List.length_append, bitsN_length, p1, valB_append, bitsN_length, valB_bitsN, Nat.mod_eq_of_lt (show d < 2 ^ 6 by omega)]
              have hd0 : (0 : Int) ≤ d := by omega
              have hX64 : (X : Int) * 64 ≤ 268435456 := by omega
              generalize X * 64 % 4194304 + d = Y at hX' HVal p2
              have HB6 := hid hb6
              clear p1 hb6
              by_cases h16 : 16 ≤ bn + 6
              · have h16' : (16 : Int) ≤ (bn : Int) + 6 := by omega
                rw [if_pos (by rw [HB6.out]; exact h16)] at HUs
                obtain ⟨mm, hmm⟩ : ∃ mm, bn + 6 = mm + 16 := ⟨bn + 6 - 16, by omega⟩
                have hmI : (bn : Int) + 6 - 16 = (mm : Int) := by omega
                have tn := take_nat Y 16 (bl ++ bitsN 6 d) HBits.out (by rw [HB6.out]; exact h16) HVal.out
                rw [HB6.out, show bn + 6 - 16 = mm by omega, show (2 : Nat) ^ 16 - 1 = 2 ^ 16 - 1 from rfl, Nat.and_two_pow_sub_one_eq_mod] at tn
                have hUv : (Y : Int) / 2 ^ mm % 65536 = ((valB ((bl ++ bitsN 6 d).take 16) : Nat) : Int) := by
                  rw [← tn.1, Int.natCast_emod, Int.natCast_ediv, Int.natCast_pow]
                  rfl
                have hY0 : (0 : Int) ≤ (Y : Int) / 2 ^ mm := Int.ediv_nonneg (by omega) (Int.pow_nonneg (by omega))
                have hUt : ((Y : Int) / 2 ^ mm).tmod 65536 = ((valB ((bl ++ bitsN 6 d).take 16) : Nat) : Int) := by rw [Int.tmod_eq_emod_of_nonneg hY0]; exact hUv
                have HTn2 := hid tn.2
                have hv16 : valB ((bl ++ bitsN 6 d).take 16) < 65536 := take_len16 HBits.out (by rw [HB6.out]; exact h16)
                clear tn
                generalize valB ((bl ++ bitsN 6 d).take 16) = U at *
                obtain ⟨v', w4, hrun2, ho2, hb2⟩ := io_more HIn.out.io HIn.out.below.size U (by have := HIn.out.ul; omega)
                have HRun2 := hid hrun2
                have HO2 := hid ho2
                have HB2 := hid (HIn.out.below.trans hb2)
                obtain ⟨be, bq, bf, rfl, hbq⟩ := ho2.slice3
                clear hrun2 ho2 hb2 hbq
                go_wp2_with fail
                refine HC.out.mono ?_
                rintro e w2 ⟨rfl, rfl⟩
                go_wp2_with fail
                refine HC.out.mono ?_
                rintro e w3 ⟨rfl, rfl⟩
                go_wp2_with (at_builtin; refine wpList_append_run rfl rfl HRun2.out ?_)
                go_roundw
                case rel =>
                  refine ⟨K + 1, Y, (bl ++ bitsN 6 d).drop 16, us ++ [U], by omega, rfl, by rw [List.length_drop, HB6.out, hmm]; congr 1, by go_num, ⟨HO2.out, by omega, p2, ?_, bits_drop HBits.out 16, by rw [List.length_drop, HB6.out]; omega, ?_, ?_, ?_, HB2.out⟩⟩
                  · rw [List.length_drop, HB6.out, show bn + 6 - 16 = mm by omega]; exact HTn2.out
                  · rw [← HUs.out, Option.map_map]
                    congr 1
                    funext x
                    simp
                  · have := HIn.out.ul; rw [List.length_append]; simp; omega
                  · intro u hu
                    rcases List.mem_append.1 hu with hu | hu
                    · exact HIn.out.usm u hu
                    · simp at hu; subst hu; exact hv16
                case measure => simp [intOf]; omega
              · have h16' : ¬ (16 : Int) ≤ (bn : Int) + 6 := by omega
                rw [if_neg (by rw [HB6.out]; exact h16)] at HUs
                go_wp2_with fail
                refine HC.out.mono ?_
                rintro e w2 ⟨rfl, rfl⟩
                go_wp2_with fail
                refine HC.out.mono ?_
                rintro e w3 ⟨rfl, rfl⟩
                go_wp2_with fail
                go_roundw
                case rel => exact ⟨K + 1, Y, bl ++ bitsN 6 d, us, by omega, rfl, by rw [HB6.out]; go_num, by go_num, ⟨HIn.out.io, by omega, p2, HVal.out, HBits.out, by rw [HB6.out]; omega, HUs.out, by have := HIn.out.ul; omega, HIn.out.usm, HIn.out.below⟩⟩
                case measure => simp [intOf]; omega
          · have hKe0 : K = pos + 1 + run.length := by omega
            have HKe := hid hKe0
            have hKe1 : K ≤ pos + 1 + run.length := by omega
            have hKe2 : pos + 1 + run.length ≤ K := by omega
            clear hKe0
            have HUs : Hid (usGo run [] = some us) := by
              have := HIn.out.rest
              rw [List.drop_eq_nil_of_le (by omega), usGo] at this
              rw [Hid, ← this]
              simp
            rcases Bool.eq_false_or_eq_true (cutc 45 (s.data.toList.drop (pos + 1))).2.2 with hf | hf
            · have HF := hid hf
              have l1 := HCl.out.2 hf
              obtain ⟨e1, e2⟩ := HCe.out hf
              have hKs : K < s.size := by omega
              have hKs' : (K : Int) < s.size := by omega
              have h45 : s[K] = 45 := by
                rw [List.getElem?_drop] at e1
                have := (List.getElem?_eq_some_iff.1 e1).2
                have e3 : s[K] = s.data.toList[pos + 1 + run.length]'(by rw [← Go.Lib.size_eq]; omega) := by
                  have e4 : ∀ (a b : Nat) (ha : a < s.size) (hb : b < s.data.toList.length), a = b → s[a] = s.data.toList[b] := by
                    intro a b ha hb e
                    subst e
                    rfl
                  exact e4 _ _ _ _ HKe.out
                rw [e3]
                exact this
              have hq45 : ((s[K].toNat : Int) != 45) = false := by rw [h45]; rfl
              have hne : ((K : Int) == (s.size : Int)) = false := by rw [beq_eq_false_iff_ne]; omega
              have HE2 : Hid (s.data.toList.drop (K + 1) = (cutc 45 (s.data.toList.drop (pos + 1))).2.1) := by
                rw [Hid, ← e2, List.drop_drop]
                congr 1
                omega
              have hul := HIn.out.ul
              clear hf h45 e1 e2
              by_cases hre : run = []
              · have hq1 : ((K : Int) == (pos : Int) + 1) = true := by rw [beq_iff_eq, HKe.out, hre]; simp
                have HOn : Hid ((looseR m (s.data.toList.drop (K + 1))).map ((out ++ [38]) ++ ·) = looseR s.size s.data.toList) := by
                  have hr : readR (cutc 45 (s.data.toList.drop (pos + 1))).1 = some [38] := by rw [HRun.out, readR, if_pos hre]
                  rw [Hid, ← HRest.out, looseR_on HF.out hr, HE2.out, Option.map_map]
                  congr 1
                  funext x
                  simp
                have HStr : Hid (str out ++ (⟨#[38]⟩ : ByteArray) = str (out ++ [38])) := by rw [Hid, app_str, str_data]
                have hlen : run.length = 0 := by rw [hre]; rfl
                clear hre
                go_wp2_with fail
                go_roundw
                case rel => exact ⟨K + 1, m, _, by omega, by go_num, by rw [← HStr.out], HOn.out, by omega, by simp; omega, HIn.out.below⟩
                case measure => simp [intOf]; omega
              · have hrl := List.length_pos_iff.2 hre
                have hq1 : ((K : Int) == (pos : Int) + 1) = false := by rw [beq_eq_false_iff_ne]; omega
                have HOn : Hid ((looseR m (s.data.toList.drop (K + 1))).map ((out ++ letsR us) ++ ·) = looseR s.size s.data.toList) := by
                  have hr : readR (cutc 45 (s.data.toList.drop (pos + 1))).1 = some (letsR us) := by rw [HRun.out, readR, if_neg hre, HUs.out]; rfl
                  rw [Hid, ← HRest.out, looseR_on HF.out hr, HE2.out, Option.map_map]
                  congr 1
                  funext x
                  simp
                have HStr : Hid (str out ++ str (letsR us) = str (out ++ letsR us)) := by rw [Hid, app_str, str_data, str_data]
                have hll := letsR_len us
                have hlsz : (str (letsR us)).size ≤ 5000 := by rw [str_size]; omega
                clear hre
                go_wp2_with fail
                refine (letters_any HIn.out.io.il (by omega) HIn.out.usm).mono ?_
                rintro e w3 ⟨rfl, hb3⟩
                have HB3 := hid (HIn.out.below.trans (hb3.mono HIn.out.below.size))
                clear hb3
                go_wp2_with fail
                go_roundw
                case rel => exact ⟨K + 1, m, _, by omega, by go_num, by rw [← HStr.out], HOn.out, by omega, by rw [List.length_append]; omega, HB3.out⟩
                case measure => simp [intOf]; omega
            · have hn := HCn.out hf
              have hKs : (s.size : Int) ≤ K := by
                have := congrArg List.length hn
                rw [List.length_drop, ← Go.Lib.size_eq] at this
                omega
              have hKeq : (K : Int) = s.size := by omega
              have hKq : ((K : Int) == (s.size : Int)) = true := by rw [beq_iff_eq]; exact hKeq
              have hKlt : ¬ (K : Int) < s.size := by omega
              have HN : Hid (looseR s.size s.data.toList = none) := by
                rw [Hid, ← HRest.out, looseR_open hf]
                rfl
              have HBX := hid HIn.out.below
              clear hf hn hKeq hKs
              go_wp2_with fail
              go_ret2
              refine ⟨?_, HBX.out⟩
              unfold rdecV
              rw [HN.out]
              rfl
      · have hq : ((s[pos].toNat : Int) != 38) = true := by
          rw [bne_iff_ne]
          exact fun e => hc (UInt8.toNat_inj.1 (by show s[pos].toNat = 38; omega))
        rw [HD.out, looseR_byte hc] at HRest
        have HStr : Hid (str out ++ s.extract pos (pos + 1) = str (out ++ [s[pos]])) := by
          rw [Hid, Go.Lib.extract_eq, app_str, str_data, show pos + 1 - pos = 1 by omega, HD.out]
          rfl
        have hes : (s.extract pos (pos + 1)).size ≤ 1 := by
          rw [Go.Lib.extract_eq]
          show (str _).size ≤ 1
          rw [str_size, List.length_take]
          omega
        clear hc
        go_wp2_with fail
        go_roundw
        case rel => exact ⟨pos + 1, m, _, by omega, by go_num, by rw [← HStr.out], by rw [← HRest.out, Option.map_map]; congr 1; funext x; simp, by omega, by simp; omega, HB.out⟩
        case measure => simp [intOf]; omega
    · have HT : Hid (looseR s.size s.data.toList = some out) := by
        have := HRest.out
        rw [List.drop_eq_nil_of_le (by rw [← Go.Lib.size_eq]; omega), looseR_nil] at this
        rw [Hid, ← this]
        simp
      have HEn : Hid (Env wr) := HE0.out.later HB.out
      go_wp2_with fail
      refine (rencode_any (str out) HEn.out (by rw [str_size]; omega)).mono ?_
      rintro e w8 ⟨rfl, hb8⟩
      have HB8 : Hid (Below w.heap.size w w8) := HB.out.trans (hb8.mono HB.out.size)
      clear hb8
      rcases Bool.eq_false_or_eq_true (Go.Lib.validD out) with hv | hv
      · have HV : Hid (encV (str out) = .tuple #[.string (str (encS out)), .int .i64 0]) := by simp [Hid, encV, str_data, hv]
        rw [HV.out]
        by_cases he : encS out = s.data.toList
        · have hq : ((str (encS out)).toList == s.toList) = true := by rw [Go.Lib.toList_data, Go.Lib.toList_data, str_data, he]; simp
          have hq2 : ((str (encS out)).toList != s.toList) = false := by rw [bne, hq]; rfl
          have HE := hid he
          clear he
          go_wp2_with fail
          go_ret2
          refine ⟨?_, HB8.out⟩
          unfold rdecV
          rw [HT.out]
          have hc : Go.Lib.validD out = true ∧ encS out = s.data.toList := ⟨hv, HE.out⟩
          simp only [if_pos hc]
          rfl
        · have hq : ((str (encS out)).toList == s.toList) = false := by rw [Go.Lib.toList_data, Go.Lib.toList_data, str_data]; simpa using he
          have hq2 : ((str (encS out)).toList != s.toList) = true := by rw [bne, hq]; rfl
          have HE := hid he
          clear he
          go_wp2_with fail
          go_ret2
          refine ⟨?_, HB8.out⟩
          unfold rdecV
          rw [HT.out]
          have hc : ¬ (Go.Lib.validD out = true ∧ encS out = s.data.toList) := fun h => HE.out h.2
          simp only [if_neg hc]
          rfl
      · have HV : Hid (encV (str out) = .tuple #[.string ⟨#[]⟩, .int .i64 11]) := by simp [Hid, encV, str_data, hv]
        rw [HV.out]
        go_wp2_with fail
        go_ret2
        refine ⟨?_, HB8.out⟩
        unfold rdecV
        rw [HT.out]
        have hc : ¬ (Go.Lib.validD out = true ∧ encS out = s.data.toList) := fun h => by rw [hv] at h; cases h.1
        simp only [if_neg hc]
        rfl
end Go.Proofs.YtkmggkcipgfhdaaDoor
