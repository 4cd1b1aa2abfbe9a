/- What this text holds: what a text in seven bits is: the program's answer. -/
import Derived.Test.YtkmggkcipgfhdaaDoorM6
import Derived.Lib.IndexMore
namespace Go.Proofs.YtkmggkcipgfhdaaDoor
open Go.RowKit
set_option linter.unusedVariables false
set_option linter.unusedSimpArgs false

/-- A text is cut at a byte. -/
def cutc (c : UInt8) : List UInt8 → List UInt8 × List UInt8 × Bool
  | [] => ([], [], false)
  | b :: l => if b = c then ([], l, true) else (b :: (cutc c l).1, (cutc c l).2.1, (cutc c l).2.2)
theorem cut_eq (c : UInt8) (l : List UInt8) : Go.Lib.cut l [c] = cutc c l := by
  induction l with
  | nil => rfl
  | cons b l ih =>
    have hge := Go.Lib.index_ge l [c]
    unfold Go.Lib.cut at ih ⊢
    unfold cutc
    by_cases hb : b = c
    · subst hb
      simp [Go.Lib.index]
    · have e1 : Go.Lib.index (b :: l) [c] = if Go.Lib.index l [c] == -1 then -1 else Go.Lib.index l [c] + 1 := by
        simp [Go.Lib.index, List.isPrefixOf, Ne.symm hb]
      rw [e1, if_neg hb, ← ih]
      by_cases hn : Go.Lib.index l [c] = -1
      · simp [hn]
      · have hp : 0 ≤ Go.Lib.index l [c] := by omega
        have hp1 : 0 ≤ Go.Lib.index l [c] + 1 := by omega
        have e2 : (Go.Lib.index l [c] + 1).toNat = (Go.Lib.index l [c]).toNat + 1 := by omega
        have e3 : (Go.Lib.index l [c] == -1) = false := by simpa using hn
        have e4 : (Go.Lib.index l [c]).toNat + 1 + [c].length = ((Go.Lib.index l [c]).toNat + [c].length) + 1 := by omega
        simp only [e3, Bool.false_eq_true, if_false, if_pos hp1, if_pos hp, e2, e4, List.take_succ_cons, List.drop_succ_cons]
theorem cut_len (c : UInt8) (l : List UInt8) : (cutc c l).1.length + (cutc c l).2.1.length ≤ l.length ∧ ((cutc c l).2.2 = true → (cutc c l).1.length + (cutc c l).2.1.length + 1 = l.length) := by
  induction l with
  | nil => simp [cutc]
  | cons b l ih =>
    unfold cutc
    split
    · simp
    · refine ⟨by simp only [List.length_cons]; omega, fun h => ?_⟩
      have := ih.2 h
      simp only [List.length_cons]
      omega
theorem cut_any (s : ByteArray) (c : UInt8) {w : World} (h : Env w) (hs : s.size < 4294967281) :
    Calls Tryd.prog 43 #[.string s, .string ⟨#[c]⟩] w fun e w' => e = .returned (.tuple #[.string (str (cutc c s.data.toList).1), .string (str (cutc c s.data.toList).2.1), .bool (cutc c s.data.toList).2.2]) ∧ ∃ n, w' = w.drewN n := by
  obtain ⟨m, hm⟩ := h.num
  have := Tryd.strings_Cut s ⟨#[c]⟩ m w hs hm
  rw [show (⟨#[c]⟩ : ByteArray).data.toList = [c] from rfl, cut_eq] at this
  exact this

/-- What is read of a text in seven bits, however loosely. -/
def loose : Nat → List UInt8 → Option (List UInt8)
  | 0, _ => some []
  | n + 1, l => if l = [] then some [] else
      if (cutc 38 l).2.2 = true then
        if (cutc 45 (cutc 38 l).2.1).2.2 = true then
          match readP (cutc 45 (cutc 38 l).2.1).1 with
          | none => none
          | some o => (loose n (cutc 45 (cutc 38 l).2.1).2.1).map ((cutc 38 l).1 ++ o ++ ·)
        else none
      else some (cutc 38 l).1
theorem loose_nil (n : Nat) : loose n [] = some [] := by cases n <;> simp [loose]
theorem loose_end {n : Nat} {l : List UInt8} (hn : l ≠ []) (h1 : (cutc 38 l).2.2 = false) : loose (n + 1) l = some (cutc 38 l).1 := by simp [loose, hn, h1]
theorem loose_open {n : Nat} {l : List UInt8} (hn : l ≠ []) (h1 : (cutc 38 l).2.2 = true) (h2 : (cutc 45 (cutc 38 l).2.1).2.2 = false) : loose (n + 1) l = none := by simp [loose, hn, h1, h2]
theorem loose_bad {n : Nat} {l : List UInt8} (hn : l ≠ []) (h1 : (cutc 38 l).2.2 = true) (h2 : (cutc 45 (cutc 38 l).2.1).2.2 = true) (h3 : readP (cutc 45 (cutc 38 l).2.1).1 = none) : loose (n + 1) l = none := by simp [loose, hn, h1, h2, h3]
theorem loose_on {n : Nat} {l : List UInt8} {o : List UInt8} (hn : l ≠ []) (h1 : (cutc 38 l).2.2 = true) (h2 : (cutc 45 (cutc 38 l).2.1).2.2 = true) (h3 : readP (cutc 45 (cutc 38 l).2.1).1 = some o) :
    loose (n + 1) l = (loose n (cutc 45 (cutc 38 l).2.1).2.1).map ((cutc 38 l).1 ++ o ++ ·) := by simp [loose, hn, h1, h2, h3]

/-- What Decode answers. -/
def decV (s : ByteArray) : Value :=
  match loose s.size s.data.toList with
  | none => .tuple #[.string ⟨#[]⟩, .int .i64 11]
  | some t => if Go.Lib.validD t = true ∧ encS t = s.data.toList then .tuple #[.string (str t), .int .i64 0] else .tuple #[.string ⟨#[]⟩, .int .i64 11]

theorem readGo_len : ∀ (run : List UInt8) (half : Nat) (bl : List Nat) (o : List UInt8), readGo run half bl = some o → o.length ≤ 4 * run.length
  | [], _, _, o, h => by simp [readGo] at h; subst h; simp
  | c :: t, half, bl, o, h => by
    rcases hd : dig64 c with _ | d
    · rw [readGo_none hd] at h; cases h
    · rw [readGo_some hd] at h
      split at h
      · obtain ⟨o', ho', rfl⟩ := Option.map_eq_some_iff.1 h
        have h1 := readGo_len t _ _ o' ho'
        have h2 := letP_len half (valB ((bl ++ bitsN 6 d).take 16))
        simp only [List.length_append, List.length_cons]
        omega
      · have h1 := readGo_len t _ _ o h
        simp only [List.length_cons]
        omega
theorem readP_len {run o : List UInt8} (h : readP run = some o) : o.length ≤ 4 * run.length + 1 := by
  unfold readP at h
  split at h
  · cases h; simp
  · have := readGo_len _ _ _ _ h; omega

/-- The string of a value. -/
def strOfV : Value → ByteArray
  | .string s => s
  | _ => ⟨#[]⟩
/-- How Decode's loop stands. -/
structure DecAt (B : Nat) (s rest : ByteArray) (w0 w : World) (n : Nat) (bl : List Nat) (done : List UInt8) : Prop where
  at_ : BAt w B B ⟨done, bl, false⟩
  rest_ : (loose n rest.data.toList).map (done ++ ·) = loose s.size s.data.toList
  fuel : rest.size ≤ n
  len : done.length + 4 * rest.size ≤ 4 * s.size
  below : Below B w0 w
theorem BAt.drewN {w : World} {B b : Nat} {s : St} (h : BAt w B b s) (n : Nat) : BAt (w.drewN n) B b s := ⟨h.at_, h.base, h.bits⟩
theorem ne_of_size {s : ByteArray} (h : ¬ s.size = 0) : s.data.toList ≠ [] := by
  intro e
  have := congrArg List.length e
  rw [← Go.Lib.size_eq] at this
  exact h this
theorem empty_of_size {s : ByteArray} (h : s.size = 0) : s = ⟨#[]⟩ := by
  apply ByteArray.ext
  exact Array.eq_empty_of_size_eq_zero h
theorem below_drewN {B : Nat} {a w : World} (h : Below B a w) (n : Nat) : Below B a (w.drewN n) := h.trans ⟨rfl, rfl, rfl, Nat.le_refl _, fun _ _ => rfl⟩

set_option maxRecDepth 100000 in
set_option maxHeartbeats 4000000 in
theorem dec_any (s : ByteArray) {w : World} (h : Env w) (hs : s.size ≤ 25000) :
    Calls Tryd.prog 13 #[.string s] w fun e w' => e = .returned (decV s) ∧ Below w.heap.size w w' := by
  have HEnv0 := hid h
  clear h
  go_enter Tryd.func13, Tryd.ntmps13
  go_wp2_with fail
  have H0 : Hid (DecAt w.heap.size s s w (w.alloc (.cells #[.slice none 0 0, .int .u32 0, .int .i64 0, .bool false] 47)) s.size [] []) :=
    ⟨zero_at w, by simp, Nat.le_refl _, by simp, (Below.refl _ _).alloc (Nat.le_refl _) _⟩
  generalize w.alloc (.cells #[.slice none 0 0, .int .u32 0, .int .i64 0, .bool false] 47) = w1 at H0 ⊢
  generalize hBe : w.heap.size = B at H0 ⊢
  have HBe := hid hBe
  clear hBe
  go_loopw [5] (fun r wr => ∃ (rest : ByteArray) (n : Nat) (bl : List Nat) (done : List UInt8), r = .string rest ∧ DecAt B s rest w wr n bl done) (fun r _ => (strOfV r).size)
  case atStart => exact ⟨s, s.size, [], [], rfl, H0.out⟩
  case round =>
    obtain ⟨rest, n, bl, done, rfl, hD⟩ := hrel
    have HD := hid hD
    clear hD
    have HEn : Hid (Env wr) := HEnv0.out.later (by rw [HBe.out]; exact HD.out.below)
    have hlen := HD.out.len
    by_cases h0 : rest.size = 0
    · obtain rfl := empty_of_size h0
      have HEnv := HEn
      have HO := hid HD.out.at_
      have HBel : Hid (Below w.heap.size w wr) := by rw [HBe.out]; exact HD.out.below
      have HT : Hid (loose s.size s.data.toList = some done) := by
        have := HD.out.rest_
        rw [show (⟨#[]⟩ : ByteArray).data.toList = [] from rfl, loose_nil] at this
        rw [Hid, ← this]
        simp
      have hdl : done.length ≤ 4 * s.size := by omega
      clear h0 HD hlen HEn HBe
      generalize done = T at *
      go_wp2_with fail
      refine (text_any HO.out).mono ?_
      rintro e w7 ⟨rfl, rfl⟩
      go_wp2_with fail
      refine (enc_any (str T) HEnv.out (by rw [str_size]; omega)).mono ?_
      rintro e w8 ⟨rfl, hb8⟩
      have HB8 : Hid (Below w.heap.size w w8) := HBel.out.trans (hb8.mono HBel.out.size)
      clear hb8
      rcases Bool.eq_false_or_eq_true (Go.Lib.validD T) with hv | hv
      · have HV : Hid (encV (str T) = .tuple #[.string (str (encS T)), .int .i64 0]) := by simp [Hid, encV, str_data, hv]
        rw [HV.out]
        by_cases he : encS T = s.data.toList
        · have hq : ((str (encS T)).toList == s.toList) = true := by rw [Go.Lib.toList_data, Go.Lib.toList_data, str_data, he]; simp
          have hq2 : ((str (encS T)).toList != s.toList) = false := by rw [bne, hq]; rfl
          have HE := hid he
          clear he
          go_wp2_with fail
          go_ret2
          refine ⟨?_, HB8.out⟩
          unfold decV
          rw [HT.out]
          have hc : Go.Lib.validD T = true ∧ encS T = s.data.toList := ⟨hv, HE.out⟩
          simp only [if_pos hc]
          rfl
        · have hq : ((str (encS T)).toList == s.toList) = false := by rw [Go.Lib.toList_data, Go.Lib.toList_data, str_data]; simpa using he
          have hq2 : ((str (encS T)).toList != s.toList) = true := by rw [bne, hq]; rfl
          have HE := hid he
          clear he
          go_wp2_with fail
          go_ret2
          refine ⟨?_, HB8.out⟩
          unfold decV
          rw [HT.out]
          have hc : ¬ (Go.Lib.validD T = true ∧ encS T = s.data.toList) := fun h => HE.out h.2
          simp only [if_neg hc]
          rfl
      · have HV : Hid (encV (str T) = .tuple #[.string ⟨#[]⟩, .int .i64 11]) := by simp [Hid, encV, str_data, hv]
        rw [HV.out]
        go_wp2_with fail
        go_ret2
        refine ⟨?_, HB8.out⟩
        unfold decV
        rw [HT.out]
        have hc : ¬ (Go.Lib.validD T = true ∧ encS T = s.data.toList) := fun h => by rw [hv] at h; cases h.1
        simp only [if_neg hc]
        rfl
    · have hR := ne_of_size h0
      have hne : (rest.toList == []) = false := by rw [Go.Lib.toList_data, beq_eq_false_iff_ne]; exact hR
      have hne2 : (rest.toList == (⟨#[]⟩ : ByteArray).toList) = false := by rw [Go.Lib.toList_data ⟨#[]⟩]; exact hne
      have hne3 : (rest.toList != (⟨#[]⟩ : ByteArray).toList) = true := by rw [bne, hne2]; rfl
      have hne4 : (rest.toList != []) = true := by rw [bne, hne]; rfl
      have HR := hid hR
      obtain ⟨n, rfl⟩ : ∃ m, n = m + 1 := ⟨n - 1, by have := HD.out.fuel; omega⟩
      have HCl := hid (cut_len 38 rest.data.toList)
      clear hR
      go_wp2_with fail
      refine (cut_any rest 38 HEn.out (by omega)).mono ?_
      rintro e w2 ⟨rfl, q, hw2⟩
      have H2 : Hid (BAt w2 B B ⟨done, bl, false⟩) := by rw [hw2]; exact HD.out.at_.drewN q
      have HB2 : Hid (Below B w w2) := by rw [hw2]; exact below_drewN HD.out.below q
      clear hw2
      obtain ⟨cap, w3, hcv, hsrc, hb3⟩ := conv_made w2 (str (cutc 38 rest.data.toList).1)
      rw [str_data] at hsrc
      have HS3 := hid hsrc
      have HB3 := hid hb3
      clear hsrc hb3
      go_wp2_with fail
      refine (add_any (H2.out.later HB3.out) (by have := HB3.out.size; have := HB2.out.size; have := HBe.out; omega) HS3.out (by simp only; omega) (by have := HCl.out.1; rw [← Go.Lib.size_eq] at this; omega)).mono ?_
      rintro e w4 ⟨rfl, h4, hb4⟩
      have H4 : Hid (BAt w4 B B ⟨done ++ (cutc 38 rest.data.toList).1, bl, false⟩) := h4
      have HB4 : Hid (Below B w w4) := (HB2.out.trans (HB3.out.mono (by have := HB2.out.size; have := HBe.out; omega))).trans hb4.below
      clear h4 hb4 HS3 HB3 hcv H2 HB2
      rcases Bool.eq_false_or_eq_true (cutc 38 rest.data.toList).2.2 with h38 | h38
      · have HL1 := hid (HCl.out.2 h38)
        have H38 := hid h38
        rw [h38]
        clear h38
        have HEn4 : Hid (Env w4) := HEnv0.out.later (by rw [HBe.out]; exact HB4.out)
        go_wp2_with fail
        refine (cut_any (str (cutc 38 rest.data.toList).2.1) 45 HEn4.out (by have := HL1.out; rw [← Go.Lib.size_eq] at this; rw [str_size]; omega)).mono ?_
        rintro e w5 ⟨rfl, q, hw5⟩
        rw [str_data]
        have H5 : Hid (BAt w5 B B ⟨done ++ (cutc 38 rest.data.toList).1, bl, false⟩) := by rw [hw5]; exact H4.out.drewN q
        have HB5 : Hid (Below B w w5) := by rw [hw5]; exact below_drewN HB4.out q
        clear hw5 H4 HB4
        have HC2 := hid (cut_len 45 (cutc 38 rest.data.toList).2.1)
        rcases Bool.eq_false_or_eq_true (cutc 45 (cutc 38 rest.data.toList).2.1).2.2 with h45 | h45
        · have HL2 := hid (HC2.out.2 h45)
          have H45 := hid h45
          rw [h45]
          clear h45
          go_wp2_with fail
          refine (read_any H5.out (by have := HB5.out.size; have := HBe.out; omega) (by have := HL1.out; rw [← Go.Lib.size_eq] at this; simp; omega) (str (cutc 45 (cutc 38 rest.data.toList).2.1).1) (by have := HL1.out; rw [← Go.Lib.size_eq] at this; have := HL2.out; rw [str_size]; omega)).mono ?_
          rintro e w6 hP
          rw [str_data] at hP
          unfold ReadPost at hP
          rcases hrp : readP (cutc 45 (cutc 38 rest.data.toList).2.1).1 with _ | o
          · rw [hrp] at hP
            obtain ⟨rfl, hk6⟩ := hP
            have HB6 := hid (HB5.out.trans hk6.below)
            have HN : Hid (loose s.size s.data.toList = none) := by
              rw [Hid, ← HD.out.rest_, loose_bad HR.out H38.out H45.out hrp]
              rfl
            clear hk6 hrp
            go_wp2_with fail
            go_ret2
            refine ⟨?_, by rw [HBe.out]; exact HB6.out⟩
            unfold decV
            rw [HN.out]
            rfl
          · rw [hrp] at hP
            obtain ⟨rfl, ⟨bl2, h6⟩, hk6⟩ := hP
            have H6 := hid h6
            have HB6 := hid (HB5.out.trans hk6.below)
            have HN := hid (loose_on (n := n) HR.out H38.out H45.out hrp)
            have HOl := hid (readP_len hrp)
            clear h6 hk6 hrp
            go_wp2_with fail
            go_roundw
            case rel =>
              have e1 := HL1.out
              have e2 := HL2.out
              have e3 := HOl.out
              rw [← Go.Lib.size_eq] at e1
              refine ⟨_, n, bl2, done ++ (cutc 38 rest.data.toList).1 ++ o, rfl, ⟨H6.out, ?_, ?_, ?_, HB6.out⟩⟩
              · rw [str_data, ← HD.out.rest_, HN.out, Option.map_map]
                congr 1
                funext x
                simp
              · have := HD.out.fuel; rw [str_size]; omega
              · rw [str_size]; simp only [List.length_append]; omega
            case measure =>
              have e1 := HL1.out
              have e2 := HL2.out
              rw [← Go.Lib.size_eq] at e1
              simp only [strOfV, str_size]
              omega
        · have HN : Hid (loose s.size s.data.toList = none) := by
            rw [Hid, ← HD.out.rest_, loose_open HR.out H38.out h45]
            rfl
          rw [h45]
          clear h45
          go_wp2_with fail
          go_ret2
          refine ⟨?_, by rw [HBe.out]; exact HB5.out⟩
          unfold decV
          rw [HN.out]
          rfl
      · have HT : Hid (loose s.size s.data.toList = some (done ++ (cutc 38 rest.data.toList).1)) := by
          rw [Hid, ← HD.out.rest_, loose_end HR.out h38]
          rfl
        have hdl : (done ++ (cutc 38 rest.data.toList).1).length ≤ 4 * s.size := by
          have := HCl.out.1
          rw [← Go.Lib.size_eq] at this
          rw [List.length_append]
          omega
        have HEnv : Hid (Env w4) := HEnv0.out.later (by rw [HBe.out]; exact HB4.out)
        have HBel : Hid (Below w.heap.size w w4) := by rw [HBe.out]; exact HB4.out
        have HO := H4
        rw [h38]
        clear h38 HD HCl HR H4 HB4 HBe HEn
        generalize done ++ (cutc 38 rest.data.toList).1 = T at *
        go_wp2_with fail
        refine (text_any HO.out).mono ?_
        rintro e w7 ⟨rfl, rfl⟩
        go_wp2_with fail
        refine (enc_any (str T) HEnv.out (by rw [str_size]; omega)).mono ?_
        rintro e w8 ⟨rfl, hb8⟩
        have HB8 : Hid (Below w.heap.size w w8) := HBel.out.trans (hb8.mono HBel.out.size)
        clear hb8
        rcases Bool.eq_false_or_eq_true (Go.Lib.validD T) with hv | hv
        · have HV : Hid (encV (str T) = .tuple #[.string (str (encS T)), .int .i64 0]) := by simp [Hid, encV, str_data, hv]
          rw [HV.out]
          by_cases he : encS T = s.data.toList
          · have hq : ((str (encS T)).toList == s.toList) = true := by rw [Go.Lib.toList_data, Go.Lib.toList_data, str_data, he]; simp
            have hq2 : ((str (encS T)).toList != s.toList) = false := by rw [bne, hq]; rfl
            have HE := hid he
            clear he
            go_wp2_with fail
            go_ret2
            refine ⟨?_, HB8.out⟩
            unfold decV
            rw [HT.out]
            have hc : Go.Lib.validD T = true ∧ encS T = s.data.toList := ⟨hv, HE.out⟩
            simp only [if_pos hc]
            rfl
          · have hq : ((str (encS T)).toList == s.toList) = false := by rw [Go.Lib.toList_data, Go.Lib.toList_data, str_data]; simpa using he
            have hq2 : ((str (encS T)).toList != s.toList) = true := by rw [bne, hq]; rfl
            have HE := hid he
            clear he
            go_wp2_with fail
            go_ret2
            refine ⟨?_, HB8.out⟩
            unfold decV
            rw [HT.out]
            have hc : ¬ (Go.Lib.validD T = true ∧ encS T = s.data.toList) := fun h => HE.out h.2
            simp only [if_neg hc]
            rfl
        · have HV : Hid (encV (str T) = .tuple #[.string ⟨#[]⟩, .int .i64 11]) := by simp [Hid, encV, str_data, hv]
          rw [HV.out]
          go_wp2_with fail
          go_ret2
          refine ⟨?_, HB8.out⟩
          unfold decV
          rw [HT.out]
          have hc : ¬ (Go.Lib.validD T = true ∧ encS T = s.data.toList) := fun h => by rw [hv] at h; cases h.1
          simp only [if_neg hc]
          rfl
end Go.Proofs.YtkmggkcipgfhdaaDoor
