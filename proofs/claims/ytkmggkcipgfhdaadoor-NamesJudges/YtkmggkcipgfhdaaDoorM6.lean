/- What this text holds: a run of base 64 is read: the program's loop. -/
import Derived.Test.YtkmggkcipgfhdaaDoorM5
namespace Go.Proofs.YtkmggkcipgfhdaaDoor
open Go.RowKit
set_option linter.unusedVariables false
set_option linter.unusedSimpArgs false

/-- What is written of a run, with a half and bits that wait. -/
def readGo : List UInt8 → Nat → List Nat → Option (List UInt8)
  | [], _, _ => some []
  | c :: t, half, bl =>
    match dig64 c with
    | none => none
    | some d =>
      if 16 ≤ (bl ++ bitsN 6 d).length then (readGo t (letP half (valB ((bl ++ bitsN 6 d).take 16))).2 ((bl ++ bitsN 6 d).drop 16)).map ((letP half (valB ((bl ++ bitsN 6 d).take 16))).1 ++ ·)
      else readGo t half (bl ++ bitsN 6 d)
theorem readGo_none {c : UInt8} {t : List UInt8} {half : Nat} {bl : List Nat} (h : dig64 c = none) : readGo (c :: t) half bl = none := by simp only [readGo, h]
theorem readGo_some {c : UInt8} {t : List UInt8} {half : Nat} {bl : List Nat} {d : Nat} (h : dig64 c = some d) : readGo (c :: t) half bl = if 16 ≤ (bl ++ bitsN 6 d).length then (readGo t (letP half (valB ((bl ++ bitsN 6 d).take 16))).2 ((bl ++ bitsN 6 d).drop 16)).map ((letP half (valB ((bl ++ bitsN 6 d).take 16))).1 ++ ·)
      else readGo t half (bl ++ bitsN 6 d) := by simp only [readGo, h]
def readP (run : List UInt8) : Option (List UInt8) := if run = [] then some [38] else readGo run 0 []

theorem index_dig : ∀ n : Fin 256, Go.Lib.indexByte abcS.data.toList (UInt8.ofNat n.val) = (match dig64 (UInt8.ofNat n.val) with | none => -1 | some d => (d : Int)) ∧ ∀ d, dig64 (UInt8.ofNat n.val) = some d → d < 64 := by
  decide +kernel
theorem index_dig' (c : UInt8) : Go.Lib.indexByte abcS.data.toList c = (match dig64 c with | none => -1 | some d => (d : Int)) ∧ ∀ d, dig64 c = some d → d < 64 := by
  have := index_dig ⟨c.toNat, c.toNat_lt⟩
  simpa using this
theorem letP_len (half u : Nat) : (letP half u).1.length ≤ 4 := by
  unfold letP
  have h1 := (Go.Lib.encodeRuneZ_length (65536 + ((half : Int) - 55296) * 1024 + ((u : Int) - 56320))).2
  have h2 := (Go.Lib.encodeRuneZ_length u).2
  split
  · simp
  · split
    · simpa [Go.Lib.encodeRune] using h1
    · simpa [Go.Lib.encodeRune] using h2
theorem letP_half (half u : Nat) : (letP half u).2 = 0 ∨ (55296 ≤ (letP half u).2 ∧ (letP half u).2 < 56320) := by
  unfold letP
  split
  · rename_i h; exact .inr h.2
  · split <;> simp

theorem take_len16 {l : List Nat} (hb : Bits l) (h : 16 ≤ l.length) : valB (l.take 16) < 65536 := by
  have := valB_lt (l.take 16) (bits_take hb 16)
  rw [List.length_take, Nat.min_eq_left h] at this
  exact this

/-- How the loop stands. -/
structure ReadAt (B b : Nat) (s : St) (run : List UInt8) (w0 w : World) (k half : Nat) (bl : List Nat) (done : List UInt8) : Prop where
  at_ : BAt w B b { s with out := s.out ++ done, bl := bl }
  bl16 : bl.length < 16
  half_ : half = 0 ∨ (55296 ≤ half ∧ half < 56320)
  rest : (readGo (run.drop k) half bl).map (done ++ ·) = readGo run 0 []
  len : done.length ≤ 4 * k
  kp : Kp B b w0 w

/-- What read answers. -/
def ReadPost (B b : Nat) (s : St) (run : List UInt8) (w : World) (e : Ending) (w' : World) : Prop :=
  match readP run with
  | none => e = .returned (.bool false) ∧ Kp B b w w'
  | some o => e = .returned (.bool true) ∧ (∃ bl, BAt w' B b { s with out := s.out ++ o, bl := bl }) ∧ Kp B b w w'

set_option maxRecDepth 100000 in
set_option maxHeartbeats 1000000 in
theorem read_any {w : World} {B b : Nat} {s : St} (h : BAt w B b s) (hBw : B ≤ w.heap.size) (ho : s.out.length ≤ 1000000) (run : ByteArray) (hr : run.size ≤ 50000) :
    Calls Tryd.prog 45 #[.pointer (some ⟨b, 0, none⟩), .string run] w fun e w' => ReadPost B b s run.data.toList w e w' := by
  have H := hid h
  have HBw := hid hBw
  clear h hBw
  by_cases h0 : run.size = 0
  · have e0 : run = ⟨#[]⟩ := by
      apply ByteArray.ext
      exact Array.eq_empty_of_size_eq_zero h0
    subst e0
    clear h0 hr
    go_enter Tryd.func45, Tryd.ntmps45
    go_wp2_with fail
    refine (add1 H.out HBw.out 38 _ rfl (by omega)).mono ?_
    rintro e w1 ⟨rfl, h1, hb1⟩
    have H1 := hid h1
    have HK1 := hid hb1
    clear h1 hb1
    go_wp2_with fail
    go_ret
    exact ⟨rfl, ⟨_, H1.out⟩, HK1.out⟩
  · have hne : (run.toList == []) = false := by
      rw [Go.Lib.toList_data, beq_eq_false_iff_ne]
      intro e
      have := congrArg List.length e
      rw [← Go.Lib.size_eq] at this
      exact h0 this
    have hne2 : (run.toList == (⟨#[]⟩ : ByteArray).toList) = false := by rw [Go.Lib.toList_data ⟨#[]⟩]; exact hne
    have HP : Hid (readP run.data.toList = readGo run.data.toList 0 []) := by
      unfold Hid readP
      rw [if_neg]
      intro e
      have := congrArg List.length e
      rw [← Go.Lib.size_eq] at this
      exact h0 this
    have HH : Hid (¬ run.size = 0) := h0
    clear h0
    go_enter Tryd.func45, Tryd.ntmps45
    go_wp2_with fail
    refine (clear_any H.out).mono ?_
    rintro e w1 ⟨rfl, h1, hb1⟩
    have H1 := hid h1
    have HK1 := hid hb1
    clear h1 hb1
    go_wp2_with fail
    go_loopw [5, 21] (fun h i wr => ∃ (k half : Nat) (bl : List Nat) (done : List UInt8), k ≤ run.size ∧ i = .int .i64 k ∧ h = .int .i32 half ∧ ReadAt B b s run.data.toList w wr k half bl done) (fun _ i _ => run.size - (intOf i).toNat)
    case atStart => exact ⟨0, 0, [], [], by omega, rfl, rfl, ⟨by simpa using H1.out, by simp, .inl rfl, by simp, by simp, HK1.out⟩⟩
    case round =>
      obtain ⟨k, half, bl, done, hk, rfl, rfl, hR⟩ := hrel
      have HR := hid hR
      clear hR
      by_cases hlt : k < run.size
      · have hlt' : (k : Int) < run.size := by omega
        have HD : Hid (run.data.toList.drop k = run[k] :: run.data.toList.drop (k + 1)) := by
          unfold Hid
          rw [List.drop_eq_getElem_cons (by rw [← Go.Lib.size_eq]; exact hlt)]
          rfl
        obtain ⟨hix, hd64⟩ := index_dig' run[k]
        have HC := hid (Tryd.strings_IndexByte abcS (run[k].toNat : Int) wr)
        rw [show (run[k].toNat : Int).toNat.toUInt8 = run[k] by simp, hix] at HC
        have HRest := hid HR.out.rest
        rw [HD.out] at HRest
        clear HD
        rcases hdd : dig64 run[k] with _ | d
        · rw [hdd] at HC
          rw [readGo_none hdd] at HRest
          clear hix hdd hd64
          go_wp2_with fail
          refine HC.out.mono ?_
          rintro e w2 ⟨rfl, rfl⟩
          go_wp2_with fail
          go_ret
          have : readP run.data.toList = none := by
            rw [HP.out, ← HRest.out]; rfl
          unfold ReadPost
          rw [this]
          exact ⟨rfl, HR.out.kp⟩
        · have hd := hd64 d hdd
          rw [hdd] at HC
          rw [readGo_some hdd] at HRest
          clear hix hdd hd64
          have hb6 : (bl ++ bitsN 6 d).length = bl.length + 6 := by simp [bitsN_length]
          have hbl := HR.out.bl16
          have HHalf := hid HR.out.half_
          have hdl := HR.out.len
          go_wp2_with fail
          refine HC.out.mono ?_
          rintro e w2 ⟨rfl, rfl⟩
          go_wp2_with fail
          refine (push_any HR.out.at_ d 6 (by simp; omega) (by omega) (by omega)).mono ?_
          rintro e w3 ⟨rfl, h3, hb3⟩
          have H3 := hid h3
          have HK3 := hid (HR.out.kp.trans hb3)
          clear h3 hb3
          go_wp2_with fail
          by_cases h16 : 16 ≤ (bl ++ bitsN 6 d).length
          · rw [if_pos h16] at HRest
            have hu : valB ((bl ++ bitsN 6 d).take 16) < 65536 := take_len16 H3.out.bits h16
            have hll := letP_len half (valB ((bl ++ bitsN 6 d).take 16))
            have HLH := hid (letP_half half (valB ((bl ++ bitsN 6 d).take 16)))
            have hb6' := hb6
            refine (take_any H3.out 16 (by simp only; omega) h16 (by omega)).mono ?_
            rintro e w4 ⟨rfl, h4, hb4⟩
            have H4 := hid h4
            have HK4 := hid (HK3.out.trans hb4)
            clear h4 hb4
            simp only at H4
            generalize valB ((bl ++ bitsN 6 d).take 16) = u at *
            go_wp2_with fail
            refine (letter_any H4.out (by have := HK4.out.size; have := HBw.out; omega) (by simp; omega) half u HHalf.out hu).mono ?_
            rintro e w5 ⟨rfl, h5, hb5⟩
            have H5 := hid h5
            have HK5 := hid (HK4.out.trans hb5)
            clear h5 hb5
            go_wp2_with fail
            go_roundw
            case rel =>
              refine ⟨k + 1, (letP half u).2, (bl ++ bitsN 6 d).drop 16, done ++ (letP half u).1, by omega, by go_num, rfl, ⟨?_, ?_, HLH.out, ?_, ?_, HK5.out⟩⟩
              · have := H5.out
                simp only [List.append_assoc] at this
                exact this
              · rw [List.length_drop]; omega
              · rw [← HRest.out, Option.map_map]
                congr 1
                funext x
                simp
              · rw [List.length_append]; omega
            case measure => simp [intOf]; omega
          · rw [if_neg h16] at HRest
            refine (take_no H3.out 16 (by simp only; omega) (by omega)).mono ?_
            rintro e w4 ⟨rfl, rfl⟩
            go_wp2_with fail
            go_roundw
            case rel => exact ⟨k + 1, half, bl ++ bitsN 6 d, done, by omega, by go_num, rfl, ⟨H3.out, by omega, HHalf.out, HRest.out, by omega, HK3.out⟩⟩
            case measure => simp [intOf]; omega
      · go_wp2_with fail
        go_ret
        have hrest := HR.out.rest
        rw [List.drop_eq_nil_of_le (by rw [← Go.Lib.size_eq]; omega)] at hrest
        have : readP run.data.toList = some done := by
          rw [HP.out, ← hrest]; simp [readGo]
        unfold ReadPost
        rw [this]
        exact ⟨rfl, ⟨bl, HR.out.at_⟩, HR.out.kp⟩
end Go.Proofs.YtkmggkcipgfhdaaDoor
