/- What this text holds: the document's number's text, and whether a set is right. -/
import Derived.Test.YtiiegjdclpkeeaaGreatDoorM21
namespace Go.Proofs.YtiiegjdclpkeeaaGreatDoor
open Go.RowKit
set_option linter.unusedVariables false
set_option linter.unusedSimpArgs false

theorem dig_step {n : Nat} {s t : Bs} (h : t = Go.Lib.decDigits n ++ s) (hn : ¬ n < 10) : t = Go.Lib.decDigits (n / 10) ++ (UInt8.ofNat (48 + n % 10) :: s) := by
  rw [h, dec_big hn]; simp
theorem dig_last {n : Nat} {s t : Bs} (h : t = Go.Lib.decDigits n ++ s) (hn : n < 10) : t = UInt8.ofNat (48 + n % 10) :: s := by
  rw [h, dec_small hn, Nat.mod_eq_of_lt hn]; simp
theorem one_app (c : UInt8) (s : Bs) : (⟨#[c]⟩ : ByteArray) ++ str s = str (c :: s) := by
  show str [c] ++ str s = _
  rw [app_str]; rfl
theorem dig_wrap {n : Nat} : IntKind.u8.wrap (48 + (n : Int) % 10) = 48 + (n : Int) % 10 := by
  simp [IntKind.wrap, IntKind.bits, IntKind.signed]; omega
theorem conv_dig (w : World) (m : Nat) : (convert 76 9 (.slice (some ⟨w.heap.size, 0, none⟩) 1 1)).run Tryz.prog (w.alloc (.cells #[.int .u8 (48 + (m : Int) % 10)] 5)) = .ok (.string (str [UInt8.ofNat (48 + m % 10)])) (w.alloc (.cells #[.int .u8 (48 + (m : Int) % 10)] 5)) := by
  have := run_convert_bytes_arg (P := Tryz.prog) (w.alloc (.cells #[.int .u8 (48 + (m : Int) % 10)] 5)) 76 5 Tryz.underlying76 Tryz.underlying5 w.heap.size 0 1 1 [48 + (m : Int) % 10] (by simp) (fun i hi => by
    have : i = 0 := by omega
    subst this
    simp only [World.cell?, heap_alloc_new]
    rfl) 9 Tryz.underlying9
  rw [this]
  have e : strOfNums [48 + (m : Int) % 10] = str [UInt8.ofNat (48 + m % 10)] := by
    have : (48 + (m : Int) % 10).toNat = 48 + m % 10 := by omega
    simp [strOfNums, str, this]
  rw [e]
set_option maxRecDepth 100000 in
set_option maxHeartbeats 4000000 in
theorem rdigits_any (n : Int) (h0 : 0 ≤ n) (h1 : n ≤ mx) (w : World) : Calls Tryz.prog 30 #[.int .i64 n] w (TxtIs (endB n) w) := by
  have HLen := hid (end_len h1)
  unfold mx at h1
  by_cases h : n = 0
  · subst h
    go_enter Tryz.func30, Tryz.ntmps30
    go_wp2_with fail
    go_ret
    exact ⟨rfl, Below.refl _ _⟩
  · have hb : (n == 0) = false := by simpa using h
    obtain ⟨N, rfl⟩ : ∃ N : Nat, n = N := ⟨n.toNat, by omega⟩
    have HX : Hid (endB N = Go.Lib.decDigits N) := by unfold endB; rw [Hid, if_neg h]; rfl
    have HT : Hid (endB N = Go.Lib.decDigits N ++ []) := by rw [Hid, HX.out, List.append_nil]
    have hN : 0 < N := by omega
    generalize endB N = t at *
    clear HX
    go_enter Tryz.func30, Tryz.ntmps30
    go_wp2_with fail
    go_loopw [0, 3] (fun v sv wr => ∃ (m : Nat) (s : Bs), v = .int .i64 m ∧ sv = .string (str s) ∧ m ≤ 4294967295 ∧ s.length ≤ t.length ∧ Below w.heap.size w wr ∧ ((m = 0 ∧ t = s) ∨ (0 < m ∧ t = Go.Lib.decDigits m ++ s))) (fun v _ _ => (intOf v).toNat)
    case atStart => exact ⟨N, [], rfl, rfl, by omega, by simp, Below.refl _ _, .inr ⟨hN, HT.out⟩⟩
    case round =>
      obtain ⟨m, s, rfl, rfl, hm, hs, hb1, hcase⟩ := hrel
      have HB := hid hb1
      have HC := hid hcase
      clear hb1 hcase
      have hsz := str_size s
      have hlen := HLen.out
      by_cases hm0 : (0 : Int) < m
      · have HT2 : Hid (t = Go.Lib.decDigits m ++ s) := by
          rcases HC.out with ⟨e, _⟩ | ⟨_, e⟩
          · omega
          · exact e
        have hwr : IntKind.u8.wrap (48 + (m : Int) % 10) = 48 + (m : Int) % 10 := dig_wrap
        have HCv := hid (conv_dig wr m)
        have hba : Below w.heap.size w (wr.alloc (.cells #[.int .u8 (48 + (m : Int) % 10)] 5)) := HB.out.alloc HB.out.size _
        have HBa := hid hba
        clear hba
        have HApp := hid (one_app (UInt8.ofNat (48 + m % 10)) s)
        have hq : (str [UInt8.ofNat (48 + m % 10)]).size = 1 := rfl
        have HSt := hid (fun h => dig_step HT2.out (n := m) h)
        have HLa := hid (fun h => dig_last HT2.out (n := m) h)
        generalize UInt8.ofNat (48 + m % 10) = c at *
        go_wp2_with (first | (refine wpList_run (o := ⟨some 13, .convert 76 9 _, _, _, _, none⟩) rfl (exec_v HCv.out) ?_))
        go_roundw
        case rel =>
          refine ⟨m / 10, c :: s, by go_num, by rw [← HApp.out]; rfl, by omega, ?_, HBa.out, ?_⟩
          · by_cases hh : m < 10
            · rw [HLa.out hh]; simp
            · rw [HSt.out hh]; simp
          · by_cases hh : m < 10
            · exact .inl ⟨by omega, HLa.out hh⟩
            · exact .inr ⟨by omega, HSt.out hh⟩
        case measure => simp [intOf]; omega
      · have HT2 : Hid (t = s) := by
          rcases HC.out with ⟨_, e⟩ | ⟨e, _⟩
          · exact e
          · omega
        go_wp2_with fail
        go_ret
        rw [HT2.out]
        exact ⟨rfl, HB.out⟩
set_option maxRecDepth 100000 in
set_option maxHeartbeats 4000000 in
theorem rright_any {w : World} {v : Value} {l : List Sp} (h : GL eSp w v l) (hl : l.length ≤ 1000000) : Calls Tryz.prog 16 #[v] w (SameIs (rightB l) w) := by
  obtain ⟨a, c, rfl, hg, hc⟩ := gl_slice h
  have HG := hid hg
  clear hg h
  go_enter Tryz.func16, Tryz.ntmps16
  go_wp2_with fail
  go_loopw [3] (fun i wr => ∃ k : Nat, k ≤ l.length ∧ i = .int .i64 k ∧ Below w.heap.size w wr ∧ ∀ j, j < k → (hj : j < l.length) → rSp l[j] = true) (fun i _ => l.length - (intOf i).toNat)
  case atStart => exact ⟨0, by omega, rfl, Below.refl _ _, fun j h => by omega⟩
  case round =>
    obtain ⟨k, hk, rfl, hb1, ha⟩ := hrel
    have HB := hid hb1
    have HA := hid ha
    clear hb1 ha
    by_cases hlt : k < l.length
    · have hlt' : (k : Int) < l.length := by omega
      have h0 : (0 : Int) ≤ k := by omega
      have hne : l ≠ [] := by rintro rfl; simp at hlt
      obtain ⟨g, o, rfl, hga, _⟩ := HG.out hne
      obtain ⟨hc0, hc1⟩ := (hga.later HB.out).sp k l[k] (List.getElem?_eq_getElem hlt)
      have HNo := hid (fun h => right_no hlt h)
      have HY := hid (fun (h : rSp l[k] = true) j (hj : j < k + 1) (hjl : j < l.length) => show rSp l[j] = true from by
        by_cases e : j = k
        · subst e; exact h
        · exact HA.out j (by omega) hjl)
      clear hga hne HG
      have HIff := hid (rSp_iff l[k])
      generalize l[k] = s at *
      obtain ⟨x, y⟩ := s
      simp only at hc0 hc1 HIff
      have HF : Hid (¬ ((0 ≤ x ∧ x ≤ mx) ∧ 0 ≤ y ∧ y ≤ mx) → rightB l = false) := fun hn => HNo.out (by
        rw [Bool.eq_false_iff]; intro e; exact hn (HIff.out.1 e))
      clear HNo
      by_cases x0 : x < 0
      · have HX := hid (HF.out (by omega))
        go_wp2_with fail
        go_ret
        rw [HX.out]; exact ⟨rfl, HB.out⟩
      · by_cases y0 : y < 0
        · have HX := hid (HF.out (by omega))
          go_wp2_with fail
          go_ret
          rw [HX.out]; exact ⟨rfl, HB.out⟩
        · by_cases x1 : (4294967295 : Int) < x
          · have HX := hid (HF.out (by unfold mx; omega))
            go_wp2_with fail
            go_ret
            rw [HX.out]; exact ⟨rfl, HB.out⟩
          · by_cases y1 : (4294967295 : Int) < y
            · have HX := hid (HF.out (by unfold mx; omega))
              go_wp2_with fail
              go_ret
              rw [HX.out]; exact ⟨rfl, HB.out⟩
            · have HX := hid (HY.out (HIff.out.2 (by unfold mx; omega)))
              go_wp2_with fail
              go_roundw
              case rel => exact ⟨k + 1, by omega, by go_num, HB.out, HX.out⟩
              case measure => simp [intOf]; omega
    · have hlt' : ¬ (k : Int) < l.length := by omega
      by_cases h1 : (0 : Int) < l.length
      · by_cases h2 : (l.length : Int) ≤ 1000
        · have HX : Hid (rightB l = true) := (right_iff l).2 ⟨⟨by omega, by omega⟩, fun s hs => by
            obtain ⟨j, hj, rfl⟩ := List.getElem_of_mem hs
            exact HA.out j (by omega) hj⟩
          go_wp2_with fail
          go_ret
          rw [HX.out]; exact ⟨rfl, HB.out⟩
        · have HX : Hid (rightB l = false) := by
            rw [Hid, Bool.eq_false_iff]; intro e
            have := ((right_iff l).1 e).1; omega
          go_wp2_with fail
          go_ret
          rw [HX.out]; exact ⟨rfl, HB.out⟩
      · have HX : Hid (rightB l = false) := by
          rw [Hid, Bool.eq_false_iff]; intro e
          have := ((right_iff l).1 e).1; omega
        go_wp2_with fail
        go_ret
        rw [HX.out]; exact ⟨rfl, HB.out⟩
end Go.Proofs.YtiiegjdclpkeeaaGreatDoor
