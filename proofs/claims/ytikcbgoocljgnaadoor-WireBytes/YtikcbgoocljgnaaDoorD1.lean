/- What this text holds: the document's number's text. -/
import Derived.Test.YtikcbgoocljgnaaDoorM27
namespace Go.Proofs.YtikcbgoocljgnaaDoor
open Go.RowKit
set_option linter.unusedVariables false
set_option linter.unusedSimpArgs false

theorem dec_small {u : Nat} (h : u < 10) : Go.Lib.decDigits u = [UInt8.ofNat (48 + u)] := by rw [Go.Lib.decDigits, dif_pos h]
theorem dec_big {u : Nat} (h : ¬ u < 10) : Go.Lib.decDigits u = Go.Lib.decDigits (u / 10) ++ [UInt8.ofNat (48 + u % 10)] := by rw [Go.Lib.decDigits, dif_neg h]
theorem dig_step {n : Nat} {s t : Bs} (h : t = Go.Lib.decDigits n ++ s) (hn : ¬ n < 10) : t = Go.Lib.decDigits (n / 10) ++ (UInt8.ofNat (48 + n % 10) :: s) := by
  rw [h, dec_big hn]; simp
theorem dig_last {n : Nat} {s t : Bs} (h : t = Go.Lib.decDigits n ++ s) (hn : n < 10) : t = UInt8.ofNat (48 + n % 10) :: s := by
  rw [h, dec_small hn, Nat.mod_eq_of_lt hn]; simp
theorem one_app (c : UInt8) (s : Bs) : (⟨#[c]⟩ : ByteArray) ++ str s = str (c :: s) := by
  show str [c] ++ str s = _
  rw [app_str]; rfl
theorem dig_wrap {n : Nat} : IntKind.u8.wrap (48 + (n : Int) % 10) = 48 + (n : Int) % 10 := by
  simp [IntKind.wrap, IntKind.bits, IntKind.signed]; omega
theorem conv_dig (w : World) (m : Nat) : (convert 31 9 (.slice (some ⟨w.heap.size, 0, none⟩) 1 1)).run Tryd.prog (w.alloc (.cells #[.int .u8 (48 + (m : Int) % 10)] 5)) = .ok (.string (str [UInt8.ofNat (48 + m % 10)])) (w.alloc (.cells #[.int .u8 (48 + (m : Int) % 10)] 5)) := by
  have := run_convert_bytes_arg (P := Tryd.prog) (w.alloc (.cells #[.int .u8 (48 + (m : Int) % 10)] 5)) 31 5 Tryd.underlying31 Tryd.underlying5 w.heap.size 0 1 1 [48 + (m : Int) % 10] (by simp) (fun i hi => by
    have : i = 0 := by omega
    subst this
    simp only [World.cell?, heap_alloc_new]
    rfl) 9 Tryd.underlying9
  rw [this]
  have e : strOfNums [48 + (m : Int) % 10] = str [UInt8.ofNat (48 + m % 10)] := by
    have : (48 + (m : Int) % 10).toNat = 48 + m % 10 := by omega
    simp [strOfNums, str, this]
  rw [e]
theorem conv_zero (w : World) : (convert 31 9 (.slice (some ⟨w.heap.size, 0, none⟩) 1 1)).run Tryd.prog (w.alloc (.cells #[.int .u8 48] 5)) = .ok (.string (str [48])) (w.alloc (.cells #[.int .u8 48] 5)) := conv_dig w 0
def dmz (v sv : Value) : Nat := (intOf v).toNat * 2 + (match sv with | .string b => if b.size = 0 then 1 else 0 | _ => 0)
theorem dmz_less (m : Nat) (h : 0 < m) (c : UInt8) (s : Bs) (x : Int) (hx : x.toNat = m / 10) (b : ByteArray) : dmz (.int .i64 x) (.string (str [c] ++ str s)) < dmz (.int .i64 m) (.string b) := by
  have e : ¬ (str [c] ++ str s).size = 0 := by rw [app_str, str_size]; simp
  unfold dmz
  simp only [intOf, if_neg e, hx]
  omega
theorem dmz_zero : dmz (.int .i64 0) (.string (str [48] ++ str [])) < dmz (.int .i64 0) (.string (str [])) := by decide
set_option maxRecDepth 100000 in
set_option maxHeartbeats 4000000 in
theorem rdigits_any (n : Nat) (h1 : n ≤ 4294967295) (w : World) : Calls Tryd.prog 26 #[.int .i64 n] w (TxtIs (decB n) w) := by
  have hlen : (decB n).length ≤ 10 := (digs n).2.2.2 9 (by omega)
  have HT : Hid (decB n = Go.Lib.decDigits n ++ []) := by simp [Hid, decB]
  unfold TxtIs
  generalize decB n = t at *
  go_enter Tryd.func26, Tryd.ntmps26
  go_wp2_with fail
  go_loopw [0, 3] (fun v sv wr => ∃ (m : Nat) (s : Bs), v = .int .i64 m ∧ sv = .string (str s) ∧ m ≤ 4294967295 ∧ s.length ≤ t.length ∧ Below w.heap.size w wr ∧ ((s ≠ [] ∧ m = 0 ∧ t = s) ∨ ((0 < m ∨ s = []) ∧ t = Go.Lib.decDigits m ++ s))) (fun v sv _ => dmz v sv)
  case atStart => exact ⟨n, [], rfl, rfl, h1, by simp, Below.refl _ _, .inr ⟨.inr rfl, HT.out⟩⟩
  case round =>
    obtain ⟨m, s, rfl, rfl, hm, hs, hb1, hcase⟩ := hrel
    have HB := hid hb1
    have HC := hid hcase
    clear hb1 hcase HT
    have hsz := str_size s
    by_cases hm0 : (0 : Int) < m
    · have HT2 : Hid (t = Go.Lib.decDigits m ++ s) := by
        rcases HC.out with ⟨_, e, _⟩ | ⟨_, e⟩
        · omega
        · exact e
      have hwr : IntKind.u8.wrap (48 + (m : Int) % 10) = 48 + (m : Int) % 10 := dig_wrap
      have HCv := hid (conv_dig wr m)
      have hba : Below w.heap.size w (wr.alloc (.cells #[.int .u8 (48 + (m : Int) % 10)] 5)) := HB.out.alloc HB.out.size _
      have HBa := hid hba
      clear hba
      have HApp := hid (one_app (UInt8.ofNat (48 + m % 10)) s)
      have hq : (str [UInt8.ofNat (48 + m % 10)]).size = 1 := rfl
      have HSt := hid (fun h => dig_step HT2.out (n := m) h)
      have HLa := hid (fun h => dig_last HT2.out (n := m) h)
      generalize UInt8.ofNat (48 + m % 10) = c at *
      go_wp2_with (first | (refine wpList_run (o := ⟨some 15, .convert 31 9 _, _, _, _, none⟩) rfl (exec_v HCv.out) ?_))
      go_roundw
      case rel =>
        refine ⟨m / 10, c :: s, by go_num, by rw [← HApp.out]; rfl, by omega, ?_, HBa.out, ?_⟩
        · by_cases hh : m < 10
          · rw [HLa.out hh]; simp
          · rw [HSt.out hh]; simp
        · by_cases hh : m < 10
          · exact .inl ⟨by simp, by omega, HLa.out hh⟩
          · exact .inr ⟨.inl (by omega), HSt.out hh⟩
      case measure => exact dmz_less m (by omega) c s _ (by first | omega | (simp; omega)) _
    · have hm1 : m = 0 := by omega
      subst hm1
      by_cases hs0 : s = []
      · subst hs0
        have HT2 : Hid (t = [48]) := by
          rcases HC.out with ⟨e, _⟩ | ⟨_, e⟩
          · exact absurd rfl e
          · rw [dec_small (by omega)] at e
            exact e
        have q0 : ((str []).toList == []) = true := by rw [toL]; rfl
        have HCv := hid (conv_zero wr)
        have hba : Below w.heap.size w (wr.alloc (.cells #[.int .u8 48] 5)) := HB.out.alloc HB.out.size _
        have HBa := hid hba
        clear hba
        go_wp2_with (first | (refine wpList_run (o := ⟨some 15, .convert 31 9 _, _, _, _, none⟩) rfl (exec_v HCv.out) ?_))
        go_roundw
        case rel =>
          exact ⟨0, [48], by go_num, rfl, by omega, by rw [HT2.out]; simp, HBa.out, .inl ⟨by simp, rfl, HT2.out⟩⟩
        case measure => exact dmz_zero
      · have HT2 : Hid (t = s) := by
          rcases HC.out with ⟨_, _, e⟩ | ⟨e | e, _⟩
          · exact e
          · omega
          · exact absurd e hs0
        have q0 : ((str s).toList == []) = false := by rw [eqN]; simpa using hs0
        clear hs0
        go_wp2_with fail
        go_ret
        rw [HT2.out]
        exact ⟨rfl, HB.out⟩
end Go.Proofs.YtikcbgoocljgnaaDoor
