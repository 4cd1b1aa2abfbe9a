/- What this text holds: numbers with noughts ahead, as the program tells them. -/
import Derived.Test.YtnjdgbbdjkhpoaaDoorT3
import Derived.Test.YtnjdgbbdjkhpoaaDoorShelf
namespace Go.Proofs.YtnjdgbbdjkhpoaaDoor
open Go.RowKit
set_option linter.unusedVariables false
set_option linter.unusedSimpArgs false

/-- What the library's table of powers is. -/
def Env (w : World) : Prop := Go.Lib.TabIs Tryd.prog w "internal/strconv.uint64pow10" .u64 Go.Lib.pow10Tab
theorem Env.later {w w' : World} (h : Env w) (hb : Below w.heap.size w w') : Env w' := by
  have hgn : Tryd.prog.globalNamed "internal/strconv.uint64pow10" = some 0 := by kernel_rfl
  unfold Env Go.Lib.TabIs World.var? at h ⊢
  rw [hgn] at h ⊢
  simp only [Option.bind_some] at h ⊢
  have hlt : 0 < w.heap.size := by
    rcases Nat.lt_or_ge 0 w.heap.size with h' | h'
    · exact h'
    · rw [Array.getElem?_eq_none h'] at h; cases h
  rw [hb.block 0 hlt]
  exact h
theorem below_grow (w : World) (k : Nat) (os : Array Obj) : Below w.heap.size w (Go.Sort.grow (w.drewN k) os) :=
  ⟨rfl, rfl, rfl, by simp [Go.Sort.grow], fun i hi => by simp only [Go.Sort.grow, World.heap_drewN]; rw [Array.getElem?_append_left hi]⟩

theorem dec1 (n : Int) (h0 : 0 ≤ n) (h1 : n < 10) : Go.Lib.decDigits n.toNat = [dg n] := by
  rw [Go.Lib.decDigits, dif_pos (by omega)]
  unfold dg
  rw [show (n % 10).toNat = n.toNat by omega]
theorem dec_more (n : Int) (h0 : 10 ≤ n) : Go.Lib.decDigits n.toNat = Go.Lib.decDigits (n / 10).toNat ++ [dg n] := by
  rw [Go.Lib.decDigits, dif_neg (by omega)]
  unfold dg
  rw [show n.toNat / 10 = (n / 10).toNat by omega, show (n % 10).toNat = n.toNat % 10 by omega]
theorem dec2 (n : Int) (h0 : 10 ≤ n) (h1 : n < 100) : Go.Lib.decDigits n.toNat = two n := by
  rw [dec_more n h0, dec1 _ (by omega) (by omega)]
  rfl
theorem dg_zero {n : Int} (h0 : 0 ≤ n) (h1 : n < 1) : dg n = 48 := by
  obtain rfl : n = 0 := by omega
  rfl
theorem two_small (n : Int) (h0 : 0 ≤ n) (h1 : n < 10) : two n = [48, dg n] := by
  unfold two
  rw [dg_zero (n := n / 10) (by omega) (by omega)]

set_option maxRecDepth 100000 in
set_option maxHeartbeats 1000000 in
theorem digits2 (n : Int) (h0 : 0 ≤ n) (h1 : n < 100) (w : World) : Calls Tryd.prog 46 #[.int .i64 n, .int .i64 2] w fun e w' => e = .returned (.string (str (two n))) ∧ w' = w := by
  have hn : ((n.toNat : Nat) : Int) = n := by omega
  have C := Tryd.strconv_Itoa_small n.toNat (by omega) w
  rw [hn] at C
  by_cases h : n < 10
  · rw [dec1 n h0 h] at C
    have HT := hid (two_small n h0 h)
    have hsz : (⟨[dg n].toArray⟩ : ByteArray).size = 1 := rfl
    have HC := hid C
    clear C hn
    go_enter Tryd.func46, Tryd.ntmps46
    go_wp2_with fail
    refine HC.out.mono ?_
    rintro e w1 ⟨rfl, rfl⟩
    go_wp2_with fail
    refine (Tryd.strings_Repeat_one ⟨#[48]⟩ _).mono ?_
    rintro e w2 ⟨rfl, rfl⟩
    go_wp2_with fail
    go_ret
    rw [HT.out]
    exact ⟨rfl, rfl⟩
  · rw [dec2 n (by omega) h1] at C
    have hsz : (⟨(two n).toArray⟩ : ByteArray).size = 2 := rfl
    have HC := hid C
    clear C hn
    go_enter Tryd.func46, Tryd.ntmps46
    go_wp2_with fail
    refine HC.out.mono ?_
    rintro e w1 ⟨rfl, rfl⟩
    go_wp2_with fail
    refine (Tryd.strings_Repeat_zero ⟨#[48]⟩ _).mono ?_
    rintro e w2 ⟨rfl, rfl⟩
    go_wp2_with fail
    go_ret
    exact ⟨rfl, rfl⟩

theorem four_small (n : Int) (h0 : 0 ≤ n) (h1 : n < 100) : four n = 48 :: 48 :: two n := by
  unfold four
  rw [show two (n / 100) = [48, 48] by unfold two; rw [dg_zero (n := n / 100) (by omega) (by omega), dg_zero (n := n / 100 / 10) (by omega) (by omega)]]
  rfl
theorem dec3 (n : Int) (h0 : 100 ≤ n) (h1 : n < 1000) : 48 :: Go.Lib.decDigits n.toNat = four n ∧ (Go.Lib.decDigits n.toNat).length = 3 := by
  rw [dec_more n (by omega), dec2 _ (by omega) (by omega)]
  refine ⟨?_, rfl⟩
  unfold four two
  rw [dg_zero (n := n / 100 / 10) (by omega) (by omega), show n / 10 / 10 = n / 100 by omega]
  rfl
theorem dec4 (n : Int) (h0 : 1000 ≤ n) (h1 : n < 10000) : Go.Lib.decDigits n.toNat = four n := by
  rw [dec_more n (by omega), dec_more (n / 10) (by omega), dec2 _ (by omega) (by omega)]
  unfold four two
  rw [show n / 10 / 10 = n / 100 by omega]
  rfl

set_option maxRecDepth 100000 in
set_option maxHeartbeats 1000000 in
theorem digits4 (n : Int) (h0 : 0 ≤ n) (h1 : n < 10000) {w : World} (hE : Env w) : Calls Tryd.prog 46 #[.int .i64 n, .int .i64 4] w fun e w' => e = .returned (.string (str (four n))) ∧ Below w.heap.size w w' := by
  have hn : ((n.toNat : Nat) : Int) = n := by omega
  by_cases h : n < 100
  · have C := Tryd.strconv_Itoa_small n.toNat (by omega) w
    rw [hn] at C
    have HT := hid (four_small n h0 h)
    by_cases h' : n < 10
    · rw [dec1 n h0 h'] at C
      have HT2 := hid (two_small n h0 h')
      have hsz : (⟨[dg n].toArray⟩ : ByteArray).size = 1 := rfl
      have HC := hid C
      clear C hn
      go_enter Tryd.func46, Tryd.ntmps46
      go_wp2_with fail
      refine HC.out.mono ?_
      rintro e w1 ⟨rfl, rfl⟩
      go_wp2_with fail
      refine (Tryd.strings_Repeat_main ⟨#[48]⟩ 3 _ (by omega) (by omega) (by decide) (by decide)).mono ?_
      rintro e w2 ⟨rfl, hb⟩
      have HB := hid hb
      clear hb
      go_wp2_with fail
      go_ret
      rw [HT.out, HT2.out]
      exact ⟨rfl, HB.out⟩
    · rw [dec2 n (by omega) h] at C
      have hsz : (⟨(two n).toArray⟩ : ByteArray).size = 2 := rfl
      have HC := hid C
      clear C hn
      go_enter Tryd.func46, Tryd.ntmps46
      go_wp2_with fail
      refine HC.out.mono ?_
      rintro e w1 ⟨rfl, rfl⟩
      go_wp2_with fail
      refine (Tryd.strings_Repeat_main ⟨#[48]⟩ 2 _ (by omega) (by omega) (by decide) (by decide)).mono ?_
      rintro e w2 ⟨rfl, hb⟩
      have HB := hid hb
      clear hb
      go_wp2_with fail
      go_ret
      rw [HT.out]
      exact ⟨rfl, HB.out⟩
  · have C := Tryd.strconv_Itoa n (by omega) (by omega) w hE
    have ei : Go.Lib.itoa n = Go.Lib.decDigits n.toNat := by unfold Go.Lib.itoa; rw [if_neg (by omega)]
    rw [ei] at C
    by_cases h' : n < 1000
    · obtain ⟨e3, l3⟩ := dec3 n (by omega) h'
      generalize Go.Lib.decDigits n.toNat = D at C e3 l3
      have HT := hid e3
      have hsz : (⟨D.toArray⟩ : ByteArray).size = 3 := by rw [← l3]; simp [ByteArray.size]
      have HC := hid C
      clear C hn e3 l3 ei
      go_enter Tryd.func46, Tryd.ntmps46
      go_wp2_with fail
      refine HC.out.mono ?_
      rintro e w1 ⟨rfl, k, os, rfl⟩
      have HB := hid (below_grow w k os)
      generalize Go.Sort.grow (w.drewN k) os = w1 at HB ⊢
      go_wp2_with fail
      refine (Tryd.strings_Repeat_one ⟨#[48]⟩ _).mono ?_
      rintro e w2 ⟨rfl, rfl⟩
      go_wp2_with fail
      go_ret
      rw [← HT.out]
      exact ⟨rfl, HB.out⟩
    · rw [dec4 n (by omega) h1] at C
      have hsz : (⟨(four n).toArray⟩ : ByteArray).size = 4 := rfl
      have HC := hid C
      clear C hn ei
      go_enter Tryd.func46, Tryd.ntmps46
      go_wp2_with fail
      refine HC.out.mono ?_
      rintro e w1 ⟨rfl, k, os, rfl⟩
      have HB := hid (below_grow w k os)
      generalize Go.Sort.grow (w.drewN k) os = w1 at HB ⊢
      go_wp2_with fail
      refine (Tryd.strings_Repeat_zero ⟨#[48]⟩ _).mono ?_
      rintro e w2 ⟨rfl, rfl⟩
      go_wp2_with fail
      go_ret
      exact ⟨rfl, HB.out⟩
end Go.Proofs.YtnjdgbbdjkhpoaaDoor
