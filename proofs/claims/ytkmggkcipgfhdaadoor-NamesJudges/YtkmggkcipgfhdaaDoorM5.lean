/- What this text holds: runs of base 64 are read: the program's way. -/
import Derived.Test.YtkmggkcipgfhdaaDoorM4
import Derived.Laws.IdiomStrings
namespace Go.Proofs.YtkmggkcipgfhdaaDoor
open Go.RowKit
set_option linter.unusedVariables false
set_option linter.unusedSimpArgs false

/-- A string as bytes. -/
theorem conv_made (w : World) (s : ByteArray) : ∃ cap w', (convert 9 42 (.string s)).run Tryd.prog w = .ok (.slice (some ⟨w.heap.size, 0, none⟩) s.size cap) w' ∧ Src w' (.slice (some ⟨w.heap.size, 0, none⟩) s.size cap) s.data.toList ∧ Below w.heap.size w w' := by
  refine ⟨_, _, Go.run_bytes_of_string w 9 42 5 s Tryd.underlying9 Tryd.underlying42 Tryd.underlying5, ⟨_, _, by rw [Go.Lib.size_eq], fun j u hu => ?_⟩, (Below.refl _ _).drew.alloc (Nat.le_refl _) _⟩
  rw [Addr.add_mid, Nat.zero_add]
  have hj : j < s.data.size := by
    have := (List.getElem?_eq_some_iff.1 hu).1
    simpa [bu] using this
  have hn := heap_alloc_new w.drew (.cells (bytesRow s (grownCap w s.size 0 5)) 5 ((bytesRow s (grownCap w s.size 0 5)).size, (bytesRow s (grownCap w s.size 0 5)).size + 1))
  have hn' : (w.drew.alloc (.cells (bytesRow s (grownCap w s.size 0 5)) 5 ((bytesRow s (grownCap w s.size 0 5)).size, (bytesRow s (grownCap w s.size 0 5)).size + 1))).heap[w.heap.size]? = _ := hn
  simp only [World.cell?, hn']
  rw [bytesRow_at s _ j hj]
  simp only [bu, List.getElem?_map, Array.getElem?_toList, Array.getElem?_eq_getElem hj, Option.map_some] at hu
  exact hu
theorem byte_nat (a : Int) (n : Nat) (h : a = n) : UInt8.ofNat n = a.toNat.toUInt8 := by subst h; simp
/-- A letter's bytes. -/
theorem enc_rune (r : Int) : (Utf8.encode r).data.toList = Go.Lib.encodeRune r := by
  unfold Go.Lib.encodeRune
  by_cases h1 : 0 ≤ r ∧ r ≤ 127
  · rw [Go.Lib.encodeRuneZ_one h1.1 h1.2]
    have hv : Utf8.valid r = true := by simp [Utf8.valid]; omega
    simp only [Utf8.encode, hv, if_true]
    rw [if_pos (by omega)]
    rfl
  · by_cases h2 : 128 ≤ r ∧ r ≤ 2047
    · rw [Go.Lib.encodeRuneZ_two h2.1 h2.2]
      have hv : Utf8.valid r = true := by simp [Utf8.valid]; omega
      simp only [Utf8.encode, hv, if_true]
      rw [if_neg (by omega), if_pos (by omega)]
      simp only [List.map_cons, List.map_nil]
      rw [byte_nat (192 + r / 64) (0xC0 + r.toNat / 64) (by omega), byte_nat (128 + r % 64) (0x80 + r.toNat % 64) (by omega)]
    · by_cases h3 : (2048 ≤ r ∧ r < 55296) ∨ (57343 < r ∧ r ≤ 65535)
      · rw [Go.Lib.encodeRuneZ_three h3]
        have hv : Utf8.valid r = true := by simp [Utf8.valid]; omega
        simp only [Utf8.encode, hv, if_true]
        rw [if_neg (by omega), if_neg (by omega), if_pos (by omega)]
        simp only [List.map_cons, List.map_nil]
        rw [byte_nat (224 + r / 4096) (0xE0 + r.toNat / 4096) (by omega), byte_nat (128 + r / 64 % 64) (0x80 + r.toNat / 64 % 64) (by omega), byte_nat (128 + r % 64) (0x80 + r.toNat % 64) (by omega)]
      · by_cases h4 : 65536 ≤ r ∧ r ≤ 1114111
        · rw [Go.Lib.encodeRuneZ_four h4.1 h4.2]
          have hv : Utf8.valid r = true := by simp [Utf8.valid]; omega
          simp only [Utf8.encode, hv, if_true]
          rw [if_neg (by omega), if_neg (by omega), if_neg (by omega)]
          simp only [List.map_cons, List.map_nil]
          rw [byte_nat (240 + r / 262144) (0xF0 + r.toNat / 262144) (by omega), byte_nat (128 + r / 4096 % 64) (0x80 + r.toNat / 4096 % 64) (by omega), byte_nat (128 + r / 64 % 64) (0x80 + r.toNat / 64 % 64) (by omega), byte_nat (128 + r % 64) (0x80 + r.toNat % 64) (by omega)]
        · rw [Go.Lib.encodeRuneZ_bad (by omega)]
          have hv : Utf8.valid r = false := by simp [Utf8.valid]; omega
          simp [Utf8.encode, hv, Utf8.runeError]
theorem enc_size (r : Int) : (Utf8.encode r).size ≤ 4 := by
  rw [Go.Lib.size_eq, enc_rune]
  have := (Go.Lib.encodeRuneZ_length r).2
  simpa [Go.Lib.encodeRune] using this

/-- What a unit does: bytes that are written, and the half that waits. -/
def letP (half u : Nat) : List UInt8 × Nat :=
  if half = 0 ∧ 55296 ≤ u ∧ u < 56320 then ([], u)
  else if half ≠ 0 then (Go.Lib.encodeRune (65536 + ((half : Int) - 55296) * 1024 + ((u : Int) - 56320)), 0)
  else (Go.Lib.encodeRune u, 0)

set_option maxRecDepth 100000 in
set_option maxHeartbeats 1000000 in
theorem letter_any {w : World} {B b : Nat} {s : St} (h : BAt w B b s) (hBw : B ≤ w.heap.size) (ho : s.out.length ≤ 10000000) (half u : Nat) (hh : half = 0 ∨ (55296 ≤ half ∧ half < 56320)) (hu : u < 65536) :
    Calls Tryd.prog 67 #[.pointer (some ⟨b, 0, none⟩), .int .i32 half, .int .i32 u] w fun e w' => e = .returned (.int .i32 (letP half u).2) ∧ BAt w' B b { s with out := s.out ++ (letP half u).1 } ∧ Kp B b w w' := by
  have H := hid h
  have HBw := hid hBw
  clear h hBw
  by_cases h0 : half = 0
  · subst h0
    by_cases hc : 55296 ≤ u ∧ u < 56320
    · have HL : Hid (letP 0 u = ([], u)) := by simp [Hid, letP, hc]
      have h1 : (55296 : Int) ≤ u := by omega
      have h2 : (u : Int) < 56320 := by omega
      go_enter Tryd.func67, Tryd.ntmps67
      go_wp2_with fail
      go_ret
      rw [HL.out]
      exact ⟨rfl, by simpa using H.out, Kp.refl _ _ _⟩
    · have HL : Hid (letP 0 u = (Go.Lib.encodeRune u, 0)) := by simp [Hid, letP, hc]
      obtain ⟨cap, w1, hcv, hsrc, hb1⟩ := conv_made w (Utf8.encode u)
      have HS1 := hid hsrc
      have HB1 := hid hb1
      clear hsrc hb1
      by_cases h1 : (55296 : Int) ≤ u
      · have h2 : ¬ (u : Int) < 56320 := by omega
        go_enter Tryd.func67, Tryd.ntmps67
        go_wp2_with fail
        refine (add_any (H.out.later HB1.out) (by have := HB1.out.size; have := HBw.out; omega) HS1.out (by omega) (by have := enc_size u; rw [Go.Lib.size_eq] at this; omega)).mono ?_
        rintro e w2 ⟨rfl, h2, hb2⟩
        rw [enc_rune] at h2
        have H2 := hid h2
        have HK2 := hid ((Kp.later HBw.out HB1.out).trans hb2)
        clear h2 hb2
        go_wp2_with fail
        go_ret
        rw [HL.out]
        exact ⟨rfl, H2.out, HK2.out⟩
      · go_enter Tryd.func67, Tryd.ntmps67
        go_wp2_with fail
        refine (add_any (H.out.later HB1.out) (by have := HB1.out.size; have := HBw.out; omega) HS1.out (by omega) (by have := enc_size u; rw [Go.Lib.size_eq] at this; omega)).mono ?_
        rintro e w2 ⟨rfl, h2, hb2⟩
        rw [enc_rune] at h2
        have H2 := hid h2
        have HK2 := hid ((Kp.later HBw.out HB1.out).trans hb2)
        clear h2 hb2
        go_wp2_with fail
        go_ret
        rw [HL.out]
        exact ⟨rfl, H2.out, HK2.out⟩
  · have HL : Hid (letP half u = (Go.Lib.encodeRune (65536 + ((half : Int) - 55296) * 1024 + ((u : Int) - 56320)), 0)) := by simp [Hid, letP, h0]
    have h0' : ((half : Int) == 0) = false := by simp; omega
    have h0n : ((half : Int) != 0) = true := by simp; omega
    obtain ⟨cap, w1, hcv, hsrc, hb1⟩ := conv_made w (Utf8.encode (65536 + ((half : Int) - 55296) * 1024 + ((u : Int) - 56320)))
    have HS1 := hid hsrc
    have HB1 := hid hb1
    clear hsrc hb1
    go_enter Tryd.func67, Tryd.ntmps67
    go_wp2_with fail
    refine (add_any (H.out.later HB1.out) (by have := HB1.out.size; have := HBw.out; omega) HS1.out (by omega) (by have := enc_size (65536 + ((half : Int) - 55296) * 1024 + ((u : Int) - 56320)); rw [Go.Lib.size_eq] at this; omega)).mono ?_
    rintro e w2 ⟨rfl, h2, hb2⟩
    rw [enc_rune] at h2
    have H2 := hid h2
    have HK2 := hid ((Kp.later HBw.out HB1.out).trans hb2)
    clear h2 hb2
    go_wp2_with fail
    go_ret
    rw [HL.out]
    exact ⟨rfl, H2.out, HK2.out⟩
end Go.Proofs.YtkmggkcipgfhdaaDoor
