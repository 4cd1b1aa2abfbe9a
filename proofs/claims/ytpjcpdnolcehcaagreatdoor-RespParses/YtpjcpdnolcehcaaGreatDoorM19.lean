/- What this text holds: strings, From put to bytes under way. -/
import Derived.Test.YtpjcpdnolcehcaaGreatDoorM18
namespace Go.Proofs.YtpjcpdnolcehcaaGreatDoor
open Go.RowKit
set_option linter.unusedVariables false
set_option linter.unusedSimpArgs false

theorem esc_next (s : Bs) (k : Nat) (hk : k < s.length) : escP (s.take (k + 1)) = escP (s.take k) ++ (if escB s[k] then [92, s[k]] else [s[k]]) := by
  unfold escP
  rw [List.take_succ_eq_append_getElem hk, List.flatMap_append]
  simp [escB]
theorem esc_le (s : Bs) (k : Nat) (hk : k < s.length) : (escP (s.take (k + 1))).length ≤ (escP s).length := by
  have h : escP s = escP (s.take (k + 1)) ++ escP (s.drop (k + 1)) := by
    unfold escP
    rw [← List.flatMap_append, List.take_append_drop]
  rw [h, List.length_append]
  omega
theorem to_bytes2 (s : Bs) (w : World) : ∃ W c X, (convert 9 58 (.string (str s))).run Tryz.prog w = .ok (.slice (some ⟨w.heap.size, 0, none⟩) s.length c) W ∧ W.heap[w.heap.size]? = some (.cells X 5 (X.size, X.size + 1)) ∧ (∀ (j : Nat) (c : UInt8), s[j]? = some c → X[j]? = some (Value.int .u8 c.toNat)) ∧ Below w.heap.size w W := by
  have := Go.Lib.run_convert_string_bytes w 9 58 5 (str s) Tryz.underlying9 Tryz.underlying58 Tryz.underlying5
  rw [str_size] at this
  refine ⟨_, _, _, this, Go.Lib.bytesWorld_at_new _ _ _, ?_, Go.Lib.bytesWorld_below _ _ _⟩
  intro j c hc
  have hj : j < s.length := (List.getElem?_eq_some_iff.1 hc).1
  have h := Go.Lib.bytesWorld_cell w 5 (str s) j (by rw [str_size]; exact hj)
  rw [str_data] at h
  simp only [World.cell?, Go.Lib.bytesWorld_at_new] at h
  simp [List.getD, hc] at h
  exact h
theorem UAt.low {w w' : World} {B b : Nat} {l s : Bs} {e : Ending} (h : Put B b l s w e w') : e = .returned (.tuple #[]) ∧ UAt w' B b (l ++ s) ∧ Below B w w' ∧ TK w w' := h
set_option maxRecDepth 100000 in
set_option maxHeartbeats 4000000 in
theorem ustr_any {w : World} {B b : Nat} {l : Bs} (hE : Env w) (hB11 : 11 ≤ B) (h : UAt w B b l) (s : Bs) (hs : s.length ≤ 1000000000) (hl : l.length + (strP s).length ≤ 1000000000) :
    Calls Tryz.prog 93 #[.pointer (some ⟨b, 0, none⟩), .string (str s)] w (Put B b l (strP s) w) := by
  have hfu := fldU b
  have hsz := str_size s
  have C := quotable_any s hs w
  have H := hid h
  have HE := hid hE
  rcases hq : quoB s with _ | _
  · rw [hq] at C
    have hP : strP s = [123] ++ decP s.length ++ ([125] ++ [13, 10] ++ s) := by
      unfold strP
      rw [hq]
      simp
    have HP := hid hP
    have hlen : l.length + 1 + (decP s.length).length + 3 + s.length ≤ 1000000000 := by
      rw [hP] at hl
      simp at hl
      omega
    clear h hE hq hP hl
    go_enter Tryz.func93, Tryz.ntmps93
    go_wp2_with fail
    refine C.mono ?_
    rintro e w1 ⟨rfl, hb⟩
    have D := put_new (H.out.later hb) [[123]] w1.heap.size 1 rfl rfl (by simp) (by simp; omega) #[.string ⟨#[123]⟩] rfl
    have K := hid (hb.mono H.out.B)
    have T := hid (TK.later hb)
    clear hb C
    go_wp2_with fail
    refine D.mono ?_
    rintro e w2 ⟨rfl, k1, k2, k3⟩
    have K2 := hid (K.out.trans k2)
    have T2 := hid (T.out.trans k3)
    have D := unum_any (HE.out.keep K2.out hB11) k1 (s.length : Int) (by omega) (by omega) (by simp; omega)
    clear k1 k2 k3 K T
    go_wp2_with fail
    refine D.mono ?_
    rintro e w3 ⟨rfl, k1, k2, k3⟩
    have K3 := hid (K2.out.trans k2)
    have T3 := hid (T2.out.trans k3)
    have D := put_new k1 [[125], [13, 10], s] w3.heap.size 3 rfl rfl (by simp) (by simp; omega) #[.string ⟨#[125]⟩, .string ⟨#[13, 10]⟩, .string (str s)] rfl
    clear k1 k2 k3 K2 T2
    go_wp2_with fail
    refine D.mono ?_
    rintro e w4 ⟨rfl, k1, k2, k3⟩
    have U4 : Hid (UAt w4 B b (l ++ strP s)) := by rw [Hid, HP.out]; simpa [List.append_assoc] using k1
    have K4 := hid (K3.out.trans k2)
    have T4 := hid (T3.out.trans k3)
    clear k1 k2 k3 D
    go_wp2_with fail
    go_end0
    exact ⟨rfl, U4.out, K4.out, T4.out⟩
  · rw [hq] at C
    have hP : strP s = [34] ++ escP s ++ [34] := by
      unfold strP
      rw [hq]
      simp
    have HP := hid hP
    have hlen : l.length + 2 + (escP s).length ≤ 1000000000 := by
      rw [hP] at hl
      simp at hl
      omega
    clear h hE hq hP hl
    go_enter Tryz.func93, Tryz.ntmps93
    go_wp2_with fail
    refine C.mono ?_
    rintro e w1 ⟨rfl, hb⟩
    have D := put_new (H.out.later hb) [[34]] w1.heap.size 1 rfl rfl (by simp) (by simp; omega) #[.string ⟨#[34]⟩] rfl
    have K := hid (hb.mono H.out.B)
    have T := hid (TK.later hb)
    clear hb C
    go_wp2_with fail
    refine D.mono ?_
    rintro e w2 ⟨rfl, k1, k2, k3⟩
    have K2 := hid (K.out.trans k2)
    have T2 := hid (T.out.trans k3)
    obtain ⟨W, c, X, hrun, hX, hc, hb⟩ := to_bytes2 s w2
    have U0 := hid (k1.later hb)
    have HX := hid hX
    have HC := hid hc
    have K3 := hid (K2.out.trans (hb.mono (Nat.le_trans H.out.B K2.out.size)))
    have T3 := hid (T2.out.trans (TK.later hb))
    clear k1 k2 k3 hX hc hb K T K2 T2
    go_wp2_with fail
    generalize w2.heap.size = g at *
    go_loopw [26] (fun i wr => ∃ k : Nat, k ≤ s.length ∧ i = .int .i64 k ∧ UAt wr B b (l ++ [34] ++ escP (s.take k)) ∧ Below B W wr ∧ TK W wr) (fun i _ => s.length - (intOf i).toNat)
    case atStart => exact ⟨0, by omega, rfl, by simpa [escP] using U0.out, Below.refl _ _, TK.refl _⟩
    case round =>
      obtain ⟨k, hk, rfl, h1, h2, h3⟩ := hrel
      have H1 := hid h1
      have H2 := hid h2
      have H3 := hid h3
      clear h1 h2 h3
      by_cases hlt : k < s.length
      · have hlt' : (k : Int) < s.length := by omega
        have hb := H3.out.at_ g _ _ _ HX.out (.inr (by simp)) (by decide)
        have cc : wr.cell? ⟨g, k, none⟩ = some (.int .u8 s[k].toNat) := by
          simp [World.cell?, hb, HC.out k s[k] (List.getElem?_eq_getElem hlt)]
        have HN := hid (esc_next s k hlt)
        have hle := esc_le s k hlt
        have hle2 := congrArg List.length (esc_next s k hlt)
        rw [List.length_append] at hle2
        have C := escaped_any s[k] wr
        clear hb
        rcases hE : escB s[k] with _ | _
        · rw [hE] at C
          have hN2 : Hid (escP (s.take (k + 1)) = escP (s.take k) ++ [s[k]]) := by rw [Hid, HN.out, hE]; rfl
          rw [hE] at hle2
          simp at hle2
          have hlen2 : (l ++ [34] ++ escP (s.take k)).length ≤ 10000000000 := by simp; omega
          clear HN hE hle hle2
          go_wp2_with fail
          refine C.mono ?_
          rintro e w3 ⟨rfl, rfl⟩
          have D := H1.out.byte s[k] hlen2
          clear C hlen2
          go_wp2_with fail
          refine D.mono ?_
          rintro e w4 ⟨rfl, k1, k2, k3⟩
          have K1 : Hid (UAt w4 B b (l ++ [34] ++ escP (s.take (k + 1)))) := by rw [Hid, hN2.out, ← List.append_assoc]; exact k1
          have K2 := hid (H2.out.trans k2)
          have K3 := hid (H3.out.trans k3)
          clear k1 k2 k3 D
          go_wp2_with fail
          go_round
          case rel => exact ⟨k + 1, by omega, by go_num, K1.out, K2.out, K3.out⟩
          case measure => simp [intOf]; omega
        · rw [hE] at C
          have hN2 : Hid (escP (s.take (k + 1)) = escP (s.take k) ++ [92, s[k]]) := by rw [Hid, HN.out, hE]; rfl
          rw [hE] at hle2
          simp at hle2
          have hlen2 : (l ++ [34] ++ escP (s.take k)).length + 1 ≤ 1000000000 := by simp; omega
          have hlen3 := hid hlen2
          clear HN hE hle hle2
          go_wp2_with fail
          refine C.mono ?_
          rintro e w3 ⟨rfl, rfl⟩
          have D := put_new H1.out [[92]] w3.heap.size 1 rfl rfl (by simp) (by simpa using hlen2) #[.string ⟨#[92]⟩] rfl
          clear C hlen2
          go_wp2_with fail
          refine D.mono ?_
          rintro e w4 ⟨rfl, k1, k2, k3⟩
          have D := k1.byte s[k] (by have := hlen3.out; simp at this ⊢; omega)
          have K2 := hid (H2.out.trans k2)
          have K3 := hid (H3.out.trans k3)
          clear k1 k2 k3
          go_wp2_with fail
          refine D.mono ?_
          rintro e w5 ⟨rfl, k1, k2, k3⟩
          have K1 : Hid (UAt w5 B b (l ++ [34] ++ escP (s.take (k + 1)))) := by rw [Hid, hN2.out]; simpa [List.append_assoc] using k1
          have K2 := hid (K2.out.trans k2)
          have K3 := hid (K3.out.trans k3)
          clear k1 k2 k3 D
          go_wp2_with fail
          go_round
          case rel => exact ⟨k + 1, by omega, by go_num, K1.out, K2.out, K3.out⟩
          case measure => simp [intOf]; omega
      · have hlt' : ¬ (k : Int) < s.length := by omega
        have HL : Hid (UAt wr B b (l ++ [34] ++ escP s)) := by have := H1.out; rw [List.take_of_length_le (by omega)] at this; exact this
        have D := put_new HL.out [[34]] wr.heap.size 1 rfl rfl (by simp) (by simp; omega) #[.string ⟨#[34]⟩] rfl
        go_wp2_with fail
        refine D.mono ?_
        rintro e w4 ⟨rfl, k1, k2, k3⟩
        have U4 : Hid (UAt w4 B b (l ++ strP s)) := by rw [Hid, HP.out]; simpa [List.append_assoc] using k1
        have K4 := hid ((K3.out.trans H2.out).trans k2)
        have T4 := hid ((T3.out.trans H3.out).trans k3)
        clear k1 k2 k3 D
        go_wp2_with fail
        go_end0
        exact ⟨rfl, U4.out, K4.out, T4.out⟩
end Go.Proofs.YtpjcpdnolcehcaaGreatDoor
