/- What this text holds: the document's right values, all of them. -/
import Derived.Test.YtpjcpdnolcehcaaGreatDoorM41
import Derived.Test.YtpjcpdnolcehcaaGreatDoorM35
namespace Go.Proofs.YtpjcpdnolcehcaaGreatDoor
open Go.RowKit
open Go.Lib (decDigits)
set_option linter.unusedVariables false
set_option linter.unusedSimpArgs false

set_option maxRecDepth 100000 in
set_option maxHeartbeats 4000000 in
theorem values_r {sz : Nat} (hV : ROk sz) : RsOk sz := by
  intro w N d u ks hu hnum hsz hd hkl
  obtain ⟨rows, hv, rfl, hrow⟩ := hu.open_
  obtain ⟨a, c, rfl, hc⟩ := hv.slice
  have HVs := hid hv
  have HRow := hid hrow
  have HNu := hid hnum
  have HSz := hid hsz
  clear hv hrow hu hnum hsz
  simp only [List.length_map] at hc hkl ⊢
  have HNo : Hid (∀ k (hk : k < rows.length), rightB d rows[k].2 = false → rightsB d (rows.map (·.2)) = false) := fun k hk h => rights_no (l := rows.map (·.2)) (k := k) (by simpa using hk) (by simpa using h)
  go_enter Tryz.func37, Tryz.ntmps37
  go_wp2_with fail
  go_loopw [5] (fun i wr => ∃ k : Nat, k ≤ rows.length ∧ i = .int .i64 k ∧ (∀ p ∈ rows.take k, rightB d p.2 = true) ∧ Below w.heap.size w wr) (fun i _ => rows.length - (intOf i).toNat)
  case atStart => exact ⟨0, by omega, rfl, by simp, Below.refl _ _⟩
  case round =>
    obtain ⟨k, hk, rfl, h1, h2⟩ := hrel
    have H1 := hid h1
    have H2 := hid h2
    clear h1 h2
    by_cases hlt : k < rows.length
    · have hlt' : (k : Int) < rows.length := by omega
      have hne : rows.map (·.1) ≠ [] := by intro e; have := congrArg List.length e; simp at this; subst this; simp at hlt
      have hvs := HVs.out.kept (Kept.ofBelow H2.out []) (by simp)
      obtain ⟨g, o, c', he, hc', hga, hN, hg⟩ := hvs.at_ hne
      simp only [Value.slice.injEq] at he
      obtain ⟨rfl, _, rfl⟩ := he
      obtain ⟨p, hpk⟩ : ∃ p, rows[k] = p := ⟨_, rfl⟩
      have hp := HRow.out rows[k] (List.getElem_mem hlt)
      have hc5 := hga.v k rows[k].1 (by rw [List.getElem?_map, List.getElem?_eq_getElem hlt]; rfl)
      have hno := HNo.out k hlt
      have hyes : rightB d rows[k].2 = true → ∀ p ∈ rows.take (k + 1), rightB d p.2 = true := by
        intro hh p hp
        rw [List.take_succ_eq_append_getElem hlt, List.mem_append] at hp
        rcases hp with hp | hp
        · exact H1.out p hp
        · simp at hp; rw [hp]; exact hh
      rw [hpk] at hp hc5 hno hyes
      have hxm : p.2 ∈ rows.map (·.2) := by rw [← hpk]; exact List.mem_map_of_mem (List.getElem_mem hlt)
      obtain ⟨⟨rk, rx, rn, ⟨ra, rb, rc⟩, ⟨rd, re, rf⟩⟩, x⟩ := p
      obtain ⟨c0, c1, c2, c3, c4⟩ := hc5
      simp only [Sl.v] at c3 c4 hxm hno hyes
      have D := hV wr N d ⟨rk, rx, rn, (ra, rb, rc), (rd, re, rf)⟩ x (hp.later H2.out) (HNu.out.mem x hxm) (Nat.le_trans (sz_mem hxm) HSz.out) hd
      rw [vV_mk] at D
      have HY := hid hyes
      have HN2 := hid hno
      clear hga hp hxm hpk hyes hno hvs hc'
      rcases hr : rightB d x with _ | _
      · rw [hr] at D
        have hX := hid (HN2.out hr)
        go_wp2_with fail
        refine D.mono ?_
        rintro e w2 ⟨rfl, k1⟩
        have K1 := hid (H2.out.trans (k1.mono H2.out.size))
        clear k1 D
        go_wp2_with fail
        go_ret
        rw [hX.out]
        exact ⟨rfl, K1.out⟩
      · rw [hr] at D
        have hX := hid (HY.out hr)
        go_wp2_with fail
        refine D.mono ?_
        rintro e w2 ⟨rfl, k1⟩
        have K1 := hid (H2.out.trans (k1.mono H2.out.size))
        clear k1 D
        go_wp2_with fail
        go_round
        case rel => exact ⟨k + 1, by omega, by go_num, hX.out, K1.out⟩
        case measure => simp [intOf]; omega
    · have hlt' : ¬ (k : Int) < rows.length := by omega
      have HX : Hid (rightsB d (rows.map (·.2)) = true) := by
        have h := H1.out
        rw [List.take_of_length_le (by omega)] at h
        have key : ∀ l : List (Rw × Vl), (∀ p ∈ l, rightB d p.2 = true) → rightsB d (l.map (·.2)) = true := by
          intro l
          induction l with
          | nil => intro _; rfl
          | cons q l ih => intro h; simp only [List.map_cons, rightsB, Bool.and_eq_true]; exact ⟨h q (by simp), ih (fun p hp => h p (by simp [hp]))⟩
        exact key rows h
      go_wp2_with fail
      go_ret
      rw [HX.out]
      exact ⟨rfl, H2.out⟩
theorem r_zero : ROk 0 := by
  intro w N d r v hr hn hs hd
  have := sz_kids v
  omega
theorem r_all : ∀ n, ROk n
  | 0 => r_zero
  | n + 1 => value_r (values_r (r_all n))
theorem rs_all (n : Nat) : RsOk n := values_r (r_all n)

/-- How far the digits of n0 are: m is what is left, t what was told. -/
def DecSt (n0 m : Nat) (t : Bs) : Prop := (t = [] ∧ m = n0) ∨ (t ≠ [] ∧ t.length ≤ 20 ∧ decDigits n0 = (if m = 0 then [] else decDigits m) ++ t ∧ m < n0 + 1)
theorem dec_next {n0 m : Nat} {t : Bs} (h : DecSt n0 m t) (hn : n0 < 10 ^ 19) (hg : 0 < m ∨ t = []) : DecSt n0 (m / 10) (UInt8.ofNat (48 + m % 10) :: t) := by
  right
  have key : decDigits n0 = (if m / 10 = 0 then [] else decDigits (m / 10)) ++ (UInt8.ofNat (48 + m % 10) :: t) := by
    have e : decDigits m = (if m / 10 = 0 then [] else decDigits (m / 10)) ++ [UInt8.ofNat (48 + m % 10)] := by
      by_cases h10 : m < 10
      · rw [dec_small h10, if_pos (by omega), show m % 10 = m by omega]; rfl
      · rw [dec_big h10, if_neg (by omega)]
    rcases h with ⟨rfl, rfl⟩ | ⟨h1, h2, h3, h4⟩
    · exact e
    · have hm : ¬ m = 0 := by rcases hg with hg | hg; omega; exact absurd hg h1
      rw [h3, if_neg hm, e]
      simp
  refine ⟨by simp, ?_, key, ?_⟩
  · have h1 := dec_len 18 n0 hn
    have := congrArg List.length key
    rw [List.length_append] at this
    omega
  · rcases h with ⟨_, rfl⟩ | ⟨_, _, _, h4⟩ <;> omega
theorem dec_end {n0 : Nat} {t : Bs} (h : DecSt n0 0 t) (ht : t ≠ []) : decDigits n0 = t := by
  rcases h with ⟨h1, _⟩ | ⟨_, _, h3, _⟩
  · exact absurd h1 ht
  · simpa using h3
theorem build58 (c : Int) (w : World) : (Instr.buildSlice 58 1 #[(0, .int .u8 c)]).run Tryz.prog w = .ok (.slice (some ⟨w.heap.size, 0, none⟩) 1 1) (w.alloc (.cells #[.int .u8 c] 5)) := by
  kernel_rfl
theorem conv1 (c : UInt8) (w : World) (k : Int) (hk : k = (c.toNat : Int)) : (convert 58 9 (.slice (some ⟨w.heap.size, 0, none⟩) 1 1)).run Tryz.prog (w.alloc (.cells #[.int .u8 k] 5)) = .ok (.string (str [c])) (w.alloc (.cells #[.int .u8 k] 5)) := by
  subst hk
  exact conv_gb ((go_made eB w [c] (by simp)).base (Nat.zero_le _))
set_option maxRecDepth 100000 in
set_option maxHeartbeats 1000000 in
theorem dec_r (n0 : Nat) (w : World) (hn : (n0 : Int) ≤ 9223372036854775807) : Calls Tryz.prog 77 #[.int .i64 n0] w fun e w' => e = .returned (.string (str (decP n0))) ∧ Below w.heap.size w w' := by
  have HD : Hid (decP (n0 : Int) = decDigits n0) := by rw [Hid, decP_nat (by omega)]; simp
  have hb := build58
  go_enter Tryz.func77, Tryz.ntmps77
  go_wp2_with fail
  go_loopw [0, 3] (fun n s wr => ∃ (m : Nat) (t : Bs), n = .int .i64 m ∧ s = .string (str t) ∧ DecSt n0 m t ∧ Below w.heap.size w wr) (fun n s _ => 2 * (intOf n).toNat + (match s with | .string b => if b.size = 0 then 1 else 0 | _ => 0))
  case atStart => exact ⟨n0, [], rfl, rfl, .inl ⟨rfl, rfl⟩, Below.refl _ _⟩
  case round =>
    obtain ⟨m, t, rfl, rfl, hst, h2⟩ := hrel
    have HS := hid hst
    have H2 := hid h2
    have hmn : m ≤ n0 := by rcases hst with ⟨_, rfl⟩ | ⟨_, _, _, h⟩ <;> omega
    have htl : t.length ≤ 20 := by
      rcases hst with ⟨rfl, _⟩ | ⟨_, h, _⟩
      · simp
      · exact h
    clear hst h2
    obtain ⟨c, hcd⟩ : ∃ c, UInt8.ofNat (48 + m % 10) = c := ⟨_, rfl⟩
    have hc : c.toNat = 48 + m % 10 := by rw [← hcd]; simp; omega
    have hszt := str_size t
    have hszc : (str [c]).size = 1 := by rw [str_size]; rfl
    have hcv := conv1 c wr (48 + (m : Int) % 10) (by rw [hc]; omega)
    have HApp : Hid (str [c] ++ str t = str (c :: t)) := by rw [Hid, app_str]; rfl
    have HB2 : Hid (Below w.heap.size w (wr.alloc (.cells #[.int .u8 (48 + (m : Int) % 10)] 5))) := H2.out.trans ((al _ _).mono H2.out.size)
    have HMe : Hid (∀ b : ByteArray, b = str (c :: t) → b.size ≠ 0) := fun b hb => by rw [hb, str_size]; simp
    by_cases hm : 0 < m
    · have hm' : (0 : Int) < m := by omega
      have HN := hid (dec_next HS.out (by omega) (.inl hm))
      rw [hcd] at HN
      clear hcd
      go_wp2_with fail
      go_round
      case rel => exact ⟨m / 10, c :: t, by go_num, by rw [HApp.out], HN.out, HB2.out⟩
      case measure =>
        rw [HApp.out]
        simp only [intOf]
        rw [if_neg (HMe.out _ rfl)]
        split <;> omega
    · have hm0 : m = 0 := by omega
      by_cases ht : t = []
      · subst hm0 ht
        have g1 : (str ([] : Bs)).toList = ([] : Bs) := by rw [toL]
        have g2 : (str ([] : Bs)).toList.isEmpty = true := by rw [toL]; rfl
        have HN := hid (dec_next HS.out (by omega) (.inr rfl))
        rw [hcd] at HN
        have hcv2 := conv1 c wr 48 (by omega)
        have HB3 : Hid (Below w.heap.size w (wr.alloc (.cells #[.int .u8 48] 5))) := H2.out.trans ((al _ _).mono H2.out.size)
        clear hcd hcv HB2
        go_wp2_with fail
        go_round
        case rel => exact ⟨0, c :: [], by go_num, by rw [HApp.out], HN.out, HB3.out⟩
        case measure =>
          rw [HApp.out]
          simp only [intOf]
          rw [if_neg (HMe.out _ rfl), if_pos (by rw [str_size]; rfl)]
          omega
      · subst hm0
        have g1 : ((str t).toList == ([] : Bs)) = false := by rw [toL, beq_eq_false_iff_ne]; exact ht
        have g2 : (str t).toList.isEmpty = false := by rw [toL]; simpa using ht
        have g3 : ¬ (str t).toList = ([] : Bs) := by rw [toL]; exact ht
        have HE := hid (dec_end HS.out ht)
        clear ht hcd
        go_wp2_with fail
        go_ret
        rw [HD.out, HE.out]
        exact ⟨rfl, H2.out⟩
end Go.Proofs.YtpjcpdnolcehcaaGreatDoor
