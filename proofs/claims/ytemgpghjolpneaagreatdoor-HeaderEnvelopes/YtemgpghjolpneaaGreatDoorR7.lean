/- What this text holds: the document's small letters, whether a name is one of some, and a value on one line. -/
import Derived.Test.YtemgpghjolpneaaGreatDoorR6
namespace Go.Proofs.YtemgpghjolpneaaGreatDoor
open Go.RowKit
set_option linter.unusedVariables false
set_option linter.unusedSimpArgs false

theorem small_wrap (c : UInt8) (h : 65 ≤ c.toNat ∧ c.toNat ≤ 90) : ((c.toNat : Int) + 32) = ((small c).toNat : Int) := by
  rw [small_nat, if_pos h]; omega

set_option maxRecDepth 100000 in
set_option maxHeartbeats 4000000 in
theorem rlower_any (l : Bs) (w : World) (hs : l.length ≤ 10000000) : Calls Tryz.prog 37 #[.string (str l)] w fun e w' => e = .returned (.string (str (low l))) ∧ Below w.heap.size w w' := by
  obtain ⟨W, c, hcv, hu, hb⟩ := to_bytes (str l) w
  rw [str_data] at hu
  rw [str_size] at hcv
  have HU := hid hu
  have HB := hid hb
  clear hu hb
  go_enter Tryz.func37, Tryz.ntmps37
  go_wp2_with fail
  go_loopw [4] (fun i wr => ∃ k : Nat, k ≤ l.length ∧ i = .int .i64 k ∧ UpAt wr w.heap.size (half l k) ∧ Below w.heap.size w wr) (fun i _ => l.length - (intOf i).toNat)
  case atStart => exact ⟨0, by omega, rfl, HU.out, HB.out⟩
  case round =>
    obtain ⟨k, hk, rfl, hr, hb⟩ := hrel
    have HR := hid hr
    have HBr := hid hb
    clear hr hb hcv
    by_cases hlt : k < l.length
    · have hlt' : (k : Int) < l.length := by omega
      have hkh : k < (half l k).length := by rw [half_len]; exact hlt
      obtain ⟨hc, hf⟩ := HR.out.cell k hkh
      rw [half_at _ _ hlt hkh] at hc
      have HX := hid (half_next l k hlt)
      have hx8 := (l[k]).toNat_lt
      by_cases hlow : 65 ≤ (l[k]).toNat ∧ (l[k]).toNat ≤ 90
      · have hl1 : ((65 : Int) ≤ (l[k]).toNat) := by omega
        have hl2 : (((l[k]).toNat : Int) ≤ 90) := by omega
        have hnum := small_wrap l[k] hlow
        have HST : Hid (UpAt (wr.setCell ⟨w.heap.size, k, none⟩ (.int .u8 (small l[k]).toNat)) w.heap.size (half l (k + 1))) := by
          rw [Hid, HX.out]
          exact HR.out.set k hkh _
        clear hlow
        generalize (small l[k]).toNat = y at hnum HST
        generalize (l[k]).toNat = x at *
        go_wp2_with fail
        go_roundw
        case rel => exact ⟨k + 1, by omega, by go_num, HST.out, HBr.out.setCell (Nat.le_refl _) _⟩
        case measure => simp [intOf]; omega
      · have HK : Hid (half l (k + 1) = half l k) := by
          rw [Hid, HX.out]
          unfold small
          rw [if_neg hlow]
          have := set_same (half l k) k hkh
          rw [half_at _ _ hlt hkh] at this
          exact this
        generalize (l[k]).toNat = x at *
        rcases Nat.lt_or_ge x 65 with h1 | h1
        · have h1' : ¬ (65 : Int) ≤ x := by omega
          clear hlow
          go_wp2_with fail
          go_roundw
          case rel => exact ⟨k + 1, by omega, by go_num, by rw [HK.out]; exact HR.out, HBr.out⟩
          case measure => simp [intOf]; omega
        · have h1' : (65 : Int) ≤ x := by omega
          have h2' : ¬ (x : Int) ≤ 90 := by omega
          clear hlow
          go_wp2_with fail
          go_roundw
          case rel => exact ⟨k + 1, by omega, by go_num, by rw [HK.out]; exact HR.out, HBr.out⟩
          case measure => simp [intOf]; omega
    · have HA := hid (half_all l k (by omega))
      have hcv : (convert 60 9 (.slice (some ⟨w.heap.size, 0, none⟩) l.length c)).run Tryz.prog wr = .ok (.string (str (half l k))) wr := by
        have := HR.out.conv (c := c)
        rw [half_len] at this
        exact this
      go_wp2_with fail
      go_ret
      rw [HA.out]
      exact ⟨rfl, HBr.out⟩


theorem eqLL (l m : Bs) : ((str l).toList == (str m).toList) = decide (l = m) := by
  rw [toL, toL, Bool.eq_iff_iff]
  simp
theorem among_no (n : Bs) (names : List Bs) (h : ∀ x ∈ names, low x ≠ low n) : amongP n names = false := by
  unfold amongP
  rw [Bool.eq_false_iff]
  intro e
  rw [List.contains_iff_mem, List.mem_map] at e
  obtain ⟨x, hx, he⟩ := e
  exact h x hx he
theorem among_yes (n : Bs) (names : List Bs) (x : Bs) (hx : x ∈ names) (h : low x = low n) : amongP n names = true := by
  unfold amongP
  rw [List.contains_iff_mem, List.mem_map]
  exact ⟨x, hx, h⟩
set_option maxRecDepth 100000 in
set_option maxHeartbeats 4000000 in
theorem ramong_any (n : Bs) {w : World} {v : Value} {names : List Bs} (h : RL w v 1 (names.map sR)) (hl : names.length ≤ 1000000) (hn : n.length ≤ 10000000) (hns : ∀ x ∈ names, x.length ≤ 10000000) :
    Calls Tryz.prog 57 #[.string (str n), v] w fun e w' => e = .returned (.bool (amongP n names)) ∧ Below w.heap.size w w' := by
  obtain ⟨hw, a, c, rfl, hc, hr⟩ := h
  rw [List.length_map] at *
  rcases hr with hr | ⟨g, o, rfl, hr, hg⟩
  · have : names = [] := by simpa using hr
    subst this
    go_enter Tryz.func57, Tryz.ntmps57
    go_wp2_with fail
    go_loopw [5] (fun i wr => i = .int .i64 0 ∧ wr = w) (fun _ _ => 0)
    case atStart => exact ⟨rfl, rfl⟩
    case round =>
      obtain ⟨rfl, rfl⟩ := hrel
      go_wp2_with fail
      go_ret
      exact ⟨rfl, Below.refl _ _⟩
  · have HR := hid hr
    have HNs := hid hns
    have HLn := hid (fun W => rlower_any n W hn)
    clear hr hns
    go_enter Tryz.func57, Tryz.ntmps57
    go_wp2_with fail
    go_loopw [5] (fun i wr => ∃ k : Nat, k ≤ names.length ∧ i = .int .i64 k ∧ (∀ x ∈ names.take k, low x ≠ low n) ∧ Below w.heap.size w wr) (fun i _ => names.length - (intOf i).toNat)
    case atStart => exact ⟨0, by omega, rfl, by simp, Below.refl _ _⟩
    case round =>
      obtain ⟨k, hk, rfl, ha, hb⟩ := hrel
      have HA := hid ha
      have HB := hid hb
      clear ha hb
      by_cases hlt : k < names.length
      · have hlt' : (k : Int) < names.length := by omega
        have hc0 : wr.cell? ⟨g, o + k, none⟩ = some (.string (str names[k])) := by
          have := (HR.out.later HB.out).rec k (sR names[k]) (by rw [List.getElem?_map, List.getElem?_eq_getElem hlt]; rfl) 0 _ rfl
          rw [Nat.mul_one] at this
          exact this
        have HLk := hid (fun W => rlower_any names[k] W (HNs.out _ (List.getElem_mem hlt)))
        have HY := hid (among_yes n names names[k] (List.getElem_mem hlt))
        have HN : Hid (low names[k] ≠ low n → ∀ x ∈ names.take (k + 1), low x ≠ low n) := fun h x hx => by
          rw [List.take_succ_eq_append_getElem hlt] at hx
          rcases List.mem_append.1 hx with h1 | h1
          · exact HA.out x h1
          · rw [List.mem_singleton] at h1; subst h1; exact h
        have hq := eqLL (low names[k]) (low n)
        generalize names[k] = x at *
        by_cases hx : low x = low n
        · have HX := hid (HY.out hx)
          rw [show decide (low x = low n) = true by simp [hx]] at hq
          clear hx HY HN
          generalize low x = lx at *
          generalize low n = ln' at *
          go_wp2_with fail
          refine (HLk.out _).mono ?_
          rintro e w2 ⟨rfl, hb2⟩
          have HB2 := hid (HB.out.trans (hb2.mono HB.out.size))
          clear hb2
          go_wp2_with fail
          refine (HLn.out _).mono ?_
          rintro e w3 ⟨rfl, hb3⟩
          have HB3 := hid (HB2.out.trans (hb3.mono HB2.out.size))
          clear hb3
          go_wp2_with fail
          go_ret
          exact ⟨by rw [HX.out]; rfl, HB3.out⟩
        · have HX := hid (HN.out hx)
          rw [show decide (low x = low n) = false by simp [hx]] at hq
          clear hx HY HN HA
          generalize low x = lx at *
          go_wp2_with fail
          refine (HLk.out _).mono ?_
          rintro e w2 ⟨rfl, hb2⟩
          have HB2 := hid (HB.out.trans (hb2.mono HB.out.size))
          clear hb2
          go_wp2_with fail
          refine (HLn.out _).mono ?_
          rintro e w3 ⟨rfl, hb3⟩
          have HB3 := hid (HB2.out.trans (hb3.mono HB2.out.size))
          clear hb3
          go_wp2_with fail
          go_roundw
          case rel => exact ⟨k + 1, by omega, by go_num, HX.out, HB3.out⟩
          case measure => simp [intOf]; omega
      · have hlt' : ¬ (k : Int) < names.length := by omega
        have HX : Hid (amongP n names = false) := among_no n names (fun x hx => HA.out x (by rw [List.take_of_length_le (by omega)]; exact hx))
        go_wp2_with fail
        go_ret
        exact ⟨by rw [HX.out]; rfl, HB.out⟩
/-- A text without line ends. -/
def nol (s : Bs) : Bs := (s.filter (· != 10)).filter (· != 13)
theorem nol_next (s : Bs) (k : Nat) (hk : k < s.length) : nol (s.take (k + 1)) = nol (s.take k) ++ (if s[k] = 10 ∨ s[k] = 13 then [] else [s[k]]) := by
  unfold nol
  rw [List.take_succ_eq_append_getElem hk, List.filter_append, List.filter_append]
  congr 1
  by_cases h1 : s[k] = 10
  · simp [h1]
  · by_cases h2 : s[k] = 13
    · simp [h2]
    · simp [h1, h2]
theorem nol_len (s : Bs) : (nol s).length ≤ s.length := by
  unfold nol
  exact Nat.le_trans (List.length_filter_le _ _) (List.length_filter_le _ _)
theorem unf_is (s : Bs) : trimR false (nol s) = unf s := trimR_w _
theorem addC (x s : Bs) (k : Nat) (hk : k < s.length) : str x ++ (str s).extract k (k + 1) = str (x ++ [s[k]]) := by
  have e : (s.drop k).take 1 = [s[k]] := by rw [List.drop_eq_getElem_cons hk]; rfl
  rw [mid_str, show k + 1 - k = 1 by omega, e, app_str]
set_option maxRecDepth 100000 in
set_option maxHeartbeats 4000000 in
theorem runfold_any (s : Bs) (w : World) (hs : s.length ≤ 100000) : Calls Tryz.prog 58 #[.string (str s)] w fun e w' => e = .returned (.string (str (unf s))) ∧ w' = w := by
  have hsz := str_size s
  go_enter Tryz.func58, Tryz.ntmps58
  go_wp2_with fail
  go_loop [3, 4] (fun v i => ∃ k : Nat, k ≤ s.length ∧ i = .int .i64 k ∧ v = .string (str (nol (s.take k)))) (fun _ i => s.length - (intOf i).toNat)
  case atStart => exact ⟨0, by omega, rfl, rfl⟩
  case round =>
    obtain ⟨k, hk, rfl, rfl⟩ := hrel
    by_cases hlt : k < s.length
    · have hlt' : (k : Int) < s.length := by omega
      have hlts : k < (str s).size := by omega
      have g : ((str s)[k]'hlts) = s[k] := rfl
      have HN := hid (nol_next s k hlt)
      have HAd := hid (addC (nol (s.take k)) s k hlt)
      have hq2 := str_size (nol (s.take k))
      have hq3 : ((nol (s.take k)).length : Int) ≤ 100000 := by have := nol_len (s.take k); rw [List.length_take] at this; omega
      generalize s[k] = c at *
      by_cases h1 : c = 10
      · have e1 : (c.toNat : Int) = 10 := c_eq h1
        have HX : Hid (nol (s.take (k + 1)) = nol (s.take k)) := by rw [Hid, HN.out, if_pos (.inl h1), List.append_nil]
        clear h1
        generalize nol (s.take k) = Q at *
        go_wp2_with fail
        go_round
        case rel => exact ⟨k + 1, by omega, by go_num, by rw [HX.out]⟩
        case measure => simp [intOf]; omega
      · have e1 : ¬ (c.toNat : Int) = 10 := c_ne h1
        have b1 : ((c.toNat : Int) != 10) = true := by simpa using e1
        by_cases h2 : c = 13
        · have e2 : (c.toNat : Int) = 13 := c_eq h2
          have HX : Hid (nol (s.take (k + 1)) = nol (s.take k)) := by rw [Hid, HN.out, if_pos (.inr h2), List.append_nil]
          clear h1 h2
          generalize nol (s.take k) = Q at *
          go_wp2_with fail
          go_round
          case rel => exact ⟨k + 1, by omega, by go_num, by rw [HX.out]⟩
          case measure => simp [intOf]; omega
        · have e2 : ¬ (c.toNat : Int) = 13 := c_ne h2
          have b2 : ((c.toNat : Int) != 13) = true := by simpa using e2
          have HX : Hid (str (nol (s.take k)) ++ (str s).extract k (k + 1) = str (nol (s.take (k + 1)))) := by rw [Hid, HAd.out, HN.out, if_neg (by simp [h1, h2])]
          clear h1 h2
          generalize nol (s.take k) = Q at *
          go_wp2_with fail
          go_round
          case rel => exact ⟨k + 1, by omega, by go_num, congrArg Value.string HX.out⟩
          case measure => simp [intOf]; omega
    · have hlt' : ¬ (k : Int) < s.length := by omega
      have hks : s.take k = s := List.take_of_length_le (by omega)
      rw [hks]
      clear hks
      have HC := hid (rtrim_false (nol s) w (by have := nol_len s; omega))
      rw [unf_is] at HC
      go_wp2_with fail
      refine HC.out.mono ?_
      rintro e w2 ⟨rfl, rfl⟩
      go_wp2_with fail
      go_ret
      exact ⟨rfl, rfl⟩
end Go.Proofs.YtemgpghjolpneaaGreatDoor
