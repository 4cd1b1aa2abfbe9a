/- What this text holds: the document's functions of bytes. -/
import Derived.Test.YtpjcpdnolcehcaaGreatDoorM37
namespace Go.Proofs.YtpjcpdnolcehcaaGreatDoor
open Go.RowKit
set_option linter.unusedVariables false
set_option linter.unusedSimpArgs false

def hasB (s : Bs) (c : UInt8) : Bool := s.contains c
/-- A result, and nothing else. -/
def Is (q : Bool) (w : World) (e : Ending) (w' : World) : Prop := e = .returned (.bool q) ∧ w' = w
set_option maxRecDepth 100000 in
set_option maxHeartbeats 1000000 in
theorem has_r (s : Bs) (c : UInt8) (w : World) (hl : s.length ≤ 1000000000) : Calls Tryz.prog 34 #[.string (str s), .int .u8 (c.toNat : Int)] w (Is (hasB s c) w) := by
  have hsz := str_size s
  go_enter Tryz.func34, Tryz.ntmps34
  go_wp2_with fail
  go_loop [5] (fun i => ∃ k : Nat, k ≤ s.length ∧ i = .int .i64 k ∧ ∀ j (hj : j < s.length), j < k → s[j] ≠ c) (fun i => s.length - (intOf i).toNat)
  case atStart => exact ⟨0, by omega, rfl, fun j _ hj => by omega⟩
  case round =>
    obtain ⟨k, hk, rfl, hall⟩ := hrel
    have HA := hid hall
    clear hall
    by_cases hlt : k < s.length
    · have hlt' : (k : Int) < s.length := by omega
      have hlts : k < (str s).size := by omega
      have g : ((str s)[k]'hlts) = s[k] := rfl
      by_cases he : s[k] = c
      · have he' : ((s[k]).toNat : Int) = c.toNat := by rw [he]
        have HR : Hid (hasB s c = true) := by
          unfold Hid hasB
          rw [List.contains_iff_mem, ← he]
          exact List.getElem_mem hlt
        clear he
        go_wp2_with fail
        go_ret
        rw [HR.out]
        exact ⟨rfl, rfl⟩
      · have he' : ¬ ((s[k]).toNat : Int) = c.toNat := fun h => he (UInt8.toNat_inj.1 (by omega))
        have HN : Hid (∀ j (hj : j < s.length), j < k + 1 → s[j] ≠ c) := by
          intro j hj hjk
          by_cases hjk2 : j = k
          · subst hjk2; exact he
          · exact HA.out j hj (by omega)
        clear he
        go_wp2_with fail
        go_round
        case rel => exact ⟨k + 1, by omega, by go_num, HN.out⟩
        case measure => simp [intOf]; omega
    · have hlt' : ¬ (k : Int) < s.length := by omega
      have HR : Hid (hasB s c = false) := by
        unfold Hid hasB
        rw [← Bool.not_eq_true, List.contains_iff_mem]
        intro hm
        obtain ⟨j, hj, e⟩ := List.mem_iff_getElem.1 hm
        exact HA.out j hj (by omega) e
      go_wp2_with fail
      go_ret
      rw [HR.out]
      exact ⟨rfl, rfl⟩
set_option maxRecDepth 100000 in
theorem letter_r (c : UInt8) (w : World) : Calls Tryz.prog 53 #[.int .u8 (c.toNat : Int)] w (Is (letB c) w) := by
  have C := has_r notB c w (by decide)
  have hc := c.toNat_lt
  have HB : Hid (letB c = (decide (33 ≤ c.toNat) && decide (c.toNat ≤ 126) && !(hasB notB c))) := by
    unfold Hid letB plB hasB
    by_cases h : c = 32
    · subst h; rfl
    · have h2 : c.toNat ≠ 32 := fun e => h (UInt8.toNat_inj.1 e)
      have h3 : (c != 32) = true := by simpa using h
      rw [h3]
      by_cases h4 : 33 ≤ c.toNat
      · simp [h4, show 32 ≤ c.toNat by omega]
      · simp [h4, show ¬ 32 ≤ c.toNat by omega]
  generalize hasB notB c = q at *
  by_cases h1 : 33 ≤ c.toNat
  · have h1' : (33 : Int) ≤ c.toNat := by omega
    by_cases h2 : c.toNat ≤ 126
    · have h2' : (c.toNat : Int) ≤ 126 := by omega
      go_enter Tryz.func53, Tryz.ntmps53
      go_wp2_with fail
      refine C.mono ?_
      rintro e w2 ⟨rfl, rfl⟩
      go_wp2_with fail
      go_ret
      rw [HB.out]
      exact ⟨by simp [h1, h2], rfl⟩
    · have h2' : ¬ (c.toNat : Int) ≤ 126 := by omega
      go_enter Tryz.func53, Tryz.ntmps53
      go_wp2_with fail
      go_ret
      rw [HB.out]
      exact ⟨by simp [h2], rfl⟩
  · have h1' : ¬ (33 : Int) ≤ c.toNat := by omega
    go_enter Tryz.func53, Tryz.ntmps53
    go_wp2_with fail
    go_ret
    rw [HB.out]
    exact ⟨by simp [h1], rfl⟩
theorem all_of {p : UInt8 → Bool} {s : Bs} (h : ∀ j (hj : j < s.length), j < s.length → p s[j] = true) : s.all p = true := by
  rw [List.all_eq_true]
  intro x hx
  obtain ⟨j, hj, rfl⟩ := List.mem_iff_getElem.1 hx
  exact h j hj hj
theorem all_no {p : UInt8 → Bool} {s : Bs} (k : Nat) (hk : k < s.length) (h : p s[k] = false) : s.all p = false := by
  rw [← Bool.not_eq_true, List.all_eq_true]
  intro hh
  rw [hh _ (List.getElem_mem hk)] at h
  cases h
set_option maxRecDepth 100000 in
set_option maxHeartbeats 1000000 in
theorem letters_r (s : Bs) (w : World) (hl : s.length ≤ 1000000000) : Calls Tryz.prog 33 #[.string (str s)] w (Is (s.all letB && (s != [])) w) := by
  have hsz := str_size s
  go_enter Tryz.func33, Tryz.ntmps33
  go_wp2_with fail
  go_loop [3] (fun i => ∃ k : Nat, k ≤ s.length ∧ i = .int .i64 k ∧ ∀ j (hj : j < s.length), j < k → letB s[j] = true) (fun i => s.length - (intOf i).toNat)
  case atStart => exact ⟨0, by omega, rfl, fun j _ hj => by omega⟩
  case round =>
    obtain ⟨k, hk, rfl, hall⟩ := hrel
    have HA := hid hall
    clear hall
    by_cases hlt : k < s.length
    · have hlt' : (k : Int) < s.length := by omega
      have hlts : k < (str s).size := by omega
      have g : ((str s)[k]'hlts) = s[k] := rfl
      rcases hb : letB s[k] with _ | _
      · have HR := hid (all_no (p := letB) k hlt hb)
        have C := letter_r s[k] w
        rw [hb] at C
        clear hb
        go_wp2_with fail
        refine C.mono ?_
        rintro e w2 ⟨rfl, rfl⟩
        go_wp2_with fail
        go_ret
        rw [HR.out]
        exact ⟨by simp, rfl⟩
      · have HN : Hid (∀ j (hj : j < s.length), j < k + 1 → letB s[j] = true) := by
          intro j hj hjk
          by_cases hjk2 : j = k
          · subst hjk2; exact hb
          · exact HA.out j hj (by omega)
        have C := letter_r s[k] w
        rw [hb] at C
        clear hb
        go_wp2_with fail
        refine C.mono ?_
        rintro e w2 ⟨rfl, rfl⟩
        go_wp2_with fail
        go_round
        case rel => exact ⟨k + 1, by omega, by go_num, HN.out⟩
        case measure => simp [intOf]; omega
    · have hlt' : ¬ (k : Int) < s.length := by omega
      have HR := hid (all_of (p := letB) (s := s) (fun j hj _ => HA.out j hj (by omega)))
      by_cases h0 : s = []
      · have g1 : (str s).toList.isEmpty = true := by rw [toL, h0]; rfl
        have HR2 : Hid ((s.all letB && (s != [])) = false) := by unfold Hid; rw [h0]; rfl
        clear h0
        go_wp2_with fail
        go_ret
        rw [HR2.out]
        exact ⟨rfl, rfl⟩
      · have g1 : (str s).toList.isEmpty = false := by rw [toL]; simpa using h0
        have HR2 : Hid ((s.all letB && (s != [])) = true) := by unfold Hid; rw [HR.out]; simpa using h0
        clear h0
        go_wp2_with fail
        go_ret
        rw [HR2.out]
        exact ⟨rfl, rfl⟩
set_option maxRecDepth 100000 in
set_option maxHeartbeats 1000000 in
theorem digits_r (s : Bs) (w : World) (hl : s.length ≤ 1000000000) : Calls Tryz.prog 89 #[.string (str s)] w (Is (s.all dgB) w) := by
  have hsz := str_size s
  go_enter Tryz.func89, Tryz.ntmps89
  go_wp2_with fail
  go_loop [3] (fun i => ∃ k : Nat, k ≤ s.length ∧ i = .int .i64 k ∧ ∀ j (hj : j < s.length), j < k → dgB s[j] = true) (fun i => s.length - (intOf i).toNat)
  case atStart => exact ⟨0, by omega, rfl, fun j _ hj => by omega⟩
  case round =>
    obtain ⟨k, hk, rfl, hall⟩ := hrel
    have HA := hid hall
    clear hall
    by_cases hlt : k < s.length
    · have hlt' : (k : Int) < s.length := by omega
      have hlts : k < (str s).size := by omega
      have g : ((str s)[k]'hlts) = s[k] := rfl
      rcases hb : dgB s[k] with _ | _
      · have HR := hid (all_no (p := dgB) k hlt hb)
        have hb2 : (s[k]).toNat < 48 ∨ 57 < (s[k]).toNat := by
          unfold dgB at hb
          simp only [Bool.and_eq_false_iff, decide_eq_false_iff_not] at hb
          omega
        by_cases h1 : (s[k]).toNat < 48
        · have e1 : ((s[k]).toNat : Int) < 48 := by omega
          clear hb hb2
          go_wp2_with fail
          go_ret
          rw [HR.out]
          exact ⟨rfl, rfl⟩
        · have e1 : ¬ ((s[k]).toNat : Int) < 48 := by omega
          have e2 : (57 : Int) < (s[k]).toNat := by omega
          clear hb hb2
          go_wp2_with fail
          go_ret
          rw [HR.out]
          exact ⟨rfl, rfl⟩
      · have HN : Hid (∀ j (hj : j < s.length), j < k + 1 → dgB s[j] = true) := by
          intro j hj hjk
          by_cases hjk2 : j = k
          · subst hjk2; exact hb
          · exact HA.out j hj (by omega)
        have hb2 : 48 ≤ (s[k]).toNat ∧ (s[k]).toNat ≤ 57 := by
          unfold dgB at hb
          simpa using hb
        have e1 : ¬ ((s[k]).toNat : Int) < 48 := by omega
        have e2 : ¬ (57 : Int) < (s[k]).toNat := by omega
        clear hb hb2
        go_wp2_with fail
        go_round
        case rel => exact ⟨k + 1, by omega, by go_num, HN.out⟩
        case measure => simp [intOf]; omega
    · have hlt' : ¬ (k : Int) < s.length := by omega
      have HR := hid (all_of (p := dgB) (s := s) (fun j hj _ => HA.out j hj (by omega)))
      go_wp2_with fail
      go_ret
      rw [HR.out]
      exact ⟨rfl, rfl⟩
set_option maxRecDepth 100000 in
set_option maxHeartbeats 1000000 in
theorem graphic_r (s : Bs) (w : World) (hl : s.length ≤ 1000000000) : Calls Tryz.prog 35 #[.string (str s)] w (Is (s.all plB) w) := by
  have hsz := str_size s
  go_enter Tryz.func35, Tryz.ntmps35
  go_wp2_with fail
  go_loop [3] (fun i => ∃ k : Nat, k ≤ s.length ∧ i = .int .i64 k ∧ ∀ j (hj : j < s.length), j < k → plB s[j] = true) (fun i => s.length - (intOf i).toNat)
  case atStart => exact ⟨0, by omega, rfl, fun j _ hj => by omega⟩
  case round =>
    obtain ⟨k, hk, rfl, hall⟩ := hrel
    have HA := hid hall
    clear hall
    by_cases hlt : k < s.length
    · have hlt' : (k : Int) < s.length := by omega
      have hlts : k < (str s).size := by omega
      have g : ((str s)[k]'hlts) = s[k] := rfl
      rcases hb : plB s[k] with _ | _
      · have HR := hid (all_no (p := plB) k hlt hb)
        have hb2 : (s[k]).toNat < 32 ∨ 126 < (s[k]).toNat := by
          unfold plB at hb
          simp only [Bool.and_eq_false_iff, decide_eq_false_iff_not] at hb
          omega
        by_cases h1 : (s[k]).toNat < 32
        · have e1 : ((s[k]).toNat : Int) < 32 := by omega
          clear hb hb2
          go_wp2_with fail
          go_ret
          rw [HR.out]
          exact ⟨rfl, rfl⟩
        · have e1 : ¬ ((s[k]).toNat : Int) < 32 := by omega
          have e2 : (126 : Int) < (s[k]).toNat := by omega
          clear hb hb2
          go_wp2_with fail
          go_ret
          rw [HR.out]
          exact ⟨rfl, rfl⟩
      · have HN : Hid (∀ j (hj : j < s.length), j < k + 1 → plB s[j] = true) := by
          intro j hj hjk
          by_cases hjk2 : j = k
          · subst hjk2; exact hb
          · exact HA.out j hj (by omega)
        have hb2 : 32 ≤ (s[k]).toNat ∧ (s[k]).toNat ≤ 126 := by
          unfold plB at hb
          simpa using hb
        have e1 : ¬ ((s[k]).toNat : Int) < 32 := by omega
        have e2 : ¬ (126 : Int) < (s[k]).toNat := by omega
        clear hb hb2
        go_wp2_with fail
        go_round
        case rel => exact ⟨k + 1, by omega, by go_num, HN.out⟩
        case measure => simp [intOf]; omega
    · have hlt' : ¬ (k : Int) < s.length := by omega
      have HR := hid (all_of (p := plB) (s := s) (fun j hj _ => HA.out j hj (by omega)))
      go_wp2_with fail
      go_ret
      rw [HR.out]
      exact ⟨rfl, rfl⟩
theorem fold_n (s : Bs) : Go.Lib.equalFold s nilT = (match s with
    | [a, b, c] => (decide (a.toNat = 78) || decide (a.toNat = 110)) && (decide (b.toNat = 73) || decide (b.toNat = 105)) && (decide (c.toNat = 76) || decide (c.toNat = 108))
    | _ => false) := by
  have f : ∀ (x y : UInt8), 65 ≤ y.toNat → y.toNat ≤ 90 → Go.Lib.foldEq x y = (decide (x.toNat = y.toNat) || decide (x.toNat = y.toNat + 32)) := by
    intro x y h1 h2
    unfold Go.Lib.foldEq
    rw [Bool.eq_iff_iff]
    simp only [decide_eq_true_eq, Bool.or_eq_true]
    omega
  match s with
  | [] => rfl
  | [a] => simp [nilT, Go.Lib.equalFold]
  | [a, b] => simp [nilT, Go.Lib.equalFold]
  | [a, b, c] =>
    simp only [nilT, Go.Lib.equalFold, Bool.and_true]
    rw [f a 78 (by decide) (by decide), f b 73 (by decide) (by decide), f c 76 (by decide) (by decide), Bool.and_assoc]
    rfl
  | a :: b :: c :: d :: r => simp [nilT, Go.Lib.equalFold]

set_option maxRecDepth 100000 in
set_option maxHeartbeats 2000000 in
theorem none_r (s : Bs) (w : World) (hl : s.length ≤ 1000000000) : Calls Tryz.prog 90 #[.string (str s)] w (Is (Go.Lib.equalFold s nilT) w) := by
  have hsz := str_size s
  have HF := hid (fold_n s)
  by_cases h3 : s.length = 3
  · match s, h3 with
    | [a, b, c], _ =>
      have HF2 : Hid (Go.Lib.equalFold [a, b, c] nilT = ((decide (a.toNat = 78) || decide (a.toNat = 110)) && (decide (b.toNat = 73) || decide (b.toNat = 105)) && (decide (c.toNat = 76) || decide (c.toNat = 108)))) := HF.out
      generalize Go.Lib.equalFold [a, b, c] nilT = q at *
      have g0 : ((str [a, b, c])[0]'(by rw [str_size]; simp)) = a := rfl
      have g1 : ((str [a, b, c])[1]'(by rw [str_size]; simp)) = b := rfl
      have g2 : ((str [a, b, c])[2]'(by rw [str_size]; simp)) = c := rfl
      clear HF
      simp only [List.length_cons, List.length_nil] at hsz
      by_cases a1 : a.toNat = 78
      · have a2 : (a.toNat : Int) = 78 := by omega
        by_cases b1 : b.toNat = 73
        · have b2 : (b.toNat : Int) = 73 := by omega
          by_cases c1 : c.toNat = 76
          · have c2 : (c.toNat : Int) = 76 := by omega
            go_enter Tryz.func90, Tryz.ntmps90
            go_wp2_with fail
            go_ret
            exact ⟨by rw [HF2.out]; simp [*], rfl⟩
          · have c2 : ¬ (c.toNat : Int) = 76 := by omega
            by_cases c3 : c.toNat = 108
            · have c4 : (c.toNat : Int) = 108 := by omega
              go_enter Tryz.func90, Tryz.ntmps90
              go_wp2_with fail
              go_ret
              exact ⟨by rw [HF2.out]; simp [*], rfl⟩
            · have c4 : ¬ (c.toNat : Int) = 108 := by omega
              go_enter Tryz.func90, Tryz.ntmps90
              go_wp2_with fail
              go_ret
              exact ⟨by rw [HF2.out]; simp [*], rfl⟩
        · have b2 : ¬ (b.toNat : Int) = 73 := by omega
          by_cases b3 : b.toNat = 105
          · have b4 : (b.toNat : Int) = 105 := by omega
            by_cases c1 : c.toNat = 76
            · have c2 : (c.toNat : Int) = 76 := by omega
              go_enter Tryz.func90, Tryz.ntmps90
              go_wp2_with fail
              go_ret
              exact ⟨by rw [HF2.out]; simp [*], rfl⟩
            · have c2 : ¬ (c.toNat : Int) = 76 := by omega
              by_cases c3 : c.toNat = 108
              · have c4 : (c.toNat : Int) = 108 := by omega
                go_enter Tryz.func90, Tryz.ntmps90
                go_wp2_with fail
                go_ret
                exact ⟨by rw [HF2.out]; simp [*], rfl⟩
              · have c4 : ¬ (c.toNat : Int) = 108 := by omega
                go_enter Tryz.func90, Tryz.ntmps90
                go_wp2_with fail
                go_ret
                exact ⟨by rw [HF2.out]; simp [*], rfl⟩
          · have b4 : ¬ (b.toNat : Int) = 105 := by omega
            go_enter Tryz.func90, Tryz.ntmps90
            go_wp2_with fail
            go_ret
            exact ⟨by rw [HF2.out]; simp [*], rfl⟩
      · have a2 : ¬ (a.toNat : Int) = 78 := by omega
        by_cases a3 : a.toNat = 110
        · have a4 : (a.toNat : Int) = 110 := by omega
          by_cases b1 : b.toNat = 73
          · have b2 : (b.toNat : Int) = 73 := by omega
            by_cases c1 : c.toNat = 76
            · have c2 : (c.toNat : Int) = 76 := by omega
              go_enter Tryz.func90, Tryz.ntmps90
              go_wp2_with fail
              go_ret
              exact ⟨by rw [HF2.out]; simp [*], rfl⟩
            · have c2 : ¬ (c.toNat : Int) = 76 := by omega
              by_cases c3 : c.toNat = 108
              · have c4 : (c.toNat : Int) = 108 := by omega
                go_enter Tryz.func90, Tryz.ntmps90
                go_wp2_with fail
                go_ret
                exact ⟨by rw [HF2.out]; simp [*], rfl⟩
              · have c4 : ¬ (c.toNat : Int) = 108 := by omega
                go_enter Tryz.func90, Tryz.ntmps90
                go_wp2_with fail
                go_ret
                exact ⟨by rw [HF2.out]; simp [*], rfl⟩
          · have b2 : ¬ (b.toNat : Int) = 73 := by omega
            by_cases b3 : b.toNat = 105
            · have b4 : (b.toNat : Int) = 105 := by omega
              by_cases c1 : c.toNat = 76
              · have c2 : (c.toNat : Int) = 76 := by omega
                go_enter Tryz.func90, Tryz.ntmps90
                go_wp2_with fail
                go_ret
                exact ⟨by rw [HF2.out]; simp [*], rfl⟩
              · have c2 : ¬ (c.toNat : Int) = 76 := by omega
                by_cases c3 : c.toNat = 108
                · have c4 : (c.toNat : Int) = 108 := by omega
                  go_enter Tryz.func90, Tryz.ntmps90
                  go_wp2_with fail
                  go_ret
                  exact ⟨by rw [HF2.out]; simp [*], rfl⟩
                · have c4 : ¬ (c.toNat : Int) = 108 := by omega
                  go_enter Tryz.func90, Tryz.ntmps90
                  go_wp2_with fail
                  go_ret
                  exact ⟨by rw [HF2.out]; simp [*], rfl⟩
            · have b4 : ¬ (b.toNat : Int) = 105 := by omega
              go_enter Tryz.func90, Tryz.ntmps90
              go_wp2_with fail
              go_ret
              exact ⟨by rw [HF2.out]; simp [*], rfl⟩
        · have a4 : ¬ (a.toNat : Int) = 110 := by omega
          go_enter Tryz.func90, Tryz.ntmps90
          go_wp2_with fail
          go_ret
          exact ⟨by rw [HF2.out]; simp [*], rfl⟩
  · have h3' : ¬ (s.length : Int) = 3 := by omega
    have HF2 : Hid (Go.Lib.equalFold s nilT = false) := by
      unfold Hid
      rw [HF.out]
      match s, h3 with
      | [], _ => rfl
      | [_], _ => rfl
      | [_, _], _ => rfl
      | [_, _, _], h => exact absurd rfl h
      | _ :: _ :: _ :: _ :: _, _ => rfl
    clear HF
    go_enter Tryz.func90, Tryz.ntmps90
    go_wp2_with fail
    go_ret
    rw [HF2.out]
    exact ⟨rfl, rfl⟩
set_option maxRecDepth 100000 in
set_option maxHeartbeats 2000000 in
theorem status_r (s : Bs) (w : World) : Calls Tryz.prog 36 #[.string (str s)] w (Is (statB s) w) := by
  by_cases h0 : s = [79, 75]
  · have g0 : (str s).toList = ([79, 75] : Bs) := by rw [toL]; exact h0
    have HR : Hid (statB s = true) := by rw [Hid, h0]; rfl
    clear h0
    go_enter Tryz.func36, Tryz.ntmps36
    go_wp2_with fail
    go_ret
    rw [HR.out]
    exact ⟨rfl, rfl⟩
  have g0 : ((str s).toList == ([79, 75] : Bs)) = false := by rw [toL, beq_eq_false_iff_ne]; exact h0
  have k0 : ¬ (str s).toList = ([79, 75] : Bs) := by rw [toL]; exact h0
  by_cases h1 : s = [78, 79]
  · have g1 : (str s).toList = ([78, 79] : Bs) := by rw [toL]; exact h1
    have HR : Hid (statB s = true) := by rw [Hid, h1]; rfl
    clear h0 h1
    go_enter Tryz.func36, Tryz.ntmps36
    go_wp2_with fail
    go_ret
    rw [HR.out]
    exact ⟨rfl, rfl⟩
  have g1 : ((str s).toList == ([78, 79] : Bs)) = false := by rw [toL, beq_eq_false_iff_ne]; exact h1
  have k1 : ¬ (str s).toList = ([78, 79] : Bs) := by rw [toL]; exact h1
  by_cases h2 : s = [66, 65, 68]
  · have g2 : (str s).toList = ([66, 65, 68] : Bs) := by rw [toL]; exact h2
    have HR : Hid (statB s = true) := by rw [Hid, h2]; rfl
    clear h0 h1 h2
    go_enter Tryz.func36, Tryz.ntmps36
    go_wp2_with fail
    go_ret
    rw [HR.out]
    exact ⟨rfl, rfl⟩
  have g2 : ((str s).toList == ([66, 65, 68] : Bs)) = false := by rw [toL, beq_eq_false_iff_ne]; exact h2
  have k2 : ¬ (str s).toList = ([66, 65, 68] : Bs) := by rw [toL]; exact h2
  by_cases h3 : s = [66, 89, 69]
  · have g3 : (str s).toList = ([66, 89, 69] : Bs) := by rw [toL]; exact h3
    have HR : Hid (statB s = true) := by rw [Hid, h3]; rfl
    clear h0 h1 h2 h3
    go_enter Tryz.func36, Tryz.ntmps36
    go_wp2_with fail
    go_ret
    rw [HR.out]
    exact ⟨rfl, rfl⟩
  have g3 : ((str s).toList == ([66, 89, 69] : Bs)) = false := by rw [toL, beq_eq_false_iff_ne]; exact h3
  have k3 : ¬ (str s).toList = ([66, 89, 69] : Bs) := by rw [toL]; exact h3
  by_cases h4 : s = [80, 82, 69, 65, 85, 84, 72]
  · have g4 : (str s).toList = ([80, 82, 69, 65, 85, 84, 72] : Bs) := by rw [toL]; exact h4
    have HR : Hid (statB s = true) := by rw [Hid, h4]; rfl
    clear h0 h1 h2 h3 h4
    go_enter Tryz.func36, Tryz.ntmps36
    go_wp2_with fail
    go_ret
    rw [HR.out]
    exact ⟨rfl, rfl⟩
  have g4 : ((str s).toList == ([80, 82, 69, 65, 85, 84, 72] : Bs)) = false := by rw [toL, beq_eq_false_iff_ne]; exact h4
  have k4 : ¬ (str s).toList = ([80, 82, 69, 65, 85, 84, 72] : Bs) := by rw [toL]; exact h4
  have HR : Hid (statB s = false) := by
    unfold Hid statB
    rw [beq_eq_false_iff_ne.2 h0, beq_eq_false_iff_ne.2 h1, beq_eq_false_iff_ne.2 h2, beq_eq_false_iff_ne.2 h3, beq_eq_false_iff_ne.2 h4]
    rfl
  clear h0 h1 h2 h3 h4
  go_enter Tryz.func36, Tryz.ntmps36
  go_wp2_with fail
  go_ret
  rw [HR.out]
  exact ⟨rfl, rfl⟩
set_option maxRecDepth 100000 in
set_option maxHeartbeats 2000000 in
theorem atom_r (s : Bs) (w : World) (hl : s.length ≤ 1000000000) : Calls Tryz.prog 74 #[.string (str s)] w (Is (atomB s) w) := by
  have C1 := letters_r s w hl
  have C2 := digits_r s w hl
  have C3 := none_r s w hl
  have HZ : Hid (atomB s = ((s.all letB && (s != [])) && !(s.all dgB) && !(Go.Lib.equalFold s nilT))) := by
    unfold Hid atomB
    cases s.all letB <;> cases (s != []) <;> rfl
  generalize Go.Lib.equalFold s nilT = q at *
  generalize (s.all letB && (s != [])) = p at *
  generalize s.all dgB = d at *
  generalize atomB s = z at *
  go_enter Tryz.func74, Tryz.ntmps74
  go_wp2_with fail
  refine C1.mono ?_
  rintro e w2 ⟨rfl, rfl⟩
  cases p
  · go_wp2_with fail
    go_ret
    rw [HZ.out]
    exact ⟨rfl, rfl⟩
  · go_wp2_with fail
    refine C2.mono ?_
    rintro e w3 ⟨rfl, rfl⟩
    cases d
    · go_wp2_with fail
      refine C3.mono ?_
      rintro e w4 ⟨rfl, rfl⟩
      go_wp2_with fail
      go_ret
      rw [HZ.out]
      exact ⟨by simp, rfl⟩
    · go_wp2_with fail
      go_ret
      rw [HZ.out]
      exact ⟨rfl, rfl⟩
end Go.Proofs.YtpjcpdnolcehcaaGreatDoor
