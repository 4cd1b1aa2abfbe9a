/- What this text holds: the document's small readers. · What this text holds: the document's digits at a place, and what they tell. · What this text holds: the document's rest of a line. · What this text holds: the document reads a value: lists of values, and nothing. · What this text holds: the document reads a value in quotes. · What this text holds: the document reads a value that is counted. · What this text holds: the document reads a word: nothing, a number, an atom. · What this text holds: the document reads a section. · What this text holds: the document reads several values; so it reads any. -/
import Derived.Test.YtpjcpdnolcehcaaGreatDoorM39
import Derived.Test.YtpjcpdnolcehcaaGreatDoorZ1
namespace Go.Proofs.YtpjcpdnolcehcaaGreatDoor
open Go.RowKit
set_option linter.unusedVariables false
set_option linter.unusedSimpArgs false

theorem at_none (s t : Bs) (w : World) : Calls Tryz.prog 61 #[.string (str s), .int .i64 (-1), .string (str t)] w (Is false w) := by
  go_enter Tryz.func61, Tryz.ntmps61
  go_wp2_with fail
  go_ret
  exact ⟨rfl, rfl⟩
theorem prefix_take (t : Bs) : ∀ u : Bs, t.isPrefixOf u = decide (u.take t.length = t) := by
  induction t with
  | nil => intro u; simp
  | cons c t ih =>
    intro u
    cases u with
    | nil => simp
    | cons d u =>
      rw [List.isPrefixOf, ih]
      rw [Bool.eq_iff_iff]
      simp only [Bool.and_eq_true, beq_iff_eq, decide_eq_true_eq, List.length_cons, List.take_succ_cons, List.cons.injEq]
      exact ⟨fun h => ⟨h.1.symm, h.2⟩, fun h => ⟨h.1.symm, h.2⟩⟩
set_option maxRecDepth 100000 in
set_option maxHeartbeats 1000000 in
theorem at_r (s t : Bs) (i : Nat) (w : World) (hs : s.length ≤ 1000000) (ht : t.length ≤ 100) (hi : i ≤ s.length) : Calls Tryz.prog 61 #[.string (str s), .int .i64 i, .string (str t)] w (Is (t.isPrefixOf (s.drop i)) w) := by
  have hsz := str_size s
  have htz := str_size t
  have HP := hid (prefix_take t (s.drop i))
  generalize t.isPrefixOf (s.drop i) = q at *
  have hi' : (i : Int) ≤ s.length := by omega
  by_cases hl : (t.length : Int) ≤ s.length - i
  · have HM : Hid ((str s).extract i (i + t.length) = str ((s.drop i).take t.length)) := by
      rw [Hid, mid_str, show i + t.length - i = t.length by omega]
    obtain ⟨m, hm⟩ : ∃ m, (s.drop i).take t.length = m := ⟨_, rfl⟩
    rw [hm] at HM HP
    clear hm
    have HM2 := HM.out
    by_cases he : m = t
    · have HQ : Hid (q = true) := by rw [Hid, HP.out, decide_eq_true he]
      rw [he] at HM2
      clear he HM
      go_enter Tryz.func61, Tryz.ntmps61
      go_wp2_with fail
      go_ret
      rw [HQ.out]
      exact ⟨by first | rfl | simp [HM2], rfl⟩
    · have HQ : Hid (q = false) := by rw [Hid, HP.out, decide_eq_false he]
      have hne : ((str m).toList == (str t).toList) = false := by rw [toL, toL, beq_eq_false_iff_ne]; exact he
      have hne3 : ¬ str m = str t := fun h => he (str_inj h)
      clear he HM
      go_enter Tryz.func61, Tryz.ntmps61
      go_wp2_with fail
      go_ret
      rw [HQ.out]
      exact ⟨by first | rfl | simp [HM2, hne, hne3], rfl⟩
  · have HQ : Hid (q = false) := by
      rw [Hid, HP.out, decide_eq_false]
      intro h
      have := congrArg List.length h
      rw [List.length_take, List.length_drop] at this
      omega
    go_enter Tryz.func61, Tryz.ntmps61
    go_wp2_with fail
    go_ret
    rw [HQ.out]
    exact ⟨rfl, rfl⟩
theorem take_while_at {p : UInt8 → Bool} : ∀ (u : Bs) (n : Nat), n ≤ u.length → (∀ j (hj : j < u.length), j < n → p u[j] = true) → (∀ hn : n < u.length, p u[n] = false) → (u.takeWhile p).length = n
  | [], n, h, _, _ => by simp at h; simp [h]
  | c :: u, 0, _, _, h2 => by
    have := h2 (by simp)
    simp only [List.getElem_cons_zero] at this
    rw [List.takeWhile_cons, this]
    rfl
  | c :: u, n + 1, h, h1, h2 => by
    have hc := h1 0 (by simp) (by omega)
    simp only [List.getElem_cons_zero] at hc
    rw [List.takeWhile_cons, hc]
    simp only [if_true, List.length_cons]
    rw [take_while_at u n (by simpa using h) (fun j hj hjn => by have := h1 (j + 1) (by simpa using hj) (by omega); simpa using this) (fun hn => by have := h2 (by simpa using hn); simpa using this)]
set_option maxRecDepth 100000 in
set_option maxHeartbeats 1000000 in
theorem run_r (s : Bs) (i : Nat) (w : World) (hs : s.length ≤ 1000000) (hi : i ≤ s.length) : Calls Tryz.prog 60 #[.string (str s), .int .i64 i] w fun e w' => e = .returned (.int .i64 (((s.drop i).takeWhile letB).length : Nat)) ∧ w' = w := by
  have hsz := str_size s
  have hi' : (i : Int) ≤ s.length := by omega
  have HSi := hid hs
  go_enter Tryz.func60, Tryz.ntmps60
  go_wp2_with fail
  go_loop [5] (fun n => ∃ k : Nat, i + k ≤ s.length ∧ n = .int .i64 k ∧ ∀ j (hj : i + j < s.length), j < k → letB s[i + j] = true) (fun n => s.length - (intOf n).toNat)
  case atStart => exact ⟨0, by omega, rfl, fun j _ hj => by omega⟩
  case round =>
    obtain ⟨k, hk, rfl, hall⟩ := hrel
    have HA := hid hall
    clear hall
    have hks : (k : Int) ≤ 1000000 := by omega
    have his : (i : Int) ≤ 1000000 := by omega
    by_cases hlt : i + k < s.length
    · have hlt' : (i : Int) + k < s.length := by omega
      have hlts : i + k < (str s).size := by omega
      have g : ((str s)[i + k]'hlts) = s[i + k] := rfl
      have C := letter_r s[i + k] w
      rcases hb : letB s[i + k] with _ | _
      · rw [hb] at C
        have HR : Hid (((s.drop i).takeWhile letB).length = k) := take_while_at _ _ (by rw [List.length_drop]; omega) (fun j hj hjn => by rw [List.getElem_drop]; exact HA.out j (by rw [List.length_drop] at hj; omega) hjn) (fun hn => by rw [List.getElem_drop]; exact hb)
        clear hb
        go_wp2_with fail
        refine C.mono ?_
        rintro e w2 ⟨rfl, rfl⟩
        go_wp2_with fail
        go_ret
        rw [HR.out]
        exact ⟨rfl, rfl⟩
      · rw [hb] at C
        have HN : Hid (∀ j (hj : i + j < s.length), j < k + 1 → letB s[i + j] = true) := by
          intro j hj hjk
          by_cases hjk2 : j = k
          · subst hjk2; exact hb
          · exact HA.out j hj (by omega)
        clear hb
        go_wp2_with fail
        refine C.mono ?_
        rintro e w2 ⟨rfl, rfl⟩
        go_wp2_with fail
        go_round
        case rel => exact ⟨k + 1, by omega, by go_num, HN.out⟩
        case measure => simp [intOf]; omega
    · have hlt' : ¬ (i : Int) + k < s.length := by omega
      have HR : Hid (((s.drop i).takeWhile letB).length = k) := take_while_at _ _ (by rw [List.length_drop]; omega) (fun j hj hjn => by rw [List.getElem_drop]; exact HA.out j (by rw [List.length_drop] at hj; omega) hjn) (fun hn => by rw [List.length_drop] at hn; omega)
      go_wp2_with fail
      go_ret
      rw [HR.out]
      exact ⟨rfl, rfl⟩
end Go.Proofs.YtpjcpdnolcehcaaGreatDoor
namespace Go.Proofs.YtpjcpdnolcehcaaGreatDoor
open Go.RowKit
set_option linter.unusedVariables false
set_option linter.unusedSimpArgs false

set_option maxRecDepth 100000 in
set_option maxHeartbeats 1000000 in
theorem digs_r (s : Bs) (i : Nat) (w : World) (hs : s.length ≤ 1000000) (hi : i ≤ s.length) : Calls Tryz.prog 98 #[.string (str s), .int .i64 i] w fun e w' => e = .returned (.int .i64 (((s.drop i).takeWhile dgB).length : Nat)) ∧ w' = w := by
  have hsz := str_size s
  have hi' : (i : Int) ≤ s.length := by omega
  have HSi := hid hs
  go_enter Tryz.func98, Tryz.ntmps98
  go_wp2_with fail
  go_loop [5] (fun n => ∃ k : Nat, i + k ≤ s.length ∧ n = .int .i64 k ∧ ∀ j (hj : i + j < s.length), j < k → dgB s[i + j] = true) (fun n => s.length - (intOf n).toNat)
  case atStart => exact ⟨0, by omega, rfl, fun j _ hj => by omega⟩
  case round =>
    obtain ⟨k, hk, rfl, hall⟩ := hrel
    have HA := hid hall
    clear hall
    have hks : (k : Int) ≤ 1000000 := by omega
    have his : (i : Int) ≤ 1000000 := by omega
    by_cases hlt : i + k < s.length
    · have hlt' : (i : Int) + k < s.length := by omega
      have hlts : i + k < (str s).size := by omega
      have g : ((str s)[i + k]'hlts) = s[i + k] := rfl
      rcases hb : dgB s[i + k] with _ | _
      · have hb2 : (s[i + k]).toNat < 48 ∨ 57 < (s[i + k]).toNat := by
          unfold dgB at hb
          simp only [Bool.and_eq_false_iff, decide_eq_false_iff_not] at hb
          omega
        have HR : Hid (((s.drop i).takeWhile dgB).length = k) := take_while_at _ _ (by rw [List.length_drop]; omega) (fun j hj hjn => by rw [List.getElem_drop]; exact HA.out j (by rw [List.length_drop] at hj; omega) hjn) (fun hn => by rw [List.getElem_drop]; exact hb)
        by_cases h1 : (48 : Int) ≤ (s[i + k]).toNat
        · have h2 : ¬ ((s[i + k]).toNat : Int) ≤ 57 := by omega
          clear hb hb2
          go_wp2_with fail
          go_ret
          rw [HR.out]
          exact ⟨rfl, rfl⟩
        · clear hb hb2
          go_wp2_with fail
          go_ret
          rw [HR.out]
          exact ⟨rfl, rfl⟩
      · have hb2 : 48 ≤ (s[i + k]).toNat ∧ (s[i + k]).toNat ≤ 57 := by
          unfold dgB at hb
          simpa using hb
        have h1 : (48 : Int) ≤ (s[i + k]).toNat := by omega
        have h2 : ((s[i + k]).toNat : Int) ≤ 57 := by omega
        have HN : Hid (∀ j (hj : i + j < s.length), j < k + 1 → dgB s[i + j] = true) := by
          intro j hj hjk
          by_cases hjk2 : j = k
          · subst hjk2; exact hb
          · exact HA.out j hj (by omega)
        clear hb hb2
        go_wp2_with fail
        go_round
        case rel => exact ⟨k + 1, by omega, by go_num, HN.out⟩
        case measure => simp [intOf]; omega
    · have hlt' : ¬ (i : Int) + k < s.length := by omega
      have HR : Hid (((s.drop i).takeWhile dgB).length = k) := take_while_at _ _ (by rw [List.length_drop]; omega) (fun j hj hjn => by rw [List.getElem_drop]; exact HA.out j (by rw [List.length_drop] at hj; omega) hjn) (fun hn => by rw [List.length_drop] at hn; omega)
      go_wp2_with fail
      go_ret
      rw [HR.out]
      exact ⟨rfl, rfl⟩
def numV (s : Bs) : Int := match numP s with
  | some n => n
  | none => -1
theorem numV_digits {s : Bs} (h0 : s ≠ []) (ha : s.all dgB = true) : numV s = if (valN s : Int) ≤ mi then (valN s : Int) else -1 := by
  have h := (atoi_digits h0 ha).1
  unfold numV numP
  rw [h]
  by_cases hm : (valN s : Int) ≤ mi
  · rw [if_pos hm, if_pos hm]
  · rw [if_neg hm, if_neg hm]
theorem valN_take (s : Bs) (k : Nat) (h : k < s.length) : valN (s.take (k + 1)) = 10 * valN (s.take k) + ((s[k]).toNat - 48) := by
  unfold valN valF
  rw [List.take_succ_eq_append_getElem h, List.foldl_append]
  rfl
theorem valN_le (s : Bs) (k : Nat) : valN (s.take k) ≤ valN s := by
  have h : valN s = valF (valN (s.take k)) (s.drop k) := by
    unfold valN valF
    rw [← List.foldl_append, List.take_append_drop]
  rw [h]
  exact valF_ge _ _
set_option maxRecDepth 100000 in
set_option maxHeartbeats 1000000 in
theorem number_r (s : Bs) (w : World) (hs : s.length ≤ 1000000) (ha : s.all dgB = true) : Calls Tryz.prog 99 #[.string (str s)] w fun e w' => e = .returned (.int .i64 (numV s)) ∧ w' = w := by
  have hsz := str_size s
  have C := digits_r s w (by omega)
  rw [ha] at C
  by_cases h0 : s = []
  · subst h0
    have g1 : (str ([] : Bs)).toList = ([] : Bs) := by rw [toL]
    have g2 : (str ([] : Bs)).toList.isEmpty = true := by rw [toL]; rfl
    clear hsz
    go_enter Tryz.func99, Tryz.ntmps99
    go_wp2_with fail
    go_ret
    exact ⟨rfl, rfl⟩
  · have g1 : ((str s).toList == ([] : Bs)) = false := by rw [toL, beq_eq_false_iff_ne]; exact h0
    have g2 : (str s).toList.isEmpty = false := by rw [toL]; simpa using h0
    have g3 : ¬ (str s).toList = ([] : Bs) := by rw [toL]; exact h0
    have HV := hid (numV_digits h0 ha)
    have HAll := hid (List.all_eq_true.1 ha)
    clear h0 ha
    go_enter Tryz.func99, Tryz.ntmps99
    go_wp2_with fail
    refine C.mono ?_
    rintro e w2 ⟨rfl, rfl⟩
    go_wp2_with fail
    go_loop [3, 4] (fun n i => ∃ k : Nat, k ≤ s.length ∧ i = .int .i64 k ∧ n = .int .i64 (valN (s.take k)) ∧ (valN (s.take k) : Int) ≤ mi) (fun _ i => s.length - (intOf i).toNat)
    case atStart => exact ⟨0, by omega, rfl, rfl, by show (0 : Int) ≤ mi; decide⟩
    case round =>
      obtain ⟨k, hk, rfl, rfl, hv⟩ := hrel
      unfold mi at hv
      by_cases hlt : k < s.length
      · have hlt' : (k : Int) < s.length := by omega
        have hlts : k < (str s).size := by omega
        obtain ⟨c, hc⟩ : ∃ c, c = s[k] := ⟨_, rfl⟩
        have g : ((str s)[k]'hlts) = c := hc.symm
        have hcd := HAll.out s[k] (List.getElem_mem hlt)
        rw [← hc] at hcd
        have hcb : 48 ≤ c.toNat ∧ c.toNat ≤ 57 := by unfold dgB at hcd; simpa using hcd
        have hnx : valN (s.take (k + 1)) = 10 * valN (s.take k) + (c.toNat - 48) := by rw [hc]; exact valN_take s k hlt
        have hle := valN_le s (k + 1)
        have c1 : (48 : Int) ≤ c.toNat := by omega
        have c2 : (c.toNat : Int) ≤ 57 := by omega
        obtain ⟨n, hn⟩ : ∃ n, valN (s.take k) = n := ⟨_, rfl⟩
        rw [hn] at hnx hv ⊢
        clear hn hcd hc
        by_cases hbig : (9223372036854775807 - ((c.toNat : Int) - 48)) / 10 < n
        · have HR : Hid (numV s = -1) := by rw [Hid, HV.out, if_neg (by unfold mi; omega)]
          clear hnx hle hcb
          go_wp2_with fail
          go_ret
          rw [HR.out]
          exact ⟨rfl, rfl⟩
        · have HN : Hid ((valN (s.take (k + 1)) : Int) = 10 * n + ((c.toNat : Int) - 48)) := by unfold Hid; omega
          have hm1 : 10 * (n : Int) + ((c.toNat : Int) - 48) ≤ 9223372036854775807 := by omega
          clear hnx hle hcb
          go_wp2_with fail
          go_round
          case rel => exact ⟨k + 1, by omega, by go_num, by rw [HN.out], by rw [HN.out]; unfold mi; omega⟩
          case measure => simp [intOf]; omega
      · have hlt' : ¬ (k : Int) < s.length := by omega
        have HR : Hid (numV s = (valN (s.take k) : Nat)) := by
          rw [List.take_of_length_le (by omega)] at hv ⊢
          rw [Hid, HV.out, if_pos (by unfold mi; omega)]
        go_wp2_with fail
        go_ret
        rw [HR.out]
        exact ⟨rfl, rfl⟩
end Go.Proofs.YtpjcpdnolcehcaaGreatDoor
namespace Go.Proofs.YtpjcpdnolcehcaaGreatDoor
open Go.RowKit
set_option linter.unusedVariables false
set_option linter.unusedSimpArgs false

theorem rest_found : ∀ (n : Nat) (u : Bs), (∀ j, j < n → ([13, 10] : Bs).isPrefixOf (u.drop j) = false) → ([13, 10] : Bs).isPrefixOf (u.drop n) = true → restR u = some (u.take n, u.drop (n + 2))
  | n, [], _, h => by simp at h
  | 0, c :: u, _, h => by
    unfold restR
    rw [if_pos (by simpa using h)]
    rfl
  | n + 1, c :: u, h1, h => by
    have h0 := h1 0 (by omega)
    simp only [List.drop_zero] at h0
    unfold restR
    rw [if_neg (by rw [h0]; decide), rest_found n u (fun j hj => by have := h1 (j + 1) (by omega); simpa using this) (by simpa using h)]
    rfl
theorem rest_none : ∀ (u : Bs), (∀ j, j < u.length → ([13, 10] : Bs).isPrefixOf (u.drop j) = false) → restR u = none
  | [], _ => rfl
  | c :: u, h => by
    have h0 := h 0 (by simp)
    simp only [List.drop_zero] at h0
    unfold restR
    rw [if_neg (by rw [h0]; decide), rest_none u (fun j hj => by have := h (j + 1) (by simpa using hj); simpa using this)]
    rfl
def restV (n : Nat) (o : Option (Bs × Bs)) : Value := match o with
  | some (x, r) => .tuple #[.string (str x), .int .i64 ((n : Int) - r.length)]
  | none => .tuple #[.string (str []), .int .i64 (-1)]
set_option maxRecDepth 100000 in
set_option maxHeartbeats 1000000 in
theorem rest_r (s : Bs) (i : Nat) (w : World) (hs : s.length ≤ 1000000) (hi : i ≤ s.length) : Calls Tryz.prog 62 #[.string (str s), .int .i64 i] w fun e w' => e = .returned (restV s.length (restR (s.drop i))) ∧ w' = w := by
  have hsz := str_size s
  have hi' : (i : Int) ≤ s.length := by omega
  have hs' : (s.length : Int) ≤ 1000000 := by omega
  obtain ⟨V, hV⟩ : ∃ V, restV s.length (restR (s.drop i)) = V := ⟨_, rfl⟩
  have HV := hid hV
  rw [hV]
  clear hV
  go_enter Tryz.func62, Tryz.ntmps62
  go_wp2_with fail
  go_loop [6] (fun n => ∃ k : Nat, i ≤ k ∧ k ≤ s.length ∧ n = .int .i64 k ∧ ∀ j, i + j < k → ([13, 10] : Bs).isPrefixOf ((s.drop i).drop j) = false) (fun n => s.length - (intOf n).toNat)
  case atStart => exact ⟨i, by omega, by omega, rfl, fun j hj => by omega⟩
  case round =>
    obtain ⟨k, hik, hk, rfl, hall⟩ := hrel
    have HA := hid hall
    clear hall
    by_cases hlt : k < s.length
    · have hlt' : (k : Int) < s.length := by omega
      have C := at_r s [13, 10] k w hs (by decide) (by omega)
      have hdd : (s.drop i).drop (k - i) = s.drop k := by rw [List.drop_drop, show i + (k - i) = k by omega]
      obtain ⟨q, hq⟩ : ∃ q, ([13, 10] : Bs).isPrefixOf (s.drop k) = q := ⟨_, rfl⟩
      rw [hq] at C
      cases q
      · have HN : Hid (∀ j, i + j < k + 1 → ([13, 10] : Bs).isPrefixOf ((s.drop i).drop j) = false) := by
          intro j hj
          by_cases hjk : i + j = k
          · rw [show j = k - i by omega, hdd]; exact hq
          · exact HA.out j (by omega)
        clear hq hdd
        go_wp2_with fail
        refine C.mono ?_
        rintro e w2 ⟨rfl, rfl⟩
        go_wp2_with fail
        go_round
        case rel => exact ⟨k + 1, by omega, by omega, by go_num, HN.out⟩
        case measure => simp [intOf]; omega
      · have hf := rest_found (k - i) (s.drop i) (fun j hj => HA.out j (by omega)) (by rw [hdd]; exact hq)
        have HR : Hid (V = .tuple #[.string ((str s).extract i k), .int .i64 ((k : Int) + 2)]) := by
          rw [Hid, ← HV.out, hf, restV, mid_str]
          have hl : k + 2 ≤ s.length := by
            have := hq
            rw [prefix_take] at this
            have := congrArg List.length (of_decide_eq_true this)
            rw [List.length_take, List.length_drop] at this
            simp only [List.length_cons, List.length_nil] at this
            omega
          have e : (s.length : Int) - (((s.drop i).drop (k - i + 2)).length : Nat) = (k : Int) + 2 := by
            rw [List.length_drop, List.length_drop]
            omega
          rw [e]
        clear hq hdd hf
        have hik' : (i : Int) ≤ k := by omega
        go_wp2_with fail
        refine C.mono ?_
        rintro e w2 ⟨rfl, rfl⟩
        go_wp2_with fail
        go_ret2
        rw [HR.out]
        exact ⟨rfl, rfl⟩
    · have hlt' : ¬ (k : Int) < s.length := by omega
      have HR : Hid (V = .tuple #[.string (str []), .int .i64 (-1)]) := by
        rw [Hid, ← HV.out, rest_none (s.drop i) (fun j hj => HA.out j (by rw [List.length_drop] at hj; omega))]
        rfl
      go_wp2_with fail
      go_ret2
      rw [HR.out]
      exact ⟨rfl, rfl⟩
end Go.Proofs.YtpjcpdnolcehcaaGreatDoor
namespace Go.Proofs.YtpjcpdnolcehcaaGreatDoor
open Go.RowKit
set_option linter.unusedVariables false
set_option linter.unusedSimpArgs false

def RdVR (s : Bs) (w : World) (X : Option (Vl × Bs)) (e : Ending) (w' : World) : Prop := match X with
  | none => ∃ row, e = .returned (.tuple #[vV row, .int .i64 (-1)]) ∧ Below w.heap.size w w'
  | some (v, r) => ∃ (row : Rw) (k : Nat), e = .returned (.tuple #[vV row, .int .i64 k]) ∧ k ≤ s.length ∧ s.drop k = r ∧ VAt w' (w.heap.size ≤ ·) row v ∧ Below w.heap.size w w'
def RdAR (s : Bs) (w : World) (X : Option (List Vl × Bs)) (e : Ending) (w' : World) : Prop := match X with
  | none => e = .returned (.tuple #[nilV, .int .i64 (-1)]) ∧ Below w.heap.size w w'
  | some (l, r) => ∃ (u : Value) (k : Nat), e = .returned (.tuple #[u, .int .i64 k]) ∧ k ≤ s.length ∧ s.drop k = r ∧ VsAt w' (w.heap.size ≤ ·) u l ∧ Below w.heap.size w w'
def AllRok (d : Nat) : Prop := ∀ (w : World) (s : Bs) (i deep : Nat) (e : Bs), s.length ≤ 1000000 → i ≤ s.length → deep + d = 31 → e.length ≤ 2 → Calls Tryz.prog 63 #[.string (str s), .int .i64 i, .string (str e), .int .i64 deep] w (RdAR s w (allR (valueR d) e (s.drop i)))
def ValRok (d : Nat) : Prop := ∀ (w : World) (s : Bs) (i deep : Nat), s.length ≤ 1000000 → i ≤ s.length → deep + d = 31 → Calls Tryz.prog 81 #[.string (str s), .int .i64 i, .int .i64 deep] w (RdVR s w (valueR d (s.drop i)))
theorem resV2 {f : Func} {k j A : Nat} {r : Rw} {n : Value} {w : World} {tmps : Array Value} (hf : f.results = #[.cell k 43, .tmp j]) (ht : tmps[k]? = some (.pointer (some ⟨A, 0, none⟩))) (hj : tmps[j]? = some n) (hA : V5 w A r) : (results f tmps).run Tryz.prog w = .ok (.tuple #[vV r, n]) w := by
  obtain ⟨x0, x1, x2, x3, x4⟩ := hA.cs
  simp [results, hf, go_sem, ht, hj, x0, x1, x2, x3, x4, vV, Rw.c]
theorem below_new (w : World) (r : Rw) : Below w.heap.size w (w.alloc (.cells r.c.toArray 43)) := (Below.refl _ _).alloc (Nat.le_refl _) _
theorem fin_below {w w2 : World} {r : Rw} (hz : Below w.heap.size w (w.alloc zO)) (hk : Below (w.alloc zO).heap.size (w.alloc zO) w2) (hs : (w.alloc zO).heap.size = w.heap.size + 1) : Below w.heap.size w (row5 w2 w.heap.size r) :=
  (hz.trans (hk.mono (by omega))).trans ((row5_self w2 w.heap.size r).below (by simp) (Nat.le_trans hz.size hk.size))
theorem fin_vat {w w2 : World} {r q : Rw} {v : Vl} (h : VAt w2 ((w.alloc zO).heap.size ≤ ·) r v) (hs : (w.alloc zO).heap.size = w.heap.size + 1) (hA : V5 w2 w.heap.size zR) : VAt (row5 w2 w.heap.size q) (w.heap.size ≤ ·) r v :=
  (h.kept (row5_self w2 w.heap.size q) (by simp)).mono (fun q _ hq => by omega)
set_option maxRecDepth 100000 in
theorem read_zero : ValRok 0 := by
  intro w s i deep hs hi hd
  have hsz := str_size s
  obtain rfl : deep = 31 := by omega
  show Calls _ _ _ _ (RdVR s w none)
  by_cases h : s.length ≤ i
  · have h' : (s.length : Int) ≤ i := by omega
    go_enter Tryz.func81, Tryz.ntmps81
    go_wp2_with fail
    exact bodyPost_ret (resV2 rfl rfl rfl (V5.new w zR)) rfl ⟨zR, rfl, below_new w zR⟩
  · have h' : ¬ (s.length : Int) ≤ i := by omega
    go_enter Tryz.func81, Tryz.ntmps81
    go_wp2_with fail
    exact bodyPost_ret (resV2 rfl rfl rfl (V5.new w zR)) rfl ⟨zR, rfl, below_new w zR⟩
set_option maxRecDepth 100000 in
set_option maxHeartbeats 1000000 in
theorem read_end {d : Nat} (w : World) (s : Bs) (i deep : Nat) (hs : s.length ≤ 1000000) (hi : i = s.length) (hd : deep + (d + 1) = 31) : Calls Tryz.prog 81 #[.string (str s), .int .i64 i, .int .i64 deep] w (RdVR s w (valueR (d + 1) (s.drop i))) := by
  have hsz := str_size s
  rw [valueR_succ, hi, List.drop_length, body_nil]
  have hd' : (deep : Int) ≤ 30 := by omega
  go_enter Tryz.func81, Tryz.ntmps81
  go_wp2_with fail
  exact bodyPost_ret (resV2 rfl rfl rfl (V5.new w zR)) rfl ⟨zR, rfl, below_new w zR⟩
set_option maxRecDepth 100000 in
set_option maxHeartbeats 1000000 in
theorem read_list {d : Nat} (hA : AllRok d) (w : World) (s : Bs) (i deep : Nat) (hs : s.length ≤ 1000000) (hi : i < s.length) (hd : deep + (d + 1) = 31) (hc : s[i] = 40) : Calls Tryz.prog 81 #[.string (str s), .int .i64 i, .int .i64 deep] w (RdVR s w (valueR (d + 1) (s.drop i))) := by
  have hsz := str_size s
  have hcut : s.drop i = 40 :: s.drop (i + 1) := by rw [List.drop_eq_getElem_cons hi, hc]
  rw [valueR_succ, hcut, body_40]
  have hd' : (deep : Int) ≤ 30 := by omega
  have hi' : (i : Int) < s.length := by omega
  have his : i < (str s).size := by omega
  have g : ((str s)[i]'his) = 40 := hc
  have C : Calls Tryz.prog 63 #[.string (str s), .int .i64 ((i : Int) + 1), .string (str [41]), .int .i64 ((deep : Int) + 1)] (w.alloc zO) _ := hA (w.alloc zO) s (i + 1) (deep + 1) [41] hs (by omega) (by omega) (by simp)
  have HV := hid (V5.zero w)
  have HZ := hid (below_zero w)
  have hs' : (s.length : Int) ≤ 1000000 := by omega
  have HS : Hid ((w.alloc zO).heap.size = w.heap.size + 1) := by simp [Hid]
  clear hcut hc
  rcases hk : allR (valueR d) [41] (s.drop (i + 1)) with _ | ⟨l, r⟩
  · rw [hk] at C
    clear hk
    go_enter Tryz.func81, Tryz.ntmps81
    go_wp2_with fail
    refine C.mono ?_
    rintro e w2 ⟨rfl, k1⟩
    have A4 := V5.later HV.out k1
    have K1 := hid k1
    clear k1 C
    go_wp2_with (refine wpList_store43 (r := ⟨4, [], 0, (none, 0, 0), (none, 0, 0)⟩) rfl rfl A4 ?_)
    have p1 := row5_is A4 ⟨4, [], 0, (none, 0, 0), (none, 0, 0)⟩
    refine bodyPost_ret (w := row5 w2 w.heap.size ⟨4, [], 0, (none, 0, 0), (none, 0, 0)⟩) (resV2 rfl rfl rfl p1) rfl ?_
    exact ⟨⟨4, [], 0, (none, 0, 0), (none, 0, 0)⟩, rfl, fin_below HZ.out K1.out HS.out⟩
  · rw [hk] at C
    clear hk
    go_enter Tryz.func81, Tryz.ntmps81
    go_wp2_with fail
    refine C.mono ?_
    rintro e w2 ⟨u, k, rfl, k1, k2, k3, k4⟩
    obtain ⟨a, c, rfl, _⟩ := k3.slice
    have A4 := V5.later HV.out k4
    have K1 := hid k1
    have K2 := hid k2
    have K3 := hid (VAt.list (u := (a, l.length, c)) k3)
    have K4 := hid k4
    clear k1 k2 k3 k4 C
    go_wp2_with (refine wpList_store43 (r := ⟨4, [], 0, (a, l.length, c), (none, 0, 0)⟩) rfl rfl A4 ?_)
    have p1 := row5_is A4 ⟨4, [], 0, (a, l.length, c), (none, 0, 0)⟩
    refine bodyPost_ret (w := row5 w2 w.heap.size ⟨4, [], 0, (a, l.length, c), (none, 0, 0)⟩) (resV2 rfl rfl rfl p1) rfl ?_
    exact ⟨⟨4, [], 0, (a, l.length, c), (none, 0, 0)⟩, k, rfl, K1.out, K2.out, fin_vat K3.out HS.out A4, fin_below HZ.out K4.out HS.out⟩
end Go.Proofs.YtpjcpdnolcehcaaGreatDoor
namespace Go.Proofs.YtpjcpdnolcehcaaGreatDoor
open Go.RowKit
set_option linter.unusedVariables false
set_option linter.unusedSimpArgs false

theorem quo_34 (r : Bs) : quotedP (34 :: r) = some ([], r) := by unfold quotedP; rfl
theorem quo_esc (d : UInt8) (r : Bs) : quotedP (92 :: d :: r) = (quotedP r).map fun p => (d :: p.1, p.2) := by
  conv => lhs; unfold quotedP
  rfl
theorem quo_esc_end : quotedP [92] = none := by unfold quotedP; rfl
theorem quo_c (c : UInt8) (r : Bs) (h1 : c ≠ 34) (h2 : c ≠ 92) : quotedP (c :: r) = (quotedP r).map fun p => (c :: p.1, p.2) := by
  conv => lhs; unfold quotedP
  rw [if_neg h1, if_neg h2]
def QS (s : Bs) (i n : Nat) (acc : Bs) : Prop := quotedP (s.drop (i + 1)) = (quotedP (s.drop n)).map fun p => (acc ++ p.1, p.2)
theorem QS.start (s : Bs) (i : Nat) : QS s i (i + 1) [] := by unfold QS; simp
theorem QS.step {s : Bs} {i n m : Nat} {acc : Bs} {c : UInt8} (h : QS s i n acc) (hq : quotedP (s.drop n) = (quotedP (s.drop m)).map fun p => (c :: p.1, p.2)) : QS s i m (acc ++ [c]) := by
  unfold QS at *
  rw [h, hq, Option.map_map]
  congr 1
  funext p
  simp
theorem cut_at {s : Bs} {n : Nat} (h : n < s.length) : s.drop n = s[n] :: s.drop (n + 1) := List.drop_eq_getElem_cons h
theorem one_str {s : Bs} {n : Nat} (h : n < s.length) : (str s).extract n (n + 1) = str [s[n]] := by
  rw [mid_str, show n + 1 - n = 1 by omega, cut_at h]
  rfl
set_option maxRecDepth 100000 in
set_option maxHeartbeats 2000000 in
theorem read_quoted {d : Nat} (w : World) (s : Bs) (i deep : Nat) (hs : s.length ≤ 1000000) (hi : i < s.length) (hd : deep + (d + 1) = 31) (hc : s[i] = 34) : Calls Tryz.prog 81 #[.string (str s), .int .i64 i, .int .i64 deep] w (RdVR s w (valueR (d + 1) (s.drop i))) := by
  have hsz := str_size s
  have hcut : s.drop i = 34 :: s.drop (i + 1) := by rw [List.drop_eq_getElem_cons hi, hc]
  rw [valueR_succ, hcut, body_34]
  have hd' : (deep : Int) ≤ 30 := by omega
  have hi' : (i : Int) < s.length := by omega
  have his : i < (str s).size := by omega
  have g : ((str s)[i]'his) = 34 := hc
  have hs' : (s.length : Int) ≤ 1000000 := by omega
  clear hcut hc
  obtain ⟨X, hX⟩ : ∃ X, quotedP (s.drop (i + 1)) = X := ⟨_, rfl⟩
  rw [hX]
  have HX := hid hX
  clear hX
  go_enter Tryz.func81, Tryz.ntmps81
  go_wp2_with fail
  go_loop [10, 11] (fun t k => ∃ (n : Nat) (acc : Bs), i + 1 ≤ n ∧ n ≤ s.length ∧ t = .string (str acc) ∧ k = .int .i64 n ∧ acc.length ≤ n ∧ QS s i n acc) (fun _ k => s.length - (intOf k).toNat)
  case atStart => exact ⟨i + 1, [], by omega, by omega, rfl, by go_num, by simp, QS.start s i⟩
  case round =>
    obtain ⟨n, acc, hin, hn, rfl, rfl, hacc, hq⟩ := hrel
    have hasz := str_size acc
    have HQ := hid hq
    clear hq g
    by_cases hlt : n < s.length
    · have hlt' : (n : Int) < s.length := by omega
      have hlts : n < (str s).size := by omega
      have g : ((str s)[n]'hlts) = s[n] := rfl
      obtain ⟨c, hc⟩ : ∃ c, s[n] = c := ⟨_, rfl⟩
      have HC : Hid (s.drop n = c :: s.drop (n + 1)) := by subst hc; exact cut_at hlt
      have HO : Hid ((str s).extract n (n + 1) = str [c]) := by subst hc; exact one_str hlt
      rw [hc] at g
      clear hc
      by_cases h34 : c = 34
      · subst h34
        have HR : Hid (X = some (acc, s.drop (n + 1))) := by
          have := HQ.out
          unfold QS at this
          rw [HX.out, HC.out, quo_34] at this
          rw [Hid, this]
          simp
        go_wp2_with fail
        refine bodyPost_ret (resV2 rfl rfl rfl (V5.new w ⟨3, acc, 0, (none, 0, 0), (none, 0, 0)⟩)) rfl ?_
        rw [HR.out]
        exact ⟨⟨3, acc, 0, (none, 0, 0), (none, 0, 0)⟩, n + 1, rfl, by omega, rfl, VAt.plain _ _ _ _ _, below_new w ⟨3, acc, 0, (none, 0, 0), (none, 0, 0)⟩⟩
      · have h34' : ¬ ((c.toNat : Int) = 34) := fun h => h34 (UInt8.toNat_inj.1 (by rw [show c.toNat = 34 by omega]; rfl))
        by_cases h92 : c = 92
        · subst h92
          by_cases hl2 : n + 1 < s.length
          · have hl2' : (n : Int) + 1 < s.length := by omega
            have HC2 := hid (cut_at hl2)
            have HO2 := hid (one_str hl2)
            have HN : Hid (QS s i (n + 2) (acc ++ [s[n + 1]])) := HQ.out.step (by rw [HC.out, HC2.out, quo_esc])
            go_wp2_with fail
            go_round
            case rel => exact ⟨n + 2, acc ++ [s[n + 1]], by omega, by omega, by rw [← app_str, ← HO2.out], by go_num, by simp; omega, HN.out⟩
            case measure => simp [intOf]; omega
          · have hl2' : ¬ (n : Int) + 1 < s.length := by omega
            have HN : Hid (QS s i (n + 1) (acc ++ [92])) := HQ.out.step (by rw [HC.out, show s.drop (n + 1) = [] from List.drop_eq_nil_of_le (by omega), quo_esc_end]; rfl)
            go_wp2_with fail
            go_round
            case rel => exact ⟨n + 1, acc ++ [92], by omega, by omega, by rw [← app_str, ← HO.out], by go_num, by simp; omega, HN.out⟩
            case measure => simp [intOf]; omega
        · have h92' : ¬ ((c.toNat : Int) = 92) := fun h => h92 (UInt8.toNat_inj.1 (by rw [show c.toNat = 92 by omega]; rfl))
          have HN : Hid (QS s i (n + 1) (acc ++ [c])) := HQ.out.step (by rw [HC.out, quo_c c _ h34 h92])
          go_wp2_with fail
          go_round
          case rel => exact ⟨n + 1, by omega, by omega, acc ++ [c], by rw [HO.out, app_str], rfl, by simp; omega, HN.out⟩
          case measure => simp [intOf]; omega
    · have hlt' : ¬ (n : Int) < s.length := by omega
      have HR : Hid (X = none) := by
        have := HQ.out
        unfold QS at this
        rw [HX.out, show s.drop n = [] from List.drop_eq_nil_of_le (by omega)] at this
        rw [Hid, this]
        rfl
      go_wp2_with fail
      refine bodyPost_ret (resV2 rfl rfl rfl (V5.new w zR)) rfl ?_
      rw [HR.out]
      exact ⟨zR, rfl, below_new w zR⟩
end Go.Proofs.YtpjcpdnolcehcaaGreatDoor
namespace Go.Proofs.YtpjcpdnolcehcaaGreatDoor
open Go.RowKit
set_option linter.unusedVariables false
set_option linter.unusedSimpArgs false

theorem numV_none {s : Bs} (h : numP s = none) : numV s = -1 := by unfold numV; rw [h]
theorem numV_some {s : Bs} {n : Int} (h : numP s = some n) : numV s = n := by unfold numV; rw [h]
theorem numP_dig (s : Bs) : ∀ n : Int, numP (s.takeWhile dgB) = some n → ∃ m : Nat, n = m ∧ (m : Int) ≤ mi := by
  intro n h
  have h1 := (numberP_ge (s := s) (r := s.dropWhile dgB) (n := n) (by unfold numberP; rw [h]; rfl)).1
  have h0 : s.takeWhile dgB ≠ [] := num_ne h
  have ha : (s.takeWhile dgB).all dgB = true := List.all_eq_true.2 (fun c hc => tw_all dgB s c hc)
  have h2 := numV_digits h0 ha
  rw [numV_some h] at h2
  split at h2
  · rename_i hm
    exact ⟨valN (s.takeWhile dgB), h2, hm⟩
  · omega
theorem dig_all (s : Bs) : (s.takeWhile dgB).all dgB = true := List.all_eq_true.2 (fun c hc => tw_all dgB s c hc)
set_option maxRecDepth 100000 in
set_option maxHeartbeats 2000000 in
theorem read_counted {d : Nat} (w : World) (s : Bs) (i deep : Nat) (hs : s.length ≤ 1000000) (hi : i < s.length) (hd : deep + (d + 1) = 31) (hc : s[i] = 123) : Calls Tryz.prog 81 #[.string (str s), .int .i64 i, .int .i64 deep] w (RdVR s w (valueR (d + 1) (s.drop i))) := by
  have hsz := str_size s
  have hcut : s.drop i = 123 :: s.drop (i + 1) := by rw [List.drop_eq_getElem_cons hi, hc]
  rw [valueR_succ, hcut, body_123]
  have hd' : (deep : Int) ≤ 30 := by omega
  have hi' : (i : Int) < s.length := by omega
  have his : i < (str s).size := by omega
  have g : ((str s)[i]'his) = 123 := hc
  have hs' : (s.length : Int) ≤ 1000000 := by omega
  clear hcut hc
  have C := digs_r s (i + 1) (w.alloc zO) hs (by omega)
  have hb := tw_bound dgB s (i + 1) (by omega)
  have hta := tw_at dgB s (i + 1)
  have hdl : ((s.drop (i + 1)).takeWhile dgB).length ≤ 1000000 := by omega
  have C2 := number_r ((s.drop (i + 1)).takeWhile dgB) (w.alloc zO) hdl (dig_all _)
  have HD := hid (numP_dig (s.drop (i + 1)))
  have HX : Hid (countedP (s.drop (i + 1)) = match numP ((s.drop (i + 1)).takeWhile dgB) with
    | none => none
    | some n => match needP [125, 13, 10] ((s.drop (i + 1)).dropWhile dgB) with
      | none => none
      | some r => if n ≤ r.length then some (r.take n.toNat, r.drop n.toNat) else none) := by
    unfold Hid countedP numberP
    rcases numP ((s.drop (i + 1)).takeWhile dgB) with _ | n
    · rfl
    · simp only [Option.map_some]
      rfl
  obtain ⟨D, hD⟩ : ∃ D, (s.drop (i + 1)).takeWhile dgB = D := ⟨_, rfl⟩
  rw [hD] at C C2 hb hta hdl HD HX
  rw [← hta.2] at HX
  have HM : (str s).extract (i + 1) (i + 1 + D.length) = str D := by rw [mid_str, show i + 1 + D.length - (i + 1) = D.length by omega, hta.1]
  rw [← HM] at C2
  clear hta hD HM
  obtain ⟨m, hm⟩ : ∃ m, D.length = m := ⟨_, rfl⟩
  rw [hm] at C C2 hb hdl HX
  clear hm
  obtain ⟨X, hX⟩ : ∃ X, countedP (s.drop (i + 1)) = X := ⟨_, rfl⟩
  rw [hX] at HX ⊢
  clear hX
  have hb' : (i : Int) + 1 + m ≤ s.length := by omega
  rcases hn : numP D with _ | n
  · have hx : Hid (X = none) := by rw [Hid, HX.out, hn]
    rw [numV_none hn] at C2
    clear HX hn
    rw [hx.out]
    go_enter Tryz.func81, Tryz.ntmps81
    go_wp2_with fail
    refine C.mono ?_
    rintro e w2 ⟨rfl, rfl⟩
    go_wp2_with fail
    refine C2.mono ?_
    rintro e w2 ⟨rfl, rfl⟩
    go_wp2_with fail
    exact bodyPost_ret (resV2 rfl rfl rfl (V5.new w zR)) rfl ⟨zR, rfl, below_new w zR⟩
  · obtain ⟨n, rfl, hmi⟩ := HD.out _ hn
    unfold mi at hmi
    rw [numV_some hn] at C2
    rw [hn] at HX
    clear hn HD
    have E := at_r s [125, 13, 10] (i + 1 + m) (w.alloc zO) hs (by decide) (by omega)
    rcases hp : needP [125, 13, 10] (s.drop (i + 1 + m)) with _ | r
    · have hx : Hid (X = none) := by rw [Hid, HX.out]; simp only [hp]
      rw [need_pre hp] at E
      clear HX hp
      rw [hx.out]
      go_enter Tryz.func81, Tryz.ntmps81
      go_wp2_with fail
      refine C.mono ?_
      rintro e w2 ⟨rfl, rfl⟩
      go_wp2_with fail
      refine C2.mono ?_
      rintro e w2 ⟨rfl, rfl⟩
      go_wp2_with fail
      refine E.mono ?_
      rintro e w2 ⟨rfl, rfl⟩
      go_wp2_with fail
      exact bodyPost_ret (resV2 rfl rfl rfl (V5.new w zR)) rfl ⟨zR, rfl, below_new w zR⟩
    · have hq := need_drop (by omega) hp
      simp only [List.length_cons, List.length_nil] at hq
      rw [hq.1] at E
      have hrl : r.length = s.length - (i + 4 + m) := by rw [← hq.2.2, List.length_drop]; omega
      have hr : r = s.drop (i + 4 + m) := by rw [← hq.2.2]; congr 1; omega
      have hb2 : (i : Int) + 4 + m ≤ s.length := by omega
      have HX2 : Hid (X = if (n : Int) ≤ r.length then some (r.take n, r.drop n) else none) := by rw [Hid, HX.out]; simp only [hp]; rfl
      clear HX hp hq
      by_cases hfit : (n : Int) ≤ s.length - (i + 4 + m)
      · have hfit2 : i + 4 + m + n ≤ s.length := by omega
        have hx : Hid (X = some ((s.drop (i + 4 + m)).take n, s.drop (i + 4 + m + n))) := by
          rw [Hid, HX2.out, if_pos (by omega), hr, List.drop_drop]
        have HM : Hid ((str s).extract (i + 4 + m) (i + 4 + m + n) = str ((s.drop (i + 4 + m)).take n)) := by
          rw [Hid, mid_str, show i + 4 + m + n - (i + 4 + m) = n by omega]
        clear HX2 hr hrl
        rw [hx.out]
        go_enter Tryz.func81, Tryz.ntmps81
        go_wp2_with fail
        refine C.mono ?_
        rintro e w2 ⟨rfl, rfl⟩
        go_wp2_with fail
        refine C2.mono ?_
        rintro e w2 ⟨rfl, rfl⟩
        go_wp2_with fail
        refine E.mono ?_
        rintro e w2 ⟨rfl, rfl⟩
        go_wp2_with fail
        rw [HM.out]
        refine bodyPost_ret (resV2 rfl rfl rfl (V5.new w ⟨3, (s.drop (i + 4 + m)).take n, 0, (none, 0, 0), (none, 0, 0)⟩)) rfl ?_
        exact ⟨⟨3, (s.drop (i + 4 + m)).take n, 0, (none, 0, 0), (none, 0, 0)⟩, i + 4 + m + n, rfl, by omega, rfl, VAt.plain _ _ _ _ _, below_new w ⟨3, (s.drop (i + 4 + m)).take n, 0, (none, 0, 0), (none, 0, 0)⟩⟩
      · have hx : Hid (X = none) := by rw [Hid, HX2.out, if_neg (by omega)]
        clear HX2 hr hrl
        rw [hx.out]
        go_enter Tryz.func81, Tryz.ntmps81
        go_wp2_with fail
        refine C.mono ?_
        rintro e w2 ⟨rfl, rfl⟩
        go_wp2_with fail
        refine C2.mono ?_
        rintro e w2 ⟨rfl, rfl⟩
        go_wp2_with fail
        refine E.mono ?_
        rintro e w2 ⟨rfl, rfl⟩
        go_wp2_with fail
        exact bodyPost_ret (resV2 rfl rfl rfl (V5.new w zR)) rfl ⟨zR, rfl, below_new w zR⟩
end Go.Proofs.YtpjcpdnolcehcaaGreatDoor
namespace Go.Proofs.YtpjcpdnolcehcaaGreatDoor
open Go.RowKit
set_option linter.unusedVariables false
set_option linter.unusedSimpArgs false

theorem word_none {kid : UInt8 → Bs → Option (List Vl × Bs)} {s : Bs} (h : s.takeWhile letB = []) : wordR kid s = none := by unfold wordR; rw [if_pos h]
theorem word_some {kid : UInt8 → Bs → Option (List Vl × Bs)} {s : Bs} (h : s.takeWhile letB ≠ []) : wordR kid s = match needP [91] (s.dropWhile letB) with
    | some r => sectP (s.takeWhile letB) (kid 93 r)
    | none => if (s.takeWhile letB).all dgB then (numP (s.takeWhile letB)).map fun n => (.mk 1 [] n [] [], s.dropWhile letB)
      else if s.takeWhile letB = nilT then some (.mk 0 [] 0 [] [], s.dropWhile letB) else some (.mk 2 (s.takeWhile letB) 0 [] [], s.dropWhile letB) := by
  unfold wordR wordP
  rw [if_neg h]
  rcases needP [91] (s.dropWhile letB) with _ | r
  · rfl
  · rfl
/-- What stands at the head of a value that is no list and no text. -/
structure HeadIs (s : Bs) (i : Nat) (c : UInt8) : Prop where
  h1 : c ≠ 34
  h2 : c ≠ 123
  h3 : c ≠ 40
theorem head_nums {c : UInt8} (h1 : c ≠ 34) (h2 : c ≠ 123) (h3 : c ≠ 40) : ¬ ((c.toNat : Int) = 34) ∧ ¬ ((c.toNat : Int) = 123) ∧ ¬ ((c.toNat : Int) = 40) := by
  refine ⟨fun h => h1 (UInt8.toNat_inj.1 ?_), fun h => h2 (UInt8.toNat_inj.1 ?_), fun h => h3 (UInt8.toNat_inj.1 ?_)⟩
  · rw [show c.toNat = 34 by omega]; rfl
  · rw [show c.toNat = 123 by omega]; rfl
  · rw [show c.toNat = 40 by omega]; rfl
set_option maxRecDepth 100000 in
set_option maxHeartbeats 2000000 in
theorem read_word {d : Nat} (w : World) (s : Bs) (i deep : Nat) (hs : s.length ≤ 1000000) (hi : i < s.length) (hd : deep + (d + 1) = 31) (h1 : s[i] ≠ 34) (h2 : s[i] ≠ 123) (h3 : s[i] ≠ 40)
    (hq : needP [91] ((s.drop i).dropWhile letB) = none ∨ (s.drop i).takeWhile letB = []) : Calls Tryz.prog 81 #[.string (str s), .int .i64 i, .int .i64 deep] w (RdVR s w (valueR (d + 1) (s.drop i))) := by
  have hsz := str_size s
  have hX : valueR (d + 1) (s.drop i) = wordR (fun e s => allR (valueR d) [e] s) (s.drop i) := by
    rw [valueR_succ]
    conv => lhs; rw [cut_at hi, body_wordR _ _ _ h1 h2 h3]
    rw [← cut_at hi]
  obtain ⟨X, hX'⟩ : ∃ X, valueR (d + 1) (s.drop i) = X := ⟨_, rfl⟩
  rw [hX'] at hX ⊢
  clear hX'
  have hd' : (deep : Int) ≤ 30 := by omega
  have hi' : (i : Int) < s.length := by omega
  have his : i < (str s).size := by omega
  have hs' : (s.length : Int) ≤ 1000000 := by omega
  have g : ((str s)[i]'his) = s[i] := rfl
  have C := run_r s i (w.alloc zO) hs (by omega)
  have hta := tw_at letB s i
  have hb := tw_bound letB s i (by omega)
  obtain ⟨c, hc⟩ : ∃ c, s[i] = c := ⟨_, rfl⟩
  have hn : ¬ ((c.toNat : Int) = 34) ∧ ¬ ((c.toNat : Int) = 123) ∧ ¬ ((c.toNat : Int) = 40) := by subst hc; exact head_nums h1 h2 h3
  rw [hc] at g
  obtain ⟨n1, n2, n3⟩ := hn
  clear h1 h2 h3 hc
  obtain ⟨x, hx⟩ : ∃ x, (s.drop i).takeWhile letB = x := ⟨_, rfl⟩
  have hW := @word_some (fun e s => allR (valueR d) [e] s) (s.drop i)
  have hW0 := @word_none (fun e s => allR (valueR d) [e] s) (s.drop i)
  rw [hx] at C hta hb hq hW hW0
  rw [← hta.2] at hq hW
  have HM : Hid ((str s).extract i (i + x.length) = str x) := by rw [Hid, mid_str, show i + x.length - i = x.length by omega, hta.1]
  clear hta hx
  obtain ⟨m, hm⟩ : ∃ m, x.length = m := ⟨_, rfl⟩
  rw [hm] at C hb HM hq hW
  have hb' : (i : Int) + m ≤ s.length := by omega
  by_cases hx0 : x = []
  · subst hx0
    obtain rfl : m = 0 := by simpa using hm.symm
    have HR : Hid (X = none) := by rw [Hid, hX, hW0 rfl]
    have g1 : ((str s).extract i (i + 0)).toList = ([] : Bs) := by rw [HM.out, toL]
    have g2 : ((str s).extract i (i + 0)).toList.isEmpty = true := by rw [HM.out, toL]; rfl
    clear hX hW hW0 hq hm
    go_enter Tryz.func81, Tryz.ntmps81
    go_wp2_with fail
    refine C.mono ?_
    rintro e w2 ⟨rfl, rfl⟩
    go_wp2_with fail
    refine bodyPost_ret (resV2 rfl rfl rfl (V5.new w zR)) rfl ?_
    rw [HR.out]
    exact ⟨zR, rfl, below_new w zR⟩
  · have hq' : needP [91] (s.drop (i + m)) = none := hq.resolve_right hx0
    have hW' := hW hx0
    rw [hq'] at hW'
    simp only at hW'
    rw [hW'] at hX
    have E := at_r s [91] (i + m) (w.alloc zO) hs (by decide) (by omega)
    rw [need_pre hq'] at E
    have g3 : ¬ ((str s).extract i (i + m)).toList = ([] : Bs) := by rw [HM.out, toL]; exact hx0
    have g4 : ((str s).extract i (i + m)).toList.isEmpty = false := by rw [HM.out, toL]; simpa using hx0
    have hxl : x.length ≤ 1000000 := by omega
    have HX := hid hX
    have HB := hid hb
    clear hq hq' hW hW' hW0 hX hx0 hm
    by_cases hnil : x = nilT
    · have g5 : ((str s).extract i (i + m)).toList = ([78, 73, 76] : Bs) := by rw [HM.out, toL, hnil]; rfl
      have HR : Hid (X = some (.mk 0 [] 0 [] [], s.drop (i + m))) := by
        rw [Hid, HX.out, hnil, if_neg (by decide), if_pos rfl]
      clear HX hnil
      go_enter Tryz.func81, Tryz.ntmps81
      go_wp2_with fail
      refine C.mono ?_
      rintro e w2 ⟨rfl, rfl⟩
      go_wp2_with fail
      refine E.mono ?_
      rintro e w2 ⟨rfl, rfl⟩
      go_wp2_with fail
      refine bodyPost_ret (resV2 rfl rfl rfl (V5.new w zR)) rfl ?_
      rw [HR.out]
      exact ⟨zR, i + m, rfl, HB.out, rfl, VAt.plain _ _ _ _ _, below_new w zR⟩
    · have g5 : (((str s).extract i (i + m)).toList == ([78, 73, 76] : Bs)) = false := by rw [HM.out, toL, beq_eq_false_iff_ne]; exact hnil
      have C3 := digits_r x (w.alloc zO) (by omega)
      rw [← HM.out] at C3
      by_cases ha : x.all dgB = true
      · rw [ha] at C3
        have C4 := number_r x (w.alloc zO) (by omega) ha
        rw [← HM.out] at C4
        rcases hn : numP x with _ | n
        · have HR : Hid (X = none) := by rw [Hid, HX.out, if_pos ha, hn]; rfl
          rw [numV_none hn] at C4
          clear HX hnil ha hn
          go_enter Tryz.func81, Tryz.ntmps81
          go_wp2_with fail
          refine C.mono ?_
          rintro e w2 ⟨rfl, rfl⟩
          go_wp2_with fail
          refine E.mono ?_
          rintro e w2 ⟨rfl, rfl⟩
          go_wp2_with fail
          refine C3.mono ?_
          rintro e w2 ⟨rfl, rfl⟩
          go_wp2_with fail
          refine C4.mono ?_
          rintro e w2 ⟨rfl, rfl⟩
          go_wp2_with fail
          refine bodyPost_ret (resV2 rfl rfl rfl (V5.new w zR)) rfl ?_
          rw [HR.out]
          exact ⟨zR, rfl, below_new w zR⟩
        · have HR : Hid (X = some (.mk 1 [] n [] [], s.drop (i + m))) := by rw [Hid, HX.out, if_pos ha, hn]; rfl
          have hge : (0 : Int) ≤ n := by
            have h0 : x ≠ [] := num_ne hn
            have := numV_digits h0 ha
            rw [numV_some hn] at this
            unfold numP at hn
            split at this
            · omega
            · exfalso
              rename_i hbig
              rw [(atoi_digits h0 ha).1, if_neg hbig] at hn
              cases hn
          have hge' : ¬ n < 0 := by omega
          rw [numV_some hn] at C4
          clear HX hnil ha hn
          go_enter Tryz.func81, Tryz.ntmps81
          go_wp2_with fail
          refine C.mono ?_
          rintro e w2 ⟨rfl, rfl⟩
          go_wp2_with fail
          refine E.mono ?_
          rintro e w2 ⟨rfl, rfl⟩
          go_wp2_with fail
          refine C3.mono ?_
          rintro e w2 ⟨rfl, rfl⟩
          go_wp2_with fail
          refine C4.mono ?_
          rintro e w2 ⟨rfl, rfl⟩
          go_wp2_with fail
          refine bodyPost_ret (resV2 rfl rfl rfl (V5.new w ⟨1, [], n, (none, 0, 0), (none, 0, 0)⟩)) rfl ?_
          rw [HR.out]
          exact ⟨⟨1, [], n, (none, 0, 0), (none, 0, 0)⟩, i + m, rfl, HB.out, rfl, VAt.plain _ _ _ _ _, below_new w ⟨1, [], n, (none, 0, 0), (none, 0, 0)⟩⟩
      · have ha' : x.all dgB = false := by simpa using ha
        rw [ha'] at C3
        have HR : Hid (X = some (.mk 2 x 0 [] [], s.drop (i + m))) := by rw [Hid, HX.out, if_neg ha, if_neg hnil]
        clear HX hnil ha ha'
        go_enter Tryz.func81, Tryz.ntmps81
        go_wp2_with fail
        refine C.mono ?_
        rintro e w2 ⟨rfl, rfl⟩
        go_wp2_with fail
        refine E.mono ?_
        rintro e w2 ⟨rfl, rfl⟩
        go_wp2_with fail
        refine C3.mono ?_
        rintro e w2 ⟨rfl, rfl⟩
        go_wp2_with fail
        rw [HM.out]
        refine bodyPost_ret (resV2 rfl rfl rfl (V5.new w ⟨2, x, 0, (none, 0, 0), (none, 0, 0)⟩)) rfl ?_
        rw [HR.out]
        exact ⟨⟨2, x, 0, (none, 0, 0), (none, 0, 0)⟩, i + m, rfl, HB.out, rfl, VAt.plain _ _ _ _ _, below_new w ⟨2, x, 0, (none, 0, 0), (none, 0, 0)⟩⟩
end Go.Proofs.YtpjcpdnolcehcaaGreatDoor
namespace Go.Proofs.YtpjcpdnolcehcaaGreatDoor
open Go.RowKit
set_option linter.unusedVariables false
set_option linter.unusedSimpArgs false

theorem sect_none (x : Bs) : sectP x none = none := rfl
theorem sect_plain {x : Bs} {l : List Vl} {r : Bs} (h : needP [60] r = none) : sectP x (some (l, r)) = some (.mk 5 x 0 l [], r) := by unfold sectP; simp only [h]
theorem sect_more {x : Bs} {l : List Vl} {r q : Bs} (h : needP [60] r = some q) : sectP x (some (l, r)) = match numP (q.takeWhile dgB) with
    | none => none
    | some n => (needP [62] (q.dropWhile dgB)).map fun r => (.mk 5 x 0 l [n], r) := by
  unfold sectP
  simp only [h]
  unfold numberP
  rcases numP (q.takeWhile dgB) with _ | n
  · rfl
  · rfl
theorem fin_vat2 {w w2 : World} {r q : Rw} {v : Vl} (h : VAt w2 (w.heap.size + 1 ≤ ·) r v) : VAt (row5 w2 w.heap.size q) (w.heap.size ≤ ·) r v :=
  (h.kept (row5_self w2 w.heap.size q) (by simp)).mono (fun q _ hq => by omega)
theorem fin_sect {w w2 : World} {x : Bs} {u : Sl} {l : List Vl} {N : Nat} {q : Rw} (h : VsAt w2 (fun q => w.heap.size + 1 ≤ q ∧ q ≠ N) (Sl.v u) l) : VAt (row5 w2 w.heap.size q) (w.heap.size ≤ ·) ⟨5, x, 0, u, (none, 0, 0)⟩ (.mk 5 x 0 l []) :=
  fin_vat2 (VAt.sect (h.mono (fun q _ hq => hq.1)))
set_option maxRecDepth 100000 in
set_option maxHeartbeats 4000000 in
theorem read_sect {d : Nat} (hA : AllRok d) (w : World) (s : Bs) (i deep : Nat) (hs : s.length ≤ 1000000) (hi : i < s.length) (hd : deep + (d + 1) = 31) (h1 : s[i] ≠ 34) (h2 : s[i] ≠ 123) (h3 : s[i] ≠ 40)
    {r : Bs} (hq : needP [91] ((s.drop i).dropWhile letB) = some r) (h0 : (s.drop i).takeWhile letB ≠ []) : Calls Tryz.prog 81 #[.string (str s), .int .i64 i, .int .i64 deep] w (RdVR s w (valueR (d + 1) (s.drop i))) := by
  have hsz := str_size s
  have hX : valueR (d + 1) (s.drop i) = wordR (fun e s => allR (valueR d) [e] s) (s.drop i) := by
    rw [valueR_succ]
    conv => lhs; rw [cut_at hi, body_wordR _ _ _ h1 h2 h3]
    rw [← cut_at hi]
  rw [word_some h0, hq] at hX
  simp only at hX
  obtain ⟨X, hX'⟩ : ∃ X, valueR (d + 1) (s.drop i) = X := ⟨_, rfl⟩
  rw [hX'] at hX ⊢
  clear hX'
  have hd' : (deep : Int) ≤ 30 := by omega
  have hi' : (i : Int) < s.length := by omega
  have his : i < (str s).size := by omega
  have hs' : (s.length : Int) ≤ 1000000 := by omega
  have g : ((str s)[i]'his) = s[i] := rfl
  have C := run_r s i (w.alloc zO) hs (by omega)
  have hta := tw_at letB s i
  have hb := tw_bound letB s i (by omega)
  obtain ⟨c, hc⟩ : ∃ c, s[i] = c := ⟨_, rfl⟩
  have hn : ¬ ((c.toNat : Int) = 34) ∧ ¬ ((c.toNat : Int) = 123) ∧ ¬ ((c.toNat : Int) = 40) := by subst hc; exact head_nums h1 h2 h3
  rw [hc] at g
  obtain ⟨n1, n2, n3⟩ := hn
  clear h1 h2 h3 hc
  obtain ⟨x, hx⟩ : ∃ x, (s.drop i).takeWhile letB = x := ⟨_, rfl⟩
  rw [hx] at C hta hb hX h0
  rw [← hta.2] at hq
  have HM : Hid ((str s).extract i (i + x.length) = str x) := by rw [Hid, mid_str, show i + x.length - i = x.length by omega, hta.1]
  clear hta hx
  obtain ⟨m, hm⟩ : ∃ m, x.length = m := ⟨_, rfl⟩
  rw [hm] at C hb HM hq
  have g3 : ¬ ((str s).extract i (i + m)).toList = ([] : Bs) := by rw [HM.out, toL]; exact h0
  have g4 : ((str s).extract i (i + m)).toList.isEmpty = false := by rw [HM.out, toL]; simpa using h0
  have hr := need_drop hb hq
  simp only [List.length_cons, List.length_nil] at hr
  have E := at_r s [91] (i + m) (w.alloc zO) hs (by decide) (by omega)
  rw [hr.1] at E
  have A := hA (w.alloc zO) s (i + m + 1) (deep + 1) [93] hs (by omega) (by omega) (by simp)
  have HV := hid (V5.zero w)
  have HZ := hid (below_zero w)
  have HS : Hid ((w.alloc zO).heap.size = w.heap.size + 1) := by simp [Hid]
  have hrr : s.drop (i + m + 1) = r := by rw [← hr.2.2]
  rw [hrr] at A
  have A : Calls Tryz.prog 63 #[.string (str s), .int .i64 ((i : Int) + m + 1), .string (str [93]), .int .i64 ((deep : Int) + 1)] (w.alloc zO) _ := A
  have hb' : (i : Int) + m + 1 ≤ s.length := by omega
  have HX := hid hX
  clear hX hq hr hrr h0 hm hb
  rcases hk : allR (valueR d) [93] r with _ | ⟨l, r2⟩
  · rw [hk] at A HX
    have HR : Hid (X = none) := HX.out
    clear hk HX
    go_enter Tryz.func81, Tryz.ntmps81
    go_wp2_with fail
    refine C.mono ?_
    rintro e w2 ⟨rfl, rfl⟩
    go_wp2_with fail
    refine E.mono ?_
    rintro e w2 ⟨rfl, rfl⟩
    go_wp2_with fail
    refine A.mono ?_
    rintro e w2 ⟨rfl, k1⟩
    have K1 := hid k1
    clear k1 A C E
    go_wp2_with fail
    rw [HM.out]
    obtain ⟨W3, hW3⟩ : ∃ W3, W3 = w2.alloc (.cells #[.int .i64 5, .string (str x), .int .i64 0, nilV, nilV] 43) := ⟨_, rfl⟩
    rw [← hW3]
    have HB2 : Below w2.heap.size w2 W3 := by rw [hW3]; exact below_new w2 ⟨5, x, 0, (none, 0, 0), (none, 0, 0)⟩
    have Hv : V5 W3 w2.heap.size ⟨5, x, 0, (none, 0, 0), (none, 0, 0)⟩ := by rw [hW3]; exact V5.new w2 ⟨5, x, 0, (none, 0, 0), (none, 0, 0)⟩
    have A4 := hid ((V5.later HV.out K1.out).later HB2)
    have K4 := hid (K1.out.trans (HB2.mono K1.out.size))
    obtain ⟨x0, x1, x2, x3, x4⟩ := Hv.cs
    simp only [Sl.v] at x3 x4
    clear hW3 HB2 Hv
    refine (at_none s [60] _).mono ?_
    rintro e w3 ⟨rfl, rfl⟩
    go_wp2_with (refine wpList_store43 (r := ⟨5, x, 0, (none, 0, 0), (none, 0, 0)⟩) rfl rfl A4.out ?_)
    have p1 := row5_is A4.out ⟨5, x, 0, (none, 0, 0), (none, 0, 0)⟩
    refine bodyPost_ret (w := row5 w3 w.heap.size ⟨5, x, 0, (none, 0, 0), (none, 0, 0)⟩) (resV2 rfl rfl rfl p1) rfl ?_
    rw [HR.out]
    exact ⟨⟨5, x, 0, (none, 0, 0), (none, 0, 0)⟩, rfl, fin_below HZ.out K4.out HS.out⟩
  · rw [hk] at A HX
    clear hk
    have hs5 : Hid (∀ k2 : Nat, k2 ≤ s.length → s.drop k2 = r2 → ∀ w2 : World, Calls Tryz.prog 61 #[.string (str s), .int .i64 k2, .string (str [60])] w2 (Is (([60] : Bs).isPrefixOf r2) w2)) := by
      intro k2 h1 h2 w2
      have := at_r s [60] k2 w2 hs (by decide) h1
      rw [h2] at this
      exact this
    go_enter Tryz.func81, Tryz.ntmps81
    go_wp2_with fail
    refine C.mono ?_
    rintro e w2 ⟨rfl, rfl⟩
    go_wp2_with fail
    refine E.mono ?_
    rintro e w2 ⟨rfl, rfl⟩
    go_wp2_with fail
    refine A.mono ?_
    rintro e w2 ⟨u, k, rfl, k1, k2, k3, k4⟩
    obtain ⟨a, cp, rfl, _⟩ := k3.slice
    have K3 := hid k3
    have K4 := hid k4
    have hk' : (k : Int) ≤ s.length := by omega
    have F := hs5.out k k1 k2
    clear k3 k4 A C E hs5
    go_wp2_with fail
    rw [HM.out]
    obtain ⟨W3, hW3⟩ : ∃ W3, W3 = w2.alloc (.cells #[.int .i64 5, .string (str x), .int .i64 0, .slice a l.length cp, nilV] 43) := ⟨_, rfl⟩
    rw [← hW3]
    have HB2 := hid (show Below w2.heap.size w2 W3 by rw [hW3]; exact below_new w2 ⟨5, x, 0, (a, l.length, cp), (none, 0, 0)⟩)
    have Hv := hid (show V5 W3 w2.heap.size ⟨5, x, 0, (a, l.length, cp), (none, 0, 0)⟩ by rw [hW3]; exact V5.new w2 ⟨5, x, 0, (a, l.length, cp), (none, 0, 0)⟩)
    have A4 := hid ((V5.later HV.out K4.out).later HB2.out)
    have K5 := hid (K4.out.trans (HB2.out.mono K4.out.size))
    clear hW3
    have KS := hid ((K3.out.mono (N' := fun q => w.heap.size + 1 ≤ q ∧ q ≠ w2.heap.size) (fun q hq hN => ⟨by have := HS.out; omega, by omega⟩)).later HB2.out)
    have hne : w2.heap.size ≠ w.heap.size := by have := K4.out.size; have := HS.out; omega
    rcases h60 : needP [60] r2 with _ | q
    · have F := F W3
      rw [need_pre h60] at F
      have HR : Hid (X = some (.mk 5 x 0 l [], r2)) := by rw [Hid, HX.out, sect_plain h60]
      have K2 := hid k2
      obtain ⟨x0, x1, x2, x3, x4⟩ := Hv.out.cs
      simp only [Sl.v] at x3 x4
      clear HX h60 k2
      refine F.mono ?_
      rintro e w3 ⟨rfl, rfl⟩
      go_wp2_with (refine wpList_store43 (r := ⟨5, x, 0, (a, l.length, cp), (none, 0, 0)⟩) rfl rfl A4.out ?_)
      have p1 := row5_is A4.out ⟨5, x, 0, (a, l.length, cp), (none, 0, 0)⟩
      refine bodyPost_ret (w := row5 w3 w.heap.size ⟨5, x, 0, (a, l.length, cp), (none, 0, 0)⟩) (resV2 rfl rfl rfl p1) rfl ?_
      rw [HR.out]
      refine ⟨⟨5, x, 0, (a, l.length, cp), (none, 0, 0)⟩, k, rfl, k1, K2.out, ?_, fin_below HZ.out K5.out HS.out⟩
      exact fin_sect KS.out
    · have hX2 := HX.out
      rw [sect_more h60] at hX2
      have hp := needP_some h60
      have F := F W3
      rw [hp.1] at F
      rw [← k2] at h60
      have hr2 := need_drop k1 h60
      simp only [List.length_cons, List.length_nil] at hr2
      have hq' : s.drop (k + 1) = q := by rw [← hr2.2.2]
      have hk1 : (k : Int) + 1 ≤ s.length := by omega
      have C5 := digs_r s (k + 1) W3 hs (by omega)
      have hta := tw_at dgB s (k + 1)
      have hb5 := tw_bound dgB s (k + 1) (by omega)
      rw [hq'] at C5 hta hb5
      have hdl : (q.takeWhile dgB).length ≤ 1000000 := by omega
      have C6 := number_r (q.takeWhile dgB) W3 hdl (dig_all _)
      have HD := hid (numP_dig q)
      obtain ⟨D, hD⟩ : ∃ D, q.takeWhile dgB = D := ⟨_, rfl⟩
      rw [hD] at C5 C6 hta hb5 HD hX2 hdl
      rw [← hta.2] at hX2
      have HM5 : (str s).extract (k + 1) (k + 1 + D.length) = str D := by rw [mid_str, show k + 1 + D.length - (k + 1) = D.length by omega, hq', hta.1]
      rw [← HM5] at C6
      obtain ⟨m5, hm5⟩ : ∃ m5, D.length = m5 := ⟨_, rfl⟩
      rw [hm5] at C5 C6 hb5 hX2
      have hb6 : (k : Int) + 1 + m5 ≤ s.length := by omega
      have HX2 := hid hX2
      clear hX2 HX hta hD HM5 hm5 hq' hr2 h60 hp k2 hdl
      rcases hn : numP D with _ | n
      · have HR : Hid (X = none) := by rw [Hid, HX2.out, hn]
        rw [numV_none hn] at C6
        clear HX2 hn
        refine F.mono ?_
        rintro e w3 ⟨rfl, rfl⟩
        go_wp2_with fail
        refine C5.mono ?_
        rintro e w3 ⟨rfl, rfl⟩
        go_wp2_with fail
        refine C6.mono ?_
        rintro e w3 ⟨rfl, rfl⟩
        go_wp2_with (refine wpList_store43 (r := zR) rfl rfl A4.out ?_)
        have p1 := row5_is A4.out zR
        refine bodyPost_ret (w := row5 _ w.heap.size zR) (resV2 rfl rfl rfl p1) rfl ?_
        rw [HR.out]
        exact ⟨zR, rfl, fin_below HZ.out K5.out HS.out⟩
      · obtain ⟨n, rfl, hmi⟩ := HD.out _ hn
        unfold mi at hmi
        rw [numV_some hn] at C6
        have hX3 := HX2.out
        rw [hn] at hX3
        simp only at hX3
        have E6 := at_r s [62] (k + 1 + m5) W3 hs (by decide) (by omega)
        clear HX2 hn HD
        rcases hp : needP [62] (s.drop (k + 1 + m5)) with _ | r6
        · rw [need_pre hp] at E6
          have HR : Hid (X = none) := by rw [Hid, hX3, hp]; rfl
          clear hX3 hp
          refine F.mono ?_
          rintro e w3 ⟨rfl, rfl⟩
          go_wp2_with fail
          refine C5.mono ?_
          rintro e w3 ⟨rfl, rfl⟩
          go_wp2_with fail
          refine C6.mono ?_
          rintro e w3 ⟨rfl, rfl⟩
          go_wp2_with fail
          refine E6.mono ?_
          rintro e w3 ⟨rfl, rfl⟩
          go_wp2_with (refine wpList_store43 (r := zR) rfl rfl A4.out ?_)
          have p1 := row5_is A4.out zR
          refine bodyPost_ret (w := row5 _ w.heap.size zR) (resV2 rfl rfl rfl p1) rfl ?_
          rw [HR.out]
          exact ⟨zR, rfl, fin_below HZ.out K5.out HS.out⟩
        · have hr6 := need_drop hb5 hp
          simp only [List.length_cons, List.length_nil] at hr6
          rw [hr6.1] at E6
          have HR : Hid (X = some (.mk 5 x 0 l [(n : Int)], s.drop (k + 2 + m5))) := by
            rw [Hid, hX3, hp, show k + 2 + m5 = k + 1 + m5 + 1 by omega, hr6.2.2]
            rfl
          have HB6 : Hid (k + 2 + m5 ≤ s.length) := by have := hr6.2.1; unfold Hid; omega
          clear hX3 hp hr6
          refine F.mono ?_
          rintro e w3 ⟨rfl, rfl⟩
          go_wp2_with fail
          refine C5.mono ?_
          rintro e w3 ⟨rfl, rfl⟩
          go_wp2_with fail
          refine C6.mono ?_
          rintro e w3 ⟨rfl, rfl⟩
          have HA : Hid (Below w3.heap.size w3 (w3.alloc (.cells #[.int .i64 (n : Int)] 3))) := (Below.refl _ _).alloc (Nat.le_refl _) _
          have Q3 := Hv.out.later HA.out
          have f4 := Q3.fz 4
          have c4 := Q3.cs.2.2.2.2
          simp only [Sl.v] at c4
          have q1 := Q3.setF (some ⟨w3.heap.size, 0, none⟩, 1, 1)
          simp only [Sl.v] at q1
          obtain ⟨x0, x1, x2, x3, x4⟩ := q1.cs
          simp only [Sl.v] at x3 x4
          have s1 : Below (w.alloc zO).heap.size (w3.alloc (.cells #[.int .i64 (n : Int)] 3)) ((w3.alloc (.cells #[.int .i64 (n : Int)] 3)).setCell ⟨w2.heap.size, 4, none⟩ (.slice (some ⟨w3.heap.size, 0, none⟩) 1 1)) := (Below.refl _ _).setCell (p := ⟨w2.heap.size, 4, none⟩) K4.out.size _
          have K6 := hid ((K5.out.trans (HA.out.mono K5.out.size)).trans s1)
          have A6 := hid ((A4.out.later HA.out).kept (Kept.setCell [w2.heap.size] _ ⟨w2.heap.size, 4, none⟩ (.slice (some ⟨w3.heap.size, 0, none⟩) 1 1) (by simp)) (by simp; omega))
          have KF : Hid (VAt ((w3.alloc (.cells #[.int .i64 (n : Int)] 3)).setCell ⟨w2.heap.size, 4, none⟩ (.slice (some ⟨w3.heap.size, 0, none⟩) 1 1)) (w.heap.size + 1 ≤ ·) ⟨5, x, 0, (a, l.length, cp), (some ⟨w3.heap.size, 0, none⟩, 1, 1)⟩ (.mk 5 x 0 l [(n : Int)])) := by
            have hh := HB2.out.size
            have h5 := K5.out.size
            have hS := HS.out
            have hv := Hv.out.lt
            refine VAt.frm ?_ ?_ (by omega)
            · exact ((KS.out.later HA.out).kept (Kept.setCell [w2.heap.size] _ ⟨w2.heap.size, 4, none⟩ _ (by simp)) (by intro i hi; simp at hi; omega)).mono (fun q _ hN => hN.1)
            · rw [Below.heap_setCell _ _ _ _ (by simp; omega), heap_alloc_new]
          clear Q3 q1 s1
          go_wp2_with fail
          refine E6.mono ?_
          rintro e w4 ⟨rfl, rfl⟩
          go_wp2_with (refine wpList_store43 (r := ⟨5, x, 0, (a, l.length, cp), (some ⟨w4.heap.size, 0, none⟩, 1, 1)⟩) rfl rfl A6.out ?_)
          have p1 := row5_is A6.out ⟨5, x, 0, (a, l.length, cp), (some ⟨w4.heap.size, 0, none⟩, 1, 1)⟩
          refine bodyPost_ret (w := row5 _ w.heap.size ⟨5, x, 0, (a, l.length, cp), (some ⟨w4.heap.size, 0, none⟩, 1, 1)⟩) (resV2 rfl rfl rfl p1) rfl ?_
          rw [HR.out]
          exact ⟨_, k + 2 + m5, rfl, HB6.out, rfl, fin_vat2 KF.out, fin_below HZ.out K6.out HS.out⟩
end Go.Proofs.YtpjcpdnolcehcaaGreatDoor
namespace Go.Proofs.YtpjcpdnolcehcaaGreatDoor
open Go.RowKit
set_option linter.unusedVariables false
set_option linter.unusedSimpArgs false

/-- Where the reading of values stands. -/
structure RSt (w0 w : World) (s e : Bs) (d i0 f : Nat) (v : Value) (rows : List (Rw × Vl)) (i : Nat) : Prop where
  q : allR (valueR d) e (s.drop i0) = goR (valueR d) e (f + 1) (rows.map (·.2)) (s.drop i)
  hi : i ≤ s.length
  g : VO w w0.heap.size v rows
  k : Below w0.heap.size w0 w
  l : s.length - i ≤ f
  m : rows.length ≤ i
set_option maxRecDepth 100000 in
set_option maxHeartbeats 4000000 in
theorem all_of_value {d : Nat} (hV : ValRok d) : AllRok d := by
  intro w s i0 deep e hs hi hd he
  have hsz := str_size s
  have hez := str_size e
  have hs' : (s.length : Int) ≤ 1000000 := by omega
  have hi' : (i0 : Int) ≤ s.length := by omega
  have A0 := at_r s e i0 w hs (by omega) hi
  obtain ⟨X, hX⟩ : ∃ X, allR (valueR d) e (s.drop i0) = X := ⟨_, rfl⟩
  rw [hX]
  rcases hn : needP e (s.drop i0) with _ | r
  · rw [need_pre hn] at A0
    have H0 : Hid (RSt w w s e d i0 (s.length - i0) nilV [] i0) := ⟨by rw [goR_start _ _ _ hn, List.length_drop]; rfl, hi, VO.nil _ _, Below.refl _ _, Nat.le_refl _, by simp⟩
    have HX := hid hX
    have HSi := hid hs
    have HDe := hid hd
    clear hn hX
    go_enter Tryz.func63, Tryz.ntmps63
    go_wp2_with fail
    refine A0.mono ?_
    rintro x w ⟨rfl, rfl⟩
    go_wp2_with fail
    go_loopg [1, 10] (s.length - i0) (fun g iv v wr => ∃ (i : Nat) (rows : List (Rw × Vl)), iv = .int .i64 i ∧ RSt w wr s e d i0 g v rows i)
    case atStart => exact ⟨_, _, rfl, H0.out⟩
    case round =>
      obtain ⟨i, rows, rfl, hst⟩ := hrel
      have HS := hid hst
      obtain ⟨a, c, rfl⟩ := hst.g.slice
      have hir : (i : Int) ≤ s.length := by have := hst.hi; omega
      have C := hV wr s i deep HSi.out hst.hi HDe.out
      clear hst
      rcases hv : valueR d (s.drop i) with _ | ⟨v, r⟩
      · rw [hv] at C
        have HR : Hid (X = none) := by rw [Hid, ← HX.out, HS.out.q, goR_none hv]
        clear hv
        go_wp2_with fail
        refine C.mono ?_
        rintro x w3 ⟨⟨rk, rx, rn, ⟨ra, rb, rc⟩, ⟨rd, re, rf⟩⟩, rfl, k1⟩
        rw [vV_mk]
        have K1 := hid ((HS.out.k.trans (k1.mono HS.out.k.size)).trans ((below_new w3 ⟨rk, rx, rn, (ra, rb, rc), (rd, re, rf)⟩).mono (Nat.le_trans HS.out.k.size k1.size)))
        clear k1
        go_wp2_with fail
        go_ret2
        rw [HR.out]
        exact ⟨rfl, K1.out⟩
      · rw [hv] at C
        have HV := hid hv
        clear hv
        go_wp2_with fail
        refine C.mono ?_
        rintro x w3 ⟨⟨rk, rx, rn, ⟨ra, rb, rc⟩, ⟨rd, re, rf⟩⟩, k, rfl, k1, k2, k3, k4⟩
        rw [vV_mk]
        have hk' : (k : Int) ≤ s.length := by omega
        have hb1 : Below w3.heap.size w3 (w3.alloc (.cells #[.int .i64 rk, .string (str rx), .int .i64 rn, .slice ra rb rc, .slice rd re rf] 43)) := below_new w3 ⟨rk, rx, rn, (ra, rb, rc), (rd, re, rf)⟩
        have K3 := (HS.out.k.trans (k4.mono HS.out.k.size)).trans (hb1.mono (Nat.le_trans HS.out.k.size k4.size))
        have G3 := (HS.out.g.kept (Kept.ofBelow k4 []) (by simp)).kept (Kept.ofBelow hb1 []) (by simp)
        have hx := VAt.later (w' := (w3.alloc (.cells #[.int .i64 rk, .string (str rx), .int .i64 rn, .slice ra rb rc, .slice rd re rf] 43))) (k3.mono (N' := fun q => w.heap.size ≤ q ∧ Value.ownBlock (.slice a rows.length c) ≠ some q) (fun q hq hN => ⟨Nat.le_trans HS.out.k.size hN, fun e => by
          have := (World.ownsRow.lt HS.out.g.o q e).2
          omega⟩)) hb1
        have hm := HS.out.m
        have hih := HS.out.hi
        obtain ⟨v', W, hrun, hvo, hbl, _⟩ := G3.more K3.size ⟨rk, rx, rn, (ra, rb, rc), (rd, re, rf)⟩ v hx (by have := HSi.out; omega) (w3.heap.size + 1) (by simp)
        have hrun' : (Builtin.append_ #[26, 26] 26 #[.slice a rows.length c, .slice (some ⟨w3.heap.size + 1, 0, none⟩) 1 1]).run Tryz.prog ((w3.alloc (.cells #[.int .i64 rk, .string (str rx), .int .i64 rn, .slice ra rb rc, .slice rd re rf] 43)).alloc (.cells #[.int .i64 rk, .string (str rx), .int .i64 rn, .slice ra rb rc, .slice rd re rf] 43)) = .ok v' W := hrun
        have KW := hid (K3.trans hbl)
        have HVO := hid hvo
        have C2 := at_r s e k W HSi.out (by omega) k1
        have C3 := at_r s [32] k W HSi.out (by simp) k1
        rw [k2] at C2 C3
        have HK2 := hid k2
        have HK1 := hid k1
        have hlen := (ms_valueR d _ _ _ HV.out).1
        rw [List.length_drop] at hlen
        have hrk : r.length = s.length - k := by rw [← k2, List.length_drop]
        have hik : Hid (i ≤ k) := by unfold Hid; omega
        obtain ⟨f, hf⟩ : ∃ f, gk = f + 0 := ⟨gk, rfl⟩
        clear k1 k2 k3 k4 K3 G3 hx hvo hbl C hrun hlen
        rcases hq : needP e r with _ | q
        · rw [need_pre hq] at C2
          rcases h32 : needP [32] r with _ | q
          · rw [need_pre h32] at C3
            have HR : Hid (X = none) := by rw [Hid, ← HX.out, HS.out.q, goR_bad HV.out hq h32]
            clear hq h32 hrk hf hm hih
            go_wp2_with (at_builtin; refine wpList_append_run rfl rfl hrun' ?_)
            refine C2.mono ?_
            rintro x w4 ⟨rfl, rfl⟩
            go_wp2_with fail
            refine C3.mono ?_
            rintro x w4 ⟨rfl, rfl⟩
            go_wp2_with fail
            go_ret2
            rw [HR.out]
            exact ⟨rfl, KW.out⟩
          · have hp32 := need_drop HK1.out (by rw [HK2.out]; exact h32)
            simp only [List.length_cons, List.length_nil] at hp32
            have hpp := (needP_some h32).1
            rw [hpp] at C3
            obtain ⟨f, rfl⟩ : ∃ f, gk = f + 1 := ⟨gk - 1, by have := HS.out.l; have := hik.out; omega⟩
            have S3 : Hid (RSt w W s e d i0 f v' (rows ++ [(⟨rk, rx, rn, (ra, rb, rc), (rd, re, rf)⟩, v)]) (k + 1)) := by
              refine ⟨?_, by have := hp32.2.1; omega, HVO.out, KW.out, by have := HS.out.l; have := hik.out; omega, by have := hik.out; simp; omega⟩
              rw [HS.out.q, goR_step HV.out hq h32, List.map_append, show s.drop (k + 1) = q from hp32.2.2]
              rfl
            clear hq h32 hrk hf hm hih hp32 hpp
            go_wp2_with (at_builtin; refine wpList_append_run rfl rfl hrun' ?_)
            refine C2.mono ?_
            rintro x w4 ⟨rfl, rfl⟩
            go_wp2_with fail
            refine C3.mono ?_
            rintro x w4 ⟨rfl, rfl⟩
            go_wp2_with fail
            go_roundg f
            case measure => omega
            case rel => exact ⟨k + 1, _, rfl, S3.out⟩
        · have hpe := need_drop HK1.out (by rw [HK2.out]; exact hq)
          have hpp := (needP_some hq).1
          rw [hpp] at C2
          have HR : Hid (X = some (rows.map (·.2) ++ [v], q)) := by rw [Hid, ← HX.out, HS.out.q, goR_end HV.out hq]
          have HPE := hid hpe
          have hpl : (k : Int) + e.length ≤ s.length := by have := hpe.2.1; omega
          clear hq hrk hf hm hih hpe hpp C3
          go_wp2_with (at_builtin; refine wpList_append_run rfl rfl hrun' ?_)
          refine C2.mono ?_
          rintro x w4 ⟨rfl, rfl⟩
          go_wp2_with fail
          go_ret2
          rw [HR.out]
          have hvs := HVO.out.vs
          rw [List.map_append] at hvs
          exact ⟨v', k + e.length, rfl, HPE.out.2.1, HPE.out.2.2, hvs, KW.out⟩
  · have hp := need_drop hi hn
    rw [hp.1] at A0
    have HR : Hid (X = some ([], r)) := by rw [Hid, ← hX]; unfold allR; rw [hn]
    have HPE := hid hp
    have hpl : (i0 : Int) + e.length ≤ s.length := by have := hp.2.1; omega
    clear hn hX hp
    go_enter Tryz.func63, Tryz.ntmps63
    go_wp2_with fail
    refine A0.mono ?_
    rintro x w2 ⟨rfl, rfl⟩
    go_wp2_with fail
    go_ret2
    rw [HR.out]
    exact ⟨nilV, i0 + e.length, rfl, HPE.out.2.1, HPE.out.2.2, VsAt.nil _ _, Below.refl _ _⟩
theorem read_any_of {d : Nat} (hA : AllRok d) : ValRok (d + 1) := by
  intro w s i deep hs hi hd
  by_cases he : i = s.length
  · exact read_end w s i deep hs he hd
  · have hlt : i < s.length := by omega
    by_cases h1 : s[i] = 34
    · exact read_quoted w s i deep hs hlt hd h1
    · by_cases h2 : s[i] = 123
      · exact read_counted w s i deep hs hlt hd h2
      · by_cases h3 : s[i] = 40
        · exact read_list hA w s i deep hs hlt hd h3
        · by_cases h4 : (s.drop i).takeWhile letB = []
          · exact read_word w s i deep hs hlt hd h1 h2 h3 (.inr h4)
          · rcases h5 : needP [91] ((s.drop i).dropWhile letB) with _ | r
            · exact read_word w s i deep hs hlt hd h1 h2 h3 (.inl h5)
            · exact read_sect hA w s i deep hs hlt hd h1 h2 h3 h5 h4
/-- The document reads values, as deep as they may lie. -/
theorem readings : ∀ d, ValRok d ∧ AllRok d
  | 0 => ⟨read_zero, all_of_value read_zero⟩
  | d + 1 => have h := read_any_of (readings d).2; ⟨h, all_of_value h⟩
end Go.Proofs.YtpjcpdnolcehcaaGreatDoor
