/- What this text holds: the document's looks at an encoded word. -/
import Derived.Test.YtjmjeiegbkfdbaaDoorR5
import Derived.Test.YtjmjeiegbkfdbaaDoorPure5
namespace Go.Proofs.YtjmjeiegbkfdbaaDoor
open Go.RowKit
set_option linter.unusedVariables false
set_option linter.unusedSimpArgs false

/-- Where the next ? is; -1: there is none. -/
def posI (s : Bs) (k : Nat) : Int := match pos (s.drop k) with
  | some (u, _) => (k + u.length : Nat)
  | none => -1
theorem pos_step {l : Bs} {a : UInt8} (h : a ≠ 63) : pos (a :: l) = (pos l).map fun x => (a :: x.1, x.2) := by
  have hb : (a != 63) = true := by simp [h]
  unfold pos
  by_cases hm : 63 ∈ l
  · rw [if_pos hm, if_pos (by simp [hm]), List.takeWhile_cons_of_pos (p := (· != 63)) hb, List.dropWhile_cons_of_pos (p := (· != 63)) hb]
    rfl
  · rw [if_neg hm, if_neg (by simp [hm, Ne.symm h])]
    rfl
theorem posI_step (s : Bs) (k : Nat) (hk : k < s.length) (h : s[k] ≠ 63) : posI s k = posI s (k + 1) := by
  unfold posI
  rw [List.drop_eq_getElem_cons hk, pos_step h]
  rcases pos (s.drop (k + 1)) with _ | ⟨u, r⟩
  · rfl
  · show ((k + (s[k] :: u).length : Nat) : Int) = ((k + 1 + u.length : Nat) : Int)
    simp only [List.length_cons]
    omega
theorem posI_here (s : Bs) (k : Nat) (hk : k < s.length) (h : s[k] = 63) : posI s k = k := by
  unfold posI
  have : pos (s.drop k) = some ([], s.drop (k + 1)) := by
    rw [drop1v s k hk 63 h]
    exact pos_of (u := []) (by simp)
  rw [this]
  simp
theorem posI_end (s : Bs) (k : Nat) (hk : s.length ≤ k) : posI s k = -1 := by
  unfold posI
  rw [List.drop_eq_nil_of_le hk]
  rfl

set_option maxRecDepth 100000 in
set_option maxHeartbeats 1000000 in
theorem until_any (s : Bs) (i : Nat) (w : World) (hs : s.length ≤ 1000000) (hi : i ≤ 1000000) : Calls Tryd.prog 61 #[.string (str s), .int .i64 i, .int .u8 63] w fun e w' => e = .returned (.int .i64 (posI s i)) ∧ w' = w := by
  have hsz := str_size s
  go_enter Tryd.func61, Tryd.ntmps61
  go_wp2_with fail
  go_loop [7] (fun v => ∃ k : Nat, k ≤ s.length + 1000000 ∧ v = .int .i64 k ∧ posI s k = posI s i) (fun v => s.length - (intOf v).toNat)
  case atStart => exact ⟨i, by omega, rfl, rfl⟩
  case round =>
    obtain ⟨k, hk, rfl, hp⟩ := hrel
    have HP := hid hp
    clear hp
    by_cases hlt : k < s.length
    · have hlt' : (k : Int) < s.length := by omega
      have hlts : k < (str s).size := by omega
      have g : ((str s)[k]'hlts) = s[k] := rfl
      by_cases h63 : s[k] = 63
      · have n : ((s[k].toNat : Int) == 63) = true := by rw [h63]; rfl
        have HH := hid (posI_here s k hlt h63)
        clear h63
        go_wp2_with fail
        go_ret
        rw [← HP.out, HH.out]
        exact ⟨rfl, rfl⟩
      · have n : ((s[k].toNat : Int) == 63) = false := u8_ne (n := 63) (by omega) h63
        have HH := hid (posI_step s k hlt h63)
        clear h63
        go_wp2_with fail
        go_round
        case rel => exact ⟨k + 1, by omega, by go_num, by rw [← HP.out, HH.out]⟩
        case measure => simp [intOf]; omega
    · have hlt' : ¬ (k : Int) < s.length := by omega
      have HH := hid (posI_end s k (by omega))
      go_wp2_with fail
      go_ret
      rw [← HP.out, HH.out]
      exact ⟨rfl, rfl⟩

theorem graph_lo {c : UInt8} (h : c.toNat < 33) : graph c = false := by unfold graph; rw [decide_eq_false (by omega)]; rfl
theorem graph_hi {c : UInt8} (h : 126 < c.toNat) : graph c = false := by unfold graph; rw [decide_eq_false (show ¬ c.toNat ≤ 126 by omega), Bool.and_false]
theorem graph_ok {c : UInt8} (h : ¬ c.toNat < 33) (h2 : ¬ 126 < c.toNat) : graph c = true := by unfold graph; rw [decide_eq_true (by omega), decide_eq_true (by omega)]; rfl
theorem all_take (u : Bs) (k : Nat) (hk : k < u.length) : (u.take (k + 1)).all graph = ((u.take k).all graph && graph u[k]) := by
  rw [List.take_succ_eq_append_getElem hk, List.all_append]
  simp
theorem all_no (u : Bs) (k : Nat) (hk : k < u.length) (h : graph u[k] = false) : u.all graph = false := by
  rw [← Bool.not_eq_true, List.all_eq_true]
  intro ha
  rw [ha _ (List.getElem_mem hk)] at h
  cases h

set_option maxRecDepth 100000 in
set_option maxHeartbeats 1000000 in
theorem graphic_any (u : Bs) (w : World) (hs : u.length ≤ 1000000) : Calls Tryd.prog 62 #[.string (str u)] w fun e w' => e = .returned (.bool (u.all graph)) ∧ w' = w := by
  have hsz := str_size u
  go_enter Tryd.func62, Tryd.ntmps62
  go_wp2_with fail
  go_loop [3] (fun v => ∃ k : Nat, k ≤ u.length ∧ v = .int .i64 k ∧ (u.take k).all graph = true) (fun v => u.length - (intOf v).toNat)
  case atStart => exact ⟨0, by omega, rfl, rfl⟩
  case round =>
    obtain ⟨k, hk, rfl, ha⟩ := hrel
    have HA := hid ha
    clear ha
    by_cases hlt : k < u.length
    · have hlt' : (k : Int) < u.length := by omega
      have hlts : k < (str u).size := by omega
      have g : ((str u)[k]'hlts) = u[k] := rfl
      have HT := hid (all_take u k hlt)
      have HN := hid (all_no u k hlt)
      by_cases h1 : u[k].toNat < 33
      · have h1' : (u[k].toNat : Int) < 33 := by omega
        have HF := hid (HN.out (graph_lo h1))
        go_wp2_with fail
        go_ret
        rw [HF.out]
        exact ⟨rfl, rfl⟩
      · have h1' : ¬ (u[k].toNat : Int) < 33 := by omega
        by_cases h2 : 126 < u[k].toNat
        · have h2' : (126 : Int) < u[k].toNat := by omega
          have HF := hid (HN.out (graph_hi h2))
          go_wp2_with fail
          go_ret
          rw [HF.out]
          exact ⟨rfl, rfl⟩
        · have h2' : ¬ (126 : Int) < u[k].toNat := by omega
          have HF : Hid ((u.take (k + 1)).all graph = true) := by
            rw [Hid, HT.out, HA.out, Bool.true_and]; exact graph_ok h1 h2
          go_wp2_with fail
          go_round
          case rel => exact ⟨k + 1, by omega, by go_num, HF.out⟩
          case measure => simp [intOf]; omega
    · have hlt' : ¬ (k : Int) < u.length := by omega
      have HF : Hid (u.all graph = true) := by
        have := HA.out
        rwa [List.take_of_length_le (by omega)] at this
      go_wp2_with fail
      go_ret
      rw [HF.out]
      exact ⟨rfl, rfl⟩

set_option maxRecDepth 100000 in
set_option maxHeartbeats 1000000 in
theorem rblank_any (c : UInt8) (w : World) : Calls Tryd.prog 45 #[.int .u8 c.toNat] w fun e w' => e = .returned (.bool (blank c)) ∧ w' = w := by
  have H8 := c.toNat_lt
  have HB : Hid (blank c = (decide ((c.toNat : Int) = 32) || decide ((c.toNat : Int) = 9) || decide ((c.toNat : Int) = 13) || decide ((c.toNat : Int) = 10))) := by
    have e : ∀ n : Nat, n < 256 → (c == UInt8.ofNat n) = decide ((c.toNat : Int) = n) := by
      intro n hn
      rw [Bool.eq_iff_iff, beq_iff_eq, decide_eq_true_eq]
      constructor
      · rintro rfl; rw [UInt8.toNat_ofNat']; omega
      · intro h; apply UInt8.toNat_inj.1; rw [UInt8.toNat_ofNat']; omega
    have e1 := e 32 (by omega)
    have e2 := e 9 (by omega)
    have e3 := e 13 (by omega)
    have e4 := e 10 (by omega)
    unfold Hid blank
    exact congr (congrArg or (congr (congrArg or (congr (congrArg or e1) e2)) e3)) e4
  generalize blank c = r at HB ⊢
  generalize c.toNat = x at *
  by_cases h9 : x = 9
  · subst h9
    have e : r = true := by rw [HB.out]; rfl
    subst e
    go_enter Tryd.func45, Tryd.ntmps45
    go_wp2_with fail
    go_ret
    exact ⟨rfl, rfl⟩
  · have n9 : ((x : Int) == 9) = false := by simp; omega
    by_cases h10 : x = 10
    · subst h10
      have e : r = true := by rw [HB.out]; rfl
      subst e
      go_enter Tryd.func45, Tryd.ntmps45
      go_wp2_with fail
      go_ret
      exact ⟨rfl, rfl⟩
    · have n10 : ((x : Int) == 10) = false := by simp; omega
      by_cases h13 : x = 13
      · subst h13
        have e : r = true := by rw [HB.out]; rfl
        subst e
        go_enter Tryd.func45, Tryd.ntmps45
        go_wp2_with fail
        go_ret
        exact ⟨rfl, rfl⟩
      · have n13 : ((x : Int) == 13) = false := by simp; omega
        by_cases h32 : x = 32
        · subst h32
          have e : r = true := by rw [HB.out]; rfl
          subst e
          go_enter Tryd.func45, Tryd.ntmps45
          go_wp2_with fail
          go_ret
          exact ⟨rfl, rfl⟩
        · have n32 : ((x : Int) == 32) = false := by simp; omega
          have e : r = false := by rw [HB.out]; simp; omega
          subst e
          go_enter Tryd.func45, Tryd.ntmps45
          go_wp2_with fail
          go_ret
          exact ⟨rfl, rfl⟩
end Go.Proofs.YtjmjeiegbkfdbaaDoor
