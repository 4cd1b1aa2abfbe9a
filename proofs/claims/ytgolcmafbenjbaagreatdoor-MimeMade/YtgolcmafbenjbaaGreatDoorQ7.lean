/- What this text holds: the law's own look at contents (plain). -/
import Derived.Test.YtgolcmafbenjbaaGreatDoorQ6
import Derived.Test.YtgolcmafbenjbaaGreatDoorN27
namespace Go.Proofs.YtgolcmafbenjbaaGreatDoor
open Go.RowKit
set_option linter.unusedVariables false
set_option linter.unusedSimpArgs false

theorem b_yes {c k : UInt8} (h : c = k) : ((c.toNat : Int) == (k.toNat : Int)) = true := by rw [h]; simp
theorem b_no {c k : UInt8} (h : c ≠ k) : ((c.toNat : Int) == (k.toNat : Int)) = false := by
  rw [beq_eq_false_iff_ne]
  intro e
  exact h (UInt8.toNat_inj.1 (by omega))
theorem n_yes {c k : UInt8} (h : c = k) : ((c.toNat : Int) != (k.toNat : Int)) = false := by rw [h]; simp [bne]
theorem n_no {c k : UInt8} (h : c ≠ k) : ((c.toNat : Int) != (k.toNat : Int)) = true := by
  rw [bne, b_no h]
  rfl
def PlainIs (x : Bs) (w : World) (e : Ending) (w' : World) : Prop := ∃ r, e = .returned (.bool r) ∧ (r = true → NoDD x) ∧ w' = w
set_option maxRecDepth 100000 in
set_option maxHeartbeats 4000000 in
theorem plain_any (x : Bs) (w : World) (hx : x.length ≤ 1000000) : Calls Tryz.prog 18 #[.string (str x)] w (PlainIs x w) := by
  have hz := str_size x
  go_enter Tryz.func18, Tryz.ntmps18
  go_wp2_with fail
  go_loop [3] (fun v => ∃ i : Nat, v = .int .i64 i ∧ i ≤ x.length ∧ ∀ j, j < i → x[j]? = some 45 → x[j + 1]? ≠ some 45) (fun v => x.length - (intOf v).toNat)
  case atStart => exact ⟨0, rfl, by omega, fun j hj => by omega⟩
  case round =>
    obtain ⟨i, rfl, hi, hdd⟩ := hrel
    have HD := hid hdd
    clear hdd
    by_cases hlt : i + 1 < x.length
    · have hlt' : (i : Int) + 1 < x.length := by omega
      have his : i < (str x).size := by rw [hz]; omega
      have his2 : i + 1 < (str x).size := by rw [hz]; exact hlt
      obtain ⟨c, hc⟩ : ∃ c, (str x)[i]'his = c := ⟨_, rfl⟩
      obtain ⟨d, hd⟩ : ∃ d, (str x)[i + 1]'his2 = d := ⟨_, rfl⟩
      have Hc : Hid (x[i]? = some c) := by rw [Hid, ← hc]; exact List.getElem?_eq_getElem (by omega)
      have Hd : Hid (x[i + 1]? = some d) := by rw [Hid, ← hd]; exact List.getElem?_eq_getElem hlt
      have Hlt := hid hlt
      have hil : i ≤ 1000000 := by omega
      clear hlt
      by_cases c45 : c = 45
      · have q1 : ((c.toNat : Int) == 45) = true := b_yes c45
        by_cases d45 : d = 45
        · have q2 : ((d.toNat : Int) == 45) = true := b_yes d45
          clear c45 d45 Hc Hd
          go_wp2_with fail
          go_ret
          exact ⟨false, rfl, (fun h => by cases h), rfl⟩
        · have q2 : ((d.toNat : Int) == 45) = false := b_no d45
          have HN : Hid (∀ j, j < i + 1 → x[j]? = some 45 → x[j + 1]? ≠ some 45) := fun j hj h1 h2 => by
            rcases Nat.lt_or_ge j i with h | h
            · exact HD.out j h h1 h2
            · obtain rfl : j = i := by omega
              rw [Hd.out] at h2
              exact d45 (Option.some.inj h2)
          clear c45 d45 Hc Hd
          go_wp2_with fail
          go_round
          case rel => exact ⟨i + 1, by go_num, by have := Hlt.out; omega, HN.out⟩
          case measure => simp [intOf]; have := Hlt.out; omega
      · have q1 : ((c.toNat : Int) == 45) = false := b_no c45
        have HN : Hid (∀ j, j < i + 1 → x[j]? = some 45 → x[j + 1]? ≠ some 45) := fun j hj h1 h2 => by
          rcases Nat.lt_or_ge j i with h | h
          · exact HD.out j h h1 h2
          · obtain rfl : j = i := by omega
            rw [Hc.out] at h1
            exact c45 (Option.some.inj h1)
        clear c45 Hc Hd
        go_wp2_with fail
        go_round
        case rel => exact ⟨i + 1, by go_num, by have := Hlt.out; omega, HN.out⟩
        case measure => simp [intOf]; have := Hlt.out; omega
    · have hlt' : ¬ (i : Int) + 1 < x.length := by omega
      have HND : Hid (NoDD x) := fun j h1 h2 => by
        have hj : j + 1 < x.length := (List.getElem?_eq_some_iff.1 h2).1
        exact HD.out j (by omega) h1 h2
      have hil : i ≤ 1000000 := by omega
      by_cases h0 : x.length = 0
      · have q0 : ((x.length : Int) == 0) = true := by rw [h0]; rfl
        clear hlt h0
        go_wp2_with fail
        go_ret
        exact ⟨true, rfl, fun _ => HND.out, rfl⟩
      · have q0 : ((x.length : Int) == 0) = false := by rw [beq_eq_false_iff_ne]; omega
        obtain ⟨m, hm⟩ : ∃ m, x.length = m + 1 := ⟨x.length - 1, by omega⟩
        have his : m < (str x).size := by rw [hz]; omega
        obtain ⟨c, hc⟩ : ∃ c, (str x)[m]'his = c := ⟨_, rfl⟩
        have hml : (x.length : Int) - 1 = (m : Int) := by omega
        have hml2 : m < x.length := by omega
        clear hlt h0 HD
        have Hm := hid hm
        clear hm
        by_cases c10 : c = 10
        · have q1 : ((c.toNat : Int) != 10) = false := n_yes c10
          have q1' : ((c.toNat : Int) == 10) = true := b_yes c10
          clear c10
          go_wp2_with fail
          go_ret
          exact ⟨_, rfl, fun _ => HND.out, rfl⟩
        · have q1 : ((c.toNat : Int) != 10) = true := n_no c10
          have q1' : ((c.toNat : Int) == 10) = false := b_no c10
          clear c10
          by_cases c13 : c = 13
          · have q2 : ((c.toNat : Int) != 13) = false := n_yes c13
            have q2' : ((c.toNat : Int) == 13) = true := b_yes c13
            clear c13
            go_wp2_with fail
            go_ret
            exact ⟨_, rfl, fun _ => HND.out, rfl⟩
          · have q2 : ((c.toNat : Int) != 13) = true := n_no c13
            have q2' : ((c.toNat : Int) == 13) = false := b_no c13
            clear c13
            go_wp2_with fail
            go_ret
            exact ⟨_, rfl, fun _ => HND.out, rfl⟩
end Go.Proofs.YtgolcmafbenjbaaGreatDoor
