/- What this text holds: the document's text without blanks at both ends. -/
import Derived.Test.YtemgpghjolpneaaGreatDoorR5
namespace Go.Proofs.YtemgpghjolpneaaGreatDoor
open Go.RowKit
set_option linter.unusedVariables false
set_option linter.unusedSimpArgs false

/-- Is a byte left out at both ends? -/
def bk (ends : Bool) (c : UInt8) : Bool := c == 32 || c == 9 || ends && (c == 10 || c == 13)
def rtrim (p : UInt8 → Bool) (l : Bs) : Bs := (l.reverse.dropWhile p).reverse
theorem rtrim_app (p : UInt8 → Bool) (a x : Bs) (h : rtrim p x ≠ []) : rtrim p (a ++ x) = a ++ rtrim p x := by
  unfold rtrim at *
  have hne : (x.reverse.dropWhile p).isEmpty = false := by
    cases hq : x.reverse.dropWhile p with
    | nil => rw [hq] at h; exact absurd rfl h
    | cons c l => rfl
  rw [List.reverse_append, List.dropWhile_append, if_neg (by simp [hne]), List.reverse_append, List.reverse_reverse]
theorem rtrim_cons {p : UInt8 → Bool} {c : UInt8} (hc : p c = false) (r : Bs) : ∃ z, rtrim p (c :: r) = c :: z := by
  unfold rtrim
  rw [List.reverse_cons, List.dropWhile_append]
  split
  · rw [List.dropWhile_cons, if_neg (by simp [hc])]
    exact ⟨[], rfl⟩
  · rw [List.reverse_append]
    exact ⟨_, rfl⟩
theorem trim_comm (p : UInt8 → Bool) : ∀ s : Bs, rtrim p (s.dropWhile p) = (rtrim p s).dropWhile p
  | [] => rfl
  | c :: s => by
    rcases hc : p c
    · obtain ⟨z, hz⟩ := rtrim_cons hc s
      rw [List.dropWhile_cons, if_neg (by simp [hc]), hz, List.dropWhile_cons, if_neg (by simp [hc])]
    · rw [List.dropWhile_cons, if_pos hc, trim_comm p s]
      by_cases h0 : rtrim p s = []
      · have : rtrim p (c :: s) = [] := by
          unfold rtrim at h0 ⊢
          have h1 : s.reverse.dropWhile p = [] := by simpa using h0
          rw [List.reverse_cons, List.dropWhile_append, h1]
          simp [hc]
        rw [h0, this]
      · have := rtrim_app p [c] s h0
        rw [List.singleton_append] at this
        rw [this, List.singleton_append, List.dropWhile_cons, if_pos hc]
theorem rtrim_snoc_yes {p : UInt8 → Bool} {c : UInt8} (hc : p c = true) (l : Bs) : rtrim p (l ++ [c]) = rtrim p l := by
  unfold rtrim; rw [List.reverse_append]; simp [hc]
theorem rtrim_snoc_no {p : UInt8 → Bool} {c : UInt8} (hc : p c = false) (l : Bs) : rtrim p (l ++ [c]) = l ++ [c] := by
  unfold rtrim; rw [List.reverse_append]; simp [hc]
/-- The document's text without blanks at both ends. -/
def trimR (ends : Bool) (l : Bs) : Bs := rtrim (bk ends) (l.dropWhile (bk ends))
theorem bk_w : bk false = fun c => ([32, 9] : Bs).contains c := by
  funext c
  unfold bk
  rw [Bool.eq_iff_iff]
  simp
theorem bk_a : bk true = fun c => ([9, 10, 13, 32] : Bs).contains c := by
  funext c
  unfold bk
  rw [Bool.eq_iff_iff]
  simp
  constructor
  · rintro ((h | h) | h | h) <;> simp [h]
  · rintro (h | h | h | h) <;> simp [h]
theorem trimR_w (l : Bs) : trimR false l = trimW l := by
  unfold trimR trimW Go.Lib.trimS Go.Lib.trimLeftS Go.Lib.trimRightS
  rw [trim_comm, bk_w]
  rfl
theorem trimR_a (l : Bs) : trimR true l = trimA l := by
  unfold trimR trimA Go.Lib.trimS Go.Lib.trimLeftS Go.Lib.trimRightS
  rw [trim_comm, bk_a]
  rfl
def szO : Value → Nat
  | .string s => s.size
  | _ => 0
theorem bk_f {c : UInt8} (h : bk false c = false) : c ≠ 32 ∧ c ≠ 9 := by unfold bk at h; simp at h; exact h
theorem bk_t {c : UInt8} (h : bk true c = false) : c ≠ 32 ∧ c ≠ 9 ∧ c ≠ 10 ∧ c ≠ 13 := by unfold bk at h; simp at h; exact ⟨h.1.1, h.1.2, h.2.1, h.2.2⟩
theorem bk_fy {c : UInt8} (h : bk false c = true) : c = 32 ∨ c = 9 := by unfold bk at h; simpa using h
theorem bk_ty {c : UInt8} (h : bk true c = true) : c = 32 ∨ c = 9 ∨ c = 10 ∨ c = 13 := by
  unfold bk at h
  simp at h
  rcases h with (h | h) | h | h <;> simp [h]

set_option maxRecDepth 100000 in
set_option maxHeartbeats 8000000 in
theorem rtrim_false (s : Bs) (w : World) (hs : s.length ≤ 1000000) : Calls Tryz.prog 77 #[.string (str s), .bool false] w fun e w' => e = .returned (.string (str (trimR false s))) ∧ w' = w := by
  have HTR : Hid (trimR false s = rtrim (bk false) (s.dropWhile (bk false))) := rfl
  go_enter Tryz.func77, Tryz.ntmps77
  go_wp2_with fail
  go_loop [0] (fun v => ∃ D : Bs, D.length ≤ s.length ∧ v = .string (str D) ∧ D.dropWhile (bk false) = s.dropWhile (bk false)) (fun v => szO v)
  case atStart => exact ⟨s, Nat.le_refl _, rfl, rfl⟩
  case round =>
    obtain ⟨D, hDl, rfl, hd⟩ := hrel
    have HD := hid hd
    have HM : Hid (szO (.string (str D)) = D.length) := str_size _
    have hsD := str_size D
    clear hd
    cases hD : D with
    | nil =>
      subst hD
      have hz0 : (str ([] : Bs)).size = 0 := rfl
      have HX : Hid (trimR false s = []) := by rw [Hid, HTR.out, ← HD.out]; rfl
      clear hsD
      go_wp2_with fail
      go_loop [0] (fun v => v = .string (str [])) (fun _ => 0)
      case atStart => rfl
      case round =>
        obtain rfl := hrel
        go_wp2_with fail
        go_ret
        exact ⟨by rw [HX.out]; rfl, rfl⟩
    | cons c r =>
      subst hD
      simp only [List.length_cons] at hsD hDl HM
      have hlts : 0 < (str (c :: r)).size := by omega
      have g : ((str (c :: r))[0]'hlts) = c := rfl
      have HDd : Hid ((str (c :: r)).extract 1 (r.length + 1) = str r) := by
        have := drop_str (c :: r) 1
        rw [str_size] at this
        exact this
      have HMr : Hid (szO (.string (str r)) = r.length) := str_size _
      rcases hbc : bk false c
      · have hn := bk_f hbc
        have HX : Hid (trimR false s = rtrim (bk false) (c :: r)) := by
          have := HD.out
          rw [List.dropWhile_cons, if_neg (by simp [hbc])] at this
          rw [Hid, HTR.out, ← this]
        have n32 : ¬ (c.toNat : Int) = 32 := c_ne hn.1
        have b32 : ((c.toNat : Int) == 32) = false := by simpa using n32
        have d32 : ((c.toNat : Int) != 32) = true := by simpa using n32
        have n9 : ¬ (c.toNat : Int) = 9 := c_ne hn.2
        have b9 : ((c.toNat : Int) == 9) = false := by simpa using n9
        have d9 : ((c.toNat : Int) != 9) = true := by simpa using n9
        clear hn hbc HD
        go_wp2_with fail
        go_loop [0] (fun v => ∃ m : Nat, m ≤ r.length + 1 ∧ v = .string (str ((c :: r).take m)) ∧ rtrim (bk false) ((c :: r).take m) = rtrim (bk false) (c :: r)) (fun v => szO v)
        case atStart => exact ⟨r.length + 1, Nat.le_refl _, by rw [List.take_of_length_le (by simp)], by rw [List.take_of_length_le (by simp)]⟩
        case round =>
          obtain ⟨m, hm, rfl, he⟩ := hrel
          have HE := hid he
          clear he n32 n9 b32 b9 d32 d9 g
          by_cases h0 : m = 0
          · subst h0
            have HX2 : Hid (trimR false s = []) := by rw [Hid, HX.out, ← HE.out]; rfl
            have hz0 : (str ((c :: r).take 0)).size = 0 := rfl
            have hz1 : (c :: r).take 0 = [] := rfl
            go_wp2_with fail
            go_ret
            exact ⟨by rw [HX2.out]; rfl, rfl⟩
          · obtain ⟨q, rfl⟩ : ∃ q, m = q + 1 := ⟨m - 1, by omega⟩
            have hql : q < (c :: r).length := by simp; omega
            have HTk := hid (List.take_succ_eq_append_getElem hql)
            have hsz : (str ((c :: r).take (q + 1))).size = q + 1 := by rw [str_size, List.length_take]; simp; omega
            have hlt3 : q < (str ((c :: r).take (q + 1))).size := by omega
            have g3 : ((str ((c :: r).take (q + 1)))[q]'hlt3) = (c :: r)[q] := by
              have h9 : ((c :: r).take (q + 1))[q]'(by rw [List.length_take]; simp; omega) = (c :: r)[q] := List.getElem_take
              exact h9
            have HTq : Hid ((str ((c :: r).take (q + 1))).extract 0 q = str ((c :: r).take q)) := by
              rw [Hid, take_str, List.take_take, Nat.min_eq_left (by omega)]
            have HMq : Hid (szO (.string (str ((c :: r).take q))) = q) := by
              show (str _).size = q
              rw [str_size, List.length_take]
              simp
              omega
            have HMq1 : Hid (szO (.string (str ((c :: r).take (q + 1)))) = q + 1) := hsz
            have hwq : IntKind.i64.wrap ((q : Int) + 1 - 1) = q := by rw [IntKind.wrap_i64]; omega
            generalize (c :: r)[q] = cq at *
            clear hlts HDd
            rcases hbq : bk false cq
            · have hn := bk_f hbq
              have HX2 : Hid (trimR false s = (c :: r).take (q + 1)) := by rw [Hid, HX.out, ← HE.out, HTk.out, rtrim_snoc_no hbq]
              have n32 : ¬ (cq.toNat : Int) = 32 := c_ne hn.1
              have b32 : ((cq.toNat : Int) == 32) = false := by simpa using n32
              have d32 : ((cq.toNat : Int) != 32) = true := by simpa using n32
              have n9 : ¬ (cq.toNat : Int) = 9 := c_ne hn.2
              have b9 : ((cq.toNat : Int) == 9) = false := by simpa using n9
              have d9 : ((cq.toNat : Int) != 9) = true := by simpa using n9
              clear hn hbq HE
              generalize (c :: r).take (q + 1) = T at *
              go_wp2_with fail
              go_ret
              exact ⟨by rw [HX2.out]; rfl, rfl⟩
            · have HE2 : Hid (rtrim (bk false) ((c :: r).take q) = rtrim (bk false) (c :: r)) := by rw [Hid, ← HE.out, HTk.out, rtrim_snoc_yes hbq]
              generalize (c :: r).take (q + 1) = T at *
              rcases bk_fy hbq with h | h
              · have e32 : (cq.toNat : Int) = 32 := c_eq h
                clear h hbq HE
                go_wp2_with fail
                rw [HTq.out]
                go_round
                case rel => exact ⟨q, by omega, rfl, HE2.out⟩
                case measure => rw [HMq.out, HMq1.out]; omega
              · have e9 : (cq.toNat : Int) = 9 := c_eq h
                clear h hbq HE
                go_wp2_with fail
                rw [HTq.out]
                go_round
                case rel => exact ⟨q, by omega, rfl, HE2.out⟩
                case measure => rw [HMq.out, HMq1.out]; omega
      · have HX : Hid (r.dropWhile (bk false) = s.dropWhile (bk false)) := by have := HD.out; rw [List.dropWhile_cons, if_pos hbc] at this; exact this
        rcases bk_fy hbc with h | h
        · have e32 : (c.toNat : Int) = 32 := c_eq h
          clear h hbc
          go_wp2_with fail
          rw [HDd.out]
          go_round
          case rel => exact ⟨r, by omega, rfl, HX.out⟩
          case measure => rw [HM.out, HMr.out]; omega
        · have e9 : (c.toNat : Int) = 9 := c_eq h
          clear h hbc
          go_wp2_with fail
          rw [HDd.out]
          go_round
          case rel => exact ⟨r, by omega, rfl, HX.out⟩
          case measure => rw [HM.out, HMr.out]; omega

set_option maxRecDepth 100000 in
set_option maxHeartbeats 8000000 in
theorem rtrim_true (s : Bs) (w : World) (hs : s.length ≤ 1000000) : Calls Tryz.prog 77 #[.string (str s), .bool true] w fun e w' => e = .returned (.string (str (trimR true s))) ∧ w' = w := by
  have HTR : Hid (trimR true s = rtrim (bk true) (s.dropWhile (bk true))) := rfl
  go_enter Tryz.func77, Tryz.ntmps77
  go_wp2_with fail
  go_loop [0] (fun v => ∃ D : Bs, D.length ≤ s.length ∧ v = .string (str D) ∧ D.dropWhile (bk true) = s.dropWhile (bk true)) (fun v => szO v)
  case atStart => exact ⟨s, Nat.le_refl _, rfl, rfl⟩
  case round =>
    obtain ⟨D, hDl, rfl, hd⟩ := hrel
    have HD := hid hd
    have HM : Hid (szO (.string (str D)) = D.length) := str_size _
    have hsD := str_size D
    clear hd
    cases hD : D with
    | nil =>
      subst hD
      have hz0 : (str ([] : Bs)).size = 0 := rfl
      have HX : Hid (trimR true s = []) := by rw [Hid, HTR.out, ← HD.out]; rfl
      clear hsD
      go_wp2_with fail
      go_loop [0] (fun v => v = .string (str [])) (fun _ => 0)
      case atStart => rfl
      case round =>
        obtain rfl := hrel
        go_wp2_with fail
        go_ret
        exact ⟨by rw [HX.out]; rfl, rfl⟩
    | cons c r =>
      subst hD
      simp only [List.length_cons] at hsD hDl HM
      have hlts : 0 < (str (c :: r)).size := by omega
      have g : ((str (c :: r))[0]'hlts) = c := rfl
      have HDd : Hid ((str (c :: r)).extract 1 (r.length + 1) = str r) := by
        have := drop_str (c :: r) 1
        rw [str_size] at this
        exact this
      have HMr : Hid (szO (.string (str r)) = r.length) := str_size _
      rcases hbc : bk true c
      · have hn := bk_t hbc
        have HX : Hid (trimR true s = rtrim (bk true) (c :: r)) := by
          have := HD.out
          rw [List.dropWhile_cons, if_neg (by simp [hbc])] at this
          rw [Hid, HTR.out, ← this]
        have n32 : ¬ (c.toNat : Int) = 32 := c_ne hn.1
        have b32 : ((c.toNat : Int) == 32) = false := by simpa using n32
        have d32 : ((c.toNat : Int) != 32) = true := by simpa using n32
        have n9 : ¬ (c.toNat : Int) = 9 := c_ne hn.2.1
        have b9 : ((c.toNat : Int) == 9) = false := by simpa using n9
        have d9 : ((c.toNat : Int) != 9) = true := by simpa using n9
        have n10 : ¬ (c.toNat : Int) = 10 := c_ne hn.2.2.1
        have b10 : ((c.toNat : Int) == 10) = false := by simpa using n10
        have d10 : ((c.toNat : Int) != 10) = true := by simpa using n10
        have n13 : ¬ (c.toNat : Int) = 13 := c_ne hn.2.2.2
        have b13 : ((c.toNat : Int) == 13) = false := by simpa using n13
        have d13 : ((c.toNat : Int) != 13) = true := by simpa using n13
        clear hn hbc HD
        go_wp2_with fail
        go_loop [0] (fun v => ∃ m : Nat, m ≤ r.length + 1 ∧ v = .string (str ((c :: r).take m)) ∧ rtrim (bk true) ((c :: r).take m) = rtrim (bk true) (c :: r)) (fun v => szO v)
        case atStart => exact ⟨r.length + 1, Nat.le_refl _, by rw [List.take_of_length_le (by simp)], by rw [List.take_of_length_le (by simp)]⟩
        case round =>
          obtain ⟨m, hm, rfl, he⟩ := hrel
          have HE := hid he
          clear he n32 n9 b32 b9 d32 d9 n10 n13 b10 b13 d10 d13 g
          by_cases h0 : m = 0
          · subst h0
            have HX2 : Hid (trimR true s = []) := by rw [Hid, HX.out, ← HE.out]; rfl
            have hz0 : (str ((c :: r).take 0)).size = 0 := rfl
            have hz1 : (c :: r).take 0 = [] := rfl
            go_wp2_with fail
            go_ret
            exact ⟨by rw [HX2.out]; rfl, rfl⟩
          · obtain ⟨q, rfl⟩ : ∃ q, m = q + 1 := ⟨m - 1, by omega⟩
            have hql : q < (c :: r).length := by simp; omega
            have HTk := hid (List.take_succ_eq_append_getElem hql)
            have hsz : (str ((c :: r).take (q + 1))).size = q + 1 := by rw [str_size, List.length_take]; simp; omega
            have hlt3 : q < (str ((c :: r).take (q + 1))).size := by omega
            have g3 : ((str ((c :: r).take (q + 1)))[q]'hlt3) = (c :: r)[q] := by
              have h9 : ((c :: r).take (q + 1))[q]'(by rw [List.length_take]; simp; omega) = (c :: r)[q] := List.getElem_take
              exact h9
            have HTq : Hid ((str ((c :: r).take (q + 1))).extract 0 q = str ((c :: r).take q)) := by
              rw [Hid, take_str, List.take_take, Nat.min_eq_left (by omega)]
            have HMq : Hid (szO (.string (str ((c :: r).take q))) = q) := by
              show (str _).size = q
              rw [str_size, List.length_take]
              simp
              omega
            have HMq1 : Hid (szO (.string (str ((c :: r).take (q + 1)))) = q + 1) := hsz
            have hwq : IntKind.i64.wrap ((q : Int) + 1 - 1) = q := by rw [IntKind.wrap_i64]; omega
            generalize (c :: r)[q] = cq at *
            clear hlts HDd
            rcases hbq : bk true cq
            · have hn := bk_t hbq
              have HX2 : Hid (trimR true s = (c :: r).take (q + 1)) := by rw [Hid, HX.out, ← HE.out, HTk.out, rtrim_snoc_no hbq]
              have n32 : ¬ (cq.toNat : Int) = 32 := c_ne hn.1
              have b32 : ((cq.toNat : Int) == 32) = false := by simpa using n32
              have d32 : ((cq.toNat : Int) != 32) = true := by simpa using n32
              have n9 : ¬ (cq.toNat : Int) = 9 := c_ne hn.2.1
              have b9 : ((cq.toNat : Int) == 9) = false := by simpa using n9
              have d9 : ((cq.toNat : Int) != 9) = true := by simpa using n9
              have n10 : ¬ (cq.toNat : Int) = 10 := c_ne hn.2.2.1
              have b10 : ((cq.toNat : Int) == 10) = false := by simpa using n10
              have d10 : ((cq.toNat : Int) != 10) = true := by simpa using n10
              have n13 : ¬ (cq.toNat : Int) = 13 := c_ne hn.2.2.2
              have b13 : ((cq.toNat : Int) == 13) = false := by simpa using n13
              have d13 : ((cq.toNat : Int) != 13) = true := by simpa using n13
              clear hn hbq HE
              generalize (c :: r).take (q + 1) = T at *
              go_wp2_with fail
              go_ret
              exact ⟨by rw [HX2.out]; rfl, rfl⟩
            · have HE2 : Hid (rtrim (bk true) ((c :: r).take q) = rtrim (bk true) (c :: r)) := by rw [Hid, ← HE.out, HTk.out, rtrim_snoc_yes hbq]
              generalize (c :: r).take (q + 1) = T at *
              rcases bk_ty hbq with h | h | h | h
              · have e32 : (cq.toNat : Int) = 32 := c_eq h
                clear h hbq HE
                go_wp2_with fail
                rw [HTq.out]
                go_round
                case rel => exact ⟨q, by omega, rfl, HE2.out⟩
                case measure => rw [HMq.out, HMq1.out]; omega
              · have e9 : (cq.toNat : Int) = 9 := c_eq h
                clear h hbq HE
                go_wp2_with fail
                rw [HTq.out]
                go_round
                case rel => exact ⟨q, by omega, rfl, HE2.out⟩
                case measure => rw [HMq.out, HMq1.out]; omega
              · have e10 : (cq.toNat : Int) = 10 := c_eq h
                clear h hbq HE
                go_wp2_with fail
                rw [HTq.out]
                go_round
                case rel => exact ⟨q, by omega, rfl, HE2.out⟩
                case measure => rw [HMq.out, HMq1.out]; omega
              · have e13 : (cq.toNat : Int) = 13 := c_eq h
                clear h hbq HE
                go_wp2_with fail
                rw [HTq.out]
                go_round
                case rel => exact ⟨q, by omega, rfl, HE2.out⟩
                case measure => rw [HMq.out, HMq1.out]; omega
      · have HX : Hid (r.dropWhile (bk true) = s.dropWhile (bk true)) := by have := HD.out; rw [List.dropWhile_cons, if_pos hbc] at this; exact this
        rcases bk_ty hbc with h | h | h | h
        · have e32 : (c.toNat : Int) = 32 := c_eq h
          clear h hbc
          go_wp2_with fail
          rw [HDd.out]
          go_round
          case rel => exact ⟨r, by omega, rfl, HX.out⟩
          case measure => rw [HM.out, HMr.out]; omega
        · have e9 : (c.toNat : Int) = 9 := c_eq h
          clear h hbc
          go_wp2_with fail
          rw [HDd.out]
          go_round
          case rel => exact ⟨r, by omega, rfl, HX.out⟩
          case measure => rw [HM.out, HMr.out]; omega
        · have e10 : (c.toNat : Int) = 10 := c_eq h
          clear h hbc
          go_wp2_with fail
          rw [HDd.out]
          go_round
          case rel => exact ⟨r, by omega, rfl, HX.out⟩
          case measure => rw [HM.out, HMr.out]; omega
        · have e13 : (c.toNat : Int) = 13 := c_eq h
          clear h hbc
          go_wp2_with fail
          rw [HDd.out]
          go_round
          case rel => exact ⟨r, by omega, rfl, HX.out⟩
          case measure => rw [HM.out, HMr.out]; omega
end Go.Proofs.YtemgpghjolpneaaGreatDoor
