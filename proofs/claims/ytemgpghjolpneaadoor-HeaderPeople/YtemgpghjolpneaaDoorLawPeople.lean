/- Proved here: the addresses of two texts with a comma between are those of both, if the first one has no quote, remark and angle; a name, quoted, and an address in an angle are read as they were (HeaderPeople returns true for every input, and leaves its arguments as they were). No condition beyond what the card says: two tables of the library hold what its text lays. -/
import Derived.Test.YtemgpghjolpneaaDoorCards
import Derived.Test.YtemgpghjolpneaaDoorTie
import Derived.Test.YtemgpghjolpneaaDoorFrame
import Derived.Test.YtemgpghjolpneaaDoorP5
import Derived.ProofKit
import Derived.OpenShut
import Derived.ShutString
import Derived.Below
namespace Go.Proofs.YtemgpghjolpneaaDoor.headerPeople
open Go.ChangeShapes Go.WideShapes Go.ChangeAt Go.RowKit
open Go.ChangeMaps (open_string shut_string)
set_option linter.unusedVariables false
set_option linter.unusedSimpArgs false

/-- A list behind one's own. -/
theorem ro_app {w : World} {B B' : Nat} {v u : Value} {l m : List (List Bs)} (h : RO w B 45 3 v l) (hBw : B ≤ w.heap.size) (hu : RO w B' 45 3 u m) (hl : l.length ≤ 1000000) (hm : m.length ≤ 1000000) :
    ∃ v' w', (Builtin.append_ #[41, 41] 41 #[v, u]).run Tryd.prog w = .ok v' w' ∧ RO w' B 45 3 v' (l ++ m) ∧ Below B w w' := by
  by_cases h0 : m = []
  · subst h0
    obtain ⟨i, hi, hz0, hz1, hz2⟩ := info_parts Tryd.info45
    rcases hu.2.2 with ⟨rfl, _⟩ | ⟨g, c, cur, rfl, _⟩
    · exact ⟨v, w, run_append_owned_none w B 41 41 45 i 3 Tryd.underlying41 hi v l.length (rc l) h.2, by rw [List.append_nil]; exact h, Below.refl _ _⟩
    · obtain ⟨v', w', hr, ho', hg, _, _⟩ := run_append_own_at (P := Tryd.prog) w B 41 41 45 i _ 3 48 Tryd.underlying41 hi hz0 hz1 hz2 rfl (by omega) v l.length (rc l) h.2
        ⟨g, 0, none⟩ 0 c [] rfl (fun j x hx => by simp at hx) (by simp) (by unfold maxLen; omega) (by omega) hBw
      rw [List.append_nil, Nat.add_zero] at ho'
      exact ⟨v', w', hr, by rw [List.append_nil]; exact ⟨h.1, ho'⟩, (Below.refl B w).grown hg hBw (fun k hk => (World.ownsRow.lt h.2 k hk).1)⟩
  · obtain ⟨v', w', h1, h2, h3, _⟩ := ro_more Tryd.underlying41 Tryd.info45 rfl (by omega) (by omega) h hBw hu.rl (by omega) hm h0
    exact ⟨v', w', h1, h2, h3⟩
theorem ro_zero (w : World) : RO (w.alloc (.cells #[] 45)) w.heap.size 45 3 (.slice (some ⟨w.heap.size, 0, none⟩) 0 0) [] :=
  ⟨fun r hr => by simp at hr, by simp [rc], .inr ⟨w.heap.size, 0, #[], rfl, Nat.le_refl _, heap_alloc_new _ _, Nat.le_refl _, by unfold maxLen; omega, rfl, by simp [rc]⟩⟩
def szOf : Value → Nat
  | .string s => s.size
  | _ => 0
theorem addQ (x s : Bs) (k : Nat) (hk : k < s.length) : str x ++ ⟨#[92]⟩ ++ (str s).extract k (k + 1) = str (x ++ [92, s[k]]) := by
  have e : (s.drop k).take 1 = [s[k]] := by rw [List.drop_eq_getElem_cons hk]; rfl
  rw [mid_str, show k + 1 - k = 1 by omega, e, show (⟨#[92]⟩ : ByteArray) = str [92] from rfl, app_str, app_str, List.append_assoc]
  rfl
theorem addE (s : Bs) : str (34 :: esc s) ++ ⟨#[34, 32, 60, 98, 111, 120, 64, 104, 111, 115, 116, 62]⟩ = str (qtd s) := by
  rw [show (⟨#[34, 32, 60, 98, 111, 120, 64, 104, 111, 115, 116, 62]⟩ : ByteArray) = str [34, 32, 60, 98, 111, 120, 64, 104, 111, 115, 116, 62] from rfl, app_str]
  unfold qtd boxS
  simp
theorem qtd_len (s : Bs) : (qtd s).length = 2 * s.length + 13 := by
  unfold qtd boxS
  simp [esc_len]
theorem bl_cases (c : UInt8) : (bl c = true ↔ c = 32 ∨ c = 9 ∨ c = 13 ∨ c = 10) := by
  unfold bl
  simp
  constructor
  · rintro (h | h | h | h) <;> simp [h]
  · rintro (h | h | h | h) <;> simp [h]
set_option maxRecDepth 100000 in
set_option maxHeartbeats 4000000 in
theorem plainly_any (s : Bs) (w : World) (hs : s.length ≤ 100000) : Calls Tryd.prog 26 #[.string (str s)] w fun e w' => e = .returned (.bool (plainP s)) ∧ w' = w := by
  have hsz := str_size s
  go_enter Tryd.func26, Tryd.ntmps26
  go_wp2_with fail
  go_loop [6] (fun i => ∃ k : Nat, k ≤ s.length ∧ i = .int .i64 k ∧ plainP (s.take k) = true) (fun i => s.length - (intOf i).toNat)
  case atStart => exact ⟨0, by omega, rfl, by simp [plainP]⟩
  case round =>
    obtain ⟨k, hk, rfl, hr⟩ := hrel
    have HR := hid hr
    clear hr
    by_cases hlt : k < s.length
    · have hlt' : (k : Int) < s.length := by omega
      have hlts : k < (str s).size := by omega
      have g : ((str s)[k]'hlts) = s[k] := rfl
      have HY : Hid (plainC s[k] = true → plainP (s.take (k + 1)) = true) := fun h => by
        have := HR.out
        unfold plainP at this ⊢
        rw [List.take_succ_eq_append_getElem hlt, List.all_append, this]
        simp only [List.all_cons, List.all_nil, Bool.and_true, Bool.true_and]
        exact h
      have HN : Hid (plainC s[k] = false → plainP s = false) := fun h => by
        unfold plainP
        rw [Bool.eq_false_iff]
        intro e
        have := List.all_eq_true.1 e s[k] (List.getElem_mem hlt)
        rw [h] at this
        exact absurd this (by simp)
      generalize s[k] = c at *
      by_cases h1 : c = 34
      · have e1 : (c.toNat : Int) = 34 := c_eq h1
        have HX := hid (HN.out (by rw [h1]; rfl))
        clear h1
        go_wp2_with fail
        go_ret
        exact ⟨by rw [HX.out]; rfl, rfl⟩
      · have e1 : ¬ (c.toNat : Int) = 34 := c_ne h1
        have b1 : ((c.toNat : Int) == 34) = false := by simpa using e1
        by_cases h2 : c = 40
        · have e2 : (c.toNat : Int) = 40 := c_eq h2
          have HX := hid (HN.out (by rw [h2]; rfl))
          clear h1 h2
          go_wp2_with fail
          go_ret
          exact ⟨by rw [HX.out]; rfl, rfl⟩
        · have e2 : ¬ (c.toNat : Int) = 40 := c_ne h2
          have b2 : ((c.toNat : Int) == 40) = false := by simpa using e2
          by_cases h3 : c = 60
          · have e3 : (c.toNat : Int) = 60 := c_eq h3
            have HX := hid (HN.out (by rw [h3]; rfl))
            clear h1 h2 h3
            go_wp2_with fail
            go_ret
            exact ⟨by rw [HX.out]; rfl, rfl⟩
          · have e3 : ¬ (c.toNat : Int) = 60 := c_ne h3
            have b3 : ((c.toNat : Int) == 60) = false := by simpa using e3
            have HX := hid (HY.out (by unfold plainC; simp [h1, h2, h3]))
            clear h1 h2 h3
            go_wp2_with fail
            go_round
            case rel => exact ⟨k + 1, by omega, by go_num, HX.out⟩
            case measure => simp [intOf]; omega
    · have hlt' : ¬ (k : Int) < s.length := by omega
      have HX : Hid (plainP s = true) := by
        have := HR.out
        rw [List.take_of_length_le (by omega)] at this
        exact this
      go_wp2_with fail
      go_ret
      exact ⟨by rw [HX.out]; rfl, rfl⟩
theorem add3 (s t : Bs) : str s ++ ⟨#[44]⟩ ++ str t = str (s ++ 44 :: t) := by
  rw [show (⟨#[44]⟩ : ByteArray) = str [44] from rfl, app_str, app_str]; simp
theorem ads_len : ∀ (n : Nat) (s : Bs), s.length ≤ n → (adsP s).length ≤ s.length
  | 0, s, h => by
    have : s = [] := List.eq_nil_of_length_eq_zero (by omega)
    subst this; exact Nat.le_refl _
  | n + 1, s, h => by
    by_cases h0 : s = []
    · subst h0; exact Nat.le_refl _
    · have hl := List.length_pos_iff.2 h0
      have h1 := pieP_lt _ none [] s (Nat.le_refl _)
      have h2 := ads_len n (pieP none [] s).2.2 (by omega)
      rw [adsP_step s h0, List.length_append]
      split
      · simp; omega
      · simp; omega
/-- What comes behind the first question. -/
def Rest (s : Bs) (w : World) (W : World) : Prop := True

set_option maxRecDepth 100000 in
set_option maxHeartbeats 8000000 in
theorem walk (a0 a1 : ByteArray) {w : World} (he : Env w) (h0 : a0.size ≤ maxLen) (h1 : a1.size ≤ maxLen) :
    Calls Tryd.prog 8 #[.string a0, .string a1] w fun e w' => e = .returned (.bool true) ∧ Below w.heap.size w w' := by
  obtain ⟨s, rfl⟩ : ∃ s, a0 = str s := ⟨a0.data.toList, (str_of a0).symm⟩
  obtain ⟨t, rfl⟩ : ∃ t, a1 = str t := ⟨a1.data.toList, (str_of a1).symm⟩
  unfold maxLen at h0 h1
  have hx := str_size s
  have hy := str_size t
  rw [hx] at h0
  rw [hy] at h1
  have HE := hid he
  clear he
  by_cases g0 : (4000 : Int) < s.length
  · go_enter Tryd.func8, Tryd.ntmps8
    go_wp2_with fail
    refine (alive_any HE.out).mono ?_
    rintro e wz ⟨rfl, hb⟩
    have HBz := hid (hb)
    clear hb
    go_wp2_with fail
    go_ret
    exact ⟨rfl, HBz.out⟩
  · by_cases g1 : (4000 : Int) < t.length
    · go_enter Tryd.func8, Tryd.ntmps8
      go_wp2_with fail
      refine (alive_any HE.out).mono ?_
      rintro e wz ⟨rfl, hb⟩
      have HBz := hid (hb)
      clear hb
      go_wp2_with fail
      go_ret
      exact ⟨rfl, HBz.out⟩
    · have HPl := hid (plainly_any s w (by omega))
      rcases hp : plainP s
      · rw [hp] at HPl
        clear hp
        go_enter Tryd.func8, Tryd.ntmps8
        go_wp2_with fail
        refine HPl.out.mono ?_
        rintro e w1 ⟨rfl, rfl⟩
        go_wp2_with fail
        have HBT := hid (Below.refl w1.heap.size w1)
        go_loop [6, 38] (fun q i => ∃ k : Nat, k ≤ s.length ∧ i = .int .i64 k ∧ q = .string (str (34 :: esc (s.take k)))) (fun _ i => s.length - (intOf i).toNat)
        case atStart => exact ⟨0, by omega, rfl, rfl⟩
        case round =>
          obtain ⟨k, hk, rfl, rfl⟩ := hrel
          by_cases hlt : k < s.length
          · have hlt' : (k : Int) < s.length := by omega
            have HV : Hid (str (34 :: esc (s.take k)) ++ ⟨#[92]⟩ ++ (str s).extract k (k + 1) = str (34 :: esc (s.take (k + 1)))) := by rw [Hid, addQ _ s k hlt, esc_next s k hlt]; rfl
            have hq2 := str_size (34 :: esc (s.take k))
            have hq3 : ((34 :: esc (s.take k)).length : Int) ≤ 9000 := by rw [List.length_cons, esc_len, List.length_take]; omega
            generalize 34 :: esc (s.take k) = Q at *
            go_wp2_with fail
            go_round
            case rel => exact ⟨k + 1, by omega, by go_num, congrArg Value.string HV.out⟩
            case measure => simp [intOf]; omega
          · have hlt' : ¬ (k : Int) < s.length := by omega
            have hks : s.take k = s := List.take_of_length_le (by omega)
            rw [hks]
            have hE := addE s
            have hq2 := str_size (34 :: esc s)
            have hq3 : ((34 :: esc s).length : Int) ≤ 9000 := by rw [List.length_cons, esc_len]; omega
            have HCq := hid (fun W => addresses_any (qtd s) W (by rw [qtd_len]; omega))
            rw [qtd_ads] at HCq
            have hnl : (trimA (s ++ [32])).length ≤ s.length + 1 := by have := trimA_len (s ++ [32]); simpa using this
            have HNm := hid (trim_name s)
            clear hks
            generalize 34 :: esc s = Q at *
            generalize trimA (s ++ [32]) = nm at *
            go_wp2_with fail
            refine (HCq.out _).mono ?_
            rintro e wq ⟨⟨vq, rfl, hoq⟩, hbq⟩
            have HBQ := hid (HBT.out.trans (hbq.mono HBT.out.size))
            obtain ⟨_, aq, cq, rfl, hcq, hrq⟩ := hoq.rl
            clear hbq hoq
            rcases hrq with hrq | ⟨gq, oq, rfl, hrq, hgq⟩
            · simp at hrq
            · have hc0 : wq.cell? ⟨gq, oq, none⟩ = some (.string (str nm)) := by have := hrq.rec 0 (adR (nm, [98, 111, 120], [104, 111, 115, 116])) rfl 0 _ rfl; rw [Nat.zero_mul] at this; exact this
              have hc1 : wq.cell? ⟨gq, oq + 1, none⟩ = some (.string (str [98, 111, 120])) := by have := hrq.rec 0 (adR (nm, [98, 111, 120], [104, 111, 115, 116])) rfl 1 _ rfl; rw [Nat.zero_mul] at this; exact this
              have hc2 : wq.cell? ⟨gq, oq + 2, none⟩ = some (.string (str [104, 111, 115, 116])) := by have := hrq.rec 0 (adR (nm, [98, 111, 120], [104, 111, 115, 116])) rfl 2 _ rfl; rw [Nat.zero_mul] at this; exact this
              have q1 : ((str [98, 111, 120]).toList == [98, 111, 120]) = true := by rw [eqL]; simp
              have q2 : ((str [104, 111, 115, 116]).toList == [104, 111, 115, 116]) = true := by rw [eqL]; simp
              simp only [List.map_cons, List.map_nil, List.length_cons, List.length_nil, Nat.zero_add] at hcq ⊢
              clear hrq hE hq2 hq3
              go_wp2_with fail
              go_loop [0] (fun v => ∃ k : Nat, k ≤ s.length ∧ v = .string (str (s.drop k)) ∧ (s.drop k).dropWhile bl = s.dropWhile bl) (fun v => szOf v)
              case atStart => exact ⟨0, by omega, rfl, rfl⟩
              case round =>
                obtain ⟨j, hj, rfl, hd⟩ := hrel
                have HDL : Hid ((s.drop j).length = s.length - j) := List.length_drop
                have HDr : Hid (s.drop (j + 1) = (s.drop j).drop 1) := by rw [Hid, List.drop_drop]
                have HM : Hid (szOf (.string (str (s.drop j))) = (s.drop j).length) := str_size _
                have HD := hid hd
                have hsD := str_size (s.drop j)
                generalize s.drop j = D at *
                clear hd
                cases D with
                | nil =>
                  have HX : Hid (nm = []) := by
                    obtain ⟨z, hz⟩ := HNm.out
                    have h1 := HD.out
                    rw [hz] at h1
                    have h2 := congrArg List.length h1
                    simp at h2
                    exact List.eq_nil_of_length_eq_zero (by omega)
                  have hnm := HX.out
                  subst hnm
                  clear HDL hsD
                  have hz0 : (str ([] : Bs)).size = 0 := rfl
                  have qm : (str ([] : Bs)).toList = [] := toL []
                  have qn : (((str ([] : Bs)).extract 0 0).toList == (str ([] : Bs)).toList) = true := by rw [take_str]; simp
                  go_wp2_with fail
                  refine (alive_any (HE.out.later HBQ.out)).mono ?_
                  rintro e wz ⟨rfl, hb⟩
                  have HBz := hid (HBQ.out.trans (hb.mono HBQ.out.size))
                  clear hb
                  go_wp2_with fail
                  go_ret
                  exact ⟨rfl, HBz.out⟩
                | cons c r =>
                  have hlts : 0 < (str (c :: r)).size := by rw [hsD]; simp
                  have g : ((str (c :: r))[0]'hlts) = c := rfl
                  have hj1 : j + 1 ≤ s.length := by have := HDL.out; simp only [List.length_cons] at this; omega
                  clear HDL
                  simp only [List.length_cons] at hsD HM
                  have HDd : Hid ((str (c :: r)).extract 1 (r.length + 1) = str r) := by
                    have := drop_str (c :: r) 1
                    rw [str_size] at this
                    exact this
                  have HRl : Hid (s.drop (j + 1) = r) := by rw [Hid, HDr.out]; rfl
                  have HMr : Hid (szOf (.string (str r)) = r.length) := str_size _
                  rcases hbc : bl c
                  · have HX : Hid (c :: r = s.dropWhile bl) := by have := HD.out; rw [List.dropWhile_cons, if_neg (by simp [hbc])] at this; exact this
                    have hn : ¬ (c = 32 ∨ c = 9 ∨ c = 13 ∨ c = 10) := fun h => by rw [(bl_cases c).2 h] at hbc; simp at hbc
                    have n1 := c_ne (c := c) (k := 32) (fun h => hn (by simp [h]))
                    have n2 := c_ne (c := c) (k := 9) (fun h => hn (by simp [h]))
                    have n3 := c_ne (c := c) (k := 13) (fun h => hn (by simp [h]))
                    have n4 := c_ne (c := c) (k := 10) (fun h => hn (by simp [h]))
                    have m1 : ((c.toNat : Int) == 32) = false := by simpa using n1
                    have m2 : ((c.toNat : Int) == 9) = false := by simpa using n2
                    have m3 : ((c.toNat : Int) == 13) = false := by simpa using n3
                    have m4 : ((c.toNat : Int) == 10) = false := by simpa using n4
                    obtain ⟨z, hz⟩ := HNm.out
                    have hnz : c :: r = nm ++ z := HX.out.trans hz
                    have hle : nm.length ≤ r.length + 1 := by have := congrArg List.length hnz; simp at this; omega
                    have hle' : (nm.length : Int) ≤ (r.length : Int) + 1 := by omega
                    have hns := str_size nm
                    have qx : (((str (c :: r)).extract 0 nm.length).toList == (str nm).toList) = true := by rw [take_str, hnz, List.take_left]; simp
                    clear hbc hn n1 n2 n3 n4 hz hnz
                    go_wp2_with fail
                    refine (alive_any (HE.out.later HBQ.out)).mono ?_
                    rintro e wz ⟨rfl, hb⟩
                    have HBz := hid (HBQ.out.trans (hb.mono HBQ.out.size))
                    clear hb
                    go_wp2_with fail
                    go_ret
                    exact ⟨rfl, HBz.out⟩
                  · have HX : Hid (r.dropWhile bl = s.dropWhile bl) := by have := HD.out; rw [List.dropWhile_cons, if_pos (by simp [hbc])] at this; exact this
                    rcases (bl_cases c).1 hbc with h | h | h | h
                    · have e1 : (c.toNat : Int) = 32 := c_eq h
                      clear h hbc
                      go_wp2_with fail
                      rw [HDd.out]
                      go_round
                      case rel => exact ⟨j + 1, by omega, by rw [HRl.out], by rw [HRl.out]; exact HX.out⟩
                      case measure => rw [HM.out, HMr.out]; omega
                    · have e1 : (c.toNat : Int) = 9 := c_eq h
                      clear h hbc
                      go_wp2_with fail
                      rw [HDd.out]
                      go_round
                      case rel => exact ⟨j + 1, by omega, by rw [HRl.out], by rw [HRl.out]; exact HX.out⟩
                      case measure => rw [HM.out, HMr.out]; omega
                    · have e1 : (c.toNat : Int) = 13 := c_eq h
                      clear h hbc
                      go_wp2_with fail
                      rw [HDd.out]
                      go_round
                      case rel => exact ⟨j + 1, by omega, by rw [HRl.out], by rw [HRl.out]; exact HX.out⟩
                      case measure => rw [HM.out, HMr.out]; omega
                    · have e1 : (c.toNat : Int) = 10 := c_eq h
                      clear h hbc
                      go_wp2_with fail
                      rw [HDd.out]
                      go_round
                      case rel => exact ⟨j + 1, by omega, by rw [HRl.out], by rw [HRl.out]; exact HX.out⟩
                      case measure => rw [HM.out, HMr.out]; omega
      · rw [hp] at HPl
        have HAc := hid (ads_comma _ s t (Nat.le_refl _) hp)
        clear hp
        have hlA := ads_len _ s (Nat.le_refl _)
        have hlB := ads_len _ t (Nat.le_refl _)
        have HA3 := hid (add3 s t)
        have hzz := HA3.out
        have hlC := ads_len _ (s ++ 44 :: t) (Nat.le_refl _)
        have hlc2 : (s ++ 44 :: t).length = s.length + t.length + 1 := by simp; omega
        rw [hlc2] at hlC
        have HCC := hid (fun W => addresses_any (s ++ 44 :: t) W (by omega))
        clear hlc2
        generalize hst : s ++ 44 :: t = st at *
        clear hst
        go_enter Tryd.func8, Tryd.ntmps8
        go_wp2_with fail
        refine HPl.out.mono ?_
        rintro e w1 ⟨rfl, rfl⟩
        go_wp2_with fail
        have hal : Below w1.heap.size w1 (w1.alloc (.cells #[] 45)) := (Below.refl _ _).alloc (Nat.le_refl _) _
        refine (addresses_any s _ (by omega)).mono ?_
        rintro e w2 ⟨⟨vA, rfl, hoA⟩, hb2⟩
        have O2 := hid ((ro_zero w1).later hb2)
        have HB2 := hid (hal.trans (hb2.mono hal.size))
        obtain ⟨v3, w3, hr3, ho3, hb3⟩ := ro_app O2.out HB2.out.size hoA (by simp) (by simp; omega)
        rw [List.nil_append] at ho3
        have HR3 := hid hr3
        have O3 := hid ho3
        have HB3 := hid (HB2.out.trans hb3)
        clear hal hb2 hoA hr3 ho3 hb3
        obtain ⟨aA, cA, hvA⟩ := O3.out.sliceN (n := (adsP s).length) (by simp)
        subst hvA
        go_wp2_with (at_builtin; refine wpList_append_run rfl rfl HR3.out ?_)
        refine (addresses_any t _ (by omega)).mono ?_
        rintro e w4 ⟨⟨vB, rfl, hoB⟩, hb4⟩
        have O4 := hid (O3.out.later hb4)
        have HB4 := hid (HB3.out.trans (hb4.mono HB3.out.size))
        obtain ⟨v5, w5, hr5, ho5, hb5⟩ := ro_app O4.out HB4.out.size hoB (by simp; omega) (by simp; omega)
        rw [← List.map_append, ← HAc.out] at ho5
        have HR5 := hid hr5
        have O5 := hid ho5
        have HB5 := hid (HB4.out.trans hb5)
        clear hb4 hoB hr5 ho5 hb5
        obtain ⟨aB, cB, hvB⟩ := O5.out.sliceN (n := (adsP st).length) (by simp)
        subst hvB
        go_wp2_with (at_builtin; refine wpList_append_run rfl rfl HR5.out ?_)
        refine (HCC.out _).mono ?_
        rintro e w6 ⟨⟨vC, rfl, hoC⟩, hb6⟩
        have O6 := hid (O5.out.later hb6).rl
        have OC := hid hoC.rl
        have HB6 := hid (HB5.out.trans (hb6.mono HB5.out.size))
        clear hb6 hoC
        have C7 := people_any OC.out O6.out (by omega) (by omega)
        rw [show decide (adsP st = adsP st) = true by simp] at C7
        go_wp2_with fail
        refine C7.mono ?_
        rintro e w7 ⟨rfl, hb7⟩
        have HB7 := hid (HB6.out.trans (hb7.mono HB6.out.size))
        clear hb7 C7
        go_wp2_with fail
        have HBT := hid (HB7.out)
        go_loop [6, 38] (fun q i => ∃ k : Nat, k ≤ s.length ∧ i = .int .i64 k ∧ q = .string (str (34 :: esc (s.take k)))) (fun _ i => s.length - (intOf i).toNat)
        case atStart => exact ⟨0, by omega, rfl, rfl⟩
        case round =>
          obtain ⟨k, hk, rfl, rfl⟩ := hrel
          by_cases hlt : k < s.length
          · have hlt' : (k : Int) < s.length := by omega
            have HV : Hid (str (34 :: esc (s.take k)) ++ ⟨#[92]⟩ ++ (str s).extract k (k + 1) = str (34 :: esc (s.take (k + 1)))) := by rw [Hid, addQ _ s k hlt, esc_next s k hlt]; rfl
            have hq2 := str_size (34 :: esc (s.take k))
            have hq3 : ((34 :: esc (s.take k)).length : Int) ≤ 9000 := by rw [List.length_cons, esc_len, List.length_take]; omega
            generalize 34 :: esc (s.take k) = Q at *
            go_wp2_with fail
            go_round
            case rel => exact ⟨k + 1, by omega, by go_num, congrArg Value.string HV.out⟩
            case measure => simp [intOf]; omega
          · have hlt' : ¬ (k : Int) < s.length := by omega
            have hks : s.take k = s := List.take_of_length_le (by omega)
            rw [hks]
            have hE := addE s
            have hq2 := str_size (34 :: esc s)
            have hq3 : ((34 :: esc s).length : Int) ≤ 9000 := by rw [List.length_cons, esc_len]; omega
            have HCq := hid (fun W => addresses_any (qtd s) W (by rw [qtd_len]; omega))
            rw [qtd_ads] at HCq
            have hnl : (trimA (s ++ [32])).length ≤ s.length + 1 := by have := trimA_len (s ++ [32]); simpa using this
            have HNm := hid (trim_name s)
            clear hks
            generalize 34 :: esc s = Q at *
            generalize trimA (s ++ [32]) = nm at *
            go_wp2_with fail
            refine (HCq.out _).mono ?_
            rintro e wq ⟨⟨vq, rfl, hoq⟩, hbq⟩
            have HBQ := hid (HBT.out.trans (hbq.mono HBT.out.size))
            obtain ⟨_, aq, cq, rfl, hcq, hrq⟩ := hoq.rl
            clear hbq hoq
            rcases hrq with hrq | ⟨gq, oq, rfl, hrq, hgq⟩
            · simp at hrq
            · have hc0 : wq.cell? ⟨gq, oq, none⟩ = some (.string (str nm)) := by have := hrq.rec 0 (adR (nm, [98, 111, 120], [104, 111, 115, 116])) rfl 0 _ rfl; rw [Nat.zero_mul] at this; exact this
              have hc1 : wq.cell? ⟨gq, oq + 1, none⟩ = some (.string (str [98, 111, 120])) := by have := hrq.rec 0 (adR (nm, [98, 111, 120], [104, 111, 115, 116])) rfl 1 _ rfl; rw [Nat.zero_mul] at this; exact this
              have hc2 : wq.cell? ⟨gq, oq + 2, none⟩ = some (.string (str [104, 111, 115, 116])) := by have := hrq.rec 0 (adR (nm, [98, 111, 120], [104, 111, 115, 116])) rfl 2 _ rfl; rw [Nat.zero_mul] at this; exact this
              have q1 : ((str [98, 111, 120]).toList == [98, 111, 120]) = true := by rw [eqL]; simp
              have q2 : ((str [104, 111, 115, 116]).toList == [104, 111, 115, 116]) = true := by rw [eqL]; simp
              simp only [List.map_cons, List.map_nil, List.length_cons, List.length_nil, Nat.zero_add] at hcq ⊢
              clear hrq hE hq2 hq3
              go_wp2_with fail
              go_loop [0] (fun v => ∃ k : Nat, k ≤ s.length ∧ v = .string (str (s.drop k)) ∧ (s.drop k).dropWhile bl = s.dropWhile bl) (fun v => szOf v)
              case atStart => exact ⟨0, by omega, rfl, rfl⟩
              case round =>
                obtain ⟨j, hj, rfl, hd⟩ := hrel
                have HDL : Hid ((s.drop j).length = s.length - j) := List.length_drop
                have HDr : Hid (s.drop (j + 1) = (s.drop j).drop 1) := by rw [Hid, List.drop_drop]
                have HM : Hid (szOf (.string (str (s.drop j))) = (s.drop j).length) := str_size _
                have HD := hid hd
                have hsD := str_size (s.drop j)
                generalize s.drop j = D at *
                clear hd
                cases D with
                | nil =>
                  have HX : Hid (nm = []) := by
                    obtain ⟨z, hz⟩ := HNm.out
                    have h1 := HD.out
                    rw [hz] at h1
                    have h2 := congrArg List.length h1
                    simp at h2
                    exact List.eq_nil_of_length_eq_zero (by omega)
                  have hnm := HX.out
                  subst hnm
                  clear HDL hsD
                  have hz0 : (str ([] : Bs)).size = 0 := rfl
                  have qm : (str ([] : Bs)).toList = [] := toL []
                  have qn : (((str ([] : Bs)).extract 0 0).toList == (str ([] : Bs)).toList) = true := by rw [take_str]; simp
                  go_wp2_with fail
                  refine (alive_any (HE.out.later HBQ.out)).mono ?_
                  rintro e wz ⟨rfl, hb⟩
                  have HBz := hid (HBQ.out.trans (hb.mono HBQ.out.size))
                  clear hb
                  go_wp2_with fail
                  go_ret
                  exact ⟨rfl, HBz.out⟩
                | cons c r =>
                  have hlts : 0 < (str (c :: r)).size := by rw [hsD]; simp
                  have g : ((str (c :: r))[0]'hlts) = c := rfl
                  have hj1 : j + 1 ≤ s.length := by have := HDL.out; simp only [List.length_cons] at this; omega
                  clear HDL
                  simp only [List.length_cons] at hsD HM
                  have HDd : Hid ((str (c :: r)).extract 1 (r.length + 1) = str r) := by
                    have := drop_str (c :: r) 1
                    rw [str_size] at this
                    exact this
                  have HRl : Hid (s.drop (j + 1) = r) := by rw [Hid, HDr.out]; rfl
                  have HMr : Hid (szOf (.string (str r)) = r.length) := str_size _
                  rcases hbc : bl c
                  · have HX : Hid (c :: r = s.dropWhile bl) := by have := HD.out; rw [List.dropWhile_cons, if_neg (by simp [hbc])] at this; exact this
                    have hn : ¬ (c = 32 ∨ c = 9 ∨ c = 13 ∨ c = 10) := fun h => by rw [(bl_cases c).2 h] at hbc; simp at hbc
                    have n1 := c_ne (c := c) (k := 32) (fun h => hn (by simp [h]))
                    have n2 := c_ne (c := c) (k := 9) (fun h => hn (by simp [h]))
                    have n3 := c_ne (c := c) (k := 13) (fun h => hn (by simp [h]))
                    have n4 := c_ne (c := c) (k := 10) (fun h => hn (by simp [h]))
                    have m1 : ((c.toNat : Int) == 32) = false := by simpa using n1
                    have m2 : ((c.toNat : Int) == 9) = false := by simpa using n2
                    have m3 : ((c.toNat : Int) == 13) = false := by simpa using n3
                    have m4 : ((c.toNat : Int) == 10) = false := by simpa using n4
                    obtain ⟨z, hz⟩ := HNm.out
                    have hnz : c :: r = nm ++ z := HX.out.trans hz
                    have hle : nm.length ≤ r.length + 1 := by have := congrArg List.length hnz; simp at this; omega
                    have hle' : (nm.length : Int) ≤ (r.length : Int) + 1 := by omega
                    have hns := str_size nm
                    have qx : (((str (c :: r)).extract 0 nm.length).toList == (str nm).toList) = true := by rw [take_str, hnz, List.take_left]; simp
                    clear hbc hn n1 n2 n3 n4 hz hnz
                    go_wp2_with fail
                    refine (alive_any (HE.out.later HBQ.out)).mono ?_
                    rintro e wz ⟨rfl, hb⟩
                    have HBz := hid (HBQ.out.trans (hb.mono HBQ.out.size))
                    clear hb
                    go_wp2_with fail
                    go_ret
                    exact ⟨rfl, HBz.out⟩
                  · have HX : Hid (r.dropWhile bl = s.dropWhile bl) := by have := HD.out; rw [List.dropWhile_cons, if_pos (by simp [hbc])] at this; exact this
                    rcases (bl_cases c).1 hbc with h | h | h | h
                    · have e1 : (c.toNat : Int) = 32 := c_eq h
                      clear h hbc
                      go_wp2_with fail
                      rw [HDd.out]
                      go_round
                      case rel => exact ⟨j + 1, by omega, by rw [HRl.out], by rw [HRl.out]; exact HX.out⟩
                      case measure => rw [HM.out, HMr.out]; omega
                    · have e1 : (c.toNat : Int) = 9 := c_eq h
                      clear h hbc
                      go_wp2_with fail
                      rw [HDd.out]
                      go_round
                      case rel => exact ⟨j + 1, by omega, by rw [HRl.out], by rw [HRl.out]; exact HX.out⟩
                      case measure => rw [HM.out, HMr.out]; omega
                    · have e1 : (c.toNat : Int) = 13 := c_eq h
                      clear h hbc
                      go_wp2_with fail
                      rw [HDd.out]
                      go_round
                      case rel => exact ⟨j + 1, by omega, by rw [HRl.out], by rw [HRl.out]; exact HX.out⟩
                      case measure => rw [HM.out, HMr.out]; omega
                    · have e1 : (c.toNat : Int) = 10 := c_eq h
                      clear h hbc
                      go_wp2_with fail
                      rw [HDd.out]
                      go_round
                      case rel => exact ⟨j + 1, by omega, by rw [HRl.out], by rw [HRl.out]; exact HX.out⟩
                      case measure => rw [HM.out, HMr.out]; omega

theorem witness (os : Os) {H : Type} (enc : TypeId × Value → H) :
    (OpenSpec.ofChange Rows.headerPeopleSpec).preRow enc Tryd.prog Tryd.f8 Rows.headerPeopleRow.domain false Rows.headerPeopleRow.laid ((laidWorld os).forCall (fun _ _ => 0) ⟨#[], #[.string ⟨#[]⟩, .string ⟨#[]⟩], []⟩).memory #[.string ⟨#[]⟩, .string ⟨#[]⟩] := by
  have hw : (DataW.whole enc Tryd.prog ((laidWorld os).forCall (fun _ _ => 0) ⟨#[], #[.string ⟨#[]⟩, .string ⟨#[]⟩], []⟩).memory Tryd.f8.params.toList Rows.headerPeopleSpec.vars false (#[.string ⟨#[]⟩, .string ⟨#[]⟩] : Array Value).toList 8).map (fun x => (x.1, x.2.1)) =
      some ([.lit (.string []), .lit (.string [])], []) := by kernel_rfl
  obtain ⟨⟨x1, x2, x3⟩, hx, hx1⟩ := Option.map_eq_some_iff.1 hw
  simp only [Prod.mk.injEq] at hx1
  obtain ⟨rfl, rfl⟩ := hx1
  exact OpenSpec.preRow_of_cond 8 hx (by kernel_rfl) (fun k hk => by cases hk) (by kernel_rfl) (laid_met os _)

set_option maxRecDepth 100000 in
set_option maxHeartbeats 2000000 in
theorem lifted (os : Os) (started : os.Started) (H : Type) (enc : TypeId × Value → H) (F : Stop.Interp) :
    ReturnsInHanded {} Tryd.checked os 8 .any ((OpenSpec.ofChange Rows.headerPeopleSpec).preRow enc Tryd.prog Tryd.f8 Rows.headerPeopleRow.domain false Rows.headerPeopleRow.laid) (((OpenSpec.ofChange Rows.headerPeopleSpec).at F).post enc Tryd.prog Tryd.f8 false true false false) := by
  refine returnsInHanded_of_row (C := Tryd.checked) (s := OpenSpec.ofChange Rows.headerPeopleSpec) own started (by kernel_rfl) Tryd.func8
    (witness_row_atRef (enc := enc) (C := Tryd.checked) false (laidWorld os) #[.string ⟨#[]⟩, .string ⟨#[]⟩] rfl (by kernel_rfl) (by kernel_rfl) (by kernel_rfl) (witness os enc)) ?_
  intro W base args ds gs before hval0 hW _ _ _ hL hsh _
  have hval : ∀ (j : Nat) t v, Tryd.f8.params[j]? = some t → args[j]? = some v → Value.okWide Tryd.prog W .any base t v := hval0
  have hW' := hW
  obtain ⟨p, q, hA0, hV, rfl, hfz, hnd⟩ := hW
  have hA : DataW.TrodAll enc Tryd.prog W 0 (fun _ => true) true Tryd.f8.params.toList args.toList ds p := hA0
  rw [Tryd.params8] at hA hval
  obtain ⟨v0, vs0, d0, ds0, p0, q0, hargs, rfl, rfl, h0, r0⟩ := trodAll_cons hA
  obtain ⟨v1, vs1, d1, ds1, p1, q1, rfl, rfl, rfl, h1, r1⟩ := trodAll_cons r0
  obtain ⟨rfl, rfl, rfl⟩ := trodAll_nil r1
  obtain rfl : args = #[v0, v1] := by cases args; simp_all
  obtain ⟨rfl, rfl⟩ := trodVars_none hV
  obtain ⟨a0, rfl, rfl, rfl, w0⟩ := open_string Tryd.underlying9 (hval 0 9 v0 rfl rfl) h0
  obtain ⟨a1, rfl, rfl, rfl, w1⟩ := open_string Tryd.underlying9 (hval 1 9 v1 rfl rfl) h1
  clear hA0 hval0
  refine (walk a0 a1 (env_of hsh) w0 w1).mono ?_
  rintro e W' ⟨rfl, bel⟩
  exact ⟨_, rfl, _, _, _, [], _, [], hW', trodAll_mk1 (shut_bool Tryd.underlying4 _), (trodAll_cons_mk (shut_string Tryd.underlying9 w0) (trodAll_cons_mk (shut_string Tryd.underlying9 w1) trodAll_mk0)), rfl, bel.frame _, fun h => by cases h⟩

theorem over : Rows.headerPeopleRow.holds Tryd.pinned (OpenSpec.ofChange Rows.headerPeopleSpec) :=
  OpenClaim.holds_of_cond 8 Tryd.f8 rfl rfl rfl rfl rfl rfl rfl ⟨rfl, rfl, rfl, rfl, rfl⟩ rfl rfl rfl rfl rfl (by kernel_rfl) Tryd.func8 (by kernel_rfl)
    (of_decide_eq_true (by kernel_rfl)) (by unfold Func.isWrapper; first | (rw [if_pos (by decide +kernel)]; kernel_rfl) | (rw [if_neg (by decide +kernel)]; exact ⟨rfl, rfl⟩))
    (fun os started H enc _ F => by rw [OpenClaim.pre_eq_preRow]; exact lifted os started H enc F)

/-- No parameter wants a stand-in. -/
theorem plain (f : FuncId) (fn : Func) (hf : Tryd.pinned.checked.prog.funcNamed Rows.headerPeopleRow.func = some f) (hfn : Tryd.pinned.checked.prog.funcs[f]? = some fn) :
    false = Tryd.pinned.checked.prog.looks [] ∧ ∀ (j : Nat) t, fn.params[j]? = some t → Tryd.pinned.checked.prog.wantsStandIn t = false := by
  obtain rfl : f = 8 := Option.some.inj ((show Tryd.prog.funcNamed Rows.headerPeopleRow.func = some 8 by kernel_rfl).symm.trans hf) |>.symm
  obtain rfl : fn = Tryd.f8 := (Option.some.inj (Tryd.func8.symm.trans hfn)).symm
  refine ⟨by kernel_rfl, fun j t ht => ?_⟩
  rw [Tryd.params8] at ht
  have hm := Array.mem_of_getElem? ht
  simp only [List.mem_toArray, List.mem_cons, List.not_mem_nil, or_false, or_self] at hm
  rcases hm with rfl
  · exact (show Tryd.prog.wantsStandIn 9 = false by kernel_rfl)
end Go.Proofs.YtemgpghjolpneaaDoor.headerPeople
namespace Go.Proofs.YtemgpghjolpneaaDoor
/-- THE STATEMENT. -/
theorem headerPeople_holds : Rows.HeaderPeopleCardSaid :=
  Claim7.holds_tied_plain_at .later [] _ _ _ _ headerPeople.over (fun _ h => by cases h) (by kernel_rfl) (fun _ h => by cases h) headerPeople_row_tie rfl ⟨rfl, rfl⟩ (by kernel_rfl) rfl headerPeople.plain (by kernel_rfl)
#print axioms headerPeople_holds
end Go.Proofs.YtemgpghjolpneaaDoor
