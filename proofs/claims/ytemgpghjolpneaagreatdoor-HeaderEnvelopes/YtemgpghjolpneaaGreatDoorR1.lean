/- What this text holds: the document's lines, a line without its end, and the name that a line begins with. -/
import Derived.Test.YtemgpghjolpneaaGreatDoorM15
import Derived.Test.YtemgpghjolpneaaGreatDoorP6
namespace Go.Proofs.YtemgpghjolpneaaGreatDoor
open Go.RowKit
set_option linter.unusedVariables false
set_option linter.unusedSimpArgs false

theorem stop_at (s : Bs) (p k : Nat) (hp : p ≤ k) (hk : k < s.length) (hj : k - p < ln (s.drop p)) : (k + 1 - p = ln (s.drop p) ↔ s[k] = 10 ∨ k + 1 = s.length) := by
  have hst := ln_stop (s.drop p) (k - p) (by rw [List.length_drop]; omega) hj
  have hat : (s.drop p)[k - p]'(by rw [List.length_drop]; omega) = s[k] := by
    rw [List.getElem_drop]
    congr 1
    omega
  rw [hat, List.length_drop] at hst
  constructor
  · intro h
    rcases hst.1 (by omega) with h1 | h1
    · exact .inl h1
    · exact .inr (by omega)
  · rintro (h | h)
    · have := hst.2 (.inl h); omega
    · have := hst.2 (.inr (by omega)); omega
set_option maxRecDepth 100000 in
set_option maxHeartbeats 4000000 in
theorem rlines_any (s : Bs) (w : World) (hs : s.length ≤ 1000000) :
    Calls Tryz.prog 40 #[.string (str s)] w fun e w' => (∃ v, e = .returned v ∧ RO w' w.heap.size 9 1 v ((lines s).map sR)) ∧ Below w.heap.size w w' := by
  have hsz := str_size s
  go_enter Tryz.func40, Tryz.ntmps40
  go_wp2_with fail
  go_loopw [3, 4, 5] (fun v f i wr => ∃ (p k : Nat) (L : List Bs), p ≤ k ∧ k ≤ s.length ∧ f = .int .i64 p ∧ i = .int .i64 k ∧ (s.drop p ≠ [] → k - p < ln (s.drop p)) ∧ RO wr w.heap.size 9 1 v (L.map sR) ∧ Below w.heap.size w wr ∧ L ++ lines (s.drop p) = lines s ∧ L.length ≤ p) (fun _ _ i _ => s.length - (intOf i).toNat)
  case atStart => exact ⟨0, 0, [], by omega, by omega, rfl, rfl, fun h => ln_pos _ h, RO.nil _ _ _ _, Below.refl _ _, by simp, by simp⟩
  case round =>
    obtain ⟨p, k, L, hp, hk, rfl, rfl, hjl, ho, hb, he, hL⟩ := hrel
    have HO := hid ho
    have HB := hid hb
    have HE := hid he
    have HJ := hid hjl
    clear ho hb he hjl
    by_cases hlt : k < s.length
    · have hlt' : (k : Int) < s.length := by omega
      have hlts : k < (str s).size := by omega
      have HQ0 : Hid (s.drop p ≠ []) := by
        intro e
        have := congrArg List.length e
        simp at this
        omega
      have hj := HJ.out HQ0.out
      have HST := hid (stop_at s p k hp hlt hj)
      have g : ((str s)[k]'hlts) = s[k] := rfl
      generalize s[k] = c at *
      by_cases hstop : c = 10 ∨ k + 1 = s.length
      · have HLn := hid (HST.out.2 hstop)
        have HX : Hid ((str s).extract p (k + 1) = str ((s.drop p).take (ln (s.drop p)))) := by
          rw [Hid, mid_str, ← HLn.out]
        have HS := hid (lines_step (s.drop p) HQ0.out)
        have HDr : Hid ((s.drop p).drop (ln (s.drop p)) = s.drop (k + 1)) := by
          rw [Hid, ← HLn.out, List.drop_drop]
          congr 1
          omega
        obtain ⟨v', w', hr', ho', hb'⟩ := ro_one Tryz.underlying24 Tryz.info9 rfl (by omega) (by omega) HO.out HB.out.size (by simp; omega) (sR ((s.drop p).take (ln (s.drop p)))) rfl wr.heap.size rfl
        have HR' : Hid ((Builtin.append_ #[24, 24] 24 #[u3, .slice (some ⟨wr.heap.size, 0, none⟩) 1 1]).run Tryz.prog (wr.alloc (.cells #[.string ((str s).extract p (k + 1))] 9)) = .ok v' w') := by
          rw [Hid, HX.out]; exact hr'
        have HO' : Hid (RO w' w.heap.size 9 1 v' ((L ++ [(s.drop p).take (ln (s.drop p))]).map sR)) := by rw [Hid, List.map_append]; exact ho'
        have HB' := hid (HB.out.trans hb')
        clear hr' ho' hb'
        obtain ⟨a0, c0, hv0⟩ := HO.out.sliceN (n := L.length) (by simp)
        obtain ⟨a5, c5, hv5⟩ := HO'.out.sliceN (n := L.length + 1) (by simp)
        subst hv0 hv5
        by_cases hc : c = 10
        · have e1 : (c.toNat : Int) = 10 := c_eq hc
          clear hc hstop HST
          go_wp2_with (at_builtin; refine wpList_append_run rfl rfl HR'.out ?_)
          go_roundw
          case rel =>
            refine ⟨k + 1, k + 1, L ++ [(s.drop p).take (ln (s.drop p))], by omega, by omega, by go_num, by go_num, fun h => by have := ln_pos _ h; omega, HO'.out, HB'.out, ?_, by simp; omega⟩
            rw [List.append_assoc, List.singleton_append, ← HDr.out, ← HS.out]; exact HE.out
          case measure => simp [intOf]; omega
        · have e1 : ¬ (c.toNat : Int) = 10 := c_ne hc
          have b1 : ((c.toNat : Int) == 10) = false := by simpa using e1
          have e2 : (k : Int) = (s.length : Int) - 1 := by
            rcases hstop with h | h
            · exact absurd h hc
            · omega
          have b2 : ((k : Int) == (s.length : Int) - 1) = true := by simpa using e2
          clear hc hstop HST e2
          go_wp2_with (at_builtin; refine wpList_append_run rfl rfl HR'.out ?_)
          go_roundw
          case rel =>
            refine ⟨k + 1, k + 1, L ++ [(s.drop p).take (ln (s.drop p))], by omega, by omega, by go_num, by go_num, fun h => by have := ln_pos _ h; omega, HO'.out, HB'.out, ?_, by simp; omega⟩
            rw [List.append_assoc, List.singleton_append, ← HDr.out, ← HS.out]; exact HE.out
          case measure => simp [intOf]; omega
      · have e1 : ¬ (c.toNat : Int) = 10 := c_ne (fun h => hstop (.inl h))
        have b1 : ((c.toNat : Int) == 10) = false := by simpa using e1
        have e2 : ¬ (k : Int) = (s.length : Int) - 1 := fun h => hstop (.inr (by omega))
        have b2 : ((k : Int) == (s.length : Int) - 1) = false := by simpa using e2
        have HNo : Hid (k + 1 - p < ln (s.drop p)) := by
          have h1 := HST.out.1
          rcases Nat.lt_or_ge (k + 1 - p) (ln (s.drop p)) with h | h
          · exact h
          · exact absurd (h1 (by omega)) hstop
        clear hstop HST e2
        go_wp2_with fail
        go_roundw
        case rel => exact ⟨p, k + 1, L, by omega, by omega, rfl, by go_num, fun _ => HNo.out, HO.out, HB.out, HE.out, hL⟩
        case measure => simp [intOf]; omega
    · have hlt' : ¬ (k : Int) < s.length := by omega
      have HX : Hid (L = lines s) := by
        have h1 := HE.out
        have h0 : s.drop p = [] := by
          rcases Classical.em (s.drop p = []) with h | h
          · exact h
          · have := HJ.out h
            have h2 := ln_le (s.drop p)
            rw [List.length_drop] at h2
            omega
        rw [h0, lines_nil, List.append_nil] at h1
        exact h1
      go_wp2_with fail
      go_ret
      rw [← HX.out]
      exact ⟨⟨_, rfl, HO.out⟩, HB.out⟩

theorem bare_none {l : Bs} (h : l.getLast? ≠ some 10) : bare l = l := by unfold bare; rw [if_neg h]
theorem bare_two {l : Bs} (h : l.getLast? = some 10) (h2 : l.dropLast.getLast? = some 13) : bare l = l.take (l.length - 2) := by
  unfold bare
  rw [if_pos h, if_pos h2, List.dropLast_eq_take, List.dropLast_eq_take, List.take_take, List.length_take]
  congr 1
  omega
theorem bare_one {l : Bs} (h : l.getLast? = some 10) (h2 : l.dropLast.getLast? ≠ some 13) : bare l = l.take (l.length - 1) := by
  unfold bare
  rw [if_pos h, if_neg h2, List.dropLast_eq_take]
theorem last_at (l : Bs) (h : 0 < l.length) : l.getLast? = some (l[l.length - 1]'(by omega)) := by
  have hn : l ≠ [] := List.length_pos_iff.1 h
  rw [List.getLast?_eq_some_getLast hn, List.getLast_eq_getElem hn]
theorem last_at2 (l : Bs) (h : 1 < l.length) : l.dropLast.getLast? = some (l[l.length - 2]'(by omega)) := by
  rw [last_at l.dropLast (by simp; omega)]
  congr 1
  rw [List.getElem_dropLast]
  congr 1
  simp
  omega
set_option maxRecDepth 100000 in
set_option maxHeartbeats 4000000 in
theorem rbare_any (l : Bs) (w : World) (hl : l.length ≤ 1000000) : Calls Tryz.prog 23 #[.string (str l)] w fun e w' => e = .returned (.string (str (bare l))) ∧ w' = w := by
  have hsz := str_size l
  have HT : Hid (∀ m, (str l).extract 0 m = str (l.take m)) := take_str l
  by_cases h0 : l.length = 0
  · have e : l = [] := List.eq_nil_of_length_eq_zero h0
    subst e
    have hz0 : (str ([] : Bs)).size = 0 := rfl
    clear hsz
    go_enter Tryz.func23, Tryz.ntmps23
    go_wp2_with fail
    go_ret
    exact ⟨rfl, rfl⟩
  · have hn0 : ¬ (l.length : Int) = 0 := by omega
    have hls : l.length - 1 < (str l).size := by omega
    have g1 : ((str l)[l.length - 1]'hls) = l[l.length - 1]'(by omega) := rfl
    have HL := hid (last_at l (by omega))
    have HLn : Hid (l ≠ []) := by intro e; subst e; exact h0 rfl
    have hne : ¬ l = [] := HLn.out
    by_cases hc : l[l.length - 1]'(by omega) = 10
    · have e1 : (((l[l.length - 1]'(by omega)).toNat : Int)) = 10 := c_eq hc
      have HL10 : Hid (l.getLast? = some 10) := by rw [Hid, HL.out, hc]
      by_cases h1 : 1 < l.length
      · have h1' : (1 : Int) < l.length := by omega
        have hls2 : l.length - 2 < (str l).size := by omega
        have g2 : ((str l)[l.length - 2]'hls2) = l[l.length - 2]'(by omega) := rfl
        have HL2 := hid (last_at2 l h1)
        by_cases hd : l[l.length - 2]'(by omega) = 13
        · have e2 : (((l[l.length - 2]'(by omega)).toNat : Int)) = 13 := c_eq hd
          have HX := hid (bare_two HL10.out (by rw [HL2.out, hd]))
          generalize l[l.length - 1]'(by omega) = ca at *
          generalize l[l.length - 2]'(by omega) = cb at *
          clear hc hd
          go_enter Tryz.func23, Tryz.ntmps23
          go_wp2_with fail
          go_ret
          refine ⟨?_, rfl⟩
          rw [HX.out, ← HT.out]
          rfl
        · have e2 : ¬ (((l[l.length - 2]'(by omega)).toNat : Int)) = 13 := c_ne hd
          have b2 : ((((l[l.length - 2]'(by omega)).toNat : Int)) == 13) = false := by simpa using e2
          have HX := hid (bare_one HL10.out (by rw [HL2.out]; intro e; exact hd (Option.some.inj e)))
          generalize l[l.length - 1]'(by omega) = ca at *
          generalize l[l.length - 2]'(by omega) = cb at *
          clear hc hd
          go_enter Tryz.func23, Tryz.ntmps23
          go_wp2_with fail
          go_ret
          refine ⟨?_, rfl⟩
          rw [HX.out, ← HT.out]
          rfl
      · have h1' : ¬ (1 : Int) < l.length := by omega
        have HX := hid (bare_one HL10.out (by
          have : l.dropLast = [] := List.eq_nil_of_length_eq_zero (by simp; omega)
          rw [this]; simp))
        generalize l[l.length - 1]'(by omega) = ca at *
        clear hc
        go_enter Tryz.func23, Tryz.ntmps23
        go_wp2_with fail
        go_ret
        refine ⟨?_, rfl⟩
        rw [HX.out, ← HT.out]
        rfl
    · have e1 : ¬ (((l[l.length - 1]'(by omega)).toNat : Int)) = 10 := c_ne hc
      have b1 : ((((l[l.length - 1]'(by omega)).toNat : Int)) == 10) = false := by simpa using e1
      have b2 : ((((l[l.length - 1]'(by omega)).toNat : Int)) != 10) = true := by simpa using e1
      have HX := hid (bare_none (l := l) (by rw [HL.out]; intro e; exact hc (Option.some.inj e)))
      generalize l[l.length - 1]'(by omega) = ca at *
      clear hc
      go_enter Tryz.func23, Tryz.ntmps23
      go_wp2_with fail
      go_ret
      exact ⟨by rw [HX.out]; rfl, rfl⟩

theorem tw_yes (a r : Bs) (ha : ∀ x ∈ a, good x = true ∧ x ≠ 58) : (a ++ 58 :: r).takeWhile (· != 58) = a := by
  induction a with
  | nil => simp
  | cons c a ih =>
    rw [List.cons_append, List.takeWhile_cons, if_pos (by simp [(ha c List.mem_cons_self).2]), ih (fun x hx => ha x (List.mem_cons_of_mem _ hx))]
theorem tw_no (a : Bs) (ha : ∀ x ∈ a, good x = true ∧ x ≠ 58) (c : UInt8) (hc : c ≠ 58) (r : Bs) : c ∈ (a ++ c :: r).takeWhile (· != 58) := by
  induction a with
  | nil => simp [List.takeWhile_cons, hc]
  | cons d a ih =>
    rw [List.cons_append, List.takeWhile_cons, if_pos (by simp [(ha d List.mem_cons_self).2])]
    exact List.mem_cons_of_mem _ (ih (fun x hx => ha x (List.mem_cons_of_mem _ hx)))
theorem tw_self (a : Bs) (ha : ∀ x ∈ a, good x = true ∧ x ≠ 58) : a.takeWhile (· != 58) = a := by
  induction a with
  | nil => rfl
  | cons c a ih => rw [List.takeWhile_cons, if_pos (by simp [(ha c List.mem_cons_self).2]), ih (fun x hx => ha x (List.mem_cons_of_mem _ hx))]
theorem name_yes (a r : Bs) (ha : ∀ x ∈ a, good x = true ∧ x ≠ 58) : nameB (a ++ 58 :: r) = a := by
  rw [nameB_is (by rw [tw_yes a r ha]; simp) (by rw [tw_yes a r ha]; exact List.all_eq_true.2 fun c h => (ha c h).1), tw_yes a r ha]
theorem name_no (a : Bs) (ha : ∀ x ∈ a, good x = true ∧ x ≠ 58) (c : UInt8) (hc : c ≠ 58) (hg : good c = false) (r : Bs) : nameB (a ++ c :: r) = [] := by
  refine nameB_nil ?_
  rintro ⟨_, h⟩
  have := List.all_eq_true.1 h c (tw_no a ha c hc r)
  rw [hg] at this
  exact absurd this (by simp)
theorem name_colon (l : Bs) (k : Nat) (hk : k < l.length) (ha : ∀ c ∈ l.take k, good c = true ∧ c ≠ 58) (hc : l[k] = 58) : nameB l = l.take k := by
  have hl : l = l.take k ++ 58 :: l.drop (k + 1) := by rw [← hc, List.getElem_cons_drop, List.take_append_drop]
  exact (congrArg nameB hl).trans (name_yes _ _ ha)
theorem name_bad (l : Bs) (k : Nat) (hk : k < l.length) (ha : ∀ c ∈ l.take k, good c = true ∧ c ≠ 58) (hc : l[k] ≠ 58) (hg : good l[k] = false) : nameB l = [] := by
  have hl : l = l.take k ++ l[k] :: l.drop (k + 1) := by rw [List.getElem_cons_drop, List.take_append_drop]
  exact (congrArg nameB hl).trans (name_no _ ha _ hc hg _)
theorem name_none (l : Bs) (ha : ∀ c ∈ l, good c = true ∧ c ≠ 58) : nameB l = [] := by
  refine nameB_nil ?_
  rintro ⟨h, _⟩
  rw [tw_self l ha] at h
  omega
set_option maxRecDepth 100000 in
set_option maxHeartbeats 4000000 in
theorem rname_any (l : Bs) (w : World) (hl : l.length ≤ 1000000) : Calls Tryz.prog 41 #[.string (str l)] w fun e w' => e = .returned (.string (str (nameB l))) ∧ w' = w := by
  have hsz := str_size l
  have HT : Hid (∀ m, (str l).extract 0 m = str (l.take m)) := take_str l
  go_enter Tryz.func41, Tryz.ntmps41
  go_wp2_with fail
  go_loop [3] (fun i => ∃ k : Nat, k ≤ l.length ∧ i = .int .i64 k ∧ ∀ c ∈ l.take k, good c = true ∧ c ≠ 58) (fun i => l.length - (intOf i).toNat)
  case atStart => exact ⟨0, by omega, rfl, by simp⟩
  case round =>
    obtain ⟨k, hk, rfl, ha⟩ := hrel
    have HA := hid ha
    clear ha
    by_cases hlt : k < l.length
    · have hlt' : (k : Int) < l.length := by omega
      have hlts : k < (str l).size := by omega
      have g : ((str l)[k]'hlts) = l[k] := rfl
      have H1 := hid (name_colon l k hlt HA.out)
      have H2 := hid (name_bad l k hlt HA.out)
      have H3 : Hid (good l[k] = true → l[k] ≠ 58 → ∀ c ∈ l.take (k + 1), good c = true ∧ c ≠ 58) := fun h1 h2 c hc => by
        rw [List.take_succ_eq_append_getElem hlt] at hc
        rcases List.mem_append.1 hc with h | h
        · exact HA.out c h
        · rw [List.mem_singleton] at h; subst h; exact ⟨h1, h2⟩
      have HG : Hid (good l[k] = (decide (32 < l[k].toNat) && decide (l[k].toNat ≤ 126))) := rfl
      generalize l[k] = c at *
      by_cases hc : c = 58
      · have e1 : (c.toNat : Int) = 58 := c_eq hc
        have HX := hid (H1.out hc)
        clear hc
        go_wp2_with fail
        go_ret
        refine ⟨?_, rfl⟩
        rw [HX.out, ← HT.out]
        rfl
      · have e1 : ¬ (c.toNat : Int) = 58 := c_ne hc
        by_cases h3 : (c.toNat : Int) < 33
        · have HX := hid (H2.out hc (by rw [HG.out]; simp; omega))
          clear hc
          go_wp2_with fail
          go_ret
          exact ⟨by rw [HX.out]; rfl, rfl⟩
        · by_cases h4 : (126 : Int) < c.toNat
          · have HX := hid (H2.out hc (by rw [HG.out]; simp; omega))
            clear hc
            go_wp2_with fail
            go_ret
            exact ⟨by rw [HX.out]; rfl, rfl⟩
          · have HX := hid (H3.out (by rw [HG.out]; simp; omega) hc)
            clear hc
            go_wp2_with fail
            go_round
            case rel => exact ⟨k + 1, by omega, by go_num, HX.out⟩
            case measure => simp [intOf]; omega
    · have hlt' : ¬ (k : Int) < l.length := by omega
      have HX : Hid (nameB l = []) := name_none l (fun c hc => HA.out c (by rw [List.take_of_length_le (by omega)]; exact hc))
      go_wp2_with fail
      go_ret
      exact ⟨by rw [HX.out]; rfl, rfl⟩
end Go.Proofs.YtemgpghjolpneaaGreatDoor
