/- What this text holds: the document's pieces between bytes of a kind, and its number. -/
import Derived.Test.YtiiegjdclpkeeaaGreatDoorM14
namespace Go.Proofs.YtiiegjdclpkeeaaGreatDoor
open Go.RowKit
set_option linter.unusedVariables false
set_option linter.unusedSimpArgs false

def glue (p : Bs) (l : List Bs) : List Bs := match l with | [] => [p] | q :: qs => (p ++ q) :: qs
theorem glue_nil (c : UInt8) (l : Bs) : glue [] (splB c l) = splB c l := by
  rcases h : splB c l with _ | ⟨q, qs⟩
  · exact absurd h (splB_ne c l)
  · rfl
theorem spl_at (c : UInt8) (s p : Bs) (x : UInt8) : splB c (x :: s) = if x = c then [] :: splB c s else glue [x] (splB c s) := by
  rw [splB]
  split
  · rfl
  · rcases h : splB c s with _ | ⟨q, qs⟩ <;> rfl
theorem glue_glue (p q : Bs) (l : List Bs) (h : l ≠ []) : glue p (glue q l) = glue (p ++ q) l := by
  cases l with
  | nil => exact absurd rfl h
  | cons a l => simp [glue]
/-- What is still to come, from f on, with i as the next byte. -/
def toCome (c : UInt8) (s : Bs) (f i : Nat) : List Bs := glue ((s.drop f).take (i - f)) (splB c (s.drop i))
theorem toCome_end (c : UInt8) (s : Bs) (f : Nat) (hf : f ≤ s.length) : toCome c s f s.length = [(s.drop f).take (s.length - f)] := by
  unfold toCome
  rw [List.drop_length, splB]
  simp [glue]
theorem toCome_cut (c : UInt8) (s : Bs) (f i : Nat) (hi : i < s.length) (hf : f ≤ i) (h : s[i] = c) : toCome c s f i = (s.drop f).take (i - f) :: toCome c s (i + 1) (i + 1) := by
  unfold toCome
  rw [List.drop_eq_getElem_cons hi, spl_at c _ [] _, if_pos h, Nat.sub_self, List.take_zero, glue_nil]
  simp [glue]
theorem toCome_on (c : UInt8) (s : Bs) (f i : Nat) (hi : i < s.length) (hf : f ≤ i) (h : ¬ s[i] = c) : toCome c s f i = toCome c s f (i + 1) := by
  unfold toCome
  rw [List.drop_eq_getElem_cons hi, spl_at c _ [] _, if_neg h, glue_glue _ _ _ (splB_ne _ _)]
  congr 1
  rw [show i + 1 - f = (i - f) + 1 by omega, List.take_succ_eq_append_getElem (by rw [List.length_drop]; omega)]
  congr 1
  simp [show f + (i - f) = i by omega]
theorem go_zero (w : World) : GO eS (w.alloc (.cells #[] 9)) w.heap.size (.slice (some ⟨w.heap.size, 0, none⟩) 0 0) [] :=
  ⟨rfl, .inr ⟨w.heap.size, 0, #[], rfl, Nat.le_refl _, heap_alloc_new _ _, Nat.le_refl _, Nat.zero_le _, rfl, rfl⟩⟩
set_option maxRecDepth 100000 in
set_option maxHeartbeats 4000000 in
theorem rsplit_any (s : Bs) (c : UInt8) (w : World) (hl : s.length ≤ 1000000) :
    Calls Tryz.prog 27 #[.string (str s), .int .u8 c.toNat] w fun e w' => (∃ v, e = .returned v ∧ GO eS w' w.heap.size v (splB c s)) ∧ Below w.heap.size w w' := by
  have hsz := str_size s
  have HZ := hid (go_zero w)
  have HBz : Hid (Below w.heap.size w (w.alloc (.cells #[] 9))) := (Below.refl _ _).alloc (Nat.le_refl _) _
  have H0 : Hid (splB c s = [] ++ toCome c s 0 0) := by unfold toCome; rw [Hid]; simp [glue_nil]
  go_enter Tryz.func27, Tryz.ntmps27
  go_wp2_with fail
  go_loopw [5, 6, 7] (fun v f i wr => ∃ (j k : Nat) (L : List Bs), f = .int .i64 j ∧ i = .int .i64 k ∧ j ≤ s.length + 1 ∧ L.length ≤ k ∧ GO eS wr w.heap.size v L ∧ Below w.heap.size w wr ∧ ((k ≤ s.length ∧ j ≤ k ∧ splB c s = L ++ toCome c s j k) ∨ (k = s.length + 1 ∧ splB c s = L))) (fun _ _ i _ => s.length + 1 - (intOf i).toNat)
  case atStart => exact ⟨0, 0, [], rfl, rfl, by omega, by simp, HZ.out, HBz.out, .inl ⟨by omega, by omega, H0.out⟩⟩
  case round =>
    obtain ⟨j, k, L, rfl, rfl, hj, hL, ho, hb, hcase⟩ := hrel
    have HO := hid ho
    have HB := hid hb
    clear ho hb
    rcases hcase with ⟨hk, hjk, he⟩ | ⟨hk, he⟩
    · have HE := hid he
      clear he
      have hk' : (k : Int) ≤ s.length := by omega
      have HM := hid (mid_str s j k)
      have hjk' : (j : Int) ≤ k := by omega
      have hj0 : (0 : Int) ≤ j := by omega
      obtain ⟨v', w', hr', ho', hb', _⟩ := go_one eS HO.out HB.out.size (by omega) ((s.drop j).take (k - j)) wr.heap.size rfl
      have hr2 : (Builtin.append_ #[52, 52] 52 #[u5, .slice (some ⟨wr.heap.size, 0, none⟩) 1 1]).run Tryz.prog (wr.alloc (.cells #[.string ((str s).extract j k)] 9)) = .ok v' w' := by rw [HM.out]; exact hr'
      have HR' := hid hr2
      have HO' := hid ho'
      have HB' := hid (HB.out.trans hb')
      clear hr' ho' hb' hr2
      obtain ⟨a0, c0, hv0⟩ := HO.out.slice (n := L.length) rfl
      obtain ⟨a5, c5, hv5⟩ := HO'.out.slice (n := L.length + 1) (by simp)
      subst hv0 hv5
      by_cases hend : k = s.length
      · have q1 : ((k : Int) == s.length) = true := by rw [hend]; simp
        have HN : Hid (splB c s = L ++ [(s.drop j).take (k - j)]) := by rw [Hid, HE.out, hend, toCome_end c s j (by omega)]
        have hkk : k + 1 = s.length + 1 := by omega
        have HKK := hid hkk
        clear hend hkk
        go_wp2_with (at_builtin; refine wpList_append_run rfl rfl HR'.out ?_)
        go_roundw
        case rel => exact ⟨k + 1, k + 1, _, by go_num, by go_num, by omega, by simp; omega, HO'.out, HB'.out, .inr ⟨HKK.out, HN.out⟩⟩
        case measure => simp [intOf]; omega
      · have q1 : ((k : Int) == s.length) = false := by simp; omega
        have hlt : k < s.length := by omega
        have hlt2 : k < (str s).size := by omega
        have hk0 : (0 : Int) ≤ k := by omega
        have hlt3 : (k : Int) < s.length := by omega
        obtain ⟨ch, hg⟩ : ∃ ch, ((str s)[k]'hlt2) = ch := ⟨_, rfl⟩
        have hg2 : s[k] = ch := hg
        by_cases hc : ch = c
        · have q2 : ((ch.toNat : Int) == c.toNat) = true := by rw [hc]; simp
          have HN : Hid (splB c s = (L ++ [(s.drop j).take (k - j)]) ++ toCome c s (k + 1) (k + 1)) := by rw [Hid, HE.out, toCome_cut c s j k hlt hjk (hg2.trans hc)]; simp
          clear hc hg2 hend
          go_wp2_with (at_builtin; refine wpList_append_run rfl rfl HR'.out ?_)
          go_roundw
          case rel => exact ⟨k + 1, k + 1, _, by go_num, by go_num, by omega, by simp; omega, HO'.out, HB'.out, .inl ⟨by omega, by omega, HN.out⟩⟩
          case measure => simp [intOf]; omega
        · have q2 : ((ch.toNat : Int) == c.toNat) = false := by
            rw [beq_eq_false_iff_ne]
            intro e
            exact hc (UInt8.toNat_inj.1 (by omega))
          have HN : Hid (splB c s = L ++ toCome c s j (k + 1)) := by rw [Hid, HE.out, toCome_on c s j k hlt hjk (fun e => hc (hg2.symm.trans e))]
          clear hc hg2 hend HR' HO' HB'
          go_wp2_with fail
          go_roundw
          case rel => exact ⟨j, k + 1, L, rfl, by go_num, by omega, by omega, HO.out, HB.out, .inl ⟨by omega, by omega, HN.out⟩⟩
          case measure => simp [intOf]; omega
    · have hk' : ¬ (k : Int) ≤ s.length := by omega
      have HE := hid he
      clear he
      go_wp2_with fail
      go_ret
      rw [HE.out]
      exact ⟨⟨_, rfl, HO.out⟩, HB.out⟩
theorem val_next (l : Bs) (k : Nat) (hk : k < l.length) : valN (l.take (k + 1)) = 10 * valN (l.take k) + (l[k].toNat - 48) := by
  unfold valN valF
  rw [List.take_succ_eq_append_getElem hk, List.foldl_append]
  rfl
theorem val_le (l : Bs) (k : Nat) : valN (l.take k) ≤ valN l := by
  have h : valN l = valF (valN (l.take k)) (l.drop k) := by
    unfold valN valF
    rw [← List.foldl_append, List.take_append_drop]
  rw [h]
  exact valF_ge _ _
theorem all_of (l : Bs) (h : ∀ j, j < l.length → (hj : j < l.length) → dgB l[j] = true) : l.all dgB = true := by
  rw [List.all_eq_true]
  intro x hx
  obtain ⟨j, hj, rfl⟩ := List.getElem_of_mem hx
  exact h j hj hj
theorem num_bad {l : Bs} {k : Nat} (hk : k < l.length) (h : dgB l[k] = false) (h1 : l ≠ [42]) (h2 : ¬ (l = [] ∨ l.head? = some 48)) : numR l = -1 := by
  unfold numR
  rw [if_neg h1, if_neg h2, if_neg]
  intro e
  rw [List.all_eq_true] at e
  have := e _ (List.getElem_mem hk)
  rw [h] at this
  simp at this
theorem num_far {l : Bs} (ha : l.all dgB = true) (h : mx < (valN l : Int)) (h1 : l ≠ [42]) (h2 : ¬ (l = [] ∨ l.head? = some 48)) : numR l = -2 := by
  unfold numR
  rw [if_neg h1, if_neg h2, if_pos ha, if_pos h]
theorem num_ok {l : Bs} (ha : l.all dgB = true) (h : ¬ mx < (valN l : Int)) (h1 : l ≠ [42]) (h2 : ¬ (l = [] ∨ l.head? = some 48)) : numR l = valN l := by
  unfold numR
  rw [if_neg h1, if_neg h2, if_pos ha, if_neg h]
set_option maxRecDepth 100000 in
set_option maxHeartbeats 4000000 in
theorem rnumber_any (l : Bs) (w : World) (hl : l.length ≤ 1000000) : Calls Tryz.prog 28 #[.string (str l)] w fun e w' => e = .returned (.int .i64 (numR l)) ∧ w' = w := by
  have hsz := str_size l
  by_cases h1 : l = [42]
  · have q1 : ((str l).toList == [42]) = true := by rw [toL, h1]; rfl
    have HX : Hid (numR l = 0) := by unfold numR; rw [Hid, if_pos h1]
    clear h1
    go_enter Tryz.func28, Tryz.ntmps28
    go_wp2_with fail
    go_ret
    rw [HX.out]; exact ⟨rfl, rfl⟩
  · have q1 : ((str l).toList == [42]) = false := by rw [toL]; simpa using h1
    by_cases h2 : l = []
    · have q2 : ((str l).toList == []) = true := by rw [toL, h2]; rfl
      have HX : Hid (numR l = -1) := by unfold numR; rw [Hid, if_neg h1, if_pos (.inl h2)]
      clear h1 h2
      go_enter Tryz.func28, Tryz.ntmps28
      go_wp2_with fail
      go_ret
      rw [HX.out]; exact ⟨rfl, rfl⟩
    · have q2 : ((str l).toList == []) = false := by rw [toL]; simpa using h2
      have hd1 : 0 < l.length := List.length_pos_iff.2 h2
      have hlt0 : 0 < (str l).size := by omega
      obtain ⟨ch, hg⟩ : ∃ ch, ((str l)[0]'hlt0) = ch := ⟨_, rfl⟩
      have HH : Hid (l.head? = some ch) := by
        cases l with
        | nil => exact absurd rfl h2
        | cons a l => exact congrArg some hg
      by_cases h48 : ch = 48
      · have q3 : ((ch.toNat : Int) == 48) = true := by rw [h48]; rfl
        have HX : Hid (numR l = -1) := by unfold numR; rw [Hid, if_neg h1, if_pos (.inr (by rw [HH.out, h48]))]
        clear h1 h2 h48
        go_enter Tryz.func28, Tryz.ntmps28
        go_wp2_with fail
        go_ret
        rw [HX.out]; exact ⟨rfl, rfl⟩
      · have q3 : ((ch.toNat : Int) == 48) = false := by
          rw [beq_eq_false_iff_ne]
          intro e
          exact h48 (UInt8.toNat_inj.1 (by have : ch.toNat = 48 := by omega
                                           rw [this]; rfl))
        have h3 : ¬ (l = [] ∨ l.head? = some 48) := by
          rintro (e | e)
          · exact h2 e
          · rw [HH.out] at e; exact h48 (Option.some.inj e)
        have HBad := hid (fun (k : Nat) (hk : k < l.length) (h : dgB l[k] = false) => num_bad hk h h1 h3)
        have HFar := hid (fun (ha : l.all dgB = true) (h : mx < (valN l : Int)) => num_far ha h h1 h3)
        have HOk := hid (fun (ha : l.all dgB = true) (h : ¬ mx < (valN l : Int)) => num_ok ha h h1 h3)
        clear h1 h2 h3 h48
        go_enter Tryz.func28, Tryz.ntmps28
        go_wp2_with fail
        clear hg q3
        go_loop [3] (fun i => ∃ k : Nat, k ≤ l.length ∧ i = .int .i64 k ∧ ∀ j, j < k → (h : j < l.length) → dgB l[j] = true) (fun i => l.length - (intOf i).toNat)
        case atStart => exact ⟨0, by omega, rfl, fun j h => by omega⟩
        case round =>
          obtain ⟨k, hk, rfl, ha⟩ := hrel
          have HA := hid ha
          clear ha
          by_cases hlt : k < l.length
          · have hlt' : (k : Int) < l.length := by omega
            have hlt2 : k < (str l).size := by omega
            obtain ⟨c2, hg2⟩ : ∃ ch, ((str l)[k]'hlt2) = ch := ⟨_, rfl⟩
            have HG2 : Hid (l[k] = c2) := hg2
            by_cases b1 : 48 ≤ c2.toNat
            · by_cases b2 : c2.toNat ≤ 57
              · have d1 : ¬ (c2.toNat : Int) < 48 := by omega
                have d2 : ¬ (57 : Int) < c2.toNat := by omega
                go_wp2_with fail
                go_round
                case rel =>
                  refine ⟨k + 1, by omega, by go_num, fun j hj h => ?_⟩
                  by_cases e : j = k
                  · subst e; exact (congrArg dgB HG2.out).trans (dg_yes b1 b2)
                  · exact HA.out j (by omega) h
                case measure => simp [intOf]; omega
              · have d1 : ¬ (c2.toNat : Int) < 48 := by omega
                have d2 : (57 : Int) < c2.toNat := by omega
                have HX := hid (HBad.out k hlt ((congrArg dgB HG2.out).trans (dg_no (by omega))))
                go_wp2_with fail
                go_ret
                rw [HX.out]; exact ⟨rfl, rfl⟩
            · have d1 : (c2.toNat : Int) < 48 := by omega
              have HX := hid (HBad.out k hlt ((congrArg dgB HG2.out).trans (dg_no (by omega))))
              go_wp2_with fail
              go_ret
              rw [HX.out]; exact ⟨rfl, rfl⟩
          · have hlt' : ¬ (k : Int) < l.length := by omega
            have HAll := hid (all_of l (fun j hj h => HA.out j (by omega) h))
            clear HBad
            go_wp2_with fail
            go_loop [4, 5] (fun n i => ∃ k : Nat, k ≤ l.length ∧ i = .int .i64 k ∧ n = .int .i64 (valN (l.take k) : Nat) ∧ valN (l.take k) ≤ 4294967295) (fun _ i => l.length - (intOf i).toNat)
            case atStart => exact ⟨0, by omega, rfl, rfl, by simp [valN, valF]⟩
            case round =>
              obtain ⟨k, hk, rfl, rfl, hv⟩ := hrel
              by_cases hlt : k < l.length
              · have hlt' : (k : Int) < l.length := by omega
                have hlt2 : k < (str l).size := by omega
                obtain ⟨c2, hg2⟩ : ∃ ch, ((str l)[k]'hlt2) = ch := ⟨_, rfl⟩
                have HG2 : Hid (l[k] = c2) := hg2
                have HV : Hid (valN (l.take (k + 1)) = 10 * valN (l.take k) + (c2.toNat - 48)) := (val_next l k hlt).trans (by rw [show l[k] = c2 from HG2.out])
                have HC : Hid (48 ≤ c2.toNat ∧ c2.toNat ≤ 57) := by
                  have := HAll.out
                  rw [List.all_eq_true] at this
                  have h5 : dgB c2 = true := (congrArg dgB HG2.out).symm.trans (this _ (List.getElem_mem hlt))
                  unfold dgB at h5
                  exact hid (by simpa using h5)
                have HLe := hid (val_le l (k + 1))
                generalize valN (l.take k) = n at *
                obtain ⟨b1, b2⟩ := HC.out
                have b1' : (48 : Int) ≤ c2.toNat := by omega
                have b2' : (c2.toNat : Int) ≤ 57 := by omega
                have hwr : IntKind.i64.wrap (c2.toNat : Int) = c2.toNat := by simp [IntKind.wrap, IntKind.bits, IntKind.signed]; omega
                by_cases hbig : 4294967295 < 10 * n + (c2.toNat - 48)
                · have d1 : (4294967295 : Int) < 10 * n + c2.toNat - 48 := by omega
                  have HX := hid (HFar.out HAll.out (by have := HLe.out; rw [HV.out] at this; unfold mx; omega))
                  go_wp2_with fail
                  go_ret
                  rw [HX.out]; exact ⟨rfl, rfl⟩
                · have d1 : ¬ (4294967295 : Int) < 10 * n + c2.toNat - 48 := by omega
                  go_wp2_with fail
                  go_round
                  case rel => exact ⟨k + 1, by omega, by go_num, by rw [HV.out]; congr 1; omega, by rw [HV.out]; omega⟩
                  case measure => simp [intOf]; omega
              · have hlt' : ¬ (k : Int) < l.length := by omega
                have e : l.take k = l := List.take_of_length_le (by omega)
                rw [e] at hv ⊢
                have HX := hid (HOk.out HAll.out (by unfold mx; omega))
                go_wp2_with fail
                go_ret
                rw [HX.out]; exact ⟨rfl, rfl⟩
end Go.Proofs.YtiiegjdclpkeeaaGreatDoor
