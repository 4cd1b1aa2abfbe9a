/- What this text holds: the document's addresses of a value. -/
import Derived.Test.YtemgpghjolpneaaGreatDoorS2
import Derived.Test.YtemgpghjolpneaaGreatDoorS3
import Derived.Test.YtemgpghjolpneaaGreatDoorM13
namespace Go.Proofs.YtemgpghjolpneaaGreatDoor
open Go.RowKit
set_option linter.unusedVariables false
set_option linter.unusedSimpArgs false

theorem mk_len : ∀ (n : Nat) (s : Bs) (q a : Bool) (d : Nat), s.length ≤ n → (mk q a d s).length ≤ s.length + (if s = [] then 0 else 1)
  | _, [], q, a, d, _ => by rw [mk_nil]; simp
  | 0, c :: s, q, a, d, h => by simp at h
  | n + 1, c :: s, q, a, d, h => by
    have hs : s.length ≤ n := by simpa using h
    have g1 : ∀ q a d, (mk q a d s).length ≤ s.length + 1 := fun q a d => by
      have := mk_len n s q a d hs
      split at this <;> omega
    rw [if_neg (by simp)]
    cases d with
    | succ d =>
      rw [mk_deep]
      have g2 : (mk q a (d + 1) (s.drop 1)).length ≤ s.length := by
        have := mk_len n (s.drop 1) q a (d + 1) (by rw [List.length_drop]; omega)
        cases s with
        | nil => simpa using this
        | cons e t =>
          simp only [List.drop_succ_cons, List.drop_zero, List.length_cons] at this ⊢
          split at this <;> omega
      have a1 := g1 q a (d + 2)
      have a2 := g1 q a d
      have a3 := g1 q a (d + 1)
      split
      · simp only [List.length_cons]; omega
      · split
        · simp; omega
        · split
          · simp; omega
          · simp; omega
    | zero =>
      by_cases h34 : c = 34
      · subst h34
        have := g1 (!q) a 0
        rw [mk_quote]; simp; omega
      · cases q with
        | false =>
          rw [mk_out a c s h34]
          have a1 := g1 false a 1
          have a2 := g1 false true 0
          have a3 := g1 false false 0
          have a4 := g1 false a 0
          split
          · simp; omega
          · split
            · simp; omega
            · split
              · simp; omega
              · split
                · simp; omega
                · simp; omega
        | true =>
          by_cases h2 : c ≠ 92 ∨ s = []
          · rw [mk_in a c s h34 h2]
            have := g1 true a 0
            simp; omega
          · have h3 : c = 92 := Decidable.byContradiction fun e => h2 (.inl e)
            subst h3
            cases s with
            | nil => exact absurd (.inr rfl) h2
            | cons e t =>
              rw [mk_esc]
              have := mk_len n t true a 0 (by simp at hs; omega)
              simp
              split at this <;> omega
theorem MO.ma {w : World} {B : Nat} {v : Value} {l : List Mk} (h : MO w B v l) (h0 : l ≠ []) : ∃ g o c, v = .slice (some ⟨g, o, none⟩) l.length c ∧ l.length ≤ c ∧ c ≤ maxLen ∧ MA w g o l := by
  rcases id h.2 with ⟨rfl, h1⟩ | ⟨g, cap, cur, rfl, _, hg, hc, hm, _⟩
  · exact absurd (List.eq_nil_of_length_eq_zero h1) h0
  · refine ⟨g, 0, cap, rfl, hc, hm, fun j m hj => ?_⟩
    obtain ⟨h1, h2⟩ := mcs_at l j m hj
    have c1 := World.ownsRow.cells h rfl _ _ h1
    have c2 := World.ownsRow.cells h rfl _ _ h2
    rw [Addr.add_mid] at c1 c2
    rw [Nat.zero_add] at c1 c2 ⊢
    exact ⟨c1, c2⟩
theorem MA.part {w : World} {g o : Nat} {l : List Mk} (h : MA w g o l) (p k : Nat) : MA w g (o + p * 2) ((l.drop p).take k) := by
  intro j m hj
  rw [List.getElem?_take] at hj
  split at hj
  · rw [List.getElem?_drop] at hj
    have := h (p + j) m hj
    rw [show o + (p + j) * 2 = o + p * 2 + j * 2 by omega] at this
    exact this
  · cases hj
theorem em_yes {a : Ad} (h : decide (a ≠ noAd) = true) : em a = [a] := by unfold em; rw [if_neg (of_decide_eq_true h)]
theorem em_not {a : Ad} (h : decide (a ≠ noAd) = false) : em a = [] := by unfold em; rw [if_pos (by simpa using h)]
set_option maxRecDepth 100000 in
set_option maxHeartbeats 8000000 in
theorem raddresses_any (s : Bs) (w : World) (hs : s.length ≤ 10000) :
    Calls Tryz.prog 38 #[.string (str s)] w fun e w' => (∃ v, e = .returned v ∧ ∃ B, w.heap.size ≤ B ∧ RO w' B 42 3 v ((adsP s).map adR)) ∧ Below w.heap.size w w' := by
  have HC := hid (fun W => rmarks_any s W (by omega))
  have hml := mk_len _ s false false 0 (Nat.le_refl _)
  have hml2 : (mk false false 0 s).length ≤ 10001 := by split at hml <;> omega
  clear hml
  have HA := hid (fo_all s)
  generalize mk false false 0 s = ms at *
  go_enter Tryz.func38, Tryz.ntmps38
  go_wp2_with fail
  refine (HC.out _).mono ?_
  rintro e w1 ⟨⟨v1, rfl, ho1⟩, hb1⟩
  obtain ⟨v2, w2, hr2, ho2, hb2, _, _⟩ := mo_one (W := w1) ho1 (Below.refl _ _) hb1.size (by omega) 44 4 w1.heap.size rfl
  have HR2 : Hid ((Builtin.append_ #[85, 85] 85 #[v1, .slice (some ⟨w1.heap.size, 0, none⟩) 1 1]).run Tryz.prog (w1.alloc (.cells #[.int .u8 44, .int .i64 4] 88)) = .ok v2 w2) := hr2
  have HB2 := hid (hb1.trans hb2)
  obtain ⟨g, o, c, hv2, hc, hcm, hma⟩ := ho2.ma (by simp)
  obtain ⟨a0, c0, hv0⟩ := ho1.sliceN (n := ms.length) rfl
  subst hv0 hv2
  have HM := hid hma
  have hLl : (ms ++ [(44, 4)]).length = ms.length + 1 := by simp
  clear hr2 ho1 ho2 hb1 hb2 hma HC
  generalize ms ++ [(44, 4)] = l at *
  have hl2 : l.length ≤ 10002 := by omega
  unfold maxLen at hcm
  clear hLl hml2
  go_wp2_with (at_builtin; refine wpList_append_run rfl rfl HR2.out ?_)
  clear HR2
  go_loopw [4, 5, 6] (fun v f i wr => ∃ (p k : Nat) (L : List Ad), p ≤ k ∧ k ≤ l.length ∧ f = .int .i64 p ∧ i = .int .i64 k ∧ RO wr w2.heap.size 42 3 v (L.map adR) ∧ Below w2.heap.size w2 wr ∧ L ++ foE (stM ((l.drop p).take (k - p))) (l.drop k) = adsP s ∧ L.length ≤ k) (fun _ _ i _ => l.length - (intOf i).toNat)
  case atStart => exact ⟨0, 0, [], by omega, by omega, rfl, rfl, RO.nil _ _ _ _, Below.refl _ _, by simpa [stM] using HA.out, by simp⟩
  case round =>
    obtain ⟨p, k, L, hp, hk, rfl, rfl, ho, hb, he, hL⟩ := hrel
    have HO := hid ho
    have HB := hid hb
    have HE := hid he
    clear ho hb he HA
    obtain ⟨a1, c1, hv1⟩ := HO.out.sliceN (n := L.length) (by simp)
    subst hv1
    by_cases hlt : k < l.length
    · have hlt' : (k : Int) < l.length := by omega
      have HMr := hid (HM.out.later HB.out)
      obtain ⟨m0, m1⟩ := HMr.out k l[k] (List.getElem?_eq_getElem hlt)
      by_cases h4 : l[k].2 = 4
      · have HF := hid (foE_four l (stM ((l.drop p).take (k - p))) k hlt h4)
        have e4 : ((l[k].2 : Int) == 4) = true := by simp [h4]
        have hpl : ((l.drop p).take (k - p)).length = k - p := by rw [List.length_take, List.length_drop]; omega
        have C := raddress_any ((l.drop p).take (k - p)) g (o + p * 2) (c - p) wr (by omega) (by omega) (HMr.out.part p (k - p))
        rw [hpl] at C
        have HC := hid C
        generalize adM (stM ((l.drop p).take (k - p))) = ad at *
        generalize l[k] = m at *
        clear hpl C h4
        unfold adV at HC
        rcases hd : decide (ad ≠ noAd)
        · have HX : Hid (foE (stM ((l.drop p).take (k - p))) (l.drop k) = foE (stM ((l.drop (k + 1)).take (k + 1 - (k + 1)))) (l.drop (k + 1))) := by rw [Hid, HF.out, em_not hd]; simp [stM]
          rw [hd] at HC
          clear hd HF
          go_wp2_with fail
          refine HC.out.mono ?_
          rintro e w3 ⟨rfl, hb3⟩
          have hal : Below w3.heap.size w3 (w3.alloc (.cells #[.string (str ad.1), .string (str ad.2.1), .string (str ad.2.2)] 42)) := (Below.refl _ _).alloc (Nat.le_refl _) _
          have hb4 := hb3.trans (hal.mono hb3.size)
          have HO4 := hid (HO.out.later hb4)
          have HB4 := hid (HB.out.trans (hb4.mono HB.out.size))
          clear hal hb3 hb4
          go_wp2_with fail
          go_roundw
          case rel => exact ⟨k + 1, k + 1, L, by omega, by omega, by go_num, by go_num, HO4.out, HB4.out, by rw [← HX.out]; exact HE.out, by omega⟩
          case measure => simp [intOf]; omega
        · have HX : Hid (foE (stM ((l.drop p).take (k - p))) (l.drop k) = ad :: foE (stM ((l.drop (k + 1)).take (k + 1 - (k + 1)))) (l.drop (k + 1))) := by rw [Hid, HF.out, em_yes hd]; simp [stM]
          rw [hd] at HC
          clear hd HF
          go_wp2_with fail
          refine HC.out.mono ?_
          rintro e w3 ⟨rfl, hb3⟩
          have hal : Below w3.heap.size w3 (w3.alloc (.cells #[.string (str ad.1), .string (str ad.2.1), .string (str ad.2.2)] 42)) := (Below.refl _ _).alloc (Nat.le_refl _) _
          have hb4 := hb3.trans (hal.mono hb3.size)
          have HO4 := hid (HO.out.later hb4)
          have HB4 := hid (HB.out.trans (hb4.mono HB.out.size))
          clear hal hb3 hb4
          obtain ⟨v', w', hr', ho', hb'⟩ := ro_one Tryz.underlying25 Tryz.info42 rfl (by omega) (by omega) HO4.out HB4.out.size (by simp; omega) (adR ad) rfl (w3.heap.size + 1) (by simp)
          have HR' := hid hr'
          have HO' : Hid (RO w' w2.heap.size 42 3 v' ((L ++ [ad]).map adR)) := by rw [Hid, List.map_append]; exact ho'
          have HB' := hid (HB4.out.trans hb')
          clear hr' ho' hb'
          obtain ⟨a5, c5, hv5⟩ := HO'.out.sliceN (n := L.length + 1) (by simp)
          subst hv5
          go_wp2_with (at_builtin; refine wpList_append_run rfl rfl HR'.out ?_)
          go_roundw
          case rel => exact ⟨k + 1, k + 1, L ++ [ad], by omega, by omega, by go_num, by go_num, HO'.out, HB'.out, by rw [List.append_assoc, List.singleton_append, ← HX.out]; exact HE.out, by simp; omega⟩
          case measure => simp [intOf]; omega
      · have HF := hid (foE_not l p k hp hlt h4)
        have e4 : ((l[k].2 : Int) == 4) = false := by simp; omega
        generalize l[k] = m at *
        clear h4
        go_wp2_with fail
        go_roundw
        case rel => exact ⟨p, k + 1, L, by omega, by omega, rfl, by go_num, HO.out, HB.out, by rw [← HF.out]; exact HE.out, by omega⟩
        case measure => simp [intOf]; omega
    · have hlt' : ¬ (k : Int) < l.length := by omega
      have HX : Hid (L = adsP s) := by
        have := HE.out
        rw [List.drop_eq_nil_of_le (show l.length ≤ k by omega)] at this
        have h2 : L = adsP s := by simpa [foE] using this
        exact h2
      go_wp2_with fail
      go_ret
      rw [← HX.out]
      exact ⟨⟨_, rfl, _, HB2.out.size, HO.out⟩, HB2.out.trans (HB.out.mono HB2.out.size)⟩
end Go.Proofs.YtemgpghjolpneaaGreatDoor
