/- What this text holds: an end of a span is read. -/
import Derived.Test.YtiiegjdclpkeeaaDoorM15
namespace Go.Proofs.YtiiegjdclpkeeaaDoor
open Go.RowKit
set_option linter.unusedVariables false
set_option linter.unusedSimpArgs false

theorem tk_yes {c : UInt8} {l : Bs} (h : l.head? = some c) : tkP c l = l.drop 1 := if_pos h
theorem tk_no {c : UInt8} {l : Bs} (h : ¬ l.head? = some c) : tkP c l = l := if_neg h
theorem tw_len (l : Bs) : (l.takeWhile dgB).length ≤ l.length := by
  have := congrArg List.length (List.takeWhile_append_dropWhile (p := dgB) (l := l))
  rw [List.length_append] at this
  omega
set_option maxRecDepth 100000 in
set_option maxHeartbeats 4000000 in
theorem end_any {w : World} {B b U : Nat} {l : Bs} {S : List Sp} {fr mn : Bool} (h : RdAt w B b U l S fr mn) (hl : l.length ≤ 10000000) : Calls Tryd.prog 39 #[.pointer (some ⟨b, 0, none⟩)] w (EndIs l w B b U S fr mn) := by
  have HR := hid h
  clear h
  have C := takes_any HR.out.c0.1 HR.out.c0.2 42
  by_cases h42 : l.head? = some 42
  · rw [tk_yes h42, show decide (l.head? = some 42) = true by simpa using h42] at C
    have HE : Hid (∀ e w', EndIs l w B b U S fr mn e w' = (e = .returned (.tuple #[.int .i64 0, .bool true]) ∧ RdAt w' B b U (l.drop 1) S fr mn ∧ Kept [b] w w')) := by
      intro e w'
      unfold EndIs endP
      rw [if_pos h42]
      simp [mx]
    clear h42
    generalize l.drop 1 = r at *
    go_enter Tryd.func39, Tryd.ntmps39
    go_wp2_with fail
    refine C.mono ?_
    clear C
    rintro e w1 ⟨rfl, rfl⟩
    go_wp2_with fail
    go_ret2
    rw [HE.out]
    exact ⟨rfl, (HR.out.set0 _).1, (HR.out.set0 _).2⟩
  · rw [tk_no h42, show decide (l.head? = some 42) = false by simpa using h42] at C
    have HR1 := hid (HR.out.set0 l).1
    have HB1 := hid (HR.out.set0 l).2
    generalize w.setCell ⟨b, 0, none⟩ (.string (str l)) = w1 at *
    have C2 := digits_any HR1.out.c0.1 HR1.out.c0.2 hl
    have HR2 := hid (HR1.out.set0 (l.dropWhile dgB)).1
    have HB2 := hid (HB1.out.trans (HR1.out.set0 (l.dropWhile dgB)).2 (fun _ _ h => h))
    have HE0 : Hid ((l.takeWhile dgB = [] ∨ (l.takeWhile dgB).head? = some 48) → ∀ e w', EndIs l w B b U S fr mn e w' = (e = .returned (.tuple #[.int .i64 0, .bool false]) ∧ (∃ l', RdAt w' B b U l' S fr mn) ∧ Kept [b] w w')) := by
      intro hd e w'
      unfold EndIs endP
      rw [if_neg h42, if_pos hd]
    have HE1 : Hid (¬ (l.takeWhile dgB = [] ∨ (l.takeWhile dgB).head? = some 48) → ∀ e w', EndIs l w B b U S fr mn e w' = (e = .returned (.tuple #[.int .i64 (numC (l.takeWhile dgB)), .bool true]) ∧ RdAt w' B b U (l.dropWhile dgB) S (fr || decide (mx < numC (l.takeWhile dgB))) mn ∧ Kept [b] w w')) := by
      intro hd e w'
      unfold EndIs endP
      rw [if_neg h42, if_neg hd]
    have HAl : Hid ((l.takeWhile dgB).all dgB = true) := by rw [Hid, List.all_eq_true]; exact takeWhile_all dgB l
    have hdl := tw_len l
    generalize l.takeWhile dgB = d at *
    generalize l.dropWhile dgB = r at *
    generalize w1.setCell ⟨b, 0, none⟩ (.string (str r)) = w2 at *
    clear h42 HR1 HB1
    have hsz := str_size d
    go_enter Tryd.func39, Tryd.ntmps39
    go_wp2_with fail
    refine C.mono ?_
    clear C
    rintro e w1' ⟨rfl, hw1⟩
    subst hw1
    go_wp2_with fail
    refine C2.mono ?_
    clear C2
    rintro e w2' ⟨rfl, hw2⟩
    subst hw2
    by_cases hd0 : d = []
    · have q0 : ((str d).toList == []) = true := by rw [toL, hd0]; rfl
      have HX := hid (HE0.out (.inl hd0))
      clear hd0
      go_wp2_with fail
      go_ret2
      rw [HX.out]
      exact ⟨rfl, ⟨_, HR2.out⟩, HB2.out⟩
    · have q0 : ((str d).toList == []) = false := by rw [toL]; simpa using hd0
      have hd1 : 0 < d.length := List.length_pos_iff.2 hd0
      have hlt : 0 < (str d).size := by omega
      have HH : Hid (d.head? = some ((str d)[0]'hlt)) := by
        cases d with
        | nil => exact absurd rfl hd0
        | cons a d => rfl
      have HD0 := hid hd0
      clear hd0
      obtain ⟨ch, hg⟩ : ∃ ch, ((str d)[0]'hlt) = ch := ⟨_, rfl⟩
      rw [hg] at HH
      by_cases h48 : ch = 48
      · have q1 : ((ch.toNat : Int) == 48) = true := by rw [h48]; rfl
        have HX := hid (HE0.out (.inr (by rw [HH.out, h48])))
        clear h48
        go_wp2_with fail
        go_ret2
        rw [HX.out]
        exact ⟨rfl, ⟨_, HR2.out⟩, HB2.out⟩
      · have q1 : ((ch.toNat : Int) == 48) = false := by
          rw [beq_eq_false_iff_ne]
          intro e
          exact h48 (UInt8.toNat_inj.1 (by have : ch.toNat = 48 := by omega
                                           rw [this]; rfl))
        have HX := hid (HE1.out (by rintro (e | e)
                                    · exact HD0.out e
                                    · rw [HH.out] at e; exact h48 (Option.some.inj e)))
        clear h48
        have C3 := atoi_any HR2.out.2.2.1 HD0.out HAl.out (by omega)
        have hnc : numC d ≤ 9223372036854775807 := by unfold numC mi; omega
        have hn0 := numC_pos d
        have HNv : Hid (mi < (valN d : Int) → mx < numC d) := fun e => by unfold numC mx; unfold mi at *; omega
        go_wp2_with fail
        refine C3.mono ?_
        clear C3
        rintro e w3 ⟨⟨ev, rfl, hev⟩, hb3⟩
        have HR3 := hid (HR2.out.later hb3)
        have HB3 := hid (HB2.out.trans (Kept.ofBelow hb3 [b]) (fun _ _ h => h))
        clear hb3
        generalize numC d = n at *
        unfold mx at HX HNv
        rcases hev with ⟨rfl, _⟩ | ⟨⟨N, rfl⟩, hbig⟩
        · by_cases hn : 4294967295 < n
          · have d1 : decide (4294967295 < n) = true := by simpa using hn
            obtain ⟨⟨c2, f2⟩, hr4, hb4⟩ := HR3.out.set2
            have HR4 := hid hr4
            have HB4 := hid (HB3.out.trans hb4 (fun _ _ h => h))
            clear hr4 hb4
            go_wp2_with fail
            go_ret2
            rw [HX.out]
            exact ⟨rfl, by rw [d1, Bool.or_true]; exact HR4.out, HB4.out⟩
          · have d1 : decide (4294967295 < n) = false := by simpa using hn
            go_wp2_with fail
            go_ret2
            rw [HX.out]
            exact ⟨rfl, by rw [d1, Bool.or_false]; exact HR3.out, HB3.out⟩
        · have d1 : decide (4294967295 < n) = true := by simpa using HNv.out hbig
          obtain ⟨⟨c2, f2⟩, hr4, hb4⟩ := HR3.out.set2
          have HR4 := hid hr4
          have HB4 := hid (HB3.out.trans hb4 (fun _ _ h => h))
          clear hr4 hb4
          go_wp2_with fail
          go_ret2
          rw [HX.out]
          exact ⟨rfl, by rw [d1, Bool.or_true]; exact HR4.out, HB4.out⟩
end Go.Proofs.YtiiegjdclpkeeaaDoor
