/- Proved here: just as many pages are put as are free; one more is refused, and changes nothing; behind a commit, a drop and a commit one more has room (PagerRoom returns true for every input, and leaves its arguments as they were). No condition. -/
import Derived.Test.YtambgimfbdecpaaRows
import Derived.Test.YtambgimfbdecpaaGRoom
import Derived.ProofKit
import Derived.ShutString
import Derived.ChangeOld
import Derived.Below
namespace Go.Proofs.Ytambgimfbdecpaa.pagerRoom
open Go.ChangeShapes Go.WideShapes Go.ChangeAt Go.RowKit
set_option linter.unusedVariables false

theorem n_range (n : Int) : ∃ N : Nat, 4 ≤ N ∧ N ≤ 60 ∧ wrap64 (4 + (wrap64 (n.tmod 57 + 57)).tmod 57) = (N : Int) := by
  have h1 := Int.tmod_lt_of_pos n (show (0 : Int) < 57 by decide)
  have h2 := Int.lt_tmod_of_pos n (show (0 : Int) < 57 by decide)
  rw [wrap64_fits (n.tmod 57 + 57) (by omega) (by omega), Int.tmod_eq_emod_of_nonneg (by omega), wrap64_fits _ (by omega) (by omega)]
  exact ⟨(4 + (n.tmod 57 + 57) % 57).toNat, by omega, by omega, by omega⟩

set_option maxRecDepth 100000 in
set_option maxHeartbeats 8000000 in
theorem walk {w : World} {n : Int} {s : ByteArray} (hms : s.size ≤ maxLen) :
    Calls Try.prog 7 #[.int .i64 n, .string s] w fun e w' => e = .returned (.bool true) ∧ Below w.heap.size w w' := by
  have HMS := hid hms
  unfold maxLen at hms
  obtain ⟨N, hN4, hN60, hke⟩ := n_range n
  by_cases hs : s.size ≤ 492
  · have hs' : ¬ (492 : Int) < s.size := by omega
    have HS := hid hs
    clear hs
    go_enter Try.func7, Try.ntmps7
    go_wp2_with fail
    refine (new_yes N _ (by omega) (by omega)).mono ?_
    rintro e w1 ⟨db, own, rfl, hd1, hb1⟩
    have HD1 := hid hd1
    have HB1 := hid hb1
    clear hd1 hb1
    go_wp2_with fail
    have hF := format_all HD1.out (DS.byt.blank N) (by simp [DS.blank]) (by simp [DS.blank])
    rw [format_blank N hN4] at hF
    refine hF.mono ?_
    rintro e w2 ⟨rfl, own2, hd2, hk2, hn2⟩
    have HD2 := hid hd2
    have HB2 := hid (HD1.out.below hk2 HB1.out (Nat.le_refl _))
    clear hd2 hk2 hn2 hF HD1 HB1
    go_wp2_with fail
    refine (open_fmt HD2.out hN4 (by omega)).mono ?_
    rintro e w3 ⟨b, gs, mb, rfl, hp3, hb3⟩
    have HP3 := hid hp3
    have HB3 := hid (HB2.out.trans (hb3.mono HB2.out.size))
    clear hp3 hb3 HD2 HB2
    have h3 := hid (free_any HP3.out)
    rw [show cntFree (PS.fmt N).st = N - 2 by rw [(Room.start N hN4).st, roomSt_cnt 2 N 2 (by omega)]] at h3
    have hne : (((N - 2 : Nat) : Int) != (N : Int) - 2) = false := by simp; omega
    go_wp2_with (first | (go_at_call 11; refine (no_any _ _).mono ?_; rintro e wc ⟨rfl, rfl⟩) | (go_at_call 26; refine h3.out.mono ?_; rintro e wd ⟨rfl, rfl⟩) | (go_at_call 12; refine (alive_any _).mono ?_; rintro e w4 ⟨rfl, hb4⟩; have HP4 := hid (HP3.out.later hb4); have HB4 := hid (HB3.out.trans (hb4.mono HB3.out.size)); clear hb4 HP3 HB3 h3))
    go_loopw [9] (fun q wr => ∃ i : Nat, 2 ≤ i ∧ i ≤ N ∧ q = .int .i64 i ∧ ∃ P all, Pgr wr w.heap.size b db all P ∧ Room N i P ∧ Below w.heap.size w wr) (fun q _ => N - (intOf q).toNat)
    case atStart => exact ⟨2, Nat.le_refl _, by omega, rfl, _, _, HP4.out, Room.start N hN4, HB4.out⟩
    case round =>
      obtain ⟨i, hi2, hiN, rfl, P, all, hP, hR, hB⟩ := hrel
      have HP := hid hP
      have HR := hid hR
      have HB := hid hB
      clear hP hR hB HP4 HB4
      by_cases hlt : i < N
      · have hlt' : (i : Int) < N := by omega
        have hput := put_all HP.out (by rw [HR.out.s]; omega) (by rw [HR.out.w]; omega) 3 s HMS.out
        obtain ⟨hr1, hr2⟩ := HR.out.put hi2 hlt s HS.out
        generalize P.put 3 s = X at hput hr1 hr2
        obtain ⟨⟨x, y⟩, P'⟩ := X
        simp only [Prod.mk.injEq] at hr1 hr2 hput
        obtain ⟨rfl, rfl⟩ := hr1
        have HPut := hid hput
        have HR2 := hid hr2
        clear hput hr2
        go_wp2_with fail
        refine HPut.out.mono ?_
        rintro e w5 ⟨rfl, all5, hp5, hk5, hn5⟩
        have HP5 := hid hp5
        have HB5 := hid (DidP.below HP.out hk5 HB.out (Nat.le_refl _))
        clear hp5 hk5 hn5
        go_wp2_with (first | (go_at_call 11; refine (no_any _ _).mono ?_; rintro e wc ⟨rfl, rfl⟩))
        go_roundw
        case rel => exact ⟨i + 1, by omega, by omega, by go_num, P', all5, HP5.out, HR2.out, HB5.out⟩
        case measure => simp [intOf]; omega
      · obtain rfl : i = N := by omega
        have hlt' : ¬ (i : Int) < i := by omega
        have hput := put_all HP.out (by rw [HR.out.s]; omega) (by rw [HR.out.w]; omega) 3 s HMS.out
        rw [HR.out.full (by omega) s HS.out] at hput
        have HPut := hid hput
        clear hput
        go_wp2_with fail
        refine HPut.out.mono ?_
        rintro e w5 ⟨rfl, all5, hp5, hk5, hn5⟩
        have HP5 := hid hp5
        have HB5 := hid (DidP.below HP.out hk5 HB.out (Nat.le_refl _))
        clear hp5 hk5 hn5 HPut HP HB
        have h5 := hid (free_any HP5.out)
        rw [show cntFree P.st = 0 by rw [HR.out.st, roomSt_cnt 2 i i (by omega)]; omega] at h5
        have hcom := commit_all HP5.out (by rw [HR.out.s]; omega) ⟨#[97]⟩ (by unfold maxLen; decide)
        obtain ⟨hr1, hr2⟩ := HR.out.commit (by omega) (by omega)
        rw [hr1] at hcom
        generalize (P.commit ⟨#[97]⟩).2 = P6 at hcom hr2
        have HCom := hid hcom
        have HR6 := hid hr2
        clear hcom hr1 hr2
        go_wp2_with (first | (go_at_call 11; refine (no_any _ _).mono ?_; rintro e wc ⟨rfl, rfl⟩) | (go_at_call 26; refine h5.out.mono ?_; rintro e wd ⟨rfl, rfl⟩))
        refine HCom.out.mono ?_
        rintro e w6 ⟨rfl, all6, hp6, hk6, hn6⟩
        have HP6 := hid hp6
        have HB6 := hid (DidP.below HP5.out hk6 HB5.out (Nat.le_refl _))
        clear hp6 hk6 hn6 HCom HP5 HB5 h5 HR
        have hdr := drop_all HP6.out 2
        obtain ⟨hr1, hr2⟩ := HR6.out.drop (by omega)
        rw [hr1] at hdr
        generalize (P6.drop 2).2 = P7 at hdr hr2
        have HDr := hid hdr
        have HR7 := hid hr2
        clear hdr hr1 hr2
        go_wp2_with (first | (go_at_call 11; refine (no_any _ _).mono ?_; rintro e wc ⟨rfl, rfl⟩))
        refine HDr.out.mono ?_
        rintro e w7 ⟨rfl, all7, hp7, hk7, hn7⟩
        have HP7 := hid hp7
        have HB7 := hid (DidP.below HP6.out hk7 HB6.out (Nat.le_refl _))
        clear hp7 hk7 hn7 HDr HP6 HB6 HR6
        have hput := put_all HP7.out (by have := HR7.out.s; omega) (by rw [HR7.out.w]; decide) 3 s HMS.out
        rw [HR7.out.full (by omega) s HS.out] at hput
        have HPut := hid hput
        clear hput
        go_wp2_with (first | (go_at_call 11; refine (no_any _ _).mono ?_; rintro e wc ⟨rfl, rfl⟩))
        refine HPut.out.mono ?_
        rintro e w8 ⟨rfl, all8, hp8, hk8, hn8⟩
        have HP8 := hid hp8
        have HB8 := hid (DidP.below HP7.out hk8 HB7.out (Nat.le_refl _))
        clear hp8 hk8 hn8 HPut HP7 HB7
        have hcom := commit_all HP8.out (by have := HR7.out.s; omega) ⟨#[98]⟩ (by unfold maxLen; decide)
        obtain ⟨hr1, hr2⟩ := HR7.out.commit (by omega)
        rw [hr1] at hcom
        generalize (P7.commit ⟨#[98]⟩).2 = P9 at hcom hr2
        have HCom := hid hcom
        have HR9 := hid hr2
        clear hcom hr1 hr2
        go_wp2_with fail
        refine HCom.out.mono ?_
        rintro e w9 ⟨rfl, all9, hp9, hk9, hn9⟩
        have HP9 := hid hp9
        have HB9 := hid (DidP.below HP8.out hk9 HB8.out (Nat.le_refl _))
        clear hp9 hk9 hn9 HCom HP8 HB8 HR7
        have hput := put_all HP9.out (by have := HR9.out.s; omega) (by rw [HR9.out.w]; decide) 3 s HMS.out
        rw [HR9.out.put (by omega) s HS.out] at hput
        have HPut := hid hput
        clear hput
        go_wp2_with fail
        refine HPut.out.mono ?_
        rintro e w10 ⟨rfl, all10, hp10, hk10, hn10⟩
        have HB10 := hid (DidP.below HP9.out hk10 HB9.out (Nat.le_refl _))
        clear hp10 hk10 hn10 HPut HP9 HB9
        go_wp2_with (first | (go_at_call 11; refine (no_any _ _).mono ?_; rintro e wc ⟨rfl, rfl⟩))
        go_ret
        exact ⟨rfl, HB10.out⟩
  · have hs' : (492 : Int) < s.size := by omega
    clear hs
    go_enter Try.func7, Try.ntmps7
    go_wp2_with (first | (go_at_call 12; refine (alive_any _).mono ?_; rintro e w3 ⟨rfl, hb⟩))
    go_ret
    exact ⟨rfl, hb⟩

theorem own : ownKnob Try.prog.godebug = none := by kernel_rfl
theorem laidOut : laidOutB Try.prog = true := by kernel_rfl

set_option maxRecDepth 100000 in
theorem lifted (os : Os) (started : os.Started) (H : Type) (enc : TypeId × Value → H) :
    ReturnsInHanded {} Try.checked os 7 .any (Rows.pagerRoomSpec.pre6 enc Try.prog Try.f7 Rows.pagerRoomRow.domain false) (Rows.pagerRoomSpec.post enc Try.prog Try.f7 false true false false) := by
  refine returnsInHanded_of_change (C := Try.checked) own started (by kernel_rfl) Try.func7
    (ChangeSpec.witness6 (enc := enc) (C := Try.checked) false ⟨#[], #[.int .i64 0, .string ⟨#[]⟩], []⟩ 8 (by kernel_rfl) (by kernel_rfl) (by kernel_rfl) (by kernel_rfl)) ?_
  intro W base args ds gs before hval0 hW hcnd _
  have hval : ∀ (j : Nat) t v, Try.f7.params[j]? = some t → args[j]? = some v → Value.okWide Try.prog W .any base t v := hval0
  have hW' := hW
  obtain ⟨p, q, hA0, hV, rfl, hfz, hnd⟩ := hW
  have hA : DataW.TrodAll enc Try.prog W 0 (fun _ => true) true Try.f7.params.toList args.toList ds p := hA0
  rw [Try.params7] at hA hval
  obtain ⟨v0, vs0, d0, ds0, p0, q0, hargs, rfl, rfl, h0, r0⟩ := trodAll_cons hA
  obtain ⟨v1, vs1, d1, ds1, p1, q1, rfl, rfl, rfl, h1, r1⟩ := trodAll_cons r0
  obtain ⟨rfl, rfl, rfl⟩ := trodAll_nil r1
  obtain rfl : args = #[v0, v1] := by cases args; simp_all
  obtain ⟨rfl, rfl⟩ := trodVars_none hV
  obtain ⟨a0, rfl, rfl, rfl, w0⟩ := open_int Try.underlying3 (hval 0 3 v0 rfl rfl) h0
  obtain ⟨a1, rfl⟩ := okWide_string Try.underlying9 (hval 1 9 v1 rfl rfl)
  have lt1 : ∀ x ∈ p1, x.block < W.heap.size := by obtain ⟨m, hm⟩ := h1; exact DataW.trod_lt m _ _ _ hm
  have hs1 : a1.size ≤ maxLen := by obtain ⟨fuel, hf⟩ := h1; exact open_str hf
  clear hA0 hval0
  refine (walk hs1).mono fun e W' ⟨he, bel⟩ => ?_
  subst he
  exact ⟨_, rfl, _, _, _, [], _, [], hW', trodAll_mk1 (shut_bool Try.underlying4 _), (trodAll_cons_mk (shut_int Try.underlying3 w0) (trodAll_cons_mk (Below.trod laidOut (by kernel_rfl) (of_decide_eq_true (by kernel_rfl)) h1 bel lt1) trodAll_mk0)), rfl, bel.frame _, fun h => by cases h⟩

theorem over : Rows.pagerRoomRow.holds Try.pinned (OpenSpec.ofChange Rows.pagerRoomSpec) :=
  OpenClaim.holds_of_wide 7 Try.f7 rfl rfl rfl rfl rfl rfl rfl ⟨rfl, rfl, rfl, rfl, rfl⟩ rfl rfl rfl rfl rfl (by kernel_rfl) Try.func7 (by kernel_rfl)
    (of_decide_eq_true (by kernel_rfl)) (by unfold Func.isWrapper; first | (rw [if_pos (by decide +kernel)]; kernel_rfl) | (rw [if_neg (by decide +kernel)]; exact ⟨rfl, rfl⟩))
    (fun os started H enc _ => lifted os started H enc)
end Go.Proofs.Ytambgimfbdecpaa.pagerRoom
namespace Go.Proofs.Ytambgimfbdecpaa
/-- THE STATEMENT. -/
theorem pagerRoom_holds : Rows.PagerRoomSaid := pagerRoom.over
#print axioms pagerRoom_holds
end Go.Proofs.Ytambgimfbdecpaa
