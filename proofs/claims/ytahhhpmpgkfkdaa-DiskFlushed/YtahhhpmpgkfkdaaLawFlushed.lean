/- Proved here: what was flushed is there behind any crash, if nothing was written since (DiskFlushed returns true for every input, and leaves its arguments as they were). No condition. -/
import Derived.Test.YtahhhpmpgkfkdaaRows
import Derived.Test.YtahhhpmpgkfkdaaOpen
namespace Go.Proofs.Ytahhhpmpgkfkdaa.diskFlushed
open Go.ChangeShapes Go.WideShapes Go.ChangeAt Go.RowKit
set_option linter.unusedVariables false

theorem keep_nothing (ks : List (Int × Int)) (s : List Int) : ks.foldl (keep1 []) s = s := by
  induction ks with
  | nil => rfl
  | cons k ks ih => rw [List.foldl_cons]; have : keep1 [] s k = s := by unfold keep1; rw [dif_neg (by simp)]
                    rw [this]; exact ih
theorem crash_flushed (D : DS) (h : D.waits = []) (ks : List (Int × Int)) (i : Nat) : (D.crash ks).read i = D.read i := by
  unfold DS.read DS.crash
  rw [h, keep_nothing]
theorem step_power (D : DS) (h : D.step.1 = true) : D.step.2.gone = false := by
  unfold DS.step at *
  split at h
  · cases h
  · rename_i hn
    rw [if_neg hn]
    simpa using fun e => hn (.inl e)

set_option maxRecDepth 100000 in
set_option maxHeartbeats 4000000 in
theorem walk (n : Int) (a : Option Addr) (len cap : Nat) (l : List ActV) (ka : Option Addr) (klen kcap : Nat) (ks : List (Int × Int)) (w : World) (hA : ActsOk w a len l) (hK : KeepsOk w ka klen ks) :
    Calls Try.prog 4 #[.int .i64 n, .slice a len cap, .slice ka klen kcap] w fun e w' => e = .returned (.bool true) ∧ Below w.heap.size w w' := by
  have hkm := hK.2.1
  unfold maxLen at hkm
  have HA := hid hA
  have HK := hid hK
  clear hA hK
  go_enter Try.func4, Try.ntmps4
  go_wp2_with fail
  refine (play_any n a len cap l w HA.out).mono ?_
  rintro e w1 (⟨rfl, hb⟩ | ⟨m, rfl, b, own, D, rfl, hp⟩)
  · go_wp2_with (first | (go_at_call 12; refine (alive_any _).mono ?_; rintro e w2 ⟨rfl, hb2⟩))
    go_ret
    exact ⟨rfl, hb.trans (hb2.mono hb.size)⟩
  · have HP := hid hp
    clear hp
    by_cases h200 : 200 < klen
    · have h200' : (200 : Int) < klen := by omega
      go_wp2_with (first | (go_at_call 12; refine (alive_any _).mono ?_; rintro e w2 ⟨rfl, hb2⟩))
      go_ret
      exact ⟨rfl, HP.out.b.trans (hb2.mono HP.out.b.size)⟩
    · have h200' : ¬ (200 : Int) < klen := by omega
      have hst : D.steps < 1000 := by have := HP.out.s; omega
      go_wp2_with fail
      refine (flush_all HP.out.d hst).mono ?_
      rintro e w2 ⟨rfl, own2, hd2, hk2, _⟩
      have hb2 := HP.out.d.below hk2 HP.out.b (Nat.le_refl _)
      cases hpw : D.step.1 with
      | false =>
        have e1 : D.flush = (9, D.step.2) := by simp [DS.flush, hpw]
        rw [e1]
        clear e1 hd2 hk2 hpw
        go_wp2_with (first | (go_at_call 11; refine (no_any _ _).mono ?_; rintro e w2 ⟨rfl, rfl⟩) | (go_at_call 12; refine (alive_any _).mono ?_; rintro e w3 ⟨rfl, hb3⟩))
        go_ret
        exact ⟨rfl, hb2.trans (hb3.mono hb2.size)⟩
      | true =>
        have e1 : D.flush = (0, D.step.2.flushed) := by simp [DS.flush, hpw]
        rw [e1] at hd2 ⊢
        obtain ⟨F, hF⟩ : ∃ F, F = D.step.2.flushed := ⟨_, rfl⟩
        have hF1 : F.waits = [] := by rw [hF]; rfl
        have hF2 : F.gone = false := by rw [hF]; exact step_power D hpw
        have hF3 : F.n = m := by rw [hF]; show D.step.2.n = m; rw [DS.step_n]; exact HP.out.n
        rw [← hF] at hd2
        have hcr := crash_all hd2 ka klen kcap ks (HK.out.later hb2)
        have HCR := hid hcr
        have HD2 := hid hd2
        have H1 := hid hF1
        have H2 := hid hF2
        have H3 := hid hF3
        clear e1 hk2 hpw hcr hF hF1 hF2 hF3 hd2 HP hst
        go_wp2_with (first | (go_at_call 11; refine (no_any _ _).mono ?_; rintro e w2 ⟨rfl, rfl⟩))
        refine HCR.out.mono ?_
        rintro e w3 ⟨b3, own3, rfl, hd3, hb3⟩
        have hd2' := HD2.out.keep (Kept.ofBelow hb3 []) (by simp)
        have hbb := hb2.trans (hb3.mono hb2.size)
        obtain ⟨bs, sc, wv, hda, rfl⟩ := hd2'
        obtain ⟨bs3, sc3, wv3, hdo, rfl⟩ := hd3
        have hwt := waiting_any hda
        have hsz := size_any hdo
        rw [H1.out] at hwt
        have hn3 : (F.crash ks).n = m := H3.out
        rw [hn3] at hsz
        have HWT := hid hwt
        have HSZ := hid hsz
        have HO := hid (hdo.base hb2.size)
        have HDA := hid hda
        clear hwt hsz hdo hda hb3 HCR HD2 hn3
        go_wp2_with (first | (go_at_call 24; refine HWT.out.mono ?_; rintro e w3 ⟨rfl, rfl⟩) | (go_at_call 25; refine HSZ.out.mono ?_; rintro e w3 ⟨rfl, rfl⟩))
        go_loopw [9] (fun q wr => ∃ k : Nat, k ≤ 40 ∧ k ≤ m ∧ q = .int .i64 k ∧ Hid (DiskAt wr w.heap.size b bs sc wv F) ∧ Hid (DiskAt wr w.heap.size b3 bs3 sc3 wv3 (F.crash ks)) ∧ Below w.heap.size w wr) (fun q _ => 40 - (intOf q).toNat)
        case atStart => exact ⟨0, by omega, by omega, rfl, HDA, HO, hbb⟩
        case round =>
          obtain ⟨k, hk40, hkm2, rfl, hda, hdo, hbr⟩ := hrel
          by_cases hlt : k < m ∧ k < 40
          · obtain ⟨hlt, h40⟩ := hlt
            have hlt' : (k : Int) < m := by omega
            have h40' : (k : Int) < 40 := by omega
            have hr1 := read_yes hda.out k (by rw [H3.out]; exact hlt) H2.out
            have HR1 := hid hr1
            clear hr1 HDA HO hbb HWT HSZ
            go_wp2_with fail
            refine HR1.out.mono ?_
            rintro e w4 ⟨g4, rfl, hg4, hh4, hb4⟩
            have hda4 := hda.out.keep (Kept.ofBelow hb4 []) (by simp)
            have hdo4 := hdo.out.keep (Kept.ofBelow hb4 []) (by simp)
            have hr2 := read_yes hdo4 k (by show k < F.n; rw [H3.out]; exact hlt) rfl
            have HR2 := hid hr2
            have HDA4 := hid hda4
            have HDO4 := hid hdo4
            have HB4 := hid (hbr.trans (hb4.mono hbr.size))
            have HH4 := hid hh4
            clear hr2 hda4 hdo4 hb4 hh4 hda hdo hbr HR1
            go_wp2_with fail
            refine HR2.out.mono ?_
            rintro e w5 ⟨g5, rfl, hg5, hh5, hb5⟩
            rw [crash_flushed F H1.out] at hh5
            have hh4 := (hb5.block g4 (Array.getElem?_eq_some_iff.1 HH4.out).1).trans HH4.out
            have HDA5 := hid (HDA4.out.keep (Kept.ofBelow hb5 []) (by simp))
            have HDO5 := hid (HDO4.out.keep (Kept.ofBelow hb5 []) (by simp))
            have HB5 := hid (HB4.out.trans (hb5.mono HB4.out.size))
            have hlen := read_length HDA5.out k (by rw [H3.out]; exact hlt)
            have v4 := conv_whole (m := 512) (c := 512) hh4 hlen
            have v5 := conv_whole (m := 512) (c := 512) hh5 hlen
            clear hh4 hh5 hb5 HR2 HDA4 HDO4 HB4 HH4 hlen
            go_wp2_with (first | (go_at_call 11; refine (no_any _ _).mono ?_; rintro e w5 ⟨rfl, rfl⟩))
            go_roundw
            case rel => exact ⟨k + 1, by omega, by omega, by go_num, HDA5, HDO5, HB5.out⟩
            case measure => simp [intOf]; omega
          · clear HDA HO hbb HWT HSZ
            by_cases h40 : k < m
            · have h40' : ¬ (k : Int) < 40 := by omega
              clear hlt
              go_wp2_with (first | (go_at_call 12; refine (alive_any _).mono ?_; rintro e w6 ⟨rfl, hb6⟩))
              go_ret
              exact ⟨rfl, hbr.trans (hb6.mono hbr.size)⟩
            · have h40' : ¬ (k : Int) < m := by omega
              clear hlt
              go_wp2_with (first | (go_at_call 12; refine (alive_any _).mono ?_; rintro e w6 ⟨rfl, hb6⟩))
              go_ret
              exact ⟨rfl, hbr.trans (hb6.mono hbr.size)⟩

theorem own : ownKnob Try.prog.godebug = none := by kernel_rfl
theorem laidOut : laidOutB Try.prog = true := by kernel_rfl

set_option maxRecDepth 100000 in
theorem lifted (os : Os) (started : os.Started) (H : Type) (enc : TypeId × Value → H) :
    ReturnsInHanded {} Try.checked os 4 .any (Rows.diskFlushedSpec.pre6 enc Try.prog Try.f4 Rows.diskFlushedRow.domain false) (Rows.diskFlushedSpec.post enc Try.prog Try.f4 false true false false) := by
  refine returnsInHanded_of_change (C := Try.checked) own started (by kernel_rfl) Try.func4
    (ChangeSpec.witness6 (enc := enc) (C := Try.checked) false ⟨#[], #[.int .i64 0, .slice none 0 0, .slice none 0 0], []⟩ 8 (by kernel_rfl) (by kernel_rfl) (by kernel_rfl) (by kernel_rfl)) ?_
  intro W base args ds gs before hval0 hW hcnd _
  have hval : ∀ (j : Nat) t v, Try.f4.params[j]? = some t → args[j]? = some v → Value.okWide Try.prog W .any base t v := hval0
  have hW' := hW
  obtain ⟨p, q, hA0, hV, rfl, hfz, hnd⟩ := hW
  have hA : DataW.TrodAll enc Try.prog W 0 (fun _ => true) true Try.f4.params.toList args.toList ds p := hA0
  rw [Try.params4] at hA hval
  obtain ⟨v0, vs0, d0, ds0, p0, q0, hargs, rfl, rfl, h0, r0⟩ := trodAll_cons hA
  obtain ⟨v1, vs1, d1, ds1, p1, q1, rfl, rfl, rfl, h1, r1⟩ := trodAll_cons r0
  obtain ⟨v2, vs2, d2, ds2, p2, q2, rfl, rfl, rfl, h2, r2⟩ := trodAll_cons r1
  obtain ⟨rfl, rfl, rfl⟩ := trodAll_nil r2
  obtain rfl : args = #[v0, v1, v2] := by cases args; simp_all
  obtain ⟨rfl, rfl⟩ := trodVars_none hV
  obtain ⟨a0, rfl, rfl, rfl, w0⟩ := open_int Try.underlying3 (hval 0 3 v0 rfl rfl) h0
  obtain ⟨a1, len1, cap1, rfl⟩ := okWide_slice Try.underlying22 (hval 1 22 v1 rfl rfl)
  have lt1 : ∀ x ∈ p1, x.block < W.heap.size := by obtain ⟨m, hm⟩ := h1; exact DataW.trod_lt m _ _ _ hm
  obtain ⟨l1, hl1⟩ : ∃ l, ActsOk W a1 len1 l := by obtain ⟨fuel, hf⟩ := h1; exact open_acts hf
  obtain ⟨a2, len2, cap2, rfl⟩ := okWide_slice Try.underlying33 (hval 2 33 v2 rfl rfl)
  have lt2 : ∀ x ∈ p2, x.block < W.heap.size := by obtain ⟨m, hm⟩ := h2; exact DataW.trod_lt m _ _ _ hm
  obtain ⟨l2, hl2⟩ : ∃ l, KeepsOk W a2 len2 l := by obtain ⟨fuel, hf⟩ := h2; exact open_keeps hf
  clear hA0 hval0
  refine (walk a0 a1 len1 cap1 l1 a2 len2 cap2 l2 W hl1 hl2).mono fun e W' ⟨he, bel⟩ => ?_
  subst he
  exact ⟨_, rfl, _, _, _, [], _, [], hW', trodAll_mk1 (shut_bool Try.underlying4 _), (trodAll_cons_mk (shut_int Try.underlying3 w0) (trodAll_cons_mk (Below.trod laidOut (by kernel_rfl) (of_decide_eq_true (by kernel_rfl)) h1 bel lt1) (trodAll_cons_mk (Below.trod laidOut (by kernel_rfl) (of_decide_eq_true (by kernel_rfl)) h2 bel lt2) trodAll_mk0))), rfl, bel.frame _, fun h => by cases h⟩

theorem over : Rows.diskFlushedRow.holds Try.pinned (OpenSpec.ofChange Rows.diskFlushedSpec) :=
  OpenClaim.holds_of_wide 4 Try.f4 rfl rfl rfl rfl rfl rfl rfl ⟨rfl, rfl, rfl, rfl, rfl⟩ rfl rfl rfl rfl rfl (by kernel_rfl) Try.func4 (by kernel_rfl)
    (of_decide_eq_true (by kernel_rfl)) (by unfold Func.isWrapper; first | (rw [if_pos (by decide +kernel)]; kernel_rfl) | (rw [if_neg (by decide +kernel)]; exact ⟨rfl, rfl⟩))
    (fun os started H enc _ => lifted os started H enc)
end Go.Proofs.Ytahhhpmpgkfkdaa.diskFlushed
namespace Go.Proofs.Ytahhhpmpgkfkdaa
/-- THE STATEMENT. -/
theorem diskFlushed_holds : Rows.DiskFlushedSaid := diskFlushed.over
#print axioms diskFlushed_holds
end Go.Proofs.Ytahhhpmpgkfkdaa
