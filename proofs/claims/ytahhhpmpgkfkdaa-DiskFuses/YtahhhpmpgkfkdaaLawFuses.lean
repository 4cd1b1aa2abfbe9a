/- Proved here: with a fuse just so many steps are done, and from then on none, and nothing is read (DiskFuses returns true for every input, and leaves its arguments as they were). No condition. -/
import Derived.Test.YtahhhpmpgkfkdaaRows
import Derived.Test.YtahhhpmpgkfkdaaOps
import Derived.ProofKit
import Derived.OpenShut
import Derived.ShutString
import Derived.ChangeOld
import Derived.Below
import Derived.Deep.Grids
namespace Go.Proofs.Ytahhhpmpgkfkdaa.diskFuses
open Go.ChangeShapes Go.WideShapes Go.ChangeAt Go.RowKit
set_option linter.unusedVariables false

/-- A slice of bools that came in. -/
def Bools (w : World) (a : Option Addr) (len : Nat) (B : Nat → Bool) : Prop := len ≤ maxLen ∧ (0 < len → ∃ x, a = some x ∧ ∀ i, i < len → w.cell? (x.add i) = some (.bool (B i)))

set_option maxRecDepth 100000 in
set_option maxHeartbeats 4000000 in
theorem walk_none (n fu : Int) (v : Value) (w : World) (h : n < 1 ∨ 4096 < n) :
    Calls Try.prog 7 #[.int .i64 n, .int .i64 fu, v] w fun e w' => e = .returned (.bool true) ∧ Below w.heap.size w w' := by
  have HN := hid h
  clear h
  go_enter Try.func7, Try.ntmps7
  go_wp2_with (first | (go_at_call 9; refine (new_no n _ HN.out).mono ?_; rintro e w ⟨rfl, rfl⟩) | (go_at_call 11; refine (no_any _ _).mono ?_; rintro e w ⟨rfl, rfl⟩) | (go_at_call 12; refine (alive_any _).mono ?_; rintro e w2 ⟨rfl, hb⟩))
  go_ret
  exact ⟨rfl, hb⟩

set_option maxRecDepth 100000 in
set_option maxHeartbeats 4000000 in
theorem walk_long (n : Nat) (fu : Int) (a : Option Addr) (len cap : Nat) (w : World) (h1 : 1 ≤ n) (h2 : n ≤ 4096) (hl : 60 < len) (hm : len ≤ maxLen) :
    Calls Try.prog 7 #[.int .i64 n, .int .i64 fu, .slice a len cap] w fun e w' => e = .returned (.bool true) ∧ Below w.heap.size w w' := by
  unfold maxLen at hm
  have hl' : (60 : Int) < len := by omega
  go_enter Try.func7, Try.ntmps7
  go_wp2_with (first | (go_at_call 9; refine (new_yes n _ h1 h2).mono ?_; rintro e w1 ⟨b, own, rfl, hd, hb⟩) | (go_at_call 11; refine (no_any _ _).mono ?_; rintro e w1 ⟨rfl, rfl⟩) | (go_at_call 12; refine (alive_any _).mono ?_; rintro e w2 ⟨rfl, hb2⟩))
  go_ret
  exact ⟨rfl, hb.trans (hb2.mono hb.size)⟩

theorem tm_lo (x : Int) : -61 < x.tmod 61 := by
  rcases Int.le_total 0 x with h | h
  · have := Int.tmod_nonneg 61 h; omega
  · have := Int.tmod_nonneg 61 (show 0 ≤ -x by omega)
    have h2 := Int.tmod_lt_of_pos (-x) (show (0 : Int) < 61 by omega)
    rw [Int.neg_tmod] at this h2
    omega
theorem tm_hi (x : Int) : x.tmod 61 < 61 := Int.tmod_lt_of_pos x (by omega)
theorem tm_fuse (x : Int) : ∃ f : Nat, (x.tmod 61 + 61) % 61 = f ∧ x.tmod 61 % 61 = f ∧ f ≤ 60 :=
  ⟨((x.tmod 61) % 61).toNat, by omega, by omega, by omega⟩

/-- The disk behind k steps that were asked for, with a fuse of f. -/
structure Fused (f n k : Nat) (D : DS) : Prop where
  n : D.n = n
  w : D.waits.length ≤ k
  s : D.steps = min f k
  g : D.gone = decide (f < k)
  u : D.fuse = ((f - k : Nat) : Int)

theorem Fused.step_yes {f n k : Nat} {D : DS} (h : Fused f n k D) (hk : k < f) : D.step = (true, { D with fuse := D.fuse - 1, steps := D.steps + 1 }) := by
  have h1 : D.gone = false := by rw [h.g]; simp; omega
  have h2 := h.u
  simp only [DS.step, h1]
  rw [if_neg (by simp; omega), if_pos (by omega)]
theorem Fused.step_no {f n k : Nat} {D : DS} (h : Fused f n k D) (hk : f ≤ k) : D.step = (false, { D with gone := true }) := by
  have h2 := h.u
  simp only [DS.step]
  rw [if_pos (by right; omega)]
theorem Fused.after_yes {f n k : Nat} {D : DS} (h : Fused f n k D) (hk : k < f) (l : List Int) (ws : List (Int × List Int)) (hw : ws.length ≤ k + 1) :
    Fused f n (k + 1) { n := D.n, secs := l, waits := ws, fuse := D.fuse - 1, gone := D.gone, steps := D.steps + 1 } :=
  ⟨h.n, hw, by show D.steps + 1 = _; rw [h.s]; omega, by show D.gone = _; rw [h.g]; simp; omega, by show D.fuse - 1 = _; rw [h.u]; omega⟩
theorem Fused.after_no {f n k : Nat} {D : DS} (h : Fused f n k D) (hk : f ≤ k) : Fused f n (k + 1) { D with gone := true } :=
  ⟨h.n, Nat.le_succ_of_le h.w, by show D.steps = _; rw [h.s]; omega, by simp; omega, by show D.fuse = _; rw [h.u]; omega⟩

/-- What a round's call answers. -/
def ans (f k : Nat) : Int := if k < f then 0 else 9

theorem flush_round {w : World} {B b f n k : Nat} {own : List Nat} {D : DS} (h : Disk w B b own D) (hf : Fused f n k D) (hf60 : f ≤ 60) :
    D.flush.1 = ans f k ∧ Fused f n (k + 1) D.flush.2 := by
  by_cases hk : k < f
  · have e := hf.step_yes hk
    unfold DS.flush ans
    rw [e, if_pos hk]
    exact ⟨rfl, hf.after_yes hk _ [] (by simp)⟩
  · have e := hf.step_no (by omega)
    unfold DS.flush ans
    rw [e, if_neg hk]
    exact ⟨rfl, hf.after_no (by omega)⟩
theorem write_round {w : World} {B b f n k : Nat} {own : List Nat} {D : DS} (h : Disk w B b own D) (hf : Fused f n k D) (l : List Int) (hl : l.length = 512) :
    (D.write 0 l).1 = ans f k ∧ Fused f n (k + 1) (D.write 0 l).2 := by
  have hn := h.good.n1
  have h0 : (0 : Int) ≤ 0 ∧ (0 : Int) < D.n := ⟨by omega, by omega⟩
  by_cases hk : k < f
  · have e := hf.step_yes hk
    have e2 : D.write 0 l = (0, { n := D.n, secs := D.secs, waits := D.waits ++ [(0, l)], fuse := D.fuse - 1, gone := D.gone, steps := D.steps + 1 }) := by
      unfold DS.write
      rw [if_neg (by simp [hl]), if_neg (by simp; omega), e]
      rfl
    unfold ans
    rw [e2, if_pos hk]
    exact ⟨rfl, hf.after_yes hk _ _ (by have := hf.w; simp; omega)⟩
  · have e := hf.step_no (by omega)
    have e2 : D.write 0 l = (9, { D with gone := true }) := by
      unfold DS.write
      rw [if_neg (by simp [hl]), if_neg (by simp; omega), e]
      rfl
    unfold ans
    rw [e2, if_neg hk]
    exact ⟨rfl, hf.after_no (by omega)⟩

set_option maxRecDepth 100000 in
set_option maxHeartbeats 4000000 in
theorem walk_main (n : Nat) (fu : Int) (a : Option Addr) (len cap : Nat) (B : Nat → Bool) (w : World) (h1 : 1 ≤ n) (h2 : n ≤ 4096) (hl : len ≤ 60) (hB : Bools w a len B) :
    Calls Try.prog 7 #[.int .i64 n, .int .i64 fu, .slice a len cap] w fun e w' => e = .returned (.bool true) ∧ Below w.heap.size w w' := by
  have hl' : (len : Int) ≤ 60 := by omega
  have hdl : decide ((60 : Int) < len) = false := by simp; omega
  have HBo := hid hB
  have t1 := tm_lo fu
  have t2 := tm_hi fu
  clear hB
  go_enter Try.func7, Try.ntmps7
  go_wp2_with (first | (go_at_call 9; refine (new_yes n _ h1 h2).mono ?_; rintro e w1 ⟨b, own, rfl, hd, hb⟩) | (go_at_call 11; refine (no_any _ _).mono ?_; rintro e w1 ⟨rfl, rfl⟩))
  obtain ⟨f, hf, hf', hf60⟩ := tm_fuse fu
  rw [hf, hf']
  clear hf hf' t1 t2
  refine (fuse_all hd f (by omega)).mono ?_
  rintro e w2 ⟨rfl, hd2, hk2⟩
  have hb2 := hd.below hk2 hb (Nat.le_refl _)
  have hF : Fused f n 0 ((DS.blank n).fused f) := ⟨rfl, by simp [DS.fused, DS.blank], by simp [DS.fused, DS.blank], by simp [DS.fused, DS.blank], by simp only [DS.fused]; omega⟩
  have hDF : ∃ own D, Disk w2 w.heap.size b own D ∧ Fused f n 0 D := ⟨_, _, hd2, hF⟩
  have HDF := hid hDF
  clear hd hb hk2 hd2 hF hDF
  go_wp2_with fail
  go_loopw [37] (fun q wr => ∃ k : Nat, k ≤ len ∧ q = .int .i64 k ∧ Hid (∃ own D, Disk wr w.heap.size b own D ∧ Fused f n k D) ∧ Below w.heap.size w wr) (fun q _ => len - (intOf q).toNat)
  case atStart => exact ⟨0, by omega, rfl, HDF, hb2⟩
  case round =>
    obtain ⟨k, hkl, rfl, hDF, hbr⟩ := hrel
    obtain ⟨own2, D, hdr, hfr⟩ := hDF.out
    by_cases hlt : k < len
    · obtain ⟨x, rfl, hx⟩ := HBo.out.2 (by omega)
      have hc : wr.cell? (x.add k) = some (.bool (B k)) := cell_later hbr (hx k hlt)
      have hst : D.steps < 1000 := by rw [hfr.s]; omega
      have hwt : D.waits.length < 200 := by have := hfr.w; omega
      have HR := hid hdr
      have HF := hid hfr
      clear hdr hfr hDF HDF hx
      cases hBk : B k with
      | true =>
        rw [hBk] at hc
        go_wp2_with fail
        refine (flush_all HR.out hst).mono ?_
        rintro e w3 ⟨rfl, own3, hd3, hk3, _⟩
        obtain ⟨e1, hF3⟩ := flush_round HR.out HF.out hf60
        have hb3 := HR.out.below hk3 hbr (Nat.le_refl _)
        have HN := hid (show ∃ own D, Disk w3 w.heap.size b own D ∧ Fused f n (k + 1) D from ⟨_, _, hd3, hF3⟩)
        rw [e1]
        clear e1 hF3 hd3 hk3 HR HF hst hwt
        by_cases hkf : k < f
        · have ea : ans f k = 0 := if_pos hkf
          rw [ea]
          clear ea
          go_wp2_with (first | (go_at_call 11; refine (no_any _ _).mono ?_; rintro e w3 ⟨rfl, rfl⟩))
          go_roundw
          case rel => exact ⟨k + 1, by omega, by go_num, HN, hb3⟩
          case measure => simp [intOf]; omega
        · have ea : ans f k = 9 := if_neg hkf
          rw [ea]
          clear ea
          go_wp2_with (first | (go_at_call 11; refine (no_any _ _).mono ?_; rintro e w3 ⟨rfl, rfl⟩))
          go_roundw
          case rel => exact ⟨k + 1, by omega, by go_num, HN, hb3⟩
          case measure => simp [intOf]; omega
      | false =>
        rw [hBk] at hc
        go_wp2_with fail
        refine (of_512 _ _).mono ?_
        rintro e w2b ⟨g, rfl, hgB, hgg, hbg⟩
        have hd2b := HR.out.keep (Kept.ofBelow hbg []) (by simp)
        have hwr := write_all hd2b hst hwt 0 (some ⟨g, 0, none⟩) 512 512 _ (by decide) ⟨rep_length _ _, fun _ => ⟨_, rfl, fun j v hv => by rw [Addr.add_mid, Nat.zero_add]; simp only [World.cell?, hgg]; simpa using hv⟩⟩ (fun x hx hm => by
          simp only [Option.some.injEq] at hx
          subst hx
          have := (HR.out.lt _ hm).2
          simp only at this
          omega)
        have hb2b := hbr.trans (hbg.mono hbr.size)
        have HWR := hid hwr
        have H2B := hid hd2b
        clear hwr hd2b hgg hbg
        go_wp2_with fail
        refine HWR.out.mono ?_
        rintro e w3 ⟨rfl, own3, hd3, hk3, _⟩
        obtain ⟨e1, hF3⟩ := write_round H2B.out HF.out _ (rep_length _ _)
        have hb3 := H2B.out.below hk3 hb2b (Nat.le_refl _)
        have HN := hid (show ∃ own D, Disk w3 w.heap.size b own D ∧ Fused f n (k + 1) D from ⟨_, _, hd3, hF3⟩)
        rw [e1]
        clear e1 hF3 hd3 hk3 HR HF hst hwt HWR H2B
        by_cases hkf : k < f
        · have ea : ans f k = 0 := if_pos hkf
          rw [ea]
          clear ea
          go_wp2_with (first | (go_at_call 11; refine (no_any _ _).mono ?_; rintro e w3 ⟨rfl, rfl⟩))
          go_roundw
          case rel => exact ⟨k + 1, by omega, by go_num, HN, hb3⟩
          case measure => simp [intOf]; omega
        · have ea : ans f k = 9 := if_neg hkf
          rw [ea]
          clear ea
          go_wp2_with (first | (go_at_call 11; refine (no_any _ _).mono ?_; rintro e w3 ⟨rfl, rfl⟩))
          go_roundw
          case rel => exact ⟨k + 1, by omega, by go_num, HN, hb3⟩
          case measure => simp [intOf]; omega
    · have e : k = len := by omega
      subst e
      obtain ⟨bs, sc, wv, hda, rfl⟩ := hdr
      have hn0 : 0 < D.n := hda.good.n1
      have HR := hid hda
      have HF := hid hfr
      clear hda hfr hDF HDF
      rcases (by omega : k < f ∨ f = k ∨ f < k) with hkf | hkf | hkf
      · have hg : D.gone = false := by rw [HF.out.g]; simp; omega
        have hs : D.steps = (k : Int) := by rw [HF.out.s]; omega
        have hr : Calls Try.prog 26 #[.pointer (some ⟨b, 0, none⟩), .int .i64 0] wr _ := read_yes HR.out 0 hn0 hg
        have hkf' : (k : Int) < f := by omega
        have HRd := hid hr
        have HS := hid hs
        clear hr hg hs
        go_wp2_with fail
        refine HRd.out.mono ?_
        rintro e w4 ⟨g, rfl, hgB, hgg, hb4⟩
        have hst := steps_any (HR.out.keep (Kept.ofBelow hb4 []) (by simp))
        rw [HS.out] at hst
        have HST := hid hst
        clear hst hgg HRd HR HF
        go_wp2_with (first | (go_at_call 11; refine (no_any _ _).mono ?_; rintro e w4 ⟨rfl, rfl⟩) | (go_at_call 28; refine HST.out.mono ?_; rintro e w4 ⟨rfl, rfl⟩) | (go_at_call 12; refine (alive_any _).mono ?_; rintro e w5 ⟨rfl, hb5⟩))
        go_ret
        have hb6 := hbr.trans (hb4.mono hbr.size)
        exact ⟨rfl, hb6.trans (hb5.mono hb6.size)⟩
      · obtain rfl : k = f := hkf.symm
        have hg : D.gone = false := by rw [HF.out.g]; simp
        have hs : D.steps = (k : Int) := by rw [HF.out.s]; omega
        have hr : Calls Try.prog 26 #[.pointer (some ⟨b, 0, none⟩), .int .i64 0] wr _ := read_yes HR.out 0 hn0 hg
        have HRd := hid hr
        have HS := hid hs
        clear hr hg hs
        go_wp2_with fail
        refine HRd.out.mono ?_
        rintro e w4 ⟨g, rfl, hgB, hgg, hb4⟩
        have hst := steps_any (HR.out.keep (Kept.ofBelow hb4 []) (by simp))
        rw [HS.out] at hst
        have HST := hid hst
        clear hst hgg HRd HR HF
        go_wp2_with (first | (go_at_call 11; refine (no_any _ _).mono ?_; rintro e w4 ⟨rfl, rfl⟩) | (go_at_call 28; refine HST.out.mono ?_; rintro e w4 ⟨rfl, rfl⟩) | (go_at_call 12; refine (alive_any _).mono ?_; rintro e w5 ⟨rfl, hb5⟩))
        go_ret
        have hb6 := hbr.trans (hb4.mono hbr.size)
        exact ⟨rfl, hb6.trans (hb5.mono hb6.size)⟩
      · have hg : D.gone = true := by rw [HF.out.g]; simp; omega
        have hs : D.steps = (f : Int) := by rw [HF.out.s]; omega
        have hr : Calls Try.prog 26 #[.pointer (some ⟨b, 0, none⟩), .int .i64 0] wr _ := read_gone HR.out 0 hn0 hg
        have hkf' : (f : Int) < k := by omega
        have hdk : decide (k ≤ f) = false := by simp; omega
        have hdk2 : decide ((k : Int) ≤ (f : Int)) = false := by simp; omega
        have hst := steps_any HR.out
        rw [hs] at hst
        have HST := hid hst
        have HRd := hid hr
        clear hr hg hs hst
        go_wp2_with (first | (go_at_call 26; refine HRd.out.mono ?_; rintro e wr ⟨rfl, rfl⟩) | (go_at_call 11; refine (no_any _ _).mono ?_; rintro e wr ⟨rfl, rfl⟩) | (go_at_call 28; refine HST.out.mono ?_; rintro e wr ⟨rfl, rfl⟩) | (go_at_call 12; refine (alive_any _).mono ?_; rintro e w5 ⟨rfl, hb5⟩))
        go_ret
        exact ⟨rfl, hbr.trans (hb5.mono hbr.size)⟩

theorem own : ownKnob Try.prog.godebug = none := by kernel_rfl
theorem laidOut : laidOutB Try.prog = true := by kernel_rfl

theorem walk (n fu : Int) (a : Option Addr) (len cap : Nat) (B : Nat → Bool) (w : World) (hB : Bools w a len B) :
    Calls Try.prog 7 #[.int .i64 n, .int .i64 fu, .slice a len cap] w fun e w' => e = .returned (.bool true) ∧ Below w.heap.size w w' := by
  by_cases hn : n < 1 ∨ 4096 < n
  · exact walk_none n fu _ w hn
  · obtain ⟨m, rfl⟩ : ∃ m : Nat, n = m := ⟨n.toNat, by omega⟩
    by_cases hl : 60 < len
    · exact walk_long m fu a len cap w (by omega) (by omega) hl hB.1
    · exact walk_main m fu a len cap B w (by omega) (by omega) (by omega) hB

set_option maxRecDepth 100000 in
theorem lifted (os : Os) (started : os.Started) (H : Type) (enc : TypeId × Value → H) :
    ReturnsInHanded {} Try.checked os 7 .any (Rows.diskFusesSpec.pre6 enc Try.prog Try.f7 Rows.diskFusesRow.domain false) (Rows.diskFusesSpec.post enc Try.prog Try.f7 false true false false) := by
  refine returnsInHanded_of_change (C := Try.checked) own started (by kernel_rfl) Try.func7
    (ChangeSpec.witness6 (enc := enc) (C := Try.checked) false ⟨#[], #[.int .i64 0, .int .i64 0, .slice none 0 0], []⟩ 8 (by kernel_rfl) (by kernel_rfl) (by kernel_rfl) (by kernel_rfl)) ?_
  intro W base args ds gs before hval0 hW hcnd _
  have hval : ∀ (j : Nat) t v, Try.f7.params[j]? = some t → args[j]? = some v → Value.okWide Try.prog W .any base t v := hval0
  have hW' := hW
  obtain ⟨p, q, hA0, hV, rfl, hfz, hnd⟩ := hW
  have hA : DataW.TrodAll enc Try.prog W 0 (fun _ => true) true Try.f7.params.toList args.toList ds p := hA0
  rw [Try.params7] at hA hval
  obtain ⟨v0, vs0, d0, ds0, p0, q0, hargs, rfl, rfl, h0, r0⟩ := trodAll_cons hA
  obtain ⟨v1, vs1, d1, ds1, p1, q1, rfl, rfl, rfl, h1, r1⟩ := trodAll_cons r0
  obtain ⟨v2, vs2, d2, ds2, p2, q2, rfl, rfl, rfl, h2, r2⟩ := trodAll_cons r1
  obtain ⟨rfl, rfl, rfl⟩ := trodAll_nil r2
  obtain rfl : args = #[v0, v1, v2] := by cases args; simp_all
  obtain ⟨rfl, rfl⟩ := trodVars_none hV
  obtain ⟨a0, rfl, rfl, rfl, w0⟩ := open_int Try.underlying3 (hval 0 3 v0 rfl rfl) h0
  obtain ⟨a1, rfl, rfl, rfl, w1⟩ := open_int Try.underlying3 (hval 1 3 v1 rfl rfl) h1
  obtain ⟨a2, len2, cap2, rfl⟩ := okWide_slice Try.underlying56 (hval 2 56 v2 rfl rfl)
  have lt2 : ∀ x ∈ p2, x.block < W.heap.size := by obtain ⟨m, hm⟩ := h2; exact DataW.trod_lt m _ _ _ hm
  obtain ⟨B, hB⟩ : ∃ B, Bools W a2 len2 B := by
    obtain ⟨fuel, hf⟩ := h2
    rcases Deep.open_bools Try.underlying56 Try.underlying4 (by kernel_rfl) hf with ⟨hcs, _⟩ | ⟨x, l, c, Bf, hcs, _, hl, hm, _, hcell⟩
    · simp [Value.cells] at hcs
      obtain ⟨rfl, rfl, rfl⟩ := hcs
      exact ⟨fun _ => false, by unfold maxLen; omega, fun h => by omega⟩
    · simp [Value.cells] at hcs
      obtain ⟨rfl, rfl, rfl⟩ := hcs
      exact ⟨Bf, by omega, fun _ => ⟨x, rfl, fun i hi => hcell i (by omega)⟩⟩
  clear hA0 hval0
  refine (walk a0 a1 a2 len2 cap2 B W hB).mono fun e W' ⟨he, bel⟩ => ?_
  subst he
  exact ⟨_, rfl, _, _, _, [], _, [], hW', trodAll_mk1 (shut_bool Try.underlying4 _), (trodAll_cons_mk (shut_int Try.underlying3 w0) (trodAll_cons_mk (shut_int Try.underlying3 w1) (trodAll_cons_mk (Below.trod laidOut (by kernel_rfl) (of_decide_eq_true (by kernel_rfl)) h2 bel lt2) trodAll_mk0))), rfl, bel.frame _, fun h => by cases h⟩

theorem over : Rows.diskFusesRow.holds Try.pinned (OpenSpec.ofChange Rows.diskFusesSpec) :=
  OpenClaim.holds_of_wide 7 Try.f7 rfl rfl rfl rfl rfl rfl rfl ⟨rfl, rfl, rfl, rfl, rfl⟩ rfl rfl rfl rfl rfl (by kernel_rfl) Try.func7 (by kernel_rfl)
    (of_decide_eq_true (by kernel_rfl)) (by unfold Func.isWrapper; first | (rw [if_pos (by decide +kernel)]; kernel_rfl) | (rw [if_neg (by decide +kernel)]; exact ⟨rfl, rfl⟩))
    (fun os started H enc _ => lifted os started H enc)
end Go.Proofs.Ytahhhpmpgkfkdaa.diskFuses
namespace Go.Proofs.Ytahhhpmpgkfkdaa
/-- THE STATEMENT. -/
theorem diskFuses_holds : Rows.DiskFusesSaid := diskFuses.over
#print axioms diskFuses_holds
end Go.Proofs.Ytahhhpmpgkfkdaa
