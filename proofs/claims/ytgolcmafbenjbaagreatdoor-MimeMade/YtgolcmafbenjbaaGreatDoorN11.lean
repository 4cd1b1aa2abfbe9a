/- What this text holds: the first value of a name, a part's kind, its own texts: the program's calls. -/
import Derived.Test.YtgolcmafbenjbaaGreatDoorN10
namespace Go.Proofs.YtgolcmafbenjbaaGreatDoor
open Go.RowKit
set_option linter.unusedVariables false
set_option linter.unusedSimpArgs false

/-- Fields that may be handed in. -/
structure FieldsOk (L : List (Bs × Bs)) : Prop where
  len : L.length ≤ 1000000
  each : ∀ f ∈ L, f.1.length ≤ 1000000 ∧ f.2.length ≤ 1000000
def FirstIs (L : List (Bs × Bs)) (name : Bs) (w : World) (e : Ending) (w' : World) : Prop := (∃ v, e = .returned v ∧ RL w' v 1 ((firstM L name).map sR) ∧ ∀ g, blk v = some g → w.heap.size ≤ g ∧ g < w'.heap.size) ∧ Below w.heap.size w w'
set_option maxRecDepth 100000 in
set_option maxHeartbeats 2000000 in
theorem first_any {w : World} (he : Env w) {vl : Value} {L : List (Bs × Bs)} (h : RL w vl 2 (L.map fR)) (hL : FieldsOk L) (name : Bs) (hn : name.length ≤ 1000) :
    Calls Tryz.prog 51 #[vl, .string (str name)] w (FirstIs L name w) := by
  have hb0 := below1 w (.cells #[.string (str name)] 9)
  have hra := ra_one w (sR name) 9
  have HG := hid (get_any (he.later hb0) (names := [name]) (h.later hb0) hra hL.len (by simp) (fun f hf => ⟨Nat.le_trans (hL.each f hf).1 (by omega), Nat.le_trans (hL.each f hf).2 (by omega)⟩) (by simp; omega))
  have HF : Hid (firstM L name = (getP L [name]).take 1) := rfl
  have hgl : (getP L [name]).length ≤ 1000000 := Nat.le_trans (getP_len L [name]) hL.len
  unfold FirstIs
  rw [HF.out]
  have HB0 := hid hb0
  clear he h hL hra hb0 HF
  generalize getP L [name] = G at *
  go_enter Tryz.func51, Tryz.ntmps51
  go_wp2_with fail
  refine HG.out.mono ?_
  rintro e w1 ⟨⟨v, rfl, ho⟩, hb1⟩
  have HB1 := hid (HB0.out.trans (hb1.mono HB0.out.size))
  obtain ⟨hw, a1, c1, rfl, hc, hr⟩ := ho.rl
  rw [List.length_map] at *
  clear ho hb1 HG
  rcases hr with hr | ⟨g, o, rfl, hr, hg⟩
  · have : G = [] := by simpa using hr
    subst this
    go_wp2_with fail
    go_ret
    exact ⟨⟨_, rfl, (RO.nil _ 0 9 1).rl, fun g hg => by simp [blk] at hg⟩, HB1.out⟩
  · cases G with
    | nil =>
      go_wp2_with fail
      go_ret
      exact ⟨⟨_, rfl, (RO.nil _ 0 9 1).rl, fun g hg => by simp [blk] at hg⟩, HB1.out⟩
    | cons x G =>
      have hc0 : w1.cell? ⟨g, o, none⟩ = some (.string (str x)) := by
        have := hr 0 0 (sR x) x rfl rfl
        simpa using this
      have hpos : (0 : Int) < (x :: G).length := by simp <;> omega
      have hne : ¬ (((x :: G).length : Int) = 0) := by simp <;> omega
      have HA := hid (ra_one w1 (sR x) 9)
      have HB2 := hid (HB1.out.alloc HB1.out.size (.cells #[.string (str x)] 9))
      generalize (x :: G).length = n at *
      clear hr hg
      go_wp2_with fail
      go_ret
      exact ⟨⟨_, rfl, HA.out, fun g hg => by simp [blk] at hg; have := HB1.out.size; simp; omega⟩, HB2.out⟩

theorem first_len (L : List (Bs × Bs)) (hL : FieldsOk L) (name : Bs) : ∀ t ∈ firstM L name, t.length ≤ 1000000 := by
  intro t ht
  have h1 := List.mem_of_mem_take ht
  unfold getP at h1
  rw [List.mem_map] at h1
  obtain ⟨f, hf, rfl⟩ := h1
  have := (hL.each f (List.mem_filter.1 hf).1).2
  have := unf_len f.2
  omega
def KOut (L : List (Bs × Bs)) (dg : Bool) (w : World) (e : Ending) (w' : World) : Prop :=
  (∃ v, e = .returned (.tuple #[.string (str (kindOfM L dg).1), .string (str (kindOfM L dg).2.1), v]) ∧ RL w' v 2 ((kindOfM L dg).2.2.map pR) ∧ ∀ g, blk v = some g → w.heap.size ≤ g ∧ g < w'.heap.size) ∧ Below w.heap.size w w'
set_option maxRecDepth 100000 in
set_option maxHeartbeats 2000000 in
theorem kindOf_any {w : World} (he : Env w) {vl : Value} {L : List (Bs × Bs)} (h : RL w vl 2 (L.map fR)) (hL : FieldsOk L) (dg : Bool) :
    Calls Tryz.prog 53 #[vl, .bool dg] w (KOut L dg w) := by
  have HC := hid (first_any he h hL nType (by decide))
  have hfl := first_len L hL nType
  have HK : Hid (kindOfM L dg = match firstM L nType with
    | t :: _ => kindM t
    | [] => if dg then (wMess, wRfc, []) else (wText, wPlain, [])) := rfl
  unfold KOut
  rw [HK.out]
  unfold FirstIs at HC
  rw [show (str nType) = { data := #[99, 111, 110, 116, 101, 110, 116, 45, 116, 121, 112, 101] } from rfl] at HC
  generalize firstM L nType = G at *
  clear he h hL HK
  go_enter Tryz.func53, Tryz.ntmps53
  go_wp2_with fail
  refine HC.out.mono ?_
  rintro e w1 ⟨⟨v, rfl, ho, _⟩, hb1⟩
  have HB1 := hid hb1
  obtain ⟨hw, a1, c1, rfl, hc, hr⟩ := ho
  rw [List.length_map] at *
  clear hb1 HC
  cases G with
  | nil =>
    cases dg with
    | true =>
      go_wp2_with fail
      go_ret3
      exact ⟨⟨_, rfl, (RO.nil _ 0 44 2).rl, fun g hg => by simp [blk] at hg⟩, HB1.out⟩
    | false =>
      go_wp2_with fail
      go_ret3
      exact ⟨⟨_, rfl, (RO.nil _ 0 44 2).rl, fun g hg => by simp [blk] at hg⟩, HB1.out⟩
  | cons x G =>
    rcases hr with hr | ⟨g, o, rfl, hr, hg⟩
    · simp at hr
    · have hc0 : w1.cell? ⟨g, o, none⟩ = some (.string (str x)) := by
        have := hr 0 0 (sR x) x rfl rfl
        simpa using this
      have hpos : (0 : Int) < (x :: G).length := by simp <;> omega
      have HKd := hid (kind_any x w1 (hfl x (by simp)))
      generalize (x :: G).length = n at *
      clear hr hg hfl
      go_wp2_with fail
      refine HKd.out.mono ?_
      rintro e w2 ⟨⟨v, rfl, hv, hbk⟩, hb2⟩
      have HV := hid hv
      have HBk := hid hbk
      have HW1 := hid HB1.out.size
      clear hbk
      have HB2 := hid (HB1.out.trans (hb2.mono HB1.out.size))
      clear hv hb2 HKd
      go_wp2_with fail
      go_ret3
      exact ⟨⟨_, rfl, HV.out, fun g hg => ⟨Nat.le_trans HW1.out (HBk.out g hg).1, (HBk.out g hg).2⟩⟩, HB2.out⟩

theorem sp_one (w : World) (a b : Nat) : SpL (w.alloc (.cells #[.int .i64 a, .int .i64 b] 62)) (.slice (some ⟨w.heap.size, 0, none⟩) 1 1) [(a, b)] := by
  refine ⟨_, 1, rfl, by simp, .inr ⟨_, 0, rfl, by simp, fun j t ht => ?_⟩⟩
  cases j with
  | zero =>
    simp at ht
    subst ht
    have := i2_new w a b
    exact ⟨this.c0, this.c1⟩
  | succ j => simp at ht
theorem sp_nil (w : World) : SpL w (.slice none 0 0) [] := ⟨none, 0, rfl, by simp, .inl rfl⟩

set_option maxRecDepth 100000 in
set_option maxHeartbeats 4000000 in
theorem texts_any (m : Bs) (d : Pd) (vp vi vd vk : Value) (w : World) (hp : RL w vp 2 (d.ps.map pR)) (hl : d.ps.length ≤ 1000000) (hbl : (boundM d.ps).length ≤ 1000000) (h1 : d.fr ≤ d.to) (h2 : d.to ≤ m.length) (hm : m.length ≤ 1000000) :
    Calls Tryz.prog 54 #[msgV m, ptV d vp vi vd vk] w fun e w' => (∃ v, e = .returned v ∧ SpL w' v (textsM m d)) ∧ Below w.heap.size w w' := by
  have hB : Below w.heap.size w (((w.alloc (.cells #[.string (str m)] 55)).alloc (.cells (ptC d vp vi vd vk) 33)).alloc (.cells #[.int .i64 d.fr, .int .i64 d.to] 62)) := (below2 w _ _).alloc (by simp; omega) _
  have hG : G1 (((w.alloc (.cells #[.string (str m)] 55)).alloc (.cells (ptC d vp vi vd vk) 33)).alloc (.cells #[.int .i64 d.fr, .int .i64 d.to] 62)) w.heap.size m := ((g1_new w m).later (below1 _ _)).later (below1 _ _)
  have hD : D11 (((w.alloc (.cells #[.string (str m)] 55)).alloc (.cells (ptC d vp vi vd vk) 33)).alloc (.cells #[.int .i64 d.fr, .int .i64 d.to] 62)) (w.heap.size + 1) d vp vi vd vk := by
    have := (d11_new (w.alloc (.cells #[.string (str m)] 55)) d vp vi vd vk).later (below1 _ (.cells #[.int .i64 d.fr, .int .i64 d.to] 62))
    simpa using this
  have hI : I2 (((w.alloc (.cells #[.string (str m)] 55)).alloc (.cells (ptC d vp vi vd vk) 33)).alloc (.cells #[.int .i64 d.fr, .int .i64 d.to] 62)) (w.heap.size + 1 + 1) d.fr d.to := by
    have := i2_new ((w.alloc (.cells #[.string (str m)] 55)).alloc (.cells (ptC d vp vi vd vk) 33)) d.fr d.to
    simpa using this
  have HB := hid hB
  have HG := hid hG
  have HD := hid hD
  have HI := hid hI
  have HP := hid (hp.later hB)
  have HT : Hid (textsM m d = if isLetter d then [(d.fr, d.to)] else if isMulti d = true ∧ boundM d.ps ≠ [] then betM m (45 :: 45 :: boundM d.ps) d.fr d.to else []) := rfl
  have HLe := hid (fun W => letter_any d vp vi vd vk W)
  have HMu := hid (fun W => multi_any d vp vi vd vk W)
  have HBo := hid (fun W (h : RL W vp 2 (d.ps.map pR)) => bound_any d vp vi vd vk W h hl)
  have HBe := hid (fun W => between_any m (45 :: 45 :: boundM d.ps) d.fr d.to W h1 h2 hm)
  have hq := eqL (boundM d.ps) []
  have happ : ({ data := #[45, 45] } : ByteArray) ++ str (boundM d.ps) = str (45 :: 45 :: boundM d.ps) := by
    rw [show ({ data := #[45, 45] } : ByteArray) = str [45, 45] from rfl, app_str]; rfl
  have hsz := str_size (boundM d.ps)
  clear hB hG hD hI hp
  unfold ptV msgV ptC spV at *
  go_enter Tryz.func54, Tryz.ntmps54
  go_wp2_with fail
  generalize (((w.alloc (.cells #[.string (str m)] 55)).alloc (.cells #[.string (str d.ty), .string (str d.sub), vp, vi, vd, .string (str d.enc), .int .i64 d.hd, .int .i64 d.fr, .int .i64 d.to, .int .i64 d.lns, vk] 33)).alloc (.cells #[.int .i64 d.fr, .int .i64 d.to] 62)) = W at *
  generalize w.heap.size + 1 + 1 = R at *
  generalize w.heap.size + 1 = Q at *
  refine (HLe.out W).mono ?_
  rintro e w1 ⟨rfl, hb1⟩
  have HG1 := hid (HG.out.later hb1)
  have HD1 := hid (HD.out.later hb1)
  have HI1 := hid (HI.out.later hb1)
  have HP1 := hid (HP.out.later hb1)
  have HB1 := hid (HB.out.trans (hb1.mono HB.out.size))
  clear hb1 HG HD HI HP HB
  by_cases hle : isLetter d = true
  · have i0 := HI1.out.c0
    have i1 := HI1.out.c1
    have HS := hid (sp_one w1 d.fr d.to)
    have HB2 := hid (HB1.out.alloc HB1.out.size (.cells #[.int .i64 d.fr, .int .i64 d.to] 62))
    have HTe : Hid (textsM m d = [(d.fr, d.to)]) := by rw [Hid, HT.out, if_pos hle]
    rw [hle]
    clear HT hle
    go_wp2_with fail
    go_ret
    rw [HTe.out]
    exact ⟨⟨_, rfl, HS.out⟩, HB2.out⟩
  · have hle' : isLetter d = false := by simpa using hle
    have HTe : Hid (textsM m d = if isMulti d = true ∧ boundM d.ps ≠ [] then betM m (45 :: 45 :: boundM d.ps) d.fr d.to else []) := by rw [Hid, HT.out, if_neg hle]
    obtain ⟨x0, x1, x2, x3, x4, x5, x6, x7, x8, x9, x10⟩ := HD1.out.cs
    rw [hle']
    clear HT hle hle'
    go_wp2_with fail
    refine (HBo.out w1 HP1.out).mono ?_
    rintro e w2 ⟨rfl, hb2⟩
    have HG2 := hid (HG1.out.later hb2)
    have HD2 := hid (HD1.out.later hb2)
    have HI2 := hid (HI1.out.later hb2)
    have HB2 := hid (HB1.out.trans (hb2.mono HB1.out.size))
    clear hb2 HG1 HD1 HI1 HP1 HB1 x0 x1 x2 x3 x4 x5 x6 x7 x8 x9 x10
    obtain ⟨x0, x1, x2, x3, x4, x5, x6, x7, x8, x9, x10⟩ := HD2.out.cs
    go_wp2_with fail
    refine (HMu.out w2).mono ?_
    rintro e w3 ⟨rfl, hb3⟩
    have HG3 := hid (HG2.out.later hb3)
    have HI3 := hid (HI2.out.later hb3)
    have HB3 := hid (HB2.out.trans (hb3.mono HB2.out.size))
    have g0 := HG3.out.c0
    have i0 := HI3.out.c0
    have i1 := HI3.out.c1
    clear hb3 HG2 HD2 HI2 HB2 x0 x1 x2 x3 x4 x5 x6 x7 x8 x9 x10
    by_cases hmu : isMulti d = true
    · by_cases hbo : boundM d.ps = []
      · have hq1 : ((str (boundM d.ps)).toList == []) = true := by rw [hq]; simp [hbo]
        have hq2 : ((str (boundM d.ps)).toList != []) = false := by simp [bne, hq1]
        have HTe2 : Hid (textsM m d = []) := by rw [Hid, HTe.out, if_neg (fun h => h.2 hbo)]
        rw [hmu]
        clear HTe hmu hbo hq
        go_wp2_with fail
        go_ret
        rw [HTe2.out]
        exact ⟨⟨_, rfl, sp_nil _⟩, HB3.out⟩
      · have hq1 : ((str (boundM d.ps)).toList == []) = false := by rw [hq]; simp [hbo]
        have hq2 : ((str (boundM d.ps)).toList != []) = true := by simp [bne, hq1]
        have HTe2 : Hid (textsM m d = betM m (45 :: 45 :: boundM d.ps) d.fr d.to) := by rw [Hid, HTe.out, if_pos ⟨hmu, hbo⟩]
        rw [hmu]
        have HBe3 := hid (HBe.out w3)
        clear HTe hmu hbo hq
        go_wp2_with fail
        refine HBe3.out.mono ?_
        rintro e w4 ⟨⟨v, rfl, hv⟩, hb4⟩
        have HV := hid hv
        have HB4 := hid (HB3.out.trans (hb4.mono HB3.out.size))
        clear hv hb4
        go_wp2_with fail
        go_ret
        rw [HTe2.out]
        exact ⟨⟨_, rfl, HV.out⟩, HB4.out⟩
    · have hmu' : isMulti d = false := by simpa using hmu
      have HTe2 : Hid (textsM m d = []) := by rw [Hid, HTe.out, if_neg (fun h => hmu h.1)]
      rw [hmu']
      clear HTe hmu hmu' hq
      go_wp2_with fail
      go_ret
      rw [HTe2.out]
      exact ⟨⟨_, rfl, sp_nil _⟩, HB3.out⟩
end Go.Proofs.YtgolcmafbenjbaaGreatDoor
