/- What this text holds: what a number says of a part; a part's header and content: the program's calls. (Written by gen22.py.) -/
import Derived.Test.YtgolcmafbenjbaaGreatDoorN21
namespace Go.Proofs.YtgolcmafbenjbaaGreatDoor
open Go.RowKit
set_option linter.unusedVariables false
set_option linter.unusedSimpArgs false

set_option maxRecDepth 100000 in
set_option maxHeartbeats 4000000 in
theorem numbered_any {w : World} {N : Nat → Prop} {p : Pt} {vp vi vd vk : Value} (hp : PtAt w N 7 p vp vi vd vk) (hN : ∀ q, N q → q < w.heap.size) (n : Int) (hkl : p.kids.length ≤ 1000) : Calls Tryz.prog 40 #[ptV p.d vp vi vd vk, .int .i64 n] w (POpt N (numberedM p n) w) := by
  obtain ⟨pa, pn, pc, ia, n1, c1, da, n2, c2, ka, kn, kc, rfl, rfl, rfl, rfl⟩ := hp.slices
  have hkn : kn = p.kids.length := by obtain ⟨a, c, h, _⟩ := KsAt.slice hp.k; simp at h; exact h.2.1
  subst hkn
  have hB : Below w.heap.size w ((w.alloc (.cells #[.string (str p.d.ty), .string (str p.d.sub), .slice pa pn pc, .slice ia n1 c1, .slice da n2 c2, .string (str p.d.enc), .int .i64 p.d.hd, .int .i64 p.d.fr, .int .i64 p.d.to, .int .i64 p.d.lns, .slice ka p.kids.length kc] 33)).alloc (.cells #[.string ⟨#[]⟩, .string ⟨#[]⟩, .slice none 0 0, .slice none 0 0, .slice none 0 0, .string ⟨#[]⟩, .int .i64 0, .int .i64 0, .int .i64 0, .int .i64 0, .slice none 0 0] 33)) := below2 w _ _
  have HB := hid hB
  have HP := hid (hp.later hB)
  have HD : Hid (D11 ((w.alloc (.cells #[.string (str p.d.ty), .string (str p.d.sub), .slice pa pn pc, .slice ia n1 c1, .slice da n2 c2, .string (str p.d.enc), .int .i64 p.d.hd, .int .i64 p.d.fr, .int .i64 p.d.to, .int .i64 p.d.lns, .slice ka p.kids.length kc] 33)).alloc (.cells #[.string ⟨#[]⟩, .string ⟨#[]⟩, .slice none 0 0, .slice none 0 0, .slice none 0 0, .string ⟨#[]⟩, .int .i64 0, .int .i64 0, .int .i64 0, .int .i64 0, .slice none 0 0] 33)) w.heap.size p.d (.slice pa pn pc) (.slice ia n1 c1) (.slice da n2 c2) (.slice ka p.kids.length kc)) := (d11_new w p.d (.slice pa pn pc) (.slice ia n1 c1) (.slice da n2 c2) (.slice ka p.kids.length kc)).later (below1 _ _)
  have HR : Hid (D11 ((w.alloc (.cells #[.string (str p.d.ty), .string (str p.d.sub), .slice pa pn pc, .slice ia n1 c1, .slice da n2 c2, .string (str p.d.enc), .int .i64 p.d.hd, .int .i64 p.d.fr, .int .i64 p.d.to, .int .i64 p.d.lns, .slice ka p.kids.length kc] 33)).alloc (.cells #[.string ⟨#[]⟩, .string ⟨#[]⟩, .slice none 0 0, .slice none 0 0, .slice none 0 0, .string ⟨#[]⟩, .int .i64 0, .int .i64 0, .int .i64 0, .int .i64 0, .slice none 0 0] 33)) (w.heap.size + 1) Pd.zero nilV nilV nilV nilV) := by
    have h : D11 ((w.alloc (.cells #[.string (str p.d.ty), .string (str p.d.sub), .slice pa pn pc, .slice ia n1 c1, .slice da n2 c2, .string (str p.d.enc), .int .i64 p.d.hd, .int .i64 p.d.fr, .int .i64 p.d.to, .int .i64 p.d.lns, .slice ka p.kids.length kc] 33)).alloc (.cells #[.string ⟨#[]⟩, .string ⟨#[]⟩, .slice none 0 0, .slice none 0 0, .slice none 0 0, .string ⟨#[]⟩, .int .i64 0, .int .i64 0, .int .i64 0, .int .i64 0, .slice none 0 0] 33)) (w.alloc (.cells #[.string (str p.d.ty), .string (str p.d.sub), .slice pa pn pc, .slice ia n1 c1, .slice da n2 c2, .string (str p.d.enc), .int .i64 p.d.hd, .int .i64 p.d.fr, .int .i64 p.d.to, .int .i64 p.d.lns, .slice ka p.kids.length kc] 33)).heap.size Pd.zero nilV nilV nilV nilV := heap_alloc_new _ _
    rw [show (w.alloc (.cells #[.string (str p.d.ty), .string (str p.d.sub), .slice pa pn pc, .slice ia n1 c1, .slice da n2 c2, .string (str p.d.enc), .int .i64 p.d.hd, .int .i64 p.d.fr, .int .i64 p.d.to, .int .i64 p.d.lns, .slice ka p.kids.length kc] 33)).heap.size = w.heap.size + 1 by simp] at h
    exact h
  have HRB : Hid (w.heap.size ≤ w.heap.size + 1) := by rw [Hid]; omega
  have HLt : Hid (w.heap.size + 1 < ((w.alloc (.cells #[.string (str p.d.ty), .string (str p.d.sub), .slice pa pn pc, .slice ia n1 c1, .slice da n2 c2, .string (str p.d.enc), .int .i64 p.d.hd, .int .i64 p.d.fr, .int .i64 p.d.to, .int .i64 p.d.lns, .slice ka p.kids.length kc] 33)).alloc (.cells #[.string ⟨#[]⟩, .string ⟨#[]⟩, .slice none 0 0, .slice none 0 0, .slice none 0 0, .string ⟨#[]⟩, .int .i64 0, .int .i64 0, .int .i64 0, .int .i64 0, .slice none 0 0] 33)).heap.size) := HR.out.lt
  have hNR : ∀ i ∈ [w.heap.size + 1], ¬ N i := fun i hi h => by rw [List.mem_singleton] at hi; have := hN i h; omega
  have HNR := hid hNR
  have hNW : ∀ q, N q → q < ((w.alloc (.cells #[.string (str p.d.ty), .string (str p.d.sub), .slice pa pn pc, .slice ia n1 c1, .slice da n2 c2, .string (str p.d.enc), .int .i64 p.d.hd, .int .i64 p.d.fr, .int .i64 p.d.to, .int .i64 p.d.lns, .slice ka p.kids.length kc] 33)).alloc (.cells #[.string ⟨#[]⟩, .string ⟨#[]⟩, .slice none 0 0, .slice none 0 0, .slice none 0 0, .string ⟨#[]⟩, .int .i64 0, .int .i64 0, .int .i64 0, .int .i64 0, .slice none 0 0] 33)).heap.size := fun q h => by have := hN q h; have := hB.size; omega
  have HNW := hid hNW
  have HPa := hid (fun W => parted_any (p := p) (vp := .slice pa pn pc) (vi := .slice ia n1 c1) (vd := .slice da n2 c2) (ka := ka) (kc := kc) W)
  have HM : Hid (numberedM p n = if partedB p then (if n < 1 ∨ (p.kids.length : Int) < n then none else p.kids[(n - 1).toNat]?) else if n = 1 then some p else none) := rfl
  clear hB hp hN hNR hNW
  unfold ptV ptC at *
  go_enter Tryz.func40, Tryz.ntmps40
  go_wp2_with fail
  generalize ((w.alloc (.cells #[.string (str p.d.ty), .string (str p.d.sub), .slice pa pn pc, .slice ia n1 c1, .slice da n2 c2, .string (str p.d.enc), .int .i64 p.d.hd, .int .i64 p.d.fr, .int .i64 p.d.to, .int .i64 p.d.lns, .slice ka p.kids.length kc] 33)).alloc (.cells #[.string ⟨#[]⟩, .string ⟨#[]⟩, .slice none 0 0, .slice none 0 0, .slice none 0 0, .string ⟨#[]⟩, .int .i64 0, .int .i64 0, .int .i64 0, .int .i64 0, .slice none 0 0] 33)) = W at *
  generalize w.heap.size + 1 = R at *
  refine (HPa.out W).mono ?_
  rintro e w1 ⟨rfl, hb1⟩
  have HD1 := hid (HD.out.later hb1)
  have HR1 := hid (HR.out.later hb1)
  have HP1 := hid (HP.out.later hb1)
  have HB1 := hid (HB.out.trans (hb1.mono HB.out.size))
  have HNW1 : Hid (∀ q, N q → q < w1.heap.size) := fun q h => Nat.lt_of_lt_of_le (HNW.out q h) hb1.size
  obtain ⟨x0, x1, x2, x3, x4, x5, x6, x7, x8, x9, x10⟩ := HD1.out.cs
  clear hb1
  cases hpt : partedB p with
  | false =>
    by_cases hn1 : n = 1
    · have HM2 : Hid (numberedM p n = some p) := by rw [Hid, HM.out, hpt, if_pos hn1]; rfl
      have hnb : (n == 1) = true := by simp [hn1]
      go_wp2_with (refine wpList_store33 (d := p.d) (pa := pa) (pn := pn) (pc := pc) (ia := ia) (n1 := n1) (c1 := c1) (da := da) (n2 := n2) (c2 := c2) (ka := ka) (kn := p.kids.length) (kc := kc) rfl rfl HR1.out ?_)
      have q1 := row11_is HR1.out p.d (.slice pa pn pc) (.slice ia n1 c1) (.slice da n2 c2) (.slice ka p.kids.length kc)
      have q2 := row11_self w1 R p.d (.slice pa pn pc) (.slice ia n1 c1) (.slice da n2 c2) (.slice ka p.kids.length kc)
      refine bodyPost_ret (w := row11 w1 R p.d (.slice pa pn pc) (.slice ia n1 c1) (.slice da n2 c2) (.slice ka p.kids.length kc)) (results40_run _ rfl rfl q1) rfl ?_
      rw [HM2.out]
      exact POpt.some (below_kept HB1.out q2 (by simp; exact HRB.out) HB1.out.size) (HP1.out.kept q2 HNR.out)
    · have HM2 : Hid (numberedM p n = none) := by rw [Hid, HM.out, hpt, if_neg hn1]; rfl
      have hnb : (n == 1) = false := by simp [hn1]
      go_wp2_with (refine wpList_store33 (d := p.d) (pa := pa) (pn := pn) (pc := pc) (ia := ia) (n1 := n1) (c1 := c1) (da := da) (n2 := n2) (c2 := c2) (ka := ka) (kn := p.kids.length) (kc := kc) rfl rfl HR1.out ?_)
      have q1 := row11_is HR1.out p.d (.slice pa pn pc) (.slice ia n1 c1) (.slice da n2 c2) (.slice ka p.kids.length kc)
      have q2 := row11_self w1 R p.d (.slice pa pn pc) (.slice ia n1 c1) (.slice da n2 c2) (.slice ka p.kids.length kc)
      refine bodyPost_ret (w := row11 w1 R p.d (.slice pa pn pc) (.slice ia n1 c1) (.slice da n2 c2) (.slice ka p.kids.length kc)) (results40_run _ rfl rfl q1) rfl ?_
      rw [HM2.out]
      exact POpt.none (below_kept HB1.out q2 (by simp; exact HRB.out) HB1.out.size)
  | true =>
    by_cases h1 : n < 1
    · have HM2 : Hid (numberedM p n = none) := by rw [Hid, HM.out, hpt, if_pos rfl, if_pos (.inl h1)]
      go_wp2_with (refine wpList_store33 (d := Pd.zero) (pa := none) (pn := 0) (pc := 0) (ia := none) (n1 := 0) (c1 := 0) (da := none) (n2 := 0) (c2 := 0) (ka := none) (kn := 0) (kc := 0) rfl rfl HR1.out ?_)
      have q1 := row11_is HR1.out Pd.zero (.slice none 0 0) (.slice none 0 0) (.slice none 0 0) (.slice none 0 0)
      have q2 := row11_self w1 R Pd.zero (.slice none 0 0) (.slice none 0 0) (.slice none 0 0) (.slice none 0 0)
      refine bodyPost_ret (w := row11 w1 R Pd.zero (.slice none 0 0) (.slice none 0 0) (.slice none 0 0) (.slice none 0 0)) (results40_run _ rfl rfl q1) rfl ?_
      rw [HM2.out]
      exact POpt.none (below_kept HB1.out q2 (by simp; exact HRB.out) HB1.out.size)
    · by_cases h2 : (p.kids.length : Int) < n
      · have HM2 : Hid (numberedM p n = none) := by rw [Hid, HM.out, hpt, if_pos rfl, if_pos (.inr h2)]
        go_wp2_with (refine wpList_store33 (d := Pd.zero) (pa := none) (pn := 0) (pc := 0) (ia := none) (n1 := 0) (c1 := 0) (da := none) (n2 := 0) (c2 := 0) (ka := none) (kn := 0) (kc := 0) rfl rfl HR1.out ?_)
        have q1 := row11_is HR1.out Pd.zero (.slice none 0 0) (.slice none 0 0) (.slice none 0 0) (.slice none 0 0)
        have q2 := row11_self w1 R Pd.zero (.slice none 0 0) (.slice none 0 0) (.slice none 0 0) (.slice none 0 0)
        refine bodyPost_ret (w := row11 w1 R Pd.zero (.slice none 0 0) (.slice none 0 0) (.slice none 0 0) (.slice none 0 0)) (results40_run _ rfl rfl q1) rfl ?_
        rw [HM2.out]
        exact POpt.none (below_kept HB1.out q2 (by simp; exact HRB.out) HB1.out.size)
      · obtain ⟨j, hj⟩ : ∃ j : Nat, n = (j : Int) + 1 := ⟨(n - 1).toNat, by omega⟩
        subst hj
        have hlt : j < p.kids.length := by omega
        have hlt' : (j : Int) < p.kids.length := by omega
        have HM2 : Hid (numberedM p ((j : Int) + 1) = some p.kids[j]) := by
          rw [Hid, HM.out, hpt, if_pos rfl, if_neg (by omega), show ((j : Int) + 1 - 1).toNat = j by omega, List.getElem?_eq_getElem hlt]
        obtain ⟨g, o, c, hv, wp, wi, wd, wk, hcs, hkp⟩ := HP1.out.kid j p.kids[j] (List.getElem?_eq_getElem hlt)
        simp at hv
        obtain ⟨rfl, rfl⟩ := hv
        obtain ⟨kpa, kpn, kpc, kia, kin, kic, kda, kdn, kdc, kka, kkn, kkc, rfl, rfl, rfl, rfl⟩ := hkp.slices
        obtain ⟨c0, e1, e2, e3, e4, e5, e6, e7, e8, e9, e10⟩ := kid_cells hcs
        have HKp := hid hkp
        have hsub : (j : Int) + 1 - 1 = j := by omega
        generalize hkk : p.kids[j] = k at *
        clear hcs hkp hkk
        go_wp2_with (refine wpList_store33 (d := k.d) (pa := kpa) (pn := kpn) (pc := kpc) (ia := kia) (n1 := kin) (c1 := kic) (da := kda) (n2 := kdn) (c2 := kdc) (ka := kka) (kn := kkn) (kc := kkc) rfl rfl HR1.out ?_)
        have q1 := row11_is HR1.out k.d (.slice kpa kpn kpc) (.slice kia kin kic) (.slice kda kdn kdc) (.slice kka kkn kkc)
        have q2 := row11_self w1 R k.d (.slice kpa kpn kpc) (.slice kia kin kic) (.slice kda kdn kdc) (.slice kka kkn kkc)
        refine bodyPost_ret (w := row11 w1 R k.d (.slice kpa kpn kpc) (.slice kia kin kic) (.slice kda kdn kdc) (.slice kka kkn kkc)) (results40_run _ rfl rfl q1) rfl ?_
        rw [HM2.out]
        exact POpt.some (below_kept HB1.out q2 (by simp; exact HRB.out) HB1.out.size) (HKp.out.kept q2 HNR.out)

set_option maxRecDepth 100000 in
set_option maxHeartbeats 1000000 in
theorem mhead_any (m : Bs) (d : Pd) (vp vi vd vk : Value) (w : World) (h1 : d.hd ≤ d.fr) (h2 : d.fr ≤ m.length) (hm : m.length ≤ 1000000) :
    Calls Tryz.prog 29 #[msgV m, ptV d vp vi vd vk] w fun e w' => e = .returned (.string (str (inn m d.hd d.fr))) ∧ Below w.heap.size w w' := by
  have hsz := str_size m
  have h1' : (d.hd : Int) ≤ d.fr := by omega
  have h2' : (d.fr : Int) ≤ m.length := by omega
  have HX : Hid ((str m).extract d.hd d.fr = str (inn m d.hd d.fr)) := mid_str m d.hd d.fr
  have HB := hid (below2 w (.cells #[.string (str m)] 55) (.cells (ptC d vp vi vd vk) 33))
  unfold msgV ptV ptC at *
  clear h1 h2
  go_enter Tryz.func29, Tryz.ntmps29
  go_wp2_with fail
  go_ret
  exact ⟨by rw [← HX.out]; rfl, HB.out⟩

set_option maxRecDepth 100000 in
set_option maxHeartbeats 1000000 in
theorem mcontent_any (m : Bs) (d : Pd) (vp vi vd vk : Value) (w : World) (h1 : d.fr ≤ d.to) (h2 : d.to ≤ m.length) (hm : m.length ≤ 1000000) :
    Calls Tryz.prog 31 #[msgV m, ptV d vp vi vd vk] w fun e w' => e = .returned (.string (str (inn m d.fr d.to))) ∧ Below w.heap.size w w' := by
  have hsz := str_size m
  have h1' : (d.fr : Int) ≤ d.to := by omega
  have h2' : (d.to : Int) ≤ m.length := by omega
  have HX : Hid ((str m).extract d.fr d.to = str (inn m d.fr d.to)) := mid_str m d.fr d.to
  have HB := hid (below2 w (.cells #[.string (str m)] 55) (.cells (ptC d vp vi vd vk) 33))
  unfold msgV ptV ptC at *
  clear h1 h2
  go_enter Tryz.func31, Tryz.ntmps31
  go_wp2_with fail
  go_ret
  exact ⟨by rw [← HX.out]; rfl, HB.out⟩

set_option maxRecDepth 100000 in
set_option maxHeartbeats 1000000 in
theorem body_nil (m : Bs) (d : Pd) (vp vi vd vk : Value) (ga : Option Addr) (gc : Nat) (w : World) :
    Calls Tryz.prog 28 #[msgV m, ptV d vp vi vd vk, .slice ga 0 gc] w fun e w' => e = .returned (.string (str m)) ∧ Below w.heap.size w w' := by
  have HB := hid (below2 w (.cells #[.string (str m)] 55) (.cells (ptC d vp vi vd vk) 33))
  unfold msgV ptV ptC at *
  go_enter Tryz.func28, Tryz.ntmps28
  go_wp2_with fail
  go_ret
  exact ⟨rfl, HB.out⟩
set_option maxRecDepth 100000 in
set_option maxHeartbeats 1000000 in
theorem body_path (m : Bs) (d : Pd) (vp vi vd vk : Value) (ga : Option Addr) (gn gc : Nat) (w : World) (hg : 0 < gn) (h1 : d.fr ≤ d.to) (h2 : d.to ≤ m.length) (hm : m.length ≤ 1000000) :
    Calls Tryz.prog 28 #[msgV m, ptV d vp vi vd vk, .slice ga gn gc] w fun e w' => e = .returned (.string (str (inn m d.fr d.to))) ∧ Below w.heap.size w w' := by
  have HB := hid (below2 w (.cells #[.string (str m)] 55) (.cells (ptC d vp vi vd vk) 33))
  have HC := hid (fun W => mcontent_any m d vp vi vd vk W h1 h2 hm)
  have hg0 : ¬ ((gn : Int) = 0) := by omega
  unfold msgV ptV ptC at *
  go_enter Tryz.func28, Tryz.ntmps28
  go_wp2_with fail
  refine (HC.out _).mono ?_
  rintro e w1 ⟨rfl, hb1⟩
  have HB1 := hid (HB.out.trans (hb1.mono HB.out.size))
  clear hb1
  go_wp2_with fail
  go_ret
  exact ⟨rfl, HB1.out⟩
end Go.Proofs.YtgolcmafbenjbaaGreatDoor
