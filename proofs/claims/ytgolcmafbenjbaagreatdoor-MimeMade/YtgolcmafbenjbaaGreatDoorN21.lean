/- What this text holds: what a number says, what the next one is asked of, whose header is asked for: the program's calls. (Written by gen21.py.) -/
import Derived.Test.YtgolcmafbenjbaaGreatDoorN20
namespace Go.Proofs.YtgolcmafbenjbaaGreatDoor
open Go.RowKit
set_option linter.unusedVariables false
set_option linter.unusedSimpArgs false

set_option maxRecDepth 100000 in
set_option maxHeartbeats 4000000 in
theorem within_any {w : World} {N : Nat → Prop} {p : Pt} {vp vi vd vk : Value} (hp : PtAt w N 7 p vp vi vd vk) (hN : ∀ q, N q → q < w.heap.size) : Calls Tryz.prog 41 #[ptV p.d vp vi vd vk] w (POpt N (withinM p) w) := by
  obtain ⟨pa, pn, pc, ia, n1, c1, da, n2, c2, ka, kn, kc, rfl, rfl, rfl, rfl⟩ := hp.slices
  have hkn : kn = p.kids.length := by obtain ⟨a, c, h, _⟩ := KsAt.slice hp.k; simp at h; exact h.2.1
  subst hkn
  have hB : Below w.heap.size w ((w.alloc (.cells #[.string (str p.d.ty), .string (str p.d.sub), .slice pa pn pc, .slice ia n1 c1, .slice da n2 c2, .string (str p.d.enc), .int .i64 p.d.hd, .int .i64 p.d.fr, .int .i64 p.d.to, .int .i64 p.d.lns, .slice ka p.kids.length kc] 33)).alloc (.cells #[.string ⟨#[]⟩, .string ⟨#[]⟩, .slice none 0 0, .slice none 0 0, .slice none 0 0, .string ⟨#[]⟩, .int .i64 0, .int .i64 0, .int .i64 0, .int .i64 0, .slice none 0 0] 33)) := below2 w _ _
  have HB := hid hB
  have HP := hid (hp.later hB)
  have HD : Hid (D11 ((w.alloc (.cells #[.string (str p.d.ty), .string (str p.d.sub), .slice pa pn pc, .slice ia n1 c1, .slice da n2 c2, .string (str p.d.enc), .int .i64 p.d.hd, .int .i64 p.d.fr, .int .i64 p.d.to, .int .i64 p.d.lns, .slice ka p.kids.length kc] 33)).alloc (.cells #[.string ⟨#[]⟩, .string ⟨#[]⟩, .slice none 0 0, .slice none 0 0, .slice none 0 0, .string ⟨#[]⟩, .int .i64 0, .int .i64 0, .int .i64 0, .int .i64 0, .slice none 0 0] 33)) w.heap.size p.d (.slice pa pn pc) (.slice ia n1 c1) (.slice da n2 c2) (.slice ka p.kids.length kc)) := (d11_new w p.d (.slice pa pn pc) (.slice ia n1 c1) (.slice da n2 c2) (.slice ka p.kids.length kc)).later (below1 _ _)
  have HR : Hid (D11 ((w.alloc (.cells #[.string (str p.d.ty), .string (str p.d.sub), .slice pa pn pc, .slice ia n1 c1, .slice da n2 c2, .string (str p.d.enc), .int .i64 p.d.hd, .int .i64 p.d.fr, .int .i64 p.d.to, .int .i64 p.d.lns, .slice ka p.kids.length kc] 33)).alloc (.cells #[.string ⟨#[]⟩, .string ⟨#[]⟩, .slice none 0 0, .slice none 0 0, .slice none 0 0, .string ⟨#[]⟩, .int .i64 0, .int .i64 0, .int .i64 0, .int .i64 0, .slice none 0 0] 33)) (w.heap.size + 1) Pd.zero nilV nilV nilV nilV) := by
    have h : D11 ((w.alloc (.cells #[.string (str p.d.ty), .string (str p.d.sub), .slice pa pn pc, .slice ia n1 c1, .slice da n2 c2, .string (str p.d.enc), .int .i64 p.d.hd, .int .i64 p.d.fr, .int .i64 p.d.to, .int .i64 p.d.lns, .slice ka p.kids.length kc] 33)).alloc (.cells #[.string ⟨#[]⟩, .string ⟨#[]⟩, .slice none 0 0, .slice none 0 0, .slice none 0 0, .string ⟨#[]⟩, .int .i64 0, .int .i64 0, .int .i64 0, .int .i64 0, .slice none 0 0] 33)) (w.alloc (.cells #[.string (str p.d.ty), .string (str p.d.sub), .slice pa pn pc, .slice ia n1 c1, .slice da n2 c2, .string (str p.d.enc), .int .i64 p.d.hd, .int .i64 p.d.fr, .int .i64 p.d.to, .int .i64 p.d.lns, .slice ka p.kids.length kc] 33)).heap.size Pd.zero nilV nilV nilV nilV := heap_alloc_new _ _
    rw [show (w.alloc (.cells #[.string (str p.d.ty), .string (str p.d.sub), .slice pa pn pc, .slice ia n1 c1, .slice da n2 c2, .string (str p.d.enc), .int .i64 p.d.hd, .int .i64 p.d.fr, .int .i64 p.d.to, .int .i64 p.d.lns, .slice ka p.kids.length kc] 33)).heap.size = w.heap.size + 1 by simp] at h
    exact h
  have HRB : Hid (w.heap.size ≤ w.heap.size + 1) := by rw [Hid]; omega
  have HLt : Hid (w.heap.size + 1 < ((w.alloc (.cells #[.string (str p.d.ty), .string (str p.d.sub), .slice pa pn pc, .slice ia n1 c1, .slice da n2 c2, .string (str p.d.enc), .int .i64 p.d.hd, .int .i64 p.d.fr, .int .i64 p.d.to, .int .i64 p.d.lns, .slice ka p.kids.length kc] 33)).alloc (.cells #[.string ⟨#[]⟩, .string ⟨#[]⟩, .slice none 0 0, .slice none 0 0, .slice none 0 0, .string ⟨#[]⟩, .int .i64 0, .int .i64 0, .int .i64 0, .int .i64 0, .slice none 0 0] 33)).heap.size) := HR.out.lt
  have hNR : ∀ i ∈ [w.heap.size + 1], ¬ N i := fun i hi h => by rw [List.mem_singleton] at hi; have := hN i h; omega
  have HNR := hid hNR
  have hNW : ∀ q, N q → q < ((w.alloc (.cells #[.string (str p.d.ty), .string (str p.d.sub), .slice pa pn pc, .slice ia n1 c1, .slice da n2 c2, .string (str p.d.enc), .int .i64 p.d.hd, .int .i64 p.d.fr, .int .i64 p.d.to, .int .i64 p.d.lns, .slice ka p.kids.length kc] 33)).alloc (.cells #[.string ⟨#[]⟩, .string ⟨#[]⟩, .slice none 0 0, .slice none 0 0, .slice none 0 0, .string ⟨#[]⟩, .int .i64 0, .int .i64 0, .int .i64 0, .int .i64 0, .slice none 0 0] 33)).heap.size := fun q h => by have := hN q h; have := hB.size; omega
  have HNW := hid hNW
  have HPa := hid (fun W => parted_any (p := p) (vp := .slice pa pn pc) (vi := .slice ia n1 c1) (vd := .slice da n2 c2) (ka := ka) (kc := kc) W)
  have HMa := hid (fun W (h : PtAt W N 7 p (.slice pa pn pc) (.slice ia n1 c1) (.slice da n2 c2) (.slice ka p.kids.length kc)) (hn : ∀ q, N q → q < W.heap.size) => mailed_any h hn)
  have HM : Hid (withinM p = if partedB p then some p else mailedM p) := rfl
  clear hB hp hN hNR hNW
  unfold ptV ptC at *
  go_enter Tryz.func41, Tryz.ntmps41
  go_wp2_with fail
  generalize ((w.alloc (.cells #[.string (str p.d.ty), .string (str p.d.sub), .slice pa pn pc, .slice ia n1 c1, .slice da n2 c2, .string (str p.d.enc), .int .i64 p.d.hd, .int .i64 p.d.fr, .int .i64 p.d.to, .int .i64 p.d.lns, .slice ka p.kids.length kc] 33)).alloc (.cells #[.string ⟨#[]⟩, .string ⟨#[]⟩, .slice none 0 0, .slice none 0 0, .slice none 0 0, .string ⟨#[]⟩, .int .i64 0, .int .i64 0, .int .i64 0, .int .i64 0, .slice none 0 0] 33)) = W at *
  generalize w.heap.size + 1 = R at *
  refine (HPa.out W).mono ?_
  rintro e w1 ⟨rfl, hb1⟩
  have HD1 := hid (HD.out.later hb1)
  have HR1 := hid (HR.out.later hb1)
  have HP1 := hid (HP.out.later hb1)
  have HB1 := hid (HB.out.trans (hb1.mono HB.out.size))
  have HNW1 : Hid (∀ q, N q → q < w1.heap.size) := fun q h => Nat.lt_of_lt_of_le (HNW.out q h) hb1.size
  obtain ⟨x0, x1, x2, x3, x4, x5, x6, x7, x8, x9, x10⟩ := HD1.out.cs
  clear hb1
  cases hpt : partedB p with
  | true =>
    have HM2 : Hid (withinM p = some p) := by rw [Hid, HM.out, hpt]; rfl
    go_wp2_with (refine wpList_store33 (d := p.d) (pa := pa) (pn := pn) (pc := pc) (ia := ia) (n1 := n1) (c1 := c1) (da := da) (n2 := n2) (c2 := c2) (ka := ka) (kn := p.kids.length) (kc := kc) rfl rfl HR1.out ?_)
    have q1 := row11_is HR1.out p.d (.slice pa pn pc) (.slice ia n1 c1) (.slice da n2 c2) (.slice ka p.kids.length kc)
    have q2 := row11_self w1 R p.d (.slice pa pn pc) (.slice ia n1 c1) (.slice da n2 c2) (.slice ka p.kids.length kc)
    refine bodyPost_ret (w := row11 w1 R p.d (.slice pa pn pc) (.slice ia n1 c1) (.slice da n2 c2) (.slice ka p.kids.length kc)) (results41_run _ rfl rfl q1) rfl ?_
    rw [HM2.out]
    exact POpt.some (below_kept HB1.out q2 (by simp; exact HRB.out) HB1.out.size) (HP1.out.kept q2 HNR.out)
  | false =>
    have HM2 : Hid (withinM p = mailedM p) := by rw [Hid, HM.out, hpt]; rfl
    have HMc := hid (HMa.out w1 HP1.out HNW1.out)
    go_wp2_with fail
    refine HMc.out.mono ?_
    rintro e w3 ⟨hb3, hv⟩
    have HR3 := hid (HR1.out.later hb3)
    have HB3 := hid (HB1.out.trans (hb3.mono HB1.out.size))
    clear hb3
    cases ho : mailedM p with
    | none =>
      rw [ho] at hv
      obtain ⟨zd, kpa, kpn, kpc, kia, kin, kic, kda, kdn, kdc, kka, kkn, kkc, rfl⟩ := hv
      go_wp2_with (refine wpList_store33 (d := zd) (pa := kpa) (pn := kpn) (pc := kpc) (ia := kia) (n1 := kin) (c1 := kic) (da := kda) (n2 := kdn) (c2 := kdc) (ka := kka) (kn := kkn) (kc := kkc) rfl rfl HR3.out ?_)
      have q1 := row11_is HR3.out zd (.slice kpa kpn kpc) (.slice kia kin kic) (.slice kda kdn kdc) (.slice kka kkn kkc)
      have q2 := row11_self w3 R zd (.slice kpa kpn kpc) (.slice kia kin kic) (.slice kda kdn kdc) (.slice kka kkn kkc)
      refine bodyPost_ret (w := row11 w3 R zd (.slice kpa kpn kpc) (.slice kia kin kic) (.slice kda kdn kdc) (.slice kka kkn kkc)) (results41_run _ rfl rfl q1) rfl ?_
      rw [HM2.out, ho]
      exact POpt.none (below_kept HB3.out q2 (by simp; exact HRB.out) HB3.out.size)
    | some k =>
      rw [ho] at hv
      obtain ⟨wp, wi, wd, wk, rfl, hkp⟩ := hv
      obtain ⟨kpa, kpn, kpc, kia, kin, kic, kda, kdn, kdc, kka, kkn, kkc, rfl, rfl, rfl, rfl⟩ := hkp.slices
      have HKp := hid hkp
      clear hkp
      go_wp2_with (refine wpList_store33 (d := k.d) (pa := kpa) (pn := kpn) (pc := kpc) (ia := kia) (n1 := kin) (c1 := kic) (da := kda) (n2 := kdn) (c2 := kdc) (ka := kka) (kn := kkn) (kc := kkc) rfl rfl HR3.out ?_)
      have q1 := row11_is HR3.out k.d (.slice kpa kpn kpc) (.slice kia kin kic) (.slice kda kdn kdc) (.slice kka kkn kkc)
      have q2 := row11_self w3 R k.d (.slice kpa kpn kpc) (.slice kia kin kic) (.slice kda kdn kdc) (.slice kka kkn kkc)
      refine bodyPost_ret (w := row11 w3 R k.d (.slice kpa kpn kpc) (.slice kia kin kic) (.slice kda kdn kdc) (.slice kka kkn kkc)) (results41_run _ rfl rfl q1) rfl ?_
      rw [HM2.out, ho]
      exact POpt.some (below_kept HB3.out q2 (by simp; exact HRB.out) HB3.out.size) (HKp.out.kept q2 HNR.out)

set_option maxRecDepth 100000 in
set_option maxHeartbeats 4000000 in
theorem headed_any {w : World} {N : Nat → Prop} {p : Pt} {vp vi vd vk : Value} (hp : PtAt w N 7 p vp vi vd vk) (hN : ∀ q, N q → q < w.heap.size) (path : List Int) (ga : Option Addr) (gc : Nat) (hgl : path.length ≤ 1000) : Calls Tryz.prog 30 #[ptV p.d vp vi vd vk, .slice ga path.length gc] w (POpt N (headedM p path) w) := by
  obtain ⟨pa, pn, pc, ia, n1, c1, da, n2, c2, ka, kn, kc, rfl, rfl, rfl, rfl⟩ := hp.slices
  have hkn : kn = p.kids.length := by obtain ⟨a, c, h, _⟩ := KsAt.slice hp.k; simp at h; exact h.2.1
  subst hkn
  have hB : Below w.heap.size w ((w.alloc (.cells #[.string (str p.d.ty), .string (str p.d.sub), .slice pa pn pc, .slice ia n1 c1, .slice da n2 c2, .string (str p.d.enc), .int .i64 p.d.hd, .int .i64 p.d.fr, .int .i64 p.d.to, .int .i64 p.d.lns, .slice ka p.kids.length kc] 33)).alloc (.cells #[.string ⟨#[]⟩, .string ⟨#[]⟩, .slice none 0 0, .slice none 0 0, .slice none 0 0, .string ⟨#[]⟩, .int .i64 0, .int .i64 0, .int .i64 0, .int .i64 0, .slice none 0 0] 33)) := below2 w _ _
  have HB := hid hB
  have HP := hid (hp.later hB)
  have HD : Hid (D11 ((w.alloc (.cells #[.string (str p.d.ty), .string (str p.d.sub), .slice pa pn pc, .slice ia n1 c1, .slice da n2 c2, .string (str p.d.enc), .int .i64 p.d.hd, .int .i64 p.d.fr, .int .i64 p.d.to, .int .i64 p.d.lns, .slice ka p.kids.length kc] 33)).alloc (.cells #[.string ⟨#[]⟩, .string ⟨#[]⟩, .slice none 0 0, .slice none 0 0, .slice none 0 0, .string ⟨#[]⟩, .int .i64 0, .int .i64 0, .int .i64 0, .int .i64 0, .slice none 0 0] 33)) w.heap.size p.d (.slice pa pn pc) (.slice ia n1 c1) (.slice da n2 c2) (.slice ka p.kids.length kc)) := (d11_new w p.d (.slice pa pn pc) (.slice ia n1 c1) (.slice da n2 c2) (.slice ka p.kids.length kc)).later (below1 _ _)
  have HR : Hid (D11 ((w.alloc (.cells #[.string (str p.d.ty), .string (str p.d.sub), .slice pa pn pc, .slice ia n1 c1, .slice da n2 c2, .string (str p.d.enc), .int .i64 p.d.hd, .int .i64 p.d.fr, .int .i64 p.d.to, .int .i64 p.d.lns, .slice ka p.kids.length kc] 33)).alloc (.cells #[.string ⟨#[]⟩, .string ⟨#[]⟩, .slice none 0 0, .slice none 0 0, .slice none 0 0, .string ⟨#[]⟩, .int .i64 0, .int .i64 0, .int .i64 0, .int .i64 0, .slice none 0 0] 33)) (w.heap.size + 1) Pd.zero nilV nilV nilV nilV) := by
    have h : D11 ((w.alloc (.cells #[.string (str p.d.ty), .string (str p.d.sub), .slice pa pn pc, .slice ia n1 c1, .slice da n2 c2, .string (str p.d.enc), .int .i64 p.d.hd, .int .i64 p.d.fr, .int .i64 p.d.to, .int .i64 p.d.lns, .slice ka p.kids.length kc] 33)).alloc (.cells #[.string ⟨#[]⟩, .string ⟨#[]⟩, .slice none 0 0, .slice none 0 0, .slice none 0 0, .string ⟨#[]⟩, .int .i64 0, .int .i64 0, .int .i64 0, .int .i64 0, .slice none 0 0] 33)) (w.alloc (.cells #[.string (str p.d.ty), .string (str p.d.sub), .slice pa pn pc, .slice ia n1 c1, .slice da n2 c2, .string (str p.d.enc), .int .i64 p.d.hd, .int .i64 p.d.fr, .int .i64 p.d.to, .int .i64 p.d.lns, .slice ka p.kids.length kc] 33)).heap.size Pd.zero nilV nilV nilV nilV := heap_alloc_new _ _
    rw [show (w.alloc (.cells #[.string (str p.d.ty), .string (str p.d.sub), .slice pa pn pc, .slice ia n1 c1, .slice da n2 c2, .string (str p.d.enc), .int .i64 p.d.hd, .int .i64 p.d.fr, .int .i64 p.d.to, .int .i64 p.d.lns, .slice ka p.kids.length kc] 33)).heap.size = w.heap.size + 1 by simp] at h
    exact h
  have HRB : Hid (w.heap.size ≤ w.heap.size + 1) := by rw [Hid]; omega
  have HLt : Hid (w.heap.size + 1 < ((w.alloc (.cells #[.string (str p.d.ty), .string (str p.d.sub), .slice pa pn pc, .slice ia n1 c1, .slice da n2 c2, .string (str p.d.enc), .int .i64 p.d.hd, .int .i64 p.d.fr, .int .i64 p.d.to, .int .i64 p.d.lns, .slice ka p.kids.length kc] 33)).alloc (.cells #[.string ⟨#[]⟩, .string ⟨#[]⟩, .slice none 0 0, .slice none 0 0, .slice none 0 0, .string ⟨#[]⟩, .int .i64 0, .int .i64 0, .int .i64 0, .int .i64 0, .slice none 0 0] 33)).heap.size) := HR.out.lt
  have hNR : ∀ i ∈ [w.heap.size + 1], ¬ N i := fun i hi h => by rw [List.mem_singleton] at hi; have := hN i h; omega
  have HNR := hid hNR
  have hNW : ∀ q, N q → q < ((w.alloc (.cells #[.string (str p.d.ty), .string (str p.d.sub), .slice pa pn pc, .slice ia n1 c1, .slice da n2 c2, .string (str p.d.enc), .int .i64 p.d.hd, .int .i64 p.d.fr, .int .i64 p.d.to, .int .i64 p.d.lns, .slice ka p.kids.length kc] 33)).alloc (.cells #[.string ⟨#[]⟩, .string ⟨#[]⟩, .slice none 0 0, .slice none 0 0, .slice none 0 0, .string ⟨#[]⟩, .int .i64 0, .int .i64 0, .int .i64 0, .int .i64 0, .slice none 0 0] 33)).heap.size := fun q h => by have := hN q h; have := hB.size; omega
  have HNW := hid hNW
  have HMa := hid (fun W (h : PtAt W N 7 p (.slice pa pn pc) (.slice ia n1 c1) (.slice da n2 c2) (.slice ka p.kids.length kc)) (hn : ∀ q, N q → q < W.heap.size) => mailed_any h hn)
  have HM : Hid (headedM p path = if path = [] then some p else mailedM p) := rfl
  cases path with
  | nil =>
    have HM2 : Hid (headedM p [] = some p) := by rw [Hid, HM.out]; rfl
    clear hB hp hN hNR hNW
    unfold ptV ptC at *
    go_enter Tryz.func30, Tryz.ntmps30
    go_wp2_with (refine wpList_store33 (d := p.d) (pa := pa) (pn := pn) (pc := pc) (ia := ia) (n1 := n1) (c1 := c1) (da := da) (n2 := n2) (c2 := c2) (ka := ka) (kn := p.kids.length) (kc := kc) rfl rfl HR.out ?_)
    generalize ((w.alloc (.cells #[.string (str p.d.ty), .string (str p.d.sub), .slice pa pn pc, .slice ia n1 c1, .slice da n2 c2, .string (str p.d.enc), .int .i64 p.d.hd, .int .i64 p.d.fr, .int .i64 p.d.to, .int .i64 p.d.lns, .slice ka p.kids.length kc] 33)).alloc (.cells #[.string ⟨#[]⟩, .string ⟨#[]⟩, .slice none 0 0, .slice none 0 0, .slice none 0 0, .string ⟨#[]⟩, .int .i64 0, .int .i64 0, .int .i64 0, .int .i64 0, .slice none 0 0] 33)) = W at *
    generalize w.heap.size + 1 = R at *
    have q1 := row11_is HR.out p.d (.slice pa pn pc) (.slice ia n1 c1) (.slice da n2 c2) (.slice ka p.kids.length kc)
    have q2 := row11_self W R p.d (.slice pa pn pc) (.slice ia n1 c1) (.slice da n2 c2) (.slice ka p.kids.length kc)
    refine bodyPost_ret (w := row11 W R p.d (.slice pa pn pc) (.slice ia n1 c1) (.slice da n2 c2) (.slice ka p.kids.length kc)) (results30_run _ rfl rfl q1) rfl ?_
    rw [HM2.out]
    exact POpt.some (below_kept HB.out q2 (by simp; exact HRB.out) HB.out.size) (HP.out.kept q2 HNR.out)
  | cons x xs =>
    have HM2 : Hid (headedM p (x :: xs) = mailedM p) := by rw [Hid, HM.out]; rfl
    have hl0 : ¬ (((x :: xs).length : Int) = 0) := by simp <;> omega
    have HMc := hid (HMa.out _ HP.out HNW.out)
    generalize (x :: xs).length = gl at *
    clear hB hp hN hNR hNW
    unfold ptV ptC at *
    go_enter Tryz.func30, Tryz.ntmps30
    go_wp2_with fail
    generalize ((w.alloc (.cells #[.string (str p.d.ty), .string (str p.d.sub), .slice pa pn pc, .slice ia n1 c1, .slice da n2 c2, .string (str p.d.enc), .int .i64 p.d.hd, .int .i64 p.d.fr, .int .i64 p.d.to, .int .i64 p.d.lns, .slice ka p.kids.length kc] 33)).alloc (.cells #[.string ⟨#[]⟩, .string ⟨#[]⟩, .slice none 0 0, .slice none 0 0, .slice none 0 0, .string ⟨#[]⟩, .int .i64 0, .int .i64 0, .int .i64 0, .int .i64 0, .slice none 0 0] 33)) = W at *
    generalize w.heap.size + 1 = R at *
    refine HMc.out.mono ?_
    rintro e w3 ⟨hb3, hv⟩
    have HR3 := hid (HR.out.later hb3)
    have HB3 := hid (HB.out.trans (hb3.mono HB.out.size))
    clear hb3
    cases ho : mailedM p with
    | none =>
      rw [ho] at hv
      obtain ⟨zd, kpa, kpn, kpc, kia, kin, kic, kda, kdn, kdc, kka, kkn, kkc, rfl⟩ := hv
      go_wp2_with (refine wpList_store33 (d := zd) (pa := kpa) (pn := kpn) (pc := kpc) (ia := kia) (n1 := kin) (c1 := kic) (da := kda) (n2 := kdn) (c2 := kdc) (ka := kka) (kn := kkn) (kc := kkc) rfl rfl HR3.out ?_)
      have q1 := row11_is HR3.out zd (.slice kpa kpn kpc) (.slice kia kin kic) (.slice kda kdn kdc) (.slice kka kkn kkc)
      have q2 := row11_self w3 R zd (.slice kpa kpn kpc) (.slice kia kin kic) (.slice kda kdn kdc) (.slice kka kkn kkc)
      refine bodyPost_ret (w := row11 w3 R zd (.slice kpa kpn kpc) (.slice kia kin kic) (.slice kda kdn kdc) (.slice kka kkn kkc)) (results30_run _ rfl rfl q1) rfl ?_
      rw [HM2.out, ho]
      exact POpt.none (below_kept HB3.out q2 (by simp; exact HRB.out) HB3.out.size)
    | some k =>
      rw [ho] at hv
      obtain ⟨wp, wi, wd, wk, rfl, hkp⟩ := hv
      obtain ⟨kpa, kpn, kpc, kia, kin, kic, kda, kdn, kdc, kka, kkn, kkc, rfl, rfl, rfl, rfl⟩ := hkp.slices
      have HKp := hid hkp
      clear hkp
      go_wp2_with (refine wpList_store33 (d := k.d) (pa := kpa) (pn := kpn) (pc := kpc) (ia := kia) (n1 := kin) (c1 := kic) (da := kda) (n2 := kdn) (c2 := kdc) (ka := kka) (kn := kkn) (kc := kkc) rfl rfl HR3.out ?_)
      have q1 := row11_is HR3.out k.d (.slice kpa kpn kpc) (.slice kia kin kic) (.slice kda kdn kdc) (.slice kka kkn kkc)
      have q2 := row11_self w3 R k.d (.slice kpa kpn kpc) (.slice kia kin kic) (.slice kda kdn kdc) (.slice kka kkn kkc)
      refine bodyPost_ret (w := row11 w3 R k.d (.slice kpa kpn kpc) (.slice kia kin kic) (.slice kda kdn kdc) (.slice kka kkn kkc)) (results30_run _ rfl rfl q1) rfl ?_
      rw [HM2.out, ho]
      exact POpt.some (below_kept HB3.out q2 (by simp; exact HRB.out) HB3.out.size) (HKp.out.kept q2 HNR.out)
end Go.Proofs.YtgolcmafbenjbaaGreatDoor
