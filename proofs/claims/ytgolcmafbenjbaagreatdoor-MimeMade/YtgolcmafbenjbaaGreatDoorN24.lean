/- What this text holds: the part at a path: the program's call. (Written by gen24.py.) -/
import Derived.Test.YtgolcmafbenjbaaGreatDoorN23
namespace Go.Proofs.YtgolcmafbenjbaaGreatDoor
open Go.RowKit
set_option linter.unusedVariables false
set_option linter.unusedSimpArgs false

def isS : Option Pt → Bool
  | some _ => true
  | none => false
set_option maxRecDepth 100000 in
set_option maxHeartbeats 8000000 in
theorem at_any {w : World} {N : Nat → Prop} {p : Pt} {vp vi vd vk : Value} (hp : PtAt w N 7 p vp vi vd vk) (hN : ∀ q, N q → q < w.heap.size) (hs : Sm p) (path : List Int) (v : Value) (hv : IL w v path) (hl : path.length ≤ 1000) : Calls Tryz.prog 27 #[ptV p.d vp vi vd vk, v] w (POpt N (atM p path) w) := by
  obtain ⟨pa, pn, pc, ia, n1, c1, da, n2, c2, ka, kn, kc, rfl, rfl, rfl, rfl⟩ := hp.slices
  have hkn : kn = p.kids.length := by obtain ⟨a, c, h, _⟩ := KsAt.slice hp.k; simp at h; exact h.2.1
  subst hkn
  obtain ⟨ga, gc, rfl, hgc, hgv⟩ := id hv
  have hB : Below w.heap.size w ((((w.alloc (.cells #[.string (str p.d.ty), .string (str p.d.sub), .slice pa pn pc, .slice ia n1 c1, .slice da n2 c2, .string (str p.d.enc), .int .i64 p.d.hd, .int .i64 p.d.fr, .int .i64 p.d.to, .int .i64 p.d.lns, .slice ka p.kids.length kc] 33)).alloc (.cells #[.string ⟨#[]⟩, .string ⟨#[]⟩, .slice none 0 0, .slice none 0 0, .slice none 0 0, .string ⟨#[]⟩, .int .i64 0, .int .i64 0, .int .i64 0, .int .i64 0, .slice none 0 0] 33)).alloc (.cells #[.string (str p.d.ty), .string (str p.d.sub), .slice pa pn pc, .slice ia n1 c1, .slice da n2 c2, .string (str p.d.enc), .int .i64 p.d.hd, .int .i64 p.d.fr, .int .i64 p.d.to, .int .i64 p.d.lns, .slice ka p.kids.length kc] 33)).alloc (.cells #[.string (str p.d.ty), .string (str p.d.sub), .slice pa pn pc, .slice ia n1 c1, .slice da n2 c2, .string (str p.d.enc), .int .i64 p.d.hd, .int .i64 p.d.fr, .int .i64 p.d.to, .int .i64 p.d.lns, .slice ka p.kids.length kc] 33)) := (((below2 w _ _).alloc (by simp; omega) _).alloc (by simp; omega) _)
  have HWy : Hid (Wy w ((((w.alloc (.cells #[.string (str p.d.ty), .string (str p.d.sub), .slice pa pn pc, .slice ia n1 c1, .slice da n2 c2, .string (str p.d.enc), .int .i64 p.d.hd, .int .i64 p.d.fr, .int .i64 p.d.to, .int .i64 p.d.lns, .slice ka p.kids.length kc] 33)).alloc (.cells #[.string ⟨#[]⟩, .string ⟨#[]⟩, .slice none 0 0, .slice none 0 0, .slice none 0 0, .string ⟨#[]⟩, .int .i64 0, .int .i64 0, .int .i64 0, .int .i64 0, .slice none 0 0] 33)).alloc (.cells #[.string (str p.d.ty), .string (str p.d.sub), .slice pa pn pc, .slice ia n1 c1, .slice da n2 c2, .string (str p.d.enc), .int .i64 p.d.hd, .int .i64 p.d.fr, .int .i64 p.d.to, .int .i64 p.d.lns, .slice ka p.kids.length kc] 33)).alloc (.cells #[.string (str p.d.ty), .string (str p.d.sub), .slice pa pn pc, .slice ia n1 c1, .slice da n2 c2, .string (str p.d.enc), .int .i64 p.d.hd, .int .i64 p.d.fr, .int .i64 p.d.to, .int .i64 p.d.lns, .slice ka p.kids.length kc] 33)) N (w.heap.size + 1) (w.heap.size + 1 + 1) (w.heap.size + 1 + 1 + 1) p (some p)) := by
    have hR : D11 ((((w.alloc (.cells #[.string (str p.d.ty), .string (str p.d.sub), .slice pa pn pc, .slice ia n1 c1, .slice da n2 c2, .string (str p.d.enc), .int .i64 p.d.hd, .int .i64 p.d.fr, .int .i64 p.d.to, .int .i64 p.d.lns, .slice ka p.kids.length kc] 33)).alloc (.cells #[.string ⟨#[]⟩, .string ⟨#[]⟩, .slice none 0 0, .slice none 0 0, .slice none 0 0, .string ⟨#[]⟩, .int .i64 0, .int .i64 0, .int .i64 0, .int .i64 0, .slice none 0 0] 33)).alloc (.cells #[.string (str p.d.ty), .string (str p.d.sub), .slice pa pn pc, .slice ia n1 c1, .slice da n2 c2, .string (str p.d.enc), .int .i64 p.d.hd, .int .i64 p.d.fr, .int .i64 p.d.to, .int .i64 p.d.lns, .slice ka p.kids.length kc] 33)).alloc (.cells #[.string (str p.d.ty), .string (str p.d.sub), .slice pa pn pc, .slice ia n1 c1, .slice da n2 c2, .string (str p.d.enc), .int .i64 p.d.hd, .int .i64 p.d.fr, .int .i64 p.d.to, .int .i64 p.d.lns, .slice ka p.kids.length kc] 33)) (w.alloc (.cells #[.string (str p.d.ty), .string (str p.d.sub), .slice pa pn pc, .slice ia n1 c1, .slice da n2 c2, .string (str p.d.enc), .int .i64 p.d.hd, .int .i64 p.d.fr, .int .i64 p.d.to, .int .i64 p.d.lns, .slice ka p.kids.length kc] 33)).heap.size Pd.zero nilV nilV nilV nilV := D11.later (D11.later (d11_new (w.alloc (.cells #[.string (str p.d.ty), .string (str p.d.sub), .slice pa pn pc, .slice ia n1 c1, .slice da n2 c2, .string (str p.d.enc), .int .i64 p.d.hd, .int .i64 p.d.fr, .int .i64 p.d.to, .int .i64 p.d.lns, .slice ka p.kids.length kc] 33)) Pd.zero nilV nilV nilV nilV) (below1 _ _)) (below1 _ _)
    have hA : D11 ((((w.alloc (.cells #[.string (str p.d.ty), .string (str p.d.sub), .slice pa pn pc, .slice ia n1 c1, .slice da n2 c2, .string (str p.d.enc), .int .i64 p.d.hd, .int .i64 p.d.fr, .int .i64 p.d.to, .int .i64 p.d.lns, .slice ka p.kids.length kc] 33)).alloc (.cells #[.string ⟨#[]⟩, .string ⟨#[]⟩, .slice none 0 0, .slice none 0 0, .slice none 0 0, .string ⟨#[]⟩, .int .i64 0, .int .i64 0, .int .i64 0, .int .i64 0, .slice none 0 0] 33)).alloc (.cells #[.string (str p.d.ty), .string (str p.d.sub), .slice pa pn pc, .slice ia n1 c1, .slice da n2 c2, .string (str p.d.enc), .int .i64 p.d.hd, .int .i64 p.d.fr, .int .i64 p.d.to, .int .i64 p.d.lns, .slice ka p.kids.length kc] 33)).alloc (.cells #[.string (str p.d.ty), .string (str p.d.sub), .slice pa pn pc, .slice ia n1 c1, .slice da n2 c2, .string (str p.d.enc), .int .i64 p.d.hd, .int .i64 p.d.fr, .int .i64 p.d.to, .int .i64 p.d.lns, .slice ka p.kids.length kc] 33)) ((w.alloc (.cells #[.string (str p.d.ty), .string (str p.d.sub), .slice pa pn pc, .slice ia n1 c1, .slice da n2 c2, .string (str p.d.enc), .int .i64 p.d.hd, .int .i64 p.d.fr, .int .i64 p.d.to, .int .i64 p.d.lns, .slice ka p.kids.length kc] 33)).alloc (.cells #[.string ⟨#[]⟩, .string ⟨#[]⟩, .slice none 0 0, .slice none 0 0, .slice none 0 0, .string ⟨#[]⟩, .int .i64 0, .int .i64 0, .int .i64 0, .int .i64 0, .slice none 0 0] 33)).heap.size p.d (.slice pa pn pc) (.slice ia n1 c1) (.slice da n2 c2) (.slice ka p.kids.length kc) := D11.later (d11_new ((w.alloc (.cells #[.string (str p.d.ty), .string (str p.d.sub), .slice pa pn pc, .slice ia n1 c1, .slice da n2 c2, .string (str p.d.enc), .int .i64 p.d.hd, .int .i64 p.d.fr, .int .i64 p.d.to, .int .i64 p.d.lns, .slice ka p.kids.length kc] 33)).alloc (.cells #[.string ⟨#[]⟩, .string ⟨#[]⟩, .slice none 0 0, .slice none 0 0, .slice none 0 0, .string ⟨#[]⟩, .int .i64 0, .int .i64 0, .int .i64 0, .int .i64 0, .slice none 0 0] 33)) p.d (.slice pa pn pc) (.slice ia n1 c1) (.slice da n2 c2) (.slice ka p.kids.length kc)) (below1 _ _)
    have hBb : D11 ((((w.alloc (.cells #[.string (str p.d.ty), .string (str p.d.sub), .slice pa pn pc, .slice ia n1 c1, .slice da n2 c2, .string (str p.d.enc), .int .i64 p.d.hd, .int .i64 p.d.fr, .int .i64 p.d.to, .int .i64 p.d.lns, .slice ka p.kids.length kc] 33)).alloc (.cells #[.string ⟨#[]⟩, .string ⟨#[]⟩, .slice none 0 0, .slice none 0 0, .slice none 0 0, .string ⟨#[]⟩, .int .i64 0, .int .i64 0, .int .i64 0, .int .i64 0, .slice none 0 0] 33)).alloc (.cells #[.string (str p.d.ty), .string (str p.d.sub), .slice pa pn pc, .slice ia n1 c1, .slice da n2 c2, .string (str p.d.enc), .int .i64 p.d.hd, .int .i64 p.d.fr, .int .i64 p.d.to, .int .i64 p.d.lns, .slice ka p.kids.length kc] 33)).alloc (.cells #[.string (str p.d.ty), .string (str p.d.sub), .slice pa pn pc, .slice ia n1 c1, .slice da n2 c2, .string (str p.d.enc), .int .i64 p.d.hd, .int .i64 p.d.fr, .int .i64 p.d.to, .int .i64 p.d.lns, .slice ka p.kids.length kc] 33)) (((w.alloc (.cells #[.string (str p.d.ty), .string (str p.d.sub), .slice pa pn pc, .slice ia n1 c1, .slice da n2 c2, .string (str p.d.enc), .int .i64 p.d.hd, .int .i64 p.d.fr, .int .i64 p.d.to, .int .i64 p.d.lns, .slice ka p.kids.length kc] 33)).alloc (.cells #[.string ⟨#[]⟩, .string ⟨#[]⟩, .slice none 0 0, .slice none 0 0, .slice none 0 0, .string ⟨#[]⟩, .int .i64 0, .int .i64 0, .int .i64 0, .int .i64 0, .slice none 0 0] 33)).alloc (.cells #[.string (str p.d.ty), .string (str p.d.sub), .slice pa pn pc, .slice ia n1 c1, .slice da n2 c2, .string (str p.d.enc), .int .i64 p.d.hd, .int .i64 p.d.fr, .int .i64 p.d.to, .int .i64 p.d.lns, .slice ka p.kids.length kc] 33)).heap.size p.d (.slice pa pn pc) (.slice ia n1 c1) (.slice da n2 c2) (.slice ka p.kids.length kc) := d11_new (((w.alloc (.cells #[.string (str p.d.ty), .string (str p.d.sub), .slice pa pn pc, .slice ia n1 c1, .slice da n2 c2, .string (str p.d.enc), .int .i64 p.d.hd, .int .i64 p.d.fr, .int .i64 p.d.to, .int .i64 p.d.lns, .slice ka p.kids.length kc] 33)).alloc (.cells #[.string ⟨#[]⟩, .string ⟨#[]⟩, .slice none 0 0, .slice none 0 0, .slice none 0 0, .string ⟨#[]⟩, .int .i64 0, .int .i64 0, .int .i64 0, .int .i64 0, .slice none 0 0] 33)).alloc (.cells #[.string (str p.d.ty), .string (str p.d.sub), .slice pa pn pc, .slice ia n1 c1, .slice da n2 c2, .string (str p.d.enc), .int .i64 p.d.hd, .int .i64 p.d.fr, .int .i64 p.d.to, .int .i64 p.d.lns, .slice ka p.kids.length kc] 33)) p.d (.slice pa pn pc) (.slice ia n1 c1) (.slice da n2 c2) (.slice ka p.kids.length kc)
    rw [show (w.alloc (.cells #[.string (str p.d.ty), .string (str p.d.sub), .slice pa pn pc, .slice ia n1 c1, .slice da n2 c2, .string (str p.d.enc), .int .i64 p.d.hd, .int .i64 p.d.fr, .int .i64 p.d.to, .int .i64 p.d.lns, .slice ka p.kids.length kc] 33)).heap.size = w.heap.size + 1 by simp] at hR
    rw [show ((w.alloc (.cells #[.string (str p.d.ty), .string (str p.d.sub), .slice pa pn pc, .slice ia n1 c1, .slice da n2 c2, .string (str p.d.enc), .int .i64 p.d.hd, .int .i64 p.d.fr, .int .i64 p.d.to, .int .i64 p.d.lns, .slice ka p.kids.length kc] 33)).alloc (.cells #[.string ⟨#[]⟩, .string ⟨#[]⟩, .slice none 0 0, .slice none 0 0, .slice none 0 0, .string ⟨#[]⟩, .int .i64 0, .int .i64 0, .int .i64 0, .int .i64 0, .slice none 0 0] 33)).heap.size = w.heap.size + 1 + 1 by simp] at hA
    rw [show (((w.alloc (.cells #[.string (str p.d.ty), .string (str p.d.sub), .slice pa pn pc, .slice ia n1 c1, .slice da n2 c2, .string (str p.d.enc), .int .i64 p.d.hd, .int .i64 p.d.fr, .int .i64 p.d.to, .int .i64 p.d.lns, .slice ka p.kids.length kc] 33)).alloc (.cells #[.string ⟨#[]⟩, .string ⟨#[]⟩, .slice none 0 0, .slice none 0 0, .slice none 0 0, .string ⟨#[]⟩, .int .i64 0, .int .i64 0, .int .i64 0, .int .i64 0, .slice none 0 0] 33)).alloc (.cells #[.string (str p.d.ty), .string (str p.d.sub), .slice pa pn pc, .slice ia n1 c1, .slice da n2 c2, .string (str p.d.enc), .int .i64 p.d.hd, .int .i64 p.d.fr, .int .i64 p.d.to, .int .i64 p.d.lns, .slice ka p.kids.length kc] 33)).heap.size = w.heap.size + 1 + 1 + 1 by simp] at hBb
    exact ⟨hR, AskAt.some' hA (hp.later hB) hs, AskAt.some' hBb (hp.later hB) hs, hB, hN, ⟨by omega, by omega, by omega, by omega, by omega, by omega⟩⟩
  have HIL := hid hv
  have HAt : Hid (atM p path = atG p (some p) (path.drop 0)) := rfl
  have HNum := hid (fun W (a : Pt) (x : Int) vp vi vd vk (h : PtAt W N 7 a vp vi vd vk) (hn : ∀ q, N q → q < W.heap.size) (hl : a.kids.length ≤ 1000) => numbered_any (w := W) h hn x hl)
  have HWi := hid (fun W (a : Pt) vp vi vd vk (h : PtAt W N 7 a vp vi vd vk) (hn : ∀ q, N q → q < W.heap.size) => within_any (w := W) h hn)
  clear hB hp hv
  generalize atM p path = RES at *
  unfold ptV ptC at *
  go_enter Tryz.func27, Tryz.ntmps27
  go_wp2_with fail
  generalize ((((w.alloc (.cells #[.string (str p.d.ty), .string (str p.d.sub), .slice pa pn pc, .slice ia n1 c1, .slice da n2 c2, .string (str p.d.enc), .int .i64 p.d.hd, .int .i64 p.d.fr, .int .i64 p.d.to, .int .i64 p.d.lns, .slice ka p.kids.length kc] 33)).alloc (.cells #[.string ⟨#[]⟩, .string ⟨#[]⟩, .slice none 0 0, .slice none 0 0, .slice none 0 0, .string ⟨#[]⟩, .int .i64 0, .int .i64 0, .int .i64 0, .int .i64 0, .slice none 0 0] 33)).alloc (.cells #[.string (str p.d.ty), .string (str p.d.sub), .slice pa pn pc, .slice ia n1 c1, .slice da n2 c2, .string (str p.d.enc), .int .i64 p.d.hd, .int .i64 p.d.fr, .int .i64 p.d.to, .int .i64 p.d.lns, .slice ka p.kids.length kc] 33)).alloc (.cells #[.string (str p.d.ty), .string (str p.d.sub), .slice pa pn pc, .slice ia n1 c1, .slice da n2 c2, .string (str p.d.enc), .int .i64 p.d.hd, .int .i64 p.d.fr, .int .i64 p.d.to, .int .i64 p.d.lns, .slice ka p.kids.length kc] 33)) = W at *
  generalize w.heap.size + 1 + 1 + 1 = B at *
  generalize w.heap.size + 1 + 1 = A at *
  generalize w.heap.size + 1 = R at *
  go_loopw [8, 10, 15] (fun is _ i wr => ∃ (j : Nat) (q : Pt) (ask : Option Pt), j ≤ path.length ∧ i = .int .i64 j ∧ is = .bool (isS ask) ∧ Wy w wr N R A B q ask ∧ RES = atG q ask (path.drop j)) (fun _ _ i _ => path.length - (intOf i).toNat)
  case atStart => exact ⟨0, p, some p, by omega, rfl, rfl, HWy.out, HAt.out⟩
  case round =>
    obtain ⟨j, q, ask, hj, rfl, rfl, hwy, hat⟩ := hrel
    have HW := hid hwy
    have HA := hid hat
    clear hwy hat HWy HAt
    by_cases hlt : j < path.length
    · have hlt' : (j : Int) < path.length := by omega
      obtain ⟨ga', gc', hva, _, hcells⟩ := HIL.out.later HW.out.below
      rcases hcells with hcells | ⟨g, o, rfl, hg, hcells⟩
      · rw [hcells] at hlt; simp at hlt
      · simp at hva
        obtain ⟨rfl, rfl⟩ := hva
        have hc0 : wr.cell? ⟨g, o + j, none⟩ = some (.int .i64 path[j]) := hcells j _ (List.getElem?_eq_getElem hlt)
        have HDr : Hid (path.drop j = path[j] :: path.drop (j + 1)) := List.drop_eq_getElem_cons hlt
        generalize path[j] = x at *
        clear hcells hg
        have HRr := hid HW.out.r
        cases ask with
        | none =>
          have HRn : Hid (RES = none) := by rw [Hid, HA.out, HDr.out]; rfl
          go_wp2_with (refine wpList_store33 (d := Pd.zero) (pa := none) (pn := 0) (pc := 0) (ia := none) (n1 := 0) (c1 := 0) (da := none) (n2 := 0) (c2 := 0) (ka := none) (kn := 0) (kc := 0) rfl rfl HRr.out ?_)
          have q1 := row11_is HRr.out Pd.zero (.slice none 0 0) (.slice none 0 0) (.slice none 0 0) (.slice none 0 0)
          have q2 := row11_self wr R Pd.zero (.slice none 0 0) (.slice none 0 0) (.slice none 0 0) (.slice none 0 0)
          refine bodyPost_ret (w := row11 wr R Pd.zero (.slice none 0 0) (.slice none 0 0) (.slice none 0 0) (.slice none 0 0)) (results27_run _ rfl rfl q1) rfl ?_
          rw [HRn.out]
          exact POpt.none (below_kept HW.out.below q2 (by simp; exact HW.out.lo.1) HW.out.below.size)
        | some a =>
          obtain ⟨qpa, qpn, qpc, qia, qin, qic, qda, qdn, qdc, qka, qkn, qkc, hdB, hpB, hsB⟩ := HW.out.b
          obtain ⟨y0, y1, y2, y3, y4, y5, y6, y7, y8, y9, y10⟩ := hdB.cs
          have hnw : ∀ i, N i → i < wr.heap.size := fun i h => by have := HW.out.nw i h; have := HW.out.below.size; omega
          have HCn := hid (HNum.out wr a x _ _ _ _ hpB hnw hsB.len)
          have HsB := hid hsB
          clear hdB hpB hnw
          go_wp2_with fail
          refine HCn.out.mono ?_
          rintro e w3 ⟨hb3, hv3⟩
          have HW3 := hid (HW.out.later hb3)
          clear hb3 HCn y0 y1 y2 y3 y4 y5 y6 y7 y8 y9 y10
          obtain ⟨dA, aA, bA, cA, eA, hdA⟩ := HW3.out.a.d
          have HdA := hid hdA
          clear hdA
          cases ho : numberedM a x with
          | none =>
            rw [ho] at hv3
            obtain ⟨zd, kpa, kpn, kpc, kia, kin, kic, kda, kdn, kdc, kka, kkn, kkc, rfl⟩ := hv3
            have HRn : Hid (RES = none) := by rw [Hid, HA.out, HDr.out, atG_no q a x _ ho]
            have k3 := row11_self w3 A zd (.slice kpa kpn kpc) (.slice kia kin kic) (.slice kda kdn kdc) (.slice kka kkn kkc)
            have HR3 := hid (HW3.out.r.kept k3 (by rw [List.mem_singleton]; exact HW3.out.lo.2.2.2.2.1))
            have HB3 := hid (below_kept HW3.out.below k3 (by simp; exact HW3.out.lo.2.1) HW3.out.below.size)
            have HloR := hid HW3.out.lo.1
            clear ho k3
            go_wp2_with (first | refine wpList_store33 (d := zd) (pa := kpa) (pn := kpn) (pc := kpc) (ia := kia) (n1 := kin) (c1 := kic) (da := kda) (n2 := kdn) (c2 := kdc) (ka := kka) (kn := kkn) (kc := kkc) rfl rfl HdA.out ?_ | refine wpList_store33 (d := Pd.zero) (pa := none) (pn := 0) (pc := 0) (ia := none) (n1 := 0) (c1 := 0) (da := none) (n2 := 0) (c2 := 0) (ka := none) (kn := 0) (kc := 0) rfl rfl HR3.out ?_)
            have q1 := row11_is HR3.out Pd.zero (.slice none 0 0) (.slice none 0 0) (.slice none 0 0) (.slice none 0 0)
            have q2 := row11_self (row11 w3 A zd (.slice kpa kpn kpc) (.slice kia kin kic) (.slice kda kdn kdc) (.slice kka kkn kkc)) R Pd.zero (.slice none 0 0) (.slice none 0 0) (.slice none 0 0) (.slice none 0 0)
            refine bodyPost_ret (w := row11 (row11 w3 A zd (.slice kpa kpn kpc) (.slice kia kin kic) (.slice kda kdn kdc) (.slice kka kkn kkc)) R Pd.zero (.slice none 0 0) (.slice none 0 0) (.slice none 0 0) (.slice none 0 0)) (results27_run _ rfl rfl q1) rfl ?_
            rw [HRn.out]
            exact POpt.none (below_kept HB3.out q2 (by simp; exact HloR.out) HB3.out.size)
          | some q' =>
            rw [ho] at hv3
            obtain ⟨wp, wi, wd, wk, rfl, hq3⟩ := hv3
            obtain ⟨kpa, kpn, kpc, kia, kin, kic, kda, kdn, kdc, kka, kkn, kkc, rfl, rfl, rfl, rfl⟩ := hq3.slices
            have hs' : Sm q' := HsB.out.numbered ho
            have HRn : Hid (RES = atG q' (withinM q') (path.drop (j + 1))) := by rw [Hid, HA.out, HDr.out, atG_yes q a q' x _ ho]
            have HW5 := hid (HW3.out.setA hq3 hs')
            have HS' := hid hs'
            obtain ⟨y0, y1, y2, y3, y4, y5, y6, y7, y8, y9, y10⟩ := (row11_is HdA.out q'.d (.slice kpa kpn kpc) (.slice kia kin kic) (.slice kda kdn kdc) (.slice kka kkn kkc)).cs
            have hN3 : ∀ i ∈ [A], ¬ N i := fun i hi hn => by rw [List.mem_singleton] at hi; have := HW3.out.nw i hn; have := HW3.out.lo.2.1; omega
            have hq5 : PtAt (row11 w3 A q'.d (.slice kpa kpn kpc) (.slice kia kin kic) (.slice kda kdn kdc) (.slice kka kkn kkc)) N 7 q' (.slice kpa kpn kpc) (.slice kia kin kic) (.slice kda kdn kdc) (.slice kka kkn kkc) := hq3.kept (row11_self _ _ _ _ _ _ _) hN3
            have hnw : ∀ i, N i → i < (row11 w3 A q'.d (.slice kpa kpn kpc) (.slice kia kin kic) (.slice kda kdn kdc) (.slice kka kkn kkc)).heap.size := fun i h => by have := HW5.out.nw i h; have := HW5.out.below.size; omega
            have HCw := hid (HWi.out _ q' _ _ _ _ hq5 hnw)
            clear ho hs' hN3 hq5 hnw hq3
            go_wp2_with (refine wpList_store33 (d := q'.d) (pa := kpa) (pn := kpn) (pc := kpc) (ia := kia) (n1 := kin) (c1 := kic) (da := kda) (n2 := kdn) (c2 := kdc) (ka := kka) (kn := kkn) (kc := kkc) rfl rfl HdA.out ?_)
            generalize (row11 w3 A q'.d (.slice kpa kpn kpc) (.slice kia kin kic) (.slice kda kdn kdc) (.slice kka kkn kkc)) = W5 at *
            refine HCw.out.mono ?_
            rintro e w6 ⟨hb6, hv6⟩
            have HW6 := hid (HW5.out.later hb6)
            obtain ⟨dB, aB, bB, cB, eB, hdB⟩ := HW6.out.b.d
            have HdB := hid hdB
            clear hdB hb6 HCw y0 y1 y2 y3 y4 y5 y6 y7 y8 y9 y10
            cases ho : withinM q' with
            | none =>
              rw [ho] at hv6
              obtain ⟨zd, qpa, qpn, qpc, qia, qin, qic, qda, qdn, qdc, qka, qkn, qkc, rfl⟩ := hv6
              have HW7 := hid (HW6.out.noB zd (.slice qpa qpn qpc) (.slice qia qin qic) (.slice qda qdn qdc) (.slice qka qkn qkc))
              rw [ho] at HRn
              clear ho
              go_wp2_with (refine wpList_store33 (d := zd) (pa := qpa) (pn := qpn) (pc := qpc) (ia := qia) (n1 := qin) (c1 := qic) (da := qda) (n2 := qdn) (c2 := qdc) (ka := qka) (kn := qkn) (kc := qkc) rfl rfl HdB.out ?_)
              go_roundw
              case rel => exact ⟨j + 1, q', none, by omega, by go_num, rfl, HW7.out, HRn.out⟩
              case measure => simp [intOf]; omega
            | some a' =>
              rw [ho] at hv6
              obtain ⟨wp, wi, wd, wk, rfl, hq6⟩ := hv6
              obtain ⟨qpa, qpn, qpc, qia, qin, qic, qda, qdn, qdc, qka, qkn, qkc, rfl, rfl, rfl, rfl⟩ := hq6.slices
              have HW7 := hid (HW6.out.setB hq6 (HS'.out.within ho))
              rw [ho] at HRn
              clear ho hq6
              go_wp2_with (refine wpList_store33 (d := a'.d) (pa := qpa) (pn := qpn) (pc := qpc) (ia := qia) (n1 := qin) (c1 := qic) (da := qda) (n2 := qdn) (c2 := qdc) (ka := qka) (kn := qkn) (kc := qkc) rfl rfl HdB.out ?_)
              go_roundw
              case rel => exact ⟨j + 1, q', some a', by omega, by go_num, rfl, HW7.out, HRn.out⟩
              case measure => simp [intOf]; omega
    · have hlt' : ¬ (j : Int) < path.length := by omega
      have HRn : Hid (RES = some q) := by rw [Hid, HA.out, List.drop_of_length_le (by omega)]; rfl
      obtain ⟨kpa, kpn, kpc, kia, kin, kic, kda, kdn, kdc, kka, kkn, kkc, hdA, hpA, hsA⟩ := HW.out.a
      obtain ⟨y0, y1, y2, y3, y4, y5, y6, y7, y8, y9, y10⟩ := hdA.cs
      have HRr := hid HW.out.r
      have HpA := hid hpA
      have HNR : Hid (∀ i ∈ [R], ¬ N i) := fun i hi hn => by rw [List.mem_singleton] at hi; have := HW.out.nw i hn; have := HW.out.lo.1; omega
      clear hdA hpA hsA
      go_wp2_with (refine wpList_store33 (d := q.d) (pa := kpa) (pn := kpn) (pc := kpc) (ia := kia) (n1 := kin) (c1 := kic) (da := kda) (n2 := kdn) (c2 := kdc) (ka := kka) (kn := kkn) (kc := kkc) rfl rfl HRr.out ?_)
      have q1 := row11_is HRr.out q.d (.slice kpa kpn kpc) (.slice kia kin kic) (.slice kda kdn kdc) (.slice kka kkn kkc)
      have q2 := row11_self wr R q.d (.slice kpa kpn kpc) (.slice kia kin kic) (.slice kda kdn kdc) (.slice kka kkn kkc)
      refine bodyPost_ret (w := row11 wr R q.d (.slice kpa kpn kpc) (.slice kia kin kic) (.slice kda kdn kdc) (.slice kka kkn kkc)) (results27_run _ rfl rfl q1) rfl ?_
      rw [HRn.out]
      exact POpt.some (below_kept HW.out.below q2 (by simp; exact HW.out.lo.1) HW.out.below.size) (HpA.out.kept q2 HNR.out)
end Go.Proofs.YtgolcmafbenjbaaGreatDoor
