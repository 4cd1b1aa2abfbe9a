/- What this text holds: the program's Section with HEADER and TEXT. -/
import Derived.Test.YtgolcmafbenjbaaGreatDoorN29
namespace Go.Proofs.YtgolcmafbenjbaaGreatDoor
open Go.RowKit
set_option linter.unusedVariables false
set_option linter.unusedSimpArgs false

theorem Pl.headed {n : Nat} {p k : Pt} {path : List Int} (h : Pl n p) (hk : headedM p path = some k) : Pl n k := by
  unfold headedM at hk
  split at hk
  · cases hk; exact h
  · exact h.mailed hk

def headSM (s : Bs) (path : List Int) : Option Bs := ((atM (strucM s) path).bind fun p => headedM p path).map fun p => inn s p.d.hd p.d.fr
set_option maxRecDepth 100000 in
set_option maxHeartbeats 4000000 in
theorem sect_head (s : Bs) {w : World} (he : Env w) (hs : s.length ≤ 100000) (path : List Int) (v : Value) (hv : IL w v path) (hl : path.length ≤ 1000) :
    Calls Tryz.prog 17 #[.string (str s), v, .string ⟨#[72, 69, 65, 68, 69, 82]⟩] w (SOut (headSM s path) w) := by
  have hB := below1 w (.cells #[.string (str s)] 55)
  have HG := hid (g1_new w s)
  have HSt := hid (struc_any s (he.later hB) hs)
  unfold PtOut at HSt
  have HIL := hid (hv.later hB)
  have HB := hid hB
  have HSm := hid (sm_struc s)
  have HPl := hid (pl_struc s)
  obtain ⟨ga, gc, rfl, hgc, _⟩ := id hv
  have HAt : Hid (∀ q, atM (strucM s) path = some q → Pl s.length q) := fun q h => Pl.atG path _ _ q HPl.out (fun a ha => by cases ha; exact HPl.out) h
  have HMi : Hid (headSM s path = ((atM (strucM s) path).bind fun p => headedM p path).map fun p => inn s p.d.hd p.d.fr) := rfl
  generalize headSM s path = MM at *
  generalize strucM s = P at *
  clear he hv hB
  go_enter Tryz.func17, Tryz.ntmps17
  go_wp2_with fail
  generalize (w.alloc (.cells #[.string (str s)] 55)) = W at *
  refine HSt.out.mono ?_
  rintro e w1 ⟨⟨vp, vi, vd, vk, rfl, hpt⟩, hb1⟩
  have HG1 := hid (HG.out.later hb1)
  have HB1 := hid (HB.out.trans (hb1.mono HB.out.size))
  have HAc := hid (at_any (hpt.mono (N' := fun q => q < w1.heap.size) (fun q hq _ => hq)) (fun q h => h) HSm.out path _ (HIL.out.later hb1) hl)
  clear hpt hb1 HSt HG HB HIL
  go_wp2_with fail
  refine HAc.out.mono ?_
  rintro e w2 ⟨hb2, hv2⟩
  have HG2 := hid (HG1.out.later hb2)
  have HB2 := hid (HB1.out.trans (hb2.mono HB1.out.size))
  have HNs := hid hb2.size
  clear hb2 HAc HG1 HB1
  cases ho : atM P path with
  | none =>
    rw [ho] at hv2
    obtain ⟨zd, kpa, kpn, kpc, kia, kin, kic, kda, kdn, kdc, kka, kkn, kkc, rfl⟩ := hv2
    have HB3 := hid (HB2.out.alloc HB2.out.size (.cells (ptC zd (.slice kpa kpn kpc) (.slice kia kin kic) (.slice kda kdn kdc) (.slice kka kkn kkc)) 33))
    unfold ptV ptC at *
    go_wp2_with fail
    go_ret2
    rw [HMi.out, ho]
    exact ⟨HB3.out, rfl⟩
  | some q =>
    rw [ho] at hv2
    obtain ⟨wp, wi, wd, wk, rfl, hq⟩ := hv2
    obtain ⟨kpa, kpn, kpc, kia, kin, kic, kda, kdn, kdc, kka, kkn, kkc, rfl, rfl, rfl, rfl⟩ := hq.slices
    have hpl := (HAt.out q ho).at
    have hA := below1 w2 (.cells (ptC q.d (.slice kpa kpn kpc) (.slice kia kin kic) (.slice kda kdn kdc) (.slice kka kkn kkc)) 33)
    have HB3 := hid (HB2.out.trans (hA.mono HB2.out.size))
    have HG3 := hid (HG2.out.later hA)
    have HPlq := hid (fun k (h : headedM q path = some k) => (Pl.headed (HAt.out q ho) h).at)
    have HD3 := hid (d11_new w2 q.d (.slice kpa kpn kpc) (.slice kia kin kic) (.slice kda kdn kdc) (.slice kka kkn kkc))
    have HC := hid (headed_any (hq.later hA) (fun x hx => by have h1 : x < w1.heap.size := hx; have h2 := HNs.out; have h3 := hA.size; omega) path ga gc (by omega))
    have HM : Hid (MM = (headedM q path).map fun p => inn s p.d.hd p.d.fr) := by rw [Hid, HMi.out, ho]; rfl
    have HLt := hid HG2.out.lt
    have HBA := hid HB2.out.size
    have g0 := HG3.out.c0
    have dd := HD3.out.cs
    have hMh := fun k (h : headedM q path = some k) (vp vi vd vk : Value) (W : World) => mhead_any s k.d vp vi vd vk W (HPlq.out k h).1 (by have := (HPlq.out k h).2; omega) (by omega)
    have HMh := hid hMh
    clear hq ho HMi HAt hMh hpl
    generalize headedM q path = OK at *
    generalize path.length = gl at *
    unfold ptV ptC msgV at *
    clear hA
    go_wp2_with fail
    generalize (w2.alloc (.cells #[.string (str q.d.ty), .string (str q.d.sub), .slice kpa kpn kpc, .slice kia kin kic, .slice kda kdn kdc, .string (str q.d.enc), .int .i64 q.d.hd, .int .i64 q.d.fr, .int .i64 q.d.to, .int .i64 q.d.lns, .slice kka kkn kkc] 33)) = W3 at *
    refine HC.out.mono ?_
    rintro e w4 ⟨hb4, hv4⟩
    have HD4 := hid (HD3.out.later hb4)
    have HG4 := hid (HG3.out.later hb4)
    have HB4 := hid (HB3.out.trans (hb4.mono HB3.out.size))
    clear hb4 HC HD3 HG3 HB3 g0 dd
    cases OK with
    | none =>
      obtain ⟨zd, ypa, ypn, ypc, yia, yin, yic, yda, ydn, ydc, yka, ykn, ykc, rfl⟩ := hv4
      have HB5 := hid (row11_below w2.heap.size zd (.slice ypa ypn ypc) (.slice yia yin yic) (.slice yda ydn ydc) (.slice yka ykn ykc) HB4.out HBA.out HB4.out.size)
      go_wp2_with (refine wpList_store33 (d := zd) (pa := ypa) (pn := ypn) (pc := ypc) (ia := yia) (n1 := yin) (c1 := yic) (da := yda) (n2 := ydn) (c2 := ydc) (ka := yka) (kn := ykn) (kc := ykc) rfl rfl HD4.out ?_)
      go_ret2
      rw [HM.out]
      exact ⟨HB5.out, rfl⟩
    | some k =>
      obtain ⟨wp, wi, wd, wk, rfl, hkp⟩ := hv4
      obtain ⟨ypa, ypn, ypc, yia, yin, yic, yda, ydn, ydc, yka, ykn, ykc, rfl, rfl, rfl, rfl⟩ := hkp.slices
      have HB5 := hid (row11_below w2.heap.size k.d (.slice ypa ypn ypc) (.slice yia yin yic) (.slice yda ydn ydc) (.slice yka ykn ykc) HB4.out HBA.out HB4.out.size)
      have y := (row11_is HD4.out k.d (.slice ypa ypn ypc) (.slice yia yin yic) (.slice yda ydn ydc) (.slice yka ykn ykc)).cs
      have gg := (HG4.out.kept (row11_self w4 w2.heap.size k.d (.slice ypa ypn ypc) (.slice yia yin yic) (.slice yda ydn ydc) (.slice yka ykn ykc)) (by rw [List.mem_singleton]; have := HLt.out; omega)).c0
      have HMk := hid (HMh.out k rfl (.slice ypa ypn ypc) (.slice yia yin yic) (.slice yda ydn ydc) (.slice yka ykn ykc))
      clear hkp HMh HPlq
      go_wp2_with (refine wpList_store33 (d := k.d) (pa := ypa) (pn := ypn) (pc := ypc) (ia := yia) (n1 := yin) (c1 := yic) (da := yda) (n2 := ydn) (c2 := ydc) (ka := yka) (kn := ykn) (kc := ykc) rfl rfl HD4.out ?_)
      refine (HMk.out _).mono ?_
      rintro e w5 ⟨rfl, hb5⟩
      have HB6 := hid (HB5.out.trans (hb5.mono HB5.out.size))
      clear hb5
      go_wp2_with fail
      go_ret2
      rw [HM.out]
      exact ⟨HB6.out, rfl⟩

def textSM (s : Bs) (path : List Int) : Option Bs := ((atM (strucM s) path).bind fun p => headedM p path).map fun p => inn s p.d.fr p.d.to
set_option maxRecDepth 100000 in
set_option maxHeartbeats 4000000 in
theorem sect_text (s : Bs) {w : World} (he : Env w) (hs : s.length ≤ 100000) (path : List Int) (v : Value) (hv : IL w v path) (hl : path.length ≤ 1000) :
    Calls Tryz.prog 17 #[.string (str s), v, .string ⟨#[84, 69, 88, 84]⟩] w (SOut (textSM s path) w) := by
  have hB := below1 w (.cells #[.string (str s)] 55)
  have HG := hid (g1_new w s)
  have HSt := hid (struc_any s (he.later hB) hs)
  unfold PtOut at HSt
  have HIL := hid (hv.later hB)
  have HB := hid hB
  have HSm := hid (sm_struc s)
  have HPl := hid (pl_struc s)
  obtain ⟨ga, gc, rfl, hgc, _⟩ := id hv
  have HAt : Hid (∀ q, atM (strucM s) path = some q → Pl s.length q) := fun q h => Pl.atG path _ _ q HPl.out (fun a ha => by cases ha; exact HPl.out) h
  have HMi : Hid (textSM s path = ((atM (strucM s) path).bind fun p => headedM p path).map fun p => inn s p.d.fr p.d.to) := rfl
  generalize textSM s path = MM at *
  generalize strucM s = P at *
  clear he hv hB
  go_enter Tryz.func17, Tryz.ntmps17
  go_wp2_with fail
  generalize (w.alloc (.cells #[.string (str s)] 55)) = W at *
  refine HSt.out.mono ?_
  rintro e w1 ⟨⟨vp, vi, vd, vk, rfl, hpt⟩, hb1⟩
  have HG1 := hid (HG.out.later hb1)
  have HB1 := hid (HB.out.trans (hb1.mono HB.out.size))
  have HAc := hid (at_any (hpt.mono (N' := fun q => q < w1.heap.size) (fun q hq _ => hq)) (fun q h => h) HSm.out path _ (HIL.out.later hb1) hl)
  clear hpt hb1 HSt HG HB HIL
  go_wp2_with fail
  refine HAc.out.mono ?_
  rintro e w2 ⟨hb2, hv2⟩
  have HG2 := hid (HG1.out.later hb2)
  have HB2 := hid (HB1.out.trans (hb2.mono HB1.out.size))
  have HNs := hid hb2.size
  clear hb2 HAc HG1 HB1
  cases ho : atM P path with
  | none =>
    rw [ho] at hv2
    obtain ⟨zd, kpa, kpn, kpc, kia, kin, kic, kda, kdn, kdc, kka, kkn, kkc, rfl⟩ := hv2
    have HB3 := hid (HB2.out.alloc HB2.out.size (.cells (ptC zd (.slice kpa kpn kpc) (.slice kia kin kic) (.slice kda kdn kdc) (.slice kka kkn kkc)) 33))
    unfold ptV ptC at *
    go_wp2_with fail
    go_ret2
    rw [HMi.out, ho]
    exact ⟨HB3.out, rfl⟩
  | some q =>
    rw [ho] at hv2
    obtain ⟨wp, wi, wd, wk, rfl, hq⟩ := hv2
    obtain ⟨kpa, kpn, kpc, kia, kin, kic, kda, kdn, kdc, kka, kkn, kkc, rfl, rfl, rfl, rfl⟩ := hq.slices
    have hpl := (HAt.out q ho).at
    have hA := below1 w2 (.cells (ptC q.d (.slice kpa kpn kpc) (.slice kia kin kic) (.slice kda kdn kdc) (.slice kka kkn kkc)) 33)
    have HB3 := hid (HB2.out.trans (hA.mono HB2.out.size))
    have HG3 := hid (HG2.out.later hA)
    have HPlq := hid (fun k (h : headedM q path = some k) => (Pl.headed (HAt.out q ho) h).at)
    have HD3 := hid (d11_new w2 q.d (.slice kpa kpn kpc) (.slice kia kin kic) (.slice kda kdn kdc) (.slice kka kkn kkc))
    have HC := hid (headed_any (hq.later hA) (fun x hx => by have h1 : x < w1.heap.size := hx; have h2 := HNs.out; have h3 := hA.size; omega) path ga gc (by omega))
    have HM : Hid (MM = (headedM q path).map fun p => inn s p.d.fr p.d.to) := by rw [Hid, HMi.out, ho]; rfl
    have HLt := hid HG2.out.lt
    have HBA := hid HB2.out.size
    have g0 := HG3.out.c0
    have dd := HD3.out.cs
    have hMh := fun k (h : headedM q path = some k) (vp vi vd vk : Value) (W : World) => mcontent_any s k.d vp vi vd vk W (HPlq.out k h).2.1 (HPlq.out k h).2.2 (by omega)
    have HMh := hid hMh
    clear hq ho HMi HAt hMh hpl
    generalize headedM q path = OK at *
    generalize path.length = gl at *
    unfold ptV ptC msgV at *
    clear hA
    go_wp2_with fail
    generalize (w2.alloc (.cells #[.string (str q.d.ty), .string (str q.d.sub), .slice kpa kpn kpc, .slice kia kin kic, .slice kda kdn kdc, .string (str q.d.enc), .int .i64 q.d.hd, .int .i64 q.d.fr, .int .i64 q.d.to, .int .i64 q.d.lns, .slice kka kkn kkc] 33)) = W3 at *
    refine HC.out.mono ?_
    rintro e w4 ⟨hb4, hv4⟩
    have HD4 := hid (HD3.out.later hb4)
    have HG4 := hid (HG3.out.later hb4)
    have HB4 := hid (HB3.out.trans (hb4.mono HB3.out.size))
    clear hb4 HC HD3 HG3 HB3 g0 dd
    cases OK with
    | none =>
      obtain ⟨zd, ypa, ypn, ypc, yia, yin, yic, yda, ydn, ydc, yka, ykn, ykc, rfl⟩ := hv4
      have HB5 := hid (row11_below w2.heap.size zd (.slice ypa ypn ypc) (.slice yia yin yic) (.slice yda ydn ydc) (.slice yka ykn ykc) HB4.out HBA.out HB4.out.size)
      go_wp2_with (refine wpList_store33 (d := zd) (pa := ypa) (pn := ypn) (pc := ypc) (ia := yia) (n1 := yin) (c1 := yic) (da := yda) (n2 := ydn) (c2 := ydc) (ka := yka) (kn := ykn) (kc := ykc) rfl rfl HD4.out ?_)
      go_ret2
      rw [HM.out]
      exact ⟨HB5.out, rfl⟩
    | some k =>
      obtain ⟨wp, wi, wd, wk, rfl, hkp⟩ := hv4
      obtain ⟨ypa, ypn, ypc, yia, yin, yic, yda, ydn, ydc, yka, ykn, ykc, rfl, rfl, rfl, rfl⟩ := hkp.slices
      have HB5 := hid (row11_below w2.heap.size k.d (.slice ypa ypn ypc) (.slice yia yin yic) (.slice yda ydn ydc) (.slice yka ykn ykc) HB4.out HBA.out HB4.out.size)
      have y := (row11_is HD4.out k.d (.slice ypa ypn ypc) (.slice yia yin yic) (.slice yda ydn ydc) (.slice yka ykn ykc)).cs
      have gg := (HG4.out.kept (row11_self w4 w2.heap.size k.d (.slice ypa ypn ypc) (.slice yia yin yic) (.slice yda ydn ydc) (.slice yka ykn ykc)) (by rw [List.mem_singleton]; have := HLt.out; omega)).c0
      have HMk := hid (HMh.out k rfl (.slice ypa ypn ypc) (.slice yia yin yic) (.slice yda ydn ydc) (.slice yka ykn ykc))
      clear hkp HMh HPlq
      go_wp2_with (refine wpList_store33 (d := k.d) (pa := ypa) (pn := ypn) (pc := ypc) (ia := yia) (n1 := yin) (c1 := yic) (da := yda) (n2 := ydn) (c2 := ydc) (ka := yka) (kn := ykn) (kc := ykc) rfl rfl HD4.out ?_)
      refine (HMk.out _).mono ?_
      rintro e w5 ⟨rfl, hb5⟩
      have HB6 := hid (HB5.out.trans (hb5.mono HB5.out.size))
      clear hb5
      go_wp2_with fail
      go_ret2
      rw [HM.out]
      exact ⟨HB6.out, rfl⟩
end Go.Proofs.YtgolcmafbenjbaaGreatDoor
