/- What this text holds: the program's Section with MIME. -/
import Derived.Test.YtgolcmafbenjbaaGreatDoorN25
namespace Go.Proofs.YtgolcmafbenjbaaGreatDoor
open Go.RowKit
set_option linter.unusedVariables false
set_option linter.unusedSimpArgs false

def mimeM (s : Bs) (path : List Int) : Option Bs := if path = [] then none else (atM (strucM s) path).map fun p => inn s p.d.hd p.d.fr
set_option maxRecDepth 100000 in
set_option maxHeartbeats 4000000 in
theorem sect_mime (s : Bs) {w : World} (he : Env w) (hs : s.length ≤ 100000) (path : List Int) (v : Value) (hv : IL w v path) (hl : path.length ≤ 1000) :
    Calls Tryz.prog 17 #[.string (str s), v, .string ⟨#[77, 73, 77, 69]⟩] w (SOut (mimeM s path) w) := by
  have hB := below1 w (.cells #[.string (str s)] 55)
  have HG := hid (g1_new w s)
  have HSt := hid (struc_any s (he.later hB) hs)
  unfold PtOut at HSt
  have HIL := hid (hv.later hB)
  have HB := hid hB
  have HSm := hid (sm_struc s)
  have HPl := hid (pl_struc s)
  obtain ⟨ga, gc, rfl, hgc, _⟩ := id hv
  have HAt : Hid (∀ q, atM (strucM s) path = some q → Pl s.length q) := fun q h => Pl.atG path _ _ q HPl.out (fun a ha => by cases ha; exact HPl.out) h
  have HMi : Hid (mimeM s path = if path = [] then none else (atM (strucM s) path).map fun p => inn s p.d.hd p.d.fr) := rfl
  generalize mimeM s path = MM at *
  generalize strucM s = P at *
  clear he hv hB
  go_enter Tryz.func17, Tryz.ntmps17
  go_wp2_with fail
  generalize (w.alloc (.cells #[.string (str s)] 55)) = W at *
  refine HSt.out.mono ?_
  rintro e w1 ⟨⟨vp, vi, vd, vk, rfl, hpt⟩, hb1⟩
  have HG1 := hid (HG.out.later hb1)
  have HB1 := hid (HB.out.trans (hb1.mono HB.out.size))
  have HAc := hid (at_any (hpt.mono (N' := fun q => q < w1.heap.size) (fun q hq _ => hq)) (fun q h => h) HSm.out path _ (HIL.out.later hb1) hl)
  clear hpt hb1 HSt HG HB HIL
  go_wp2_with fail
  refine HAc.out.mono ?_
  rintro e w2 ⟨hb2, hv2⟩
  have HG2 := hid (HG1.out.later hb2)
  have HB2 := hid (HB1.out.trans (hb2.mono HB1.out.size))
  clear hb2 HAc HG1 HB1
  cases ho : atM P path with
  | none =>
    rw [ho] at hv2
    obtain ⟨zd, kpa, kpn, kpc, kia, kin, kic, kda, kdn, kdc, kka, kkn, kkc, rfl⟩ := hv2
    have HB3 := hid (HB2.out.alloc HB2.out.size (.cells (ptC zd (.slice kpa kpn kpc) (.slice kia kin kic) (.slice kda kdn kdc) (.slice kka kkn kkc)) 33))
    unfold ptV ptC at *
    go_wp2_with fail
    go_ret2
    rw [HMi.out, ho, Option.map_none, ite_self]
    exact ⟨HB3.out, rfl⟩
  | some q =>
    rw [ho] at hv2
    obtain ⟨wp, wi, wd, wk, rfl, hq⟩ := hv2
    obtain ⟨kpa, kpn, kpc, kia, kin, kic, kda, kdn, kdc, kka, kkn, kkc, rfl, rfl, rfl, rfl⟩ := hq.slices
    have hpl := (HAt.out q ho).at
    have hA := below1 w2 (.cells (ptC q.d (.slice kpa kpn kpc) (.slice kia kin kic) (.slice kda kdn kdc) (.slice kka kkn kkc)) 33)
    have HB3 := hid (HB2.out.trans (hA.mono HB2.out.size))
    have g0 := (HG2.out.later hA).c0
    have HBo := hid (fun W => mhead_any s q.d (.slice kpa kpn kpc) (.slice kia kin kic) (.slice kda kdn kdc) (.slice kka kkn kkc) W hpl.1 (by omega) (by omega))
    cases path with
    | nil =>
      have HM : Hid (MM = none) := by rw [Hid, HMi.out]; rfl
      clear hA hq ho HMi
      unfold ptV ptC msgV at *
      go_wp2_with fail
      go_ret2
      rw [HM.out]
      exact ⟨HB3.out, rfl⟩
    | cons x xs =>
      have HM : Hid (MM = some (inn s q.d.hd q.d.fr)) := by rw [Hid, HMi.out, ho]; rfl
      have hgl : (0 : Int) < ((x :: xs).length : Nat) := by simp
      generalize (x :: xs).length = gl at *
      clear hA hq ho HMi
      unfold ptV ptC msgV at *
      go_wp2_with fail
      refine (HBo.out _).mono ?_
      rintro e w4 ⟨rfl, hb4⟩
      have HB4 := hid (HB3.out.trans (hb4.mono HB3.out.size))
      clear hb4
      go_wp2_with fail
      go_ret2
      rw [HM.out]
      exact ⟨HB4.out, rfl⟩
end Go.Proofs.YtgolcmafbenjbaaGreatDoor
