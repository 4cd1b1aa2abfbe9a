/- What this text holds: where parts lie; what is told of a part if nothing of it is named: the program's call. -/
import Derived.Test.YtgolcmafbenjbaaGreatDoorN24
namespace Go.Proofs.YtgolcmafbenjbaaGreatDoor
open Go.RowKit
set_option linter.unusedVariables false
set_option linter.unusedSimpArgs false

/-- Each part lies in the message. -/
inductive Pl (n : Nat) : Pt → Prop
  | mk (p : Pt) (h1 : p.d.hd ≤ p.d.fr) (h2 : p.d.fr ≤ p.d.to) (h3 : p.d.to ≤ n) (hk : ∀ k ∈ p.kids, Pl n k) : Pl n p
theorem Pl.at {n : Nat} {p : Pt} (h : Pl n p) : p.d.hd ≤ p.d.fr ∧ p.d.fr ≤ p.d.to ∧ p.d.to ≤ n := by cases h; exact ⟨by assumption, by assumption, by assumption⟩
theorem Pl.kid {n : Nat} {p k : Pt} (h : Pl n p) (hk : k ∈ p.kids) : Pl n k := by cases h with | mk _ _ _ _ h2 => exact h2 k hk
theorem Pl.mailed {n : Nat} {p k : Pt} (h : Pl n p) (hk : mailedM p = some k) : Pl n k := by
  unfold mailedM at hk
  split at hk
  · exact h.kid (List.mem_of_getElem? hk)
  · cases hk
theorem Pl.within {n : Nat} {p k : Pt} (h : Pl n p) (hk : withinM p = some k) : Pl n k := by
  unfold withinM at hk
  split at hk
  · cases hk; exact h
  · exact h.mailed hk
theorem Pl.numbered {n : Nat} {p k : Pt} {x : Int} (h : Pl n p) (hk : numberedM p x = some k) : Pl n k := by
  unfold numberedM at hk
  split at hk
  · split at hk
    · cases hk
    · exact h.kid (List.mem_of_getElem? hk)
  · split at hk
    · cases hk; exact h
    · cases hk
theorem Pl.atG {n : Nat} : ∀ (path : List Int) (p : Pt) (ask : Option Pt) (q : Pt), Pl n p → (∀ a, ask = some a → Pl n a) → atG p ask path = some q → Pl n q
  | [], p, ask, q, hp, ha, h => by simp only [Go.Proofs.YtgolcmafbenjbaaGreatDoor.atG] at h; cases h; exact hp
  | x :: l, p, none, q, hp, ha, h => by simp only [Go.Proofs.YtgolcmafbenjbaaGreatDoor.atG] at h; cases h
  | x :: l, p, some a, q, hp, ha, h => by
    cases hn : numberedM a x with
    | none => rw [atG_no p a x l hn] at h; cases h
    | some b =>
      rw [atG_yes p a b x l hn] at h
      have hb := (ha a rfl).numbered hn
      exact Pl.atG l b _ q hb (fun c hc => hb.within hc) h
theorem pl_tell (m : Bs) : ∀ (n a b : Nat) (dg : Bool) (many : Nat), a ≤ b → b ≤ m.length → Pl m.length (tellM m n a b dg many).1
  | 0, a, b, dg, many, h, hb => by
    have hf := part_fr m a b dg hb h
    exact .mk _ hf.1 hf.2 hb (by simp [tellM, Pt.kids])
  | n + 1, a, b, dg, many, h, hb => by
    have hf := part_fr m a b dg hb h
    have hk : ∀ (l : List (Nat × Nat)) (dg : Bool) (k : Nat), (∀ t ∈ l, t.1 ≤ t.2 ∧ t.2 ≤ m.length) → ∀ p ∈ (kidsF (tellM m n) dg l k).1, Pl m.length p := by
      intro l dg
      induction l with
      | nil => intro k hl; simp [kidsF]
      | cons t l ih =>
        intro k hl
        simp only [kidsF]
        split
        · simp
        · intro p hp
          rcases List.mem_cons.1 hp with rfl | hp
          · exact pl_tell m n t.1 t.2 dg k (hl t (by simp)).1 (hl t (by simp)).2
          · exact ih _ (fun t ht => hl t (by simp [ht])) p hp
    refine .mk _ hf.1 hf.2 hb ?_
    have := texts_rise m a b dg hb h
    simp only [tellM, Pt.kids]
    exact hk _ _ _ (fun t ht => ⟨(this.mem t ht).1, Nat.le_trans (this.mem t ht).2 hb⟩)
theorem pl_struc (s : Bs) : Pl s.length (strucM s) := pl_tell s 7 0 s.length false 0 (by omega) (Nat.le_refl _)

def bodyM (s : Bs) (p : Pt) (path : List Int) : Bs := if path = [] then s else inn s p.d.fr p.d.to
/-- What Section answers. -/
def SOut (o : Option Bs) (w : World) (e : Ending) (w' : World) : Prop :=
  Below w.heap.size w w' ∧ match o with
    | some t => e = .returned (.tuple #[.string (str t), .bool true])
    | none => e = .returned (.tuple #[.string ⟨#[]⟩, .bool false])
set_option maxRecDepth 100000 in
set_option maxHeartbeats 4000000 in
theorem sect_body (s : Bs) {w : World} (he : Env w) (hs : s.length ≤ 100000) (path : List Int) (v : Value) (hv : IL w v path) (hl : path.length ≤ 1000) :
    Calls Tryz.prog 17 #[.string (str s), v, .string ⟨#[]⟩] w (SOut ((atM (strucM s) path).map fun p => bodyM s p path) w) := by
  have hB := below1 w (.cells #[.string (str s)] 55)
  have HG := hid (g1_new w s)
  have HSt := hid (struc_any s (he.later hB) hs)
  unfold PtOut at HSt
  have HIL := hid (hv.later hB)
  have HB := hid hB
  have HSm := hid (sm_struc s)
  have HPl := hid (pl_struc s)
  obtain ⟨ga, gc, rfl, hgc, _⟩ := id hv
  have HAt : Hid (∀ q, atM (strucM s) path = some q → Pl s.length q) := fun q h => Pl.atG path _ _ q HPl.out (fun a ha => by cases ha; exact HPl.out) h
  generalize strucM s = P at *
  clear he hv hB
  go_enter Tryz.func17, Tryz.ntmps17
  go_wp2_with fail
  generalize (w.alloc (.cells #[.string (str s)] 55)) = W at *
  refine HSt.out.mono ?_
  rintro e w1 ⟨⟨vp, vi, vd, vk, rfl, hpt⟩, hb1⟩
  have HG1 := hid (HG.out.later hb1)
  have HB1 := hid (HB.out.trans (hb1.mono HB.out.size))
  have HAc := hid (at_any (hpt.mono (N' := fun q => q < w1.heap.size) (fun q hq _ => hq)) (fun q h => h) HSm.out path _ (HIL.out.later hb1) hl)
  clear hpt hb1 HSt HG HB HIL
  go_wp2_with fail
  refine HAc.out.mono ?_
  rintro e w2 ⟨hb2, hv2⟩
  have HG2 := hid (HG1.out.later hb2)
  have HB2 := hid (HB1.out.trans (hb2.mono HB1.out.size))
  clear hb2 HAc HG1 HB1
  cases ho : atM P path with
  | none =>
    rw [ho] at hv2
    obtain ⟨zd, kpa, kpn, kpc, kia, kin, kic, kda, kdn, kdc, kka, kkn, kkc, rfl⟩ := hv2
    have HB3 := hid (HB2.out.alloc HB2.out.size (.cells (ptC zd (.slice kpa kpn kpc) (.slice kia kin kic) (.slice kda kdn kdc) (.slice kka kkn kkc)) 33))
    unfold ptV ptC at *
    go_wp2_with fail
    go_ret2
    rw [ho]
    exact ⟨HB3.out, rfl⟩
  | some q =>
    rw [ho] at hv2
    obtain ⟨wp, wi, wd, wk, rfl, hq⟩ := hv2
    obtain ⟨kpa, kpn, kpc, kia, kin, kic, kda, kdn, kdc, kka, kkn, kkc, rfl, rfl, rfl, rfl⟩ := hq.slices
    have hpl := (HAt.out q ho).at
    have hA := below1 w2 (.cells (ptC q.d (.slice kpa kpn kpc) (.slice kia kin kic) (.slice kda kdn kdc) (.slice kka kkn kkc)) 33)
    have HB3 := hid (HB2.out.trans (hA.mono HB2.out.size))
    have g0 := (HG2.out.later hA).c0
    cases path with
    | nil =>
      have HBo := hid (fun W => body_nil s q.d (.slice kpa kpn kpc) (.slice kia kin kic) (.slice kda kdn kdc) (.slice kka kkn kkc) ga gc W)
      have HM : Hid (((atM P []).map fun p => bodyM s p []) = some s) := by rw [Hid, ho]; rfl
      clear hA hq ho
      unfold ptV ptC msgV at *
      go_wp2_with fail
      refine (HBo.out _).mono ?_
      rintro e w4 ⟨rfl, hb4⟩
      have HB4 := hid (HB3.out.trans (hb4.mono HB3.out.size))
      clear hb4
      go_wp2_with fail
      go_ret2
      rw [HM.out]
      exact ⟨HB4.out, rfl⟩
    | cons x xs =>
      have HBo := hid (fun W => body_path s q.d (.slice kpa kpn kpc) (.slice kia kin kic) (.slice kda kdn kdc) (.slice kka kkn kkc) ga (x :: xs).length gc W (by simp) hpl.2.1 hpl.2.2 (by omega))
      have HM : Hid (((atM P (x :: xs)).map fun p => bodyM s p (x :: xs)) = some (inn s q.d.fr q.d.to)) := by rw [Hid, ho]; rfl
      generalize (x :: xs).length = gl at *
      clear hA hq ho
      unfold ptV ptC msgV at *
      go_wp2_with fail
      refine (HBo.out _).mono ?_
      rintro e w4 ⟨rfl, hb4⟩
      have HB4 := hid (HB3.out.trans (hb4.mono HB3.out.size))
      clear hb4
      go_wp2_with fail
      go_ret2
      rw [HM.out]
      exact ⟨HB4.out, rfl⟩
end Go.Proofs.YtgolcmafbenjbaaGreatDoor
