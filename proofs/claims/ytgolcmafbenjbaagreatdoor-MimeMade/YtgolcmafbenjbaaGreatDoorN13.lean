/- What this text holds: a text as a part, its kids aside: the program's call. -/
import Derived.Test.YtgolcmafbenjbaaGreatDoorN12b
namespace Go.Proofs.YtgolcmafbenjbaaGreatDoor
open Go.RowKit
set_option linter.unusedVariables false
set_option linter.unusedSimpArgs false

/-- The part before its kind is known. -/
def pre3 (L : List (Bs × Bs)) (a f b n : Nat) : Pd := ⟨[], [], [], firstM L nId, firstM L nDesc, w7bit, a, f, b, n⟩
def mid3 (ty sub : Bs) (ps : List (Bs × Bs)) (id desc : List Bs) (enc : Bs) (a f b n : Nat) : Pd := ⟨ty, sub, ps, id, desc, enc, a, f, b, n⟩
theorem rl_slice2 {w : World} {v : Value} {l : List (Bs × Bs)} (h : RL w v 2 (l.map pR)) : ∃ a c, v = .slice a l.length c := by
  obtain ⟨_, a, c, rfl, _⟩ := h
  rw [List.length_map]
  exact ⟨a, c, rfl⟩
theorem D11.below {B : Nat} {w w' : World} {A : Nat} {d : Pd} {vp vi vd vk : Value} (h : D11 w A d vp vi vd vk) (hb : Below B w w') (hA : A < B) : D11 w' A d vp vi vd vk := (hb.block A hA).trans h
/-- A part lies in memory, its kids aside, in blocks that N allows. -/
structure PdAt (w : World) (N : Nat → Prop) (d : Pd) (vp vi vd : Value) : Prop where
  ps : RL w vp 2 (d.ps.map pR)
  id : RL w vi 1 (d.id.map sR)
  desc : RL w vd 1 (d.desc.map sR)
  bp : ∀ q, blk vp = some q → d.ps ≠ [] → N q
  bi : ∀ q, blk vi = some q → d.id ≠ [] → N q
  bd : ∀ q, blk vd = some q → d.desc ≠ [] → N q
def PartIs (m : Bs) (a b : Nat) (dg : Bool) (w : World) (e : Ending) (w' : World) : Prop := (∃ vp vi vd, e = .returned (ptV (partM m a b dg) vp vi vd nilV) ∧ PdAt w' (w.heap.size ≤ ·) (partM m a b dg) vp vi vd) ∧ Below w.heap.size w w'

theorem zs0 {w : World} {A : Nat} (h : D11 w A Pd.zero nilV nilV nilV nilV) : w.cell? ⟨A, 0, none⟩ = some (.string ⟨#[]⟩) := h.cs.1
theorem zs1 {w : World} {A : Nat} (h : D11 w A Pd.zero nilV nilV nilV nilV) : w.cell? ⟨A, 1, none⟩ = some (.string ⟨#[]⟩) := h.cs.2.1
theorem zs2 {w : World} {A : Nat} (h : D11 w A Pd.zero nilV nilV nilV nilV) : w.cell? ⟨A, 2, none⟩ = some (.slice none 0 0) := h.cs.2.2.1
theorem zs3 {w : World} {A : Nat} (h : D11 w A Pd.zero nilV nilV nilV nilV) : w.cell? ⟨A, 3, none⟩ = some (.slice none 0 0) := h.cs.2.2.2.1
theorem zs4 {w : World} {A : Nat} (h : D11 w A Pd.zero nilV nilV nilV nilV) : w.cell? ⟨A, 4, none⟩ = some (.slice none 0 0) := h.cs.2.2.2.2.1
theorem zs5 {w : World} {A : Nat} (h : D11 w A Pd.zero nilV nilV nilV nilV) : w.cell? ⟨A, 5, none⟩ = some (.string ⟨#[]⟩) := h.cs.2.2.2.2.2.1
theorem zs6 {w : World} {A : Nat} (h : D11 w A Pd.zero nilV nilV nilV nilV) : w.cell? ⟨A, 6, none⟩ = some (.int .i64 0) := h.cs.2.2.2.2.2.2.1
theorem zs7 {w : World} {A : Nat} (h : D11 w A Pd.zero nilV nilV nilV nilV) : w.cell? ⟨A, 7, none⟩ = some (.int .i64 0) := h.cs.2.2.2.2.2.2.2.1
theorem zs8 {w : World} {A : Nat} (h : D11 w A Pd.zero nilV nilV nilV nilV) : w.cell? ⟨A, 8, none⟩ = some (.int .i64 0) := h.cs.2.2.2.2.2.2.2.2.1
theorem zs9 {w : World} {A : Nat} (h : D11 w A Pd.zero nilV nilV nilV nilV) : w.cell? ⟨A, 9, none⟩ = some (.int .i64 0) := h.cs.2.2.2.2.2.2.2.2.2.1
theorem zs10 {w : World} {A : Nat} (h : D11 w A Pd.zero nilV nilV nilV nilV) : w.cell? ⟨A, 10, none⟩ = some (.slice none 0 0) := h.cs.2.2.2.2.2.2.2.2.2.2
theorem zsf {w : World} {A : Nat} (h : D11 w A Pd.zero nilV nilV nilV nilV) : ∀ k, w.frozen? ⟨A, k, none⟩ = false := h.fz
theorem rl_slice {w : World} {v : Value} {l : List Bs} {n : Nat} (h : RL w v 1 (l.map sR)) (hn : l.length = n) : ∃ a c, v = .slice a n c := by
  subst hn
  obtain ⟨_, a, c, rfl, _⟩ := h
  rw [List.length_map]
  exact ⟨a, c, rfl⟩
theorem wp_once6 {c : Code} {R : Exit → Act → World → Prop} {a : Act} {w : World} (PW : Nat → Option Addr → Nat → Option Addr → Nat → World → Prop) (h : ∃ A : Nat → Option Addr → Nat → Option Addr → Nat → Act, c.wp Tryz.prog (fun e a' w' => e = .normal ∧ ∃ g i j k l, a' = A g i j k l ∧ PW g i j k l w') a w ∧ ∀ g i j k l w', PW g i j k l w' → R .normal (A g i j k l) w') : c.wp Tryz.prog R a w := by
  obtain ⟨A, h1, h2⟩ := h
  refine Code.wp_mono (fun e a' w' hh => ?_) h1
  obtain ⟨rfl, g, i, j, k, l, rfl, hp⟩ := hh
  exact h2 _ _ _ _ _ _ hp
theorem keep3 {w3 W' : World} {Q : Nat} {a b : Int} (hI : I2 w3 Q a b) (hb : Below w3.heap.size w3 W') : W'.cell? ⟨Q, 0, none⟩ = some (.int .i64 a) ∧ W'.cell? ⟨Q, 1, none⟩ = some (.int .i64 b) ∧ Below w3.heap.size w3 W' := ⟨(hI.later hb).c0, (hI.later hb).c1, hb⟩
theorem set11b {w w' : World} {B A : Nat} (h : Below B w w') (hA : B ≤ A) (x0 x1 x2 x3 x4 x5 x6 x7 x8 x9 x10 : Value) :
    Below B w (((((((((((w'.setCell ⟨A, 0, none⟩ x0).setCell ⟨A, 1, none⟩ x1).setCell ⟨A, 2, none⟩ x2).setCell ⟨A, 3, none⟩ x3).setCell ⟨A, 4, none⟩ x4).setCell ⟨A, 5, none⟩ x5).setCell ⟨A, 6, none⟩ x6).setCell ⟨A, 7, none⟩ x7).setCell ⟨A, 8, none⟩ x8).setCell ⟨A, 9, none⟩ x9).setCell ⟨A, 10, none⟩ x10) :=
  ((((((((((h.setCell hA _).setCell hA _).setCell hA _).setCell hA _).setCell hA _).setCell hA _).setCell hA _).setCell hA _).setCell hA _).setCell hA _).setCell hA _

set_option maxRecDepth 100000 in
set_option maxHeartbeats 8000000 in
theorem part_any (m : Bs) (a b : Nat) (dg : Bool) {w : World} (he : Env w) (h1 : a ≤ b) (h2 : b ≤ m.length) (hm : m.length ≤ 1000000) :
    Calls Tryz.prog 38 #[msgV m, spV a b, .bool dg] w (PartIs m a b dg w) := by
  have hB : Below w.heap.size w (((w.alloc (.cells #[.string (str m)] 55)).alloc (.cells #[.int .i64 a, .int .i64 b] 62)).alloc (.cells #[.string ⟨#[]⟩, .string ⟨#[]⟩, .slice none 0 0, .slice none 0 0, .slice none 0 0, .string ⟨#[]⟩, .int .i64 0, .int .i64 0, .int .i64 0, .int .i64 0, .slice none 0 0] 33)) := (below2 w _ _).alloc (by simp; omega) _
  have hG : G1 (((w.alloc (.cells #[.string (str m)] 55)).alloc (.cells #[.int .i64 a, .int .i64 b] 62)).alloc (.cells #[.string ⟨#[]⟩, .string ⟨#[]⟩, .slice none 0 0, .slice none 0 0, .slice none 0 0, .string ⟨#[]⟩, .int .i64 0, .int .i64 0, .int .i64 0, .int .i64 0, .slice none 0 0] 33)) w.heap.size m := ((g1_new w m).later (below1 _ _)).later (below1 _ _)
  have hI : I2 (((w.alloc (.cells #[.string (str m)] 55)).alloc (.cells #[.int .i64 a, .int .i64 b] 62)).alloc (.cells #[.string ⟨#[]⟩, .string ⟨#[]⟩, .slice none 0 0, .slice none 0 0, .slice none 0 0, .string ⟨#[]⟩, .int .i64 0, .int .i64 0, .int .i64 0, .int .i64 0, .slice none 0 0] 33)) (w.heap.size + 1) a b := by
    have := (i2_new (w.alloc (.cells #[.string (str m)] 55)) a b).later (below1 _ (.cells #[.string ⟨#[]⟩, .string ⟨#[]⟩, .slice none 0 0, .slice none 0 0, .slice none 0 0, .string ⟨#[]⟩, .int .i64 0, .int .i64 0, .int .i64 0, .int .i64 0, .slice none 0 0] 33))
    simpa using this
  have hR : D11 (((w.alloc (.cells #[.string (str m)] 55)).alloc (.cells #[.int .i64 a, .int .i64 b] 62)).alloc (.cells #[.string ⟨#[]⟩, .string ⟨#[]⟩, .slice none 0 0, .slice none 0 0, .slice none 0 0, .string ⟨#[]⟩, .int .i64 0, .int .i64 0, .int .i64 0, .int .i64 0, .slice none 0 0] 33)) (w.heap.size + 1 + 1) Pd.zero nilV nilV nilV nilV := by
    have : D11 (((w.alloc (.cells #[.string (str m)] 55)).alloc (.cells #[.int .i64 a, .int .i64 b] 62)).alloc (.cells #[.string ⟨#[]⟩, .string ⟨#[]⟩, .slice none 0 0, .slice none 0 0, .slice none 0 0, .string ⟨#[]⟩, .int .i64 0, .int .i64 0, .int .i64 0, .int .i64 0, .slice none 0 0] 33)) ((w.alloc (.cells #[.string (str m)] 55)).alloc (.cells #[.int .i64 a, .int .i64 b] 62)).heap.size Pd.zero nilV nilV nilV nilV := heap_alloc_new _ _
    rw [show ((w.alloc (.cells #[.string (str m)] 55)).alloc (.cells #[.int .i64 a, .int .i64 b] 62)).heap.size = w.heap.size + 1 + 1 by simp] at this
    exact this
  have HB := hid hB
  have HG := hid hG
  have HI := hid hI
  have HR := hid hR
  have HE := hid (he.later hB)
  have HIn := hid (fun W => in_any m a b W h1 h2 hm)
  have hil := inn_le m a b
  have HCut := hid (fun W => cut_any (inn m a b) W (by omega))
  have hhl := hdr_le _ (inn m a b) (Nat.le_refl _)
  have hiL := inn_len m a b h2
  have HFo : Hid (FieldsOk (fieldsOf (inn m a b))) := fields_ok _ (by simp; omega)
  have HFl := hid (fun W (h : Env W) => fields_any ((inn m a b).take (hdr (inn m a b))) (w := W) h (by simp; omega))
  have HP : Hid (partM m a b dg = ⟨(kindOfM (fieldsOf (inn m a b)) dg).1, (kindOfM (fieldsOf (inn m a b)) dg).2.1, (kindOfM (fieldsOf (inn m a b)) dg).2.2, firstM (fieldsOf (inn m a b)) nId, firstM (fieldsOf (inn m a b)) nDesc, encM (fieldsOf (inn m a b)), a, a + hdr (inn m a b), b, ((inn m a b).drop (hdr (inn m a b))).count 10⟩) := rfl
  unfold CutIs at HCut
  have HFd : Hid (fieldsOf (inn m a b) = fieldsP ((inn m a b).take (hdr (inn m a b)))) := rfl
  rw [← HFd.out] at HFl
  generalize fieldsOf (inn m a b) = L at *
  have hhs : ((inn m a b).take (hdr (inn m a b))).length = hdr (inn m a b) := by simp; omega
  have hcs : (Go.Lib.countByte ((inn m a b).drop (hdr (inn m a b))) 10) = ((((inn m a b).drop (hdr (inn m a b))).count 10 : Nat) : Int) := rfl
  have HCo := hid (fun W => Tryz.strings_Count_one (str ((inn m a b).drop (hdr (inn m a b)))) 10 W)
  rw [str_data, hcs] at HCo
  have hsh := str_size ((inn m a b).take (hdr (inn m a b)))
  rw [hhs] at hsh
  generalize hk : ((inn m a b).drop (hdr (inn m a b))).count 10 = nl at *
  generalize (inn m a b).drop (hdr (inn m a b)) = ct at *
  generalize (inn m a b).take (hdr (inn m a b)) = hdt at *
  generalize hdr (inn m a b) = hn at *
  generalize inn m a b = t at *
  clear he hB hG hI hR HFd hcs hhs hk
  unfold PartIs
  unfold msgV spV at *
  go_enter Tryz.func38, Tryz.ntmps38
  go_wp2_with fail
  generalize (((w.alloc (.cells #[.string (str m)] 55)).alloc (.cells #[.int .i64 a, .int .i64 b] 62)).alloc (.cells #[.string ⟨#[]⟩, .string ⟨#[]⟩, .slice none 0 0, .slice none 0 0, .slice none 0 0, .string ⟨#[]⟩, .int .i64 0, .int .i64 0, .int .i64 0, .int .i64 0, .slice none 0 0] 33)) = W at *
  have HRB : Hid (w.heap.size ≤ w.heap.size + 1 + 1) := by rw [Hid]; omega
  generalize w.heap.size + 1 + 1 = R at *
  generalize w.heap.size + 1 = Q at *
  refine (HIn.out W).mono ?_
  rintro e w1 ⟨rfl, hb1⟩
  have HI1 := hid (HI.out.later hb1)
  have HR1 := hid (HR.out.later hb1)
  have HE1 := hid (HE.out.later hb1)
  have HB1 := hid (HB.out.trans (hb1.mono HB.out.size))
  clear hb1 HG HI HR HE HB HIn
  go_wp2_with fail
  refine (HCut.out w1).mono ?_
  rintro e w2 ⟨rfl, hb2⟩
  have HI2 := hid (HI1.out.later hb2)
  have HR2 := hid (HR1.out.later hb2)
  have HE2 := hid (HE1.out.later hb2)
  have HB2 := hid (HB1.out.trans (hb2.mono HB1.out.size))
  clear hb2 HI1 HR1 HE1 HB1 HCut
  go_wp2_with fail
  refine (HFl.out w2 HE2.out).mono ?_
  rintro e w3 ⟨⟨vl, rfl, hvl⟩, hb3⟩
  have HI3 := hid (HI2.out.later hb3)
  have HR3 := hid (HR2.out.later hb3)
  have HE3 := hid (HE2.out.later hb3)
  have HB3 := hid (HB2.out.trans (hb3.mono HB2.out.size))
  have HL3 := hid hvl.rl
  obtain ⟨sa, scc, hvs⟩ := hvl.slice
  subst hvs
  rw [List.length_map] at *
  clear hb3 HI2 HR2 HE2 HB2 HFl hvl
  have HF1 : Hid (∀ W', Below w3.heap.size w3 W' → Calls Tryz.prog 51 #[.slice sa L.length scc, .string { data := #[99, 111, 110, 116, 101, 110, 116, 45, 105, 100] }] W' fun e w' => (∃ v, e = .returned v ∧ RL w' v 1 ((firstM L nId).map sR) ∧ ∀ g, blk v = some g → W'.heap.size ≤ g ∧ g < w'.heap.size) ∧ Below w3.heap.size w3 w' ∧ Below W'.heap.size W' w') := fun W' hb => (first_any (HE3.out.later hb) (HL3.out.later hb) HFo.out nId (by decide)).mono (fun e w' h => ⟨h.1, hb.trans (h.2.mono hb.size), h.2⟩)
  have HF2 : Hid (∀ W', Below w3.heap.size w3 W' → Calls Tryz.prog 51 #[.slice sa L.length scc, .string { data := #[99, 111, 110, 116, 101, 110, 116, 45, 100, 101, 115, 99, 114, 105, 112, 116, 105, 111, 110] }] W' fun e w' => (∃ v, e = .returned v ∧ RL w' v 1 ((firstM L nDesc).map sR) ∧ ∀ g, blk v = some g → W'.heap.size ≤ g ∧ g < w'.heap.size) ∧ Below w3.heap.size w3 w' ∧ Below W'.heap.size W' w') := fun W' hb => (first_any (HE3.out.later hb) (HL3.out.later hb) HFo.out nDesc (by decide)).mono (fun e w' h => ⟨h.1, hb.trans (h.2.mono hb.size), h.2⟩)
  have HF3 : Hid (∀ W', Below w3.heap.size w3 W' → Calls Tryz.prog 51 #[.slice sa L.length scc, .string { data := #[99, 111, 110, 116, 101, 110, 116, 45, 116, 114, 97, 110, 115, 102, 101, 114, 45, 101, 110, 99, 111, 100, 105, 110, 103] }] W' fun e w' => (∃ v, e = .returned v ∧ RL w' v 1 ((firstM L nEnc).map sR) ∧ ∀ g, blk v = some g → W'.heap.size ≤ g ∧ g < w'.heap.size) ∧ Below w3.heap.size w3 w' ∧ Below W'.heap.size W' w') := fun W' hb => (first_any (HE3.out.later hb) (HL3.out.later hb) HFo.out nEnc (by decide)).mono (fun e w' h => ⟨h.1, hb.trans (h.2.mono hb.size), h.2⟩)
  have HKo : Hid (∀ W', Below w3.heap.size w3 W' → Calls Tryz.prog 53 #[.slice sa L.length scc, .bool dg] W' (KOut L dg W')) := fun W' hb => kindOf_any (HE3.out.later hb) (HL3.out.later hb) HFo.out dg
  have hwr2 : IntKind.i64.wrap ((a : Int) + hn) = ((a + hn : Nat) : Int) := by rw [IntKind.wrap_i64]; omega
  have i0 := HI3.out.c0
  have i1 := HI3.out.c1
  have hdsz : w3.heap.size ≤ w3.drew.heap.size := Nat.le_refl _
  obtain ⟨nI, HNI⟩ : ∃ n, Hid ((firstM L nId).length = n) := ⟨_, rfl⟩
  obtain ⟨nD, HND⟩ : ∃ n, Hid ((firstM L nDesc).length = n) := ⟨_, rfl⟩
  go_wp2_with fail
  apply wp_once6 (fun g ia ic da dc W' => D11 W' g (pre3 L a (a + hn) b nl) nilV (.slice ia nI ic) (.slice da nD dc) nilV ∧ RL W' (.slice ia nI ic) 1 ((firstM L nId).map sR) ∧ RL W' (.slice da nD dc) 1 ((firstM L nDesc).map sR) ∧ Below w3.heap.size w3 W' ∧ w3.heap.size ≤ g ∧ (∀ q, blk (.slice ia nI ic) = some q → q ≠ g ∧ w3.heap.size ≤ q) ∧ (∀ q, blk (.slice da nD dc) = some q → q ≠ g ∧ w3.heap.size ≤ q))
  apply Exists.intro
  apply And.intro
  · refine wp_region_held_drew (S := fun X => Below w3.heap.size w3 X) (by kernel_rfl) ((Below.refl _ _).drew) ?_
    intro hS
    refine anyH_take 0 ⟨some 22, .move (.tmp 9), _, _, _, none⟩ (.slice sa L.length scc) rfl rfl (by kernel_rfl) (by kernel_rfl) (by kernel_rfl) (fun _ _ _ h => nomatch h.1) (fun _ _ => rfl) hS ?_
    simp only [Act.put, List.setIfInBounds_toArray, List.set_cons_zero, List.set_cons_succ]
    refine anyH_take 2 ⟨some 24, .move (.tmp 9), _, _, _, none⟩ (.slice sa L.length scc) rfl rfl (by kernel_rfl) (by kernel_rfl) (by kernel_rfl) (fun _ _ _ h => nomatch h.1) (fun _ _ => rfl) hS ?_
    simp only [Act.put, List.setIfInBounds_toArray, List.set_cons_zero, List.set_cons_succ]
    refine anyH_take 4 ⟨some 26, .fieldAddr 62 (.tmp 4) 0, _, _, _, none⟩ (.pointer (some ⟨Q, 0, none⟩)) rfl rfl (by kernel_rfl) (by kernel_rfl) (by kernel_rfl) (fun _ _ _ h => nomatch h.1) (fun X _ => exec_v (fieldk62 Q 0 X (by omega))) hS ?_
    simp only [Act.put, List.setIfInBounds_toArray, List.set_cons_zero, List.set_cons_succ]
    refine anyH_take 5 ⟨some 27, .load 3 (.tmp 26), _, _, _, none⟩ (.int .i64 a) rfl rfl (by kernel_rfl) (by kernel_rfl) (by kernel_rfl) (fun _ _ _ h => nomatch h.1) (fun X hX => exec_v (loadk3 (HI3.out.later hX).c0)) hS ?_
    simp only [Act.put, List.setIfInBounds_toArray, List.set_cons_zero, List.set_cons_succ]
    refine anyH_take 6 ⟨some 28, .fieldAddr 62 (.tmp 4) 0, _, _, _, none⟩ (.pointer (some ⟨Q, 0, none⟩)) rfl rfl (by kernel_rfl) (by kernel_rfl) (by kernel_rfl) (fun _ _ _ h => nomatch h.1) (fun X _ => exec_v (fieldk62 Q 0 X (by omega))) hS ?_
    simp only [Act.put, List.setIfInBounds_toArray, List.set_cons_zero, List.set_cons_succ]
    refine anyH_take 7 ⟨some 29, .load 3 (.tmp 28), _, _, _, none⟩ (.int .i64 a) rfl rfl (by kernel_rfl) (by kernel_rfl) (by kernel_rfl) (fun _ _ _ h => nomatch h.1) (fun X hX => exec_v (loadk3 (HI3.out.later hX).c0)) hS ?_
    simp only [Act.put, List.setIfInBounds_toArray, List.set_cons_zero, List.set_cons_succ]
    refine anyH_take 8 ⟨some 30, .move (.tmp 7), _, _, _, none⟩ (.string (str hdt)) rfl rfl (by kernel_rfl) (by kernel_rfl) (by kernel_rfl) (fun _ _ _ h => nomatch h.1) (fun _ _ => rfl) hS ?_
    simp only [Act.put, List.setIfInBounds_toArray, List.set_cons_zero, List.set_cons_succ]
    refine anyH_take 9 ⟨some 31, .call { callee := .builtin .len, args := #[.tmp 30], argTypes := #[9] }, _, _, _, none⟩ (.int .i64 hn) rfl rfl (by kernel_rfl) (by kernel_rfl) (by kernel_rfl) (fun _ _ _ h => nomatch h.1) (fun X _ => exec_lenS rfl hsh) hS ?_
    simp only [Act.put, List.setIfInBounds_toArray, List.set_cons_zero, List.set_cons_succ]
    refine anyH_take 10 ⟨some 32, .binOp .add 3 (.tmp 29) (.tmp 31) 3, _, _, _, none⟩ (.int .i64 ((a + hn : Nat) : Int)) rfl rfl (by kernel_rfl) (by kernel_rfl) (by kernel_rfl) (fun _ _ _ h => nomatch h.1) (fun X _ => exec_add3 rfl rfl hwr2) hS ?_
    simp only [Act.put, List.setIfInBounds_toArray, List.set_cons_zero, List.set_cons_succ]
    refine anyH_take 11 ⟨some 33, .fieldAddr 62 (.tmp 4) 1, _, _, _, none⟩ (.pointer (some ⟨Q, 1, none⟩)) rfl rfl (by kernel_rfl) (by kernel_rfl) (by kernel_rfl) (fun _ _ _ h => nomatch h.1) (fun X _ => exec_v (fieldk62 Q 1 X (by omega))) hS ?_
    simp only [Act.put, List.setIfInBounds_toArray, List.set_cons_zero, List.set_cons_succ]
    refine anyH_take 12 ⟨some 34, .load 3 (.tmp 33), _, _, _, none⟩ (.int .i64 b) rfl rfl (by kernel_rfl) (by kernel_rfl) (by kernel_rfl) (fun _ _ _ h => nomatch h.1) (fun X hX => exec_v (loadk3 (HI3.out.later hX).c1)) hS ?_
    simp only [Act.put, List.setIfInBounds_toArray, List.set_cons_zero, List.set_cons_succ]
    refine anyH_take 13 ⟨some 35, .move (.tmp 8), _, _, _, none⟩ (.string (str ct)) rfl rfl (by kernel_rfl) (by kernel_rfl) (by kernel_rfl) (fun _ _ _ h => nomatch h.1) (fun _ _ => rfl) hS ?_
    simp only [Act.put, List.setIfInBounds_toArray, List.set_cons_zero, List.set_cons_succ]
    refine anyH_two 1 16 (by kernel_rfl) ?_ ?_
    · refine wpOp_callW (o := ⟨some 23, .call { callee := .value (.func 51), args := #[.tmp 22, .const (.string { data := #[99, 111, 110, 116, 101, 110, 116, 45, 105, 100] })], argTypes := #[85, 9] }, _, _, _, none⟩) (f := 51) (args := #[.slice sa L.length scc, .string { data := #[99, 111, 110, 116, 101, 110, 116, 45, 105, 100] }]) rfl rfl (by kernel_rfl) ?_
      refine (HF1.out _ hS).mono ?_
      rintro e wA ⟨⟨vi, rfl, hvi, hki⟩, hbA, hbx⟩
      obtain ⟨ia, ic, rfl⟩ := rl_slice hvi HNI.out
      have hwi : ∀ q, blk (.slice ia nI ic) = some q → w3.heap.size ≤ q := fun q hq => Nat.le_trans hS.size (hki q hq).1
      refine ⟨_, rfl, hbA, ?_⟩
      simp only [Act.put, List.setIfInBounds_toArray, List.set_cons_zero, List.set_cons_succ]
      refine anyH_two 3 16 (by kernel_rfl) ?_ ?_
      · refine wpOp_callW (o := ⟨some 25, .call { callee := .value (.func 51), args := #[.tmp 24, .const (.string { data := #[99, 111, 110, 116, 101, 110, 116, 45, 100, 101, 115, 99, 114, 105, 112, 116, 105, 111, 110] })], argTypes := #[85, 9] }, _, _, _, none⟩) (f := 51) (args := #[.slice sa L.length scc, .string { data := #[99, 111, 110, 116, 101, 110, 116, 45, 100, 101, 115, 99, 114, 105, 112, 116, 105, 111, 110] }]) rfl rfl (by kernel_rfl) ?_
        refine (HF2.out _ hbA).mono ?_
        rintro e wD ⟨⟨vd, rfl, hvd, hkd⟩, hbD, hbx⟩
        obtain ⟨da, dc, rfl⟩ := rl_slice hvd HND.out
        have hvi := hvi.later hbx
        have hki : ∀ g, blk (.slice ia nI ic) = some g → 0 ≤ g ∧ g < wD.heap.size := fun g hg => ⟨Nat.zero_le _, Nat.lt_of_lt_of_le (hki g hg).2 (by have := hbx.size; first | (simp at this; omega) | omega)⟩
        have hwd : ∀ q, blk (.slice da nD dc) = some q → w3.heap.size ≤ q := fun q hq => Nat.le_trans hbA.size (hkd q hq).1
        refine ⟨_, rfl, hbD, ?_⟩
        simp only [Act.put, List.setIfInBounds_toArray, List.set_cons_zero, List.set_cons_succ]
        refine anyH_two 14 16 (by kernel_rfl) ?_ ?_
        · refine wpOp_callW (o := ⟨some 36, .call { callee := .value (.func 52), args := #[.tmp 35, .const (.string { data := #[10] })], argTypes := #[9, 9] }, _, _, _, none⟩) (f := 52) (args := #[.string (str ct), .string { data := #[10] }]) rfl rfl (by kernel_rfl) ?_
          refine (HCo.out _).mono ?_
          rintro e wC ⟨rfl, hwC⟩
          rw [hwC]
          clear hwC
          refine ⟨_, rfl, hbD, ?_⟩
          simp only [Act.put, List.setIfInBounds_toArray, List.set_cons_zero, List.set_cons_succ]
          have hS := hbD
          refine anyH_take 15 ⟨some 37, .build 33 #[(3, .tmp 23), (4, .tmp 25), (5, .const (.string ⟨#[55, 98, 105, 116]⟩)), (6, .tmp 27), (7, .tmp 32), (8, .tmp 34), (9, .tmp 36)], _, _, _, none⟩ (.agg #[.string ⟨#[]⟩, .string ⟨#[]⟩, .slice none 0 0, .slice ia nI ic, .slice da nD dc, .string ⟨#[55, 98, 105, 116]⟩, .int .i64 a, .int .i64 ((a + hn : Nat) : Int), .int .i64 b, .int .i64 nl, .slice none 0 0]) rfl rfl (by kernel_rfl) (by kernel_rfl) (by kernel_rfl) (fun _ _ _ h => nomatch h.1) (fun X _ => exec_build33 rfl rfl rfl rfl rfl rfl) hS ?_
          simp only [Act.put, List.setIfInBounds_toArray, List.set_cons_zero, List.set_cons_succ]
          refine anyH_one 16 ⟨some 10, .alloc 33, _, _, _, none⟩ (.pointer (some ⟨wD.heap.size, 0, none⟩)) (wD.alloc (.cells #[.string ⟨#[]⟩, .string ⟨#[]⟩, .slice none 0 0, .slice none 0 0, .slice none 0 0, .string ⟨#[]⟩, .int .i64 0, .int .i64 0, .int .i64 0, .int .i64 0, .slice none 0 0] 33)) (by kernel_rfl) rfl rfl (exec_alloc33 _) (hbD.alloc hbD.size _) ?_
          simp only [Act.put, List.setIfInBounds_toArray, List.set_cons_zero, List.set_cons_succ]
          have hG : D11 (wD.alloc (.cells #[.string ⟨#[]⟩, .string ⟨#[]⟩, .slice none 0 0, .slice none 0 0, .slice none 0 0, .string ⟨#[]⟩, .int .i64 0, .int .i64 0, .int .i64 0, .int .i64 0, .slice none 0 0] 33)) wD.heap.size Pd.zero nilV nilV nilV nilV := d11_new wD Pd.zero nilV nilV nilV nilV
          have hgB := hbD.size
          have hbL := hbD.alloc hbD.size (.cells #[.string ⟨#[]⟩, .string ⟨#[]⟩, .slice none 0 0, .slice none 0 0, .slice none 0 0, .string ⟨#[]⟩, .int .i64 0, .int .i64 0, .int .i64 0, .int .i64 0, .slice none 0 0] 33)
          have hni : ∀ g, blk (.slice ia nI ic) = some g → g ≠ wD.heap.size := fun g hg => by have := hki g hg; omega
          have hvi := hvi.later (below1 wD (.cells #[.string ⟨#[]⟩, .string ⟨#[]⟩, .slice none 0 0, .slice none 0 0, .slice none 0 0, .string ⟨#[]⟩, .int .i64 0, .int .i64 0, .int .i64 0, .int .i64 0, .slice none 0 0] 33))
          have hnd : ∀ g, blk (.slice da nD dc) = some g → g ≠ wD.heap.size := fun g hg => by have := hkd g hg; omega
          have hvd := hvd.later (below1 wD (.cells #[.string ⟨#[]⟩, .string ⟨#[]⟩, .slice none 0 0, .slice none 0 0, .slice none 0 0, .string ⟨#[]⟩, .int .i64 0, .int .i64 0, .int .i64 0, .int .i64 0, .slice none 0 0] 33))
          refine anyH_oneSkip 17 ⟨none, .store 33 (.tmp 10) (.tmp 37), _, _, _, none⟩ (row11 (wD.alloc (.cells #[.string ⟨#[]⟩, .string ⟨#[]⟩, .slice none 0 0, .slice none 0 0, .slice none 0 0, .string ⟨#[]⟩, .int .i64 0, .int .i64 0, .int .i64 0, .int .i64 0, .slice none 0 0] 33)) wD.heap.size (pre3 L a (a + hn) b nl) nilV (.slice ia nI ic) (.slice da nD dc) nilV) (by kernel_rfl) rfl rfl (exec_store33 (d := (pre3 L a (a + hn) b nl)) (pa := none) (pn := 0) (pc := 0) (ka := none) (kn := 0) (kc := 0) rfl rfl hG) (row11_below _ _ _ _ _ _ hbL hgB (Nat.le_trans hbL.size (Nat.le_refl _))) ?_
          simp only [Act.put, List.setIfInBounds_toArray, List.set_cons_zero, List.set_cons_succ]
          refine wpAnyH_done (by kernel_rfl) ?_ _
          have hfin : D11 (row11 (wD.alloc (.cells #[.string ⟨#[]⟩, .string ⟨#[]⟩, .slice none 0 0, .slice none 0 0, .slice none 0 0, .string ⟨#[]⟩, .int .i64 0, .int .i64 0, .int .i64 0, .int .i64 0, .slice none 0 0] 33)) wD.heap.size (pre3 L a (a + hn) b nl) nilV (.slice ia nI ic) (.slice da nD dc) nilV) wD.heap.size (pre3 L a (a + hn) b nl) nilV (.slice ia nI ic) (.slice da nD dc) nilV ∧ RL (row11 (wD.alloc (.cells #[.string ⟨#[]⟩, .string ⟨#[]⟩, .slice none 0 0, .slice none 0 0, .slice none 0 0, .string ⟨#[]⟩, .int .i64 0, .int .i64 0, .int .i64 0, .int .i64 0, .slice none 0 0] 33)) wD.heap.size (pre3 L a (a + hn) b nl) nilV (.slice ia nI ic) (.slice da nD dc) nilV) (.slice ia nI ic) 1 ((firstM L nId).map sR) ∧ RL (row11 (wD.alloc (.cells #[.string ⟨#[]⟩, .string ⟨#[]⟩, .slice none 0 0, .slice none 0 0, .slice none 0 0, .string ⟨#[]⟩, .int .i64 0, .int .i64 0, .int .i64 0, .int .i64 0, .slice none 0 0] 33)) wD.heap.size (pre3 L a (a + hn) b nl) nilV (.slice ia nI ic) (.slice da nD dc) nilV) (.slice da nD dc) 1 ((firstM L nDesc).map sR) ∧ Below w3.heap.size w3 (row11 (wD.alloc (.cells #[.string ⟨#[]⟩, .string ⟨#[]⟩, .slice none 0 0, .slice none 0 0, .slice none 0 0, .string ⟨#[]⟩, .int .i64 0, .int .i64 0, .int .i64 0, .int .i64 0, .slice none 0 0] 33)) wD.heap.size (pre3 L a (a + hn) b nl) nilV (.slice ia nI ic) (.slice da nD dc) nilV) ∧ w3.heap.size ≤ wD.heap.size ∧ (∀ q, blk (.slice ia nI ic) = some q → q ≠ wD.heap.size ∧ w3.heap.size ≤ q) ∧ (∀ q, blk (.slice da nD dc) = some q → q ≠ wD.heap.size ∧ w3.heap.size ≤ q) := ⟨row11_is hG _ _ _ _ _, hvi.keptB (row11_self _ _ _ _ _ _ _) hni, hvd.keptB (row11_self _ _ _ _ _ _ _) hnd, row11_below _ _ _ _ _ _ hbL hgB (Nat.le_trans hbL.size (Nat.le_refl _)), hgB, fun q hq => ⟨hni q hq, hwi q hq⟩, fun q hq => ⟨hnd q hq, hwd q hq⟩⟩
          generalize (row11 (wD.alloc (.cells #[.string ⟨#[]⟩, .string ⟨#[]⟩, .slice none 0 0, .slice none 0 0, .slice none 0 0, .string ⟨#[]⟩, .int .i64 0, .int .i64 0, .int .i64 0, .int .i64 0, .slice none 0 0] 33)) wD.heap.size (pre3 L a (a + hn) b nl) nilV (.slice ia nI ic) (.slice da nD dc) nilV) = Wf at hfin ⊢
          clear hG
          generalize wD.heap.size = gq at hfin ⊢
          exact ⟨rfl, gq, ia, ic, da, dc, rfl, hfin⟩
        · refine wpOp_run (o := ⟨some 10, .alloc 33, _, _, _, none⟩) (v := .pointer (some ⟨wD.heap.size, 0, none⟩)) (w' := wD.alloc (.cells #[.string ⟨#[]⟩, .string ⟨#[]⟩, .slice none 0 0, .slice none 0 0, .slice none 0 0, .string ⟨#[]⟩, .int .i64 0, .int .i64 0, .int .i64 0, .int .i64 0, .slice none 0 0] 33)) rfl rfl (exec_alloc33 _) ⟨hbD.alloc hbD.size _, ?_⟩
          simp only [Act.put, List.setIfInBounds_toArray, List.set_cons_zero, List.set_cons_succ]
          have hG : D11 (wD.alloc (.cells #[.string ⟨#[]⟩, .string ⟨#[]⟩, .slice none 0 0, .slice none 0 0, .slice none 0 0, .string ⟨#[]⟩, .int .i64 0, .int .i64 0, .int .i64 0, .int .i64 0, .slice none 0 0] 33)) wD.heap.size Pd.zero nilV nilV nilV nilV := d11_new wD Pd.zero nilV nilV nilV nilV
          have hgB := hbD.size
          have hbL := hbD.alloc hbD.size (.cells #[.string ⟨#[]⟩, .string ⟨#[]⟩, .slice none 0 0, .slice none 0 0, .slice none 0 0, .string ⟨#[]⟩, .int .i64 0, .int .i64 0, .int .i64 0, .int .i64 0, .slice none 0 0] 33)
          have hni : ∀ g, blk (.slice ia nI ic) = some g → g ≠ wD.heap.size := fun g hg => by have := hki g hg; omega
          have hvi := hvi.later (below1 wD (.cells #[.string ⟨#[]⟩, .string ⟨#[]⟩, .slice none 0 0, .slice none 0 0, .slice none 0 0, .string ⟨#[]⟩, .int .i64 0, .int .i64 0, .int .i64 0, .int .i64 0, .slice none 0 0] 33))
          have hnd : ∀ g, blk (.slice da nD dc) = some g → g ≠ wD.heap.size := fun g hg => by have := hkd g hg; omega
          have hvd := hvd.later (below1 wD (.cells #[.string ⟨#[]⟩, .string ⟨#[]⟩, .slice none 0 0, .slice none 0 0, .slice none 0 0, .string ⟨#[]⟩, .int .i64 0, .int .i64 0, .int .i64 0, .int .i64 0, .slice none 0 0] 33))
          refine anyH_callW 14 ⟨some 36, .call { callee := .value (.func 52), args := #[.tmp 35, .const (.string { data := #[10] })], argTypes := #[9, 9] }, _, _, _, none⟩ 52 #[.string (str ct), .string { data := #[10] }] (by kernel_rfl) rfl rfl (by kernel_rfl) ?_
          refine (HCo.out _).mono ?_
          rintro e wC ⟨rfl, hwC⟩
          rw [hwC]
          clear hwC
          refine ⟨_, rfl, hbL, ?_⟩
          simp only [Act.put, List.setIfInBounds_toArray, List.set_cons_zero, List.set_cons_succ]
          have hS := hbL
          refine anyH_take 15 ⟨some 37, .build 33 #[(3, .tmp 23), (4, .tmp 25), (5, .const (.string ⟨#[55, 98, 105, 116]⟩)), (6, .tmp 27), (7, .tmp 32), (8, .tmp 34), (9, .tmp 36)], _, _, _, none⟩ (.agg #[.string ⟨#[]⟩, .string ⟨#[]⟩, .slice none 0 0, .slice ia nI ic, .slice da nD dc, .string ⟨#[55, 98, 105, 116]⟩, .int .i64 a, .int .i64 ((a + hn : Nat) : Int), .int .i64 b, .int .i64 nl, .slice none 0 0]) rfl rfl (by kernel_rfl) (by kernel_rfl) (by kernel_rfl) (fun _ _ _ h => nomatch h.1) (fun X _ => exec_build33 rfl rfl rfl rfl rfl rfl) hS ?_
          simp only [Act.put, List.setIfInBounds_toArray, List.set_cons_zero, List.set_cons_succ]
          refine anyH_oneSkip 17 ⟨none, .store 33 (.tmp 10) (.tmp 37), _, _, _, none⟩ (row11 (wD.alloc (.cells #[.string ⟨#[]⟩, .string ⟨#[]⟩, .slice none 0 0, .slice none 0 0, .slice none 0 0, .string ⟨#[]⟩, .int .i64 0, .int .i64 0, .int .i64 0, .int .i64 0, .slice none 0 0] 33)) wD.heap.size (pre3 L a (a + hn) b nl) nilV (.slice ia nI ic) (.slice da nD dc) nilV) (by kernel_rfl) rfl rfl (exec_store33 (d := (pre3 L a (a + hn) b nl)) (pa := none) (pn := 0) (pc := 0) (ka := none) (kn := 0) (kc := 0) rfl rfl hG) (row11_below _ _ _ _ _ _ hbL hgB (Nat.le_trans hbL.size (Nat.le_refl _))) ?_
          simp only [Act.put, List.setIfInBounds_toArray, List.set_cons_zero, List.set_cons_succ]
          refine wpAnyH_done (by kernel_rfl) ?_ _
          have hfin : D11 (row11 (wD.alloc (.cells #[.string ⟨#[]⟩, .string ⟨#[]⟩, .slice none 0 0, .slice none 0 0, .slice none 0 0, .string ⟨#[]⟩, .int .i64 0, .int .i64 0, .int .i64 0, .int .i64 0, .slice none 0 0] 33)) wD.heap.size (pre3 L a (a + hn) b nl) nilV (.slice ia nI ic) (.slice da nD dc) nilV) wD.heap.size (pre3 L a (a + hn) b nl) nilV (.slice ia nI ic) (.slice da nD dc) nilV ∧ RL (row11 (wD.alloc (.cells #[.string ⟨#[]⟩, .string ⟨#[]⟩, .slice none 0 0, .slice none 0 0, .slice none 0 0, .string ⟨#[]⟩, .int .i64 0, .int .i64 0, .int .i64 0, .int .i64 0, .slice none 0 0] 33)) wD.heap.size (pre3 L a (a + hn) b nl) nilV (.slice ia nI ic) (.slice da nD dc) nilV) (.slice ia nI ic) 1 ((firstM L nId).map sR) ∧ RL (row11 (wD.alloc (.cells #[.string ⟨#[]⟩, .string ⟨#[]⟩, .slice none 0 0, .slice none 0 0, .slice none 0 0, .string ⟨#[]⟩, .int .i64 0, .int .i64 0, .int .i64 0, .int .i64 0, .slice none 0 0] 33)) wD.heap.size (pre3 L a (a + hn) b nl) nilV (.slice ia nI ic) (.slice da nD dc) nilV) (.slice da nD dc) 1 ((firstM L nDesc).map sR) ∧ Below w3.heap.size w3 (row11 (wD.alloc (.cells #[.string ⟨#[]⟩, .string ⟨#[]⟩, .slice none 0 0, .slice none 0 0, .slice none 0 0, .string ⟨#[]⟩, .int .i64 0, .int .i64 0, .int .i64 0, .int .i64 0, .slice none 0 0] 33)) wD.heap.size (pre3 L a (a + hn) b nl) nilV (.slice ia nI ic) (.slice da nD dc) nilV) ∧ w3.heap.size ≤ wD.heap.size ∧ (∀ q, blk (.slice ia nI ic) = some q → q ≠ wD.heap.size ∧ w3.heap.size ≤ q) ∧ (∀ q, blk (.slice da nD dc) = some q → q ≠ wD.heap.size ∧ w3.heap.size ≤ q) := ⟨row11_is hG _ _ _ _ _, hvi.keptB (row11_self _ _ _ _ _ _ _) hni, hvd.keptB (row11_self _ _ _ _ _ _ _) hnd, row11_below _ _ _ _ _ _ hbL hgB (Nat.le_trans hbL.size (Nat.le_refl _)), hgB, fun q hq => ⟨hni q hq, hwi q hq⟩, fun q hq => ⟨hnd q hq, hwd q hq⟩⟩
          generalize (row11 (wD.alloc (.cells #[.string ⟨#[]⟩, .string ⟨#[]⟩, .slice none 0 0, .slice none 0 0, .slice none 0 0, .string ⟨#[]⟩, .int .i64 0, .int .i64 0, .int .i64 0, .int .i64 0, .slice none 0 0] 33)) wD.heap.size (pre3 L a (a + hn) b nl) nilV (.slice ia nI ic) (.slice da nD dc) nilV) = Wf at hfin ⊢
          clear hG
          generalize wD.heap.size = gq at hfin ⊢
          exact ⟨rfl, gq, ia, ic, da, dc, rfl, hfin⟩
      · refine wpOp_run (o := ⟨some 10, .alloc 33, _, _, _, none⟩) (v := .pointer (some ⟨wA.heap.size, 0, none⟩)) (w' := wA.alloc (.cells #[.string ⟨#[]⟩, .string ⟨#[]⟩, .slice none 0 0, .slice none 0 0, .slice none 0 0, .string ⟨#[]⟩, .int .i64 0, .int .i64 0, .int .i64 0, .int .i64 0, .slice none 0 0] 33)) rfl rfl (exec_alloc33 _) ⟨hbA.alloc hbA.size _, ?_⟩
        simp only [Act.put, List.setIfInBounds_toArray, List.set_cons_zero, List.set_cons_succ]
        have hG : D11 (wA.alloc (.cells #[.string ⟨#[]⟩, .string ⟨#[]⟩, .slice none 0 0, .slice none 0 0, .slice none 0 0, .string ⟨#[]⟩, .int .i64 0, .int .i64 0, .int .i64 0, .int .i64 0, .slice none 0 0] 33)) wA.heap.size Pd.zero nilV nilV nilV nilV := d11_new wA Pd.zero nilV nilV nilV nilV
        have hgB := hbA.size
        have hbL := hbA.alloc hbA.size (.cells #[.string ⟨#[]⟩, .string ⟨#[]⟩, .slice none 0 0, .slice none 0 0, .slice none 0 0, .string ⟨#[]⟩, .int .i64 0, .int .i64 0, .int .i64 0, .int .i64 0, .slice none 0 0] 33)
        have hni : ∀ g, blk (.slice ia nI ic) = some g → g ≠ wA.heap.size := fun g hg => by have := hki g hg; omega
        have hvi := hvi.later (below1 wA (.cells #[.string ⟨#[]⟩, .string ⟨#[]⟩, .slice none 0 0, .slice none 0 0, .slice none 0 0, .string ⟨#[]⟩, .int .i64 0, .int .i64 0, .int .i64 0, .int .i64 0, .slice none 0 0] 33))
        refine anyH_callW 3 ⟨some 25, .call { callee := .value (.func 51), args := #[.tmp 24, .const (.string { data := #[99, 111, 110, 116, 101, 110, 116, 45, 100, 101, 115, 99, 114, 105, 112, 116, 105, 111, 110] })], argTypes := #[85, 9] }, _, _, _, none⟩ 51 #[.slice sa L.length scc, .string { data := #[99, 111, 110, 116, 101, 110, 116, 45, 100, 101, 115, 99, 114, 105, 112, 116, 105, 111, 110] }] (by kernel_rfl) rfl rfl (by kernel_rfl) ?_
        refine (HF2.out _ hbL).mono ?_
        rintro e wD ⟨⟨vd, rfl, hvd, hkd⟩, hbD, hbx⟩
        obtain ⟨da, dc, rfl⟩ := rl_slice hvd HND.out
        have hnd : ∀ g, blk (.slice da nD dc) = some g → g ≠ wA.heap.size := fun g hg => by have h1 := (hkd g hg).1; have h2 := hG.lt; omega
        have hG := hG.later hbx
        have hvi := hvi.later hbx
        have hki : ∀ g, blk (.slice ia nI ic) = some g → 0 ≤ g ∧ g < wD.heap.size := fun g hg => ⟨Nat.zero_le _, Nat.lt_of_lt_of_le (hki g hg).2 (by have := hbx.size; first | (simp at this; omega) | omega)⟩
        have hwd : ∀ q, blk (.slice da nD dc) = some q → w3.heap.size ≤ q := fun q hq => Nat.le_trans hbL.size (hkd q hq).1
        refine ⟨_, rfl, hbD, ?_⟩
        simp only [Act.put, List.setIfInBounds_toArray, List.set_cons_zero, List.set_cons_succ]
        refine anyH_callW 14 ⟨some 36, .call { callee := .value (.func 52), args := #[.tmp 35, .const (.string { data := #[10] })], argTypes := #[9, 9] }, _, _, _, none⟩ 52 #[.string (str ct), .string { data := #[10] }] (by kernel_rfl) rfl rfl (by kernel_rfl) ?_
        refine (HCo.out _).mono ?_
        rintro e wC ⟨rfl, hwC⟩
        rw [hwC]
        clear hwC
        refine ⟨_, rfl, hbD, ?_⟩
        simp only [Act.put, List.setIfInBounds_toArray, List.set_cons_zero, List.set_cons_succ]
        have hS := hbD
        refine anyH_take 15 ⟨some 37, .build 33 #[(3, .tmp 23), (4, .tmp 25), (5, .const (.string ⟨#[55, 98, 105, 116]⟩)), (6, .tmp 27), (7, .tmp 32), (8, .tmp 34), (9, .tmp 36)], _, _, _, none⟩ (.agg #[.string ⟨#[]⟩, .string ⟨#[]⟩, .slice none 0 0, .slice ia nI ic, .slice da nD dc, .string ⟨#[55, 98, 105, 116]⟩, .int .i64 a, .int .i64 ((a + hn : Nat) : Int), .int .i64 b, .int .i64 nl, .slice none 0 0]) rfl rfl (by kernel_rfl) (by kernel_rfl) (by kernel_rfl) (fun _ _ _ h => nomatch h.1) (fun X _ => exec_build33 rfl rfl rfl rfl rfl rfl) hS ?_
        simp only [Act.put, List.setIfInBounds_toArray, List.set_cons_zero, List.set_cons_succ]
        refine anyH_oneSkip 17 ⟨none, .store 33 (.tmp 10) (.tmp 37), _, _, _, none⟩ (row11 wD wA.heap.size (pre3 L a (a + hn) b nl) nilV (.slice ia nI ic) (.slice da nD dc) nilV) (by kernel_rfl) rfl rfl (exec_store33 (d := (pre3 L a (a + hn) b nl)) (pa := none) (pn := 0) (pc := 0) (ka := none) (kn := 0) (kc := 0) rfl rfl hG) (row11_below _ _ _ _ _ _ hbD hgB (Nat.le_trans hbD.size (Nat.le_refl _))) ?_
        simp only [Act.put, List.setIfInBounds_toArray, List.set_cons_zero, List.set_cons_succ]
        refine wpAnyH_done (by kernel_rfl) ?_ _
        have hfin : D11 (row11 wD wA.heap.size (pre3 L a (a + hn) b nl) nilV (.slice ia nI ic) (.slice da nD dc) nilV) wA.heap.size (pre3 L a (a + hn) b nl) nilV (.slice ia nI ic) (.slice da nD dc) nilV ∧ RL (row11 wD wA.heap.size (pre3 L a (a + hn) b nl) nilV (.slice ia nI ic) (.slice da nD dc) nilV) (.slice ia nI ic) 1 ((firstM L nId).map sR) ∧ RL (row11 wD wA.heap.size (pre3 L a (a + hn) b nl) nilV (.slice ia nI ic) (.slice da nD dc) nilV) (.slice da nD dc) 1 ((firstM L nDesc).map sR) ∧ Below w3.heap.size w3 (row11 wD wA.heap.size (pre3 L a (a + hn) b nl) nilV (.slice ia nI ic) (.slice da nD dc) nilV) ∧ w3.heap.size ≤ wA.heap.size ∧ (∀ q, blk (.slice ia nI ic) = some q → q ≠ wA.heap.size ∧ w3.heap.size ≤ q) ∧ (∀ q, blk (.slice da nD dc) = some q → q ≠ wA.heap.size ∧ w3.heap.size ≤ q) := ⟨row11_is hG _ _ _ _ _, hvi.keptB (row11_self _ _ _ _ _ _ _) hni, hvd.keptB (row11_self _ _ _ _ _ _ _) hnd, row11_below _ _ _ _ _ _ hbD hgB (Nat.le_trans hbD.size (Nat.le_refl _)), hgB, fun q hq => ⟨hni q hq, hwi q hq⟩, fun q hq => ⟨hnd q hq, hwd q hq⟩⟩
        generalize (row11 wD wA.heap.size (pre3 L a (a + hn) b nl) nilV (.slice ia nI ic) (.slice da nD dc) nilV) = Wf at hfin ⊢
        clear hG
        generalize wA.heap.size = gq at hfin ⊢
        exact ⟨rfl, gq, ia, ic, da, dc, rfl, hfin⟩
    · refine wpOp_run (o := ⟨some 10, .alloc 33, _, _, _, none⟩) (v := .pointer (some ⟨w3.drew.heap.size, 0, none⟩)) (w' := w3.drew.alloc (.cells #[.string ⟨#[]⟩, .string ⟨#[]⟩, .slice none 0 0, .slice none 0 0, .slice none 0 0, .string ⟨#[]⟩, .int .i64 0, .int .i64 0, .int .i64 0, .int .i64 0, .slice none 0 0] 33)) rfl rfl (exec_alloc33 _) ⟨hS.alloc hS.size _, ?_⟩
      simp only [Act.put, List.setIfInBounds_toArray, List.set_cons_zero, List.set_cons_succ]
      have hG : D11 (w3.drew.alloc (.cells #[.string ⟨#[]⟩, .string ⟨#[]⟩, .slice none 0 0, .slice none 0 0, .slice none 0 0, .string ⟨#[]⟩, .int .i64 0, .int .i64 0, .int .i64 0, .int .i64 0, .slice none 0 0] 33)) w3.drew.heap.size Pd.zero nilV nilV nilV nilV := d11_new w3.drew Pd.zero nilV nilV nilV nilV
      have hgB := hS.size
      have hbL := hS.alloc hS.size (.cells #[.string ⟨#[]⟩, .string ⟨#[]⟩, .slice none 0 0, .slice none 0 0, .slice none 0 0, .string ⟨#[]⟩, .int .i64 0, .int .i64 0, .int .i64 0, .int .i64 0, .slice none 0 0] 33)
      refine anyH_callW 1 ⟨some 23, .call { callee := .value (.func 51), args := #[.tmp 22, .const (.string { data := #[99, 111, 110, 116, 101, 110, 116, 45, 105, 100] })], argTypes := #[85, 9] }, _, _, _, none⟩ 51 #[.slice sa L.length scc, .string { data := #[99, 111, 110, 116, 101, 110, 116, 45, 105, 100] }] (by kernel_rfl) rfl rfl (by kernel_rfl) ?_
      refine (HF1.out _ hbL).mono ?_
      rintro e wA ⟨⟨vi, rfl, hvi, hki⟩, hbA, hbx⟩
      obtain ⟨ia, ic, rfl⟩ := rl_slice hvi HNI.out
      have hni : ∀ g, blk (.slice ia nI ic) = some g → g ≠ w3.drew.heap.size := fun g hg => by have h1 := (hki g hg).1; have h2 := hG.lt; omega
      have hG := hG.later hbx
      have hwi : ∀ q, blk (.slice ia nI ic) = some q → w3.heap.size ≤ q := fun q hq => Nat.le_trans hbL.size (hki q hq).1
      refine ⟨_, rfl, hbA, ?_⟩
      simp only [Act.put, List.setIfInBounds_toArray, List.set_cons_zero, List.set_cons_succ]
      refine anyH_callW 3 ⟨some 25, .call { callee := .value (.func 51), args := #[.tmp 24, .const (.string { data := #[99, 111, 110, 116, 101, 110, 116, 45, 100, 101, 115, 99, 114, 105, 112, 116, 105, 111, 110] })], argTypes := #[85, 9] }, _, _, _, none⟩ 51 #[.slice sa L.length scc, .string { data := #[99, 111, 110, 116, 101, 110, 116, 45, 100, 101, 115, 99, 114, 105, 112, 116, 105, 111, 110] }] (by kernel_rfl) rfl rfl (by kernel_rfl) ?_
      refine (HF2.out _ hbA).mono ?_
      rintro e wD ⟨⟨vd, rfl, hvd, hkd⟩, hbD, hbx⟩
      obtain ⟨da, dc, rfl⟩ := rl_slice hvd HND.out
      have hnd : ∀ g, blk (.slice da nD dc) = some g → g ≠ w3.drew.heap.size := fun g hg => by have h1 := (hkd g hg).1; have h2 := hG.lt; omega
      have hG := hG.later hbx
      have hvi := hvi.later hbx
      have hki : ∀ g, blk (.slice ia nI ic) = some g → 0 ≤ g ∧ g < wD.heap.size := fun g hg => ⟨Nat.zero_le _, Nat.lt_of_lt_of_le (hki g hg).2 (by have := hbx.size; first | (simp at this; omega) | omega)⟩
      have hwd : ∀ q, blk (.slice da nD dc) = some q → w3.heap.size ≤ q := fun q hq => Nat.le_trans hbA.size (hkd q hq).1
      refine ⟨_, rfl, hbD, ?_⟩
      simp only [Act.put, List.setIfInBounds_toArray, List.set_cons_zero, List.set_cons_succ]
      refine anyH_callW 14 ⟨some 36, .call { callee := .value (.func 52), args := #[.tmp 35, .const (.string { data := #[10] })], argTypes := #[9, 9] }, _, _, _, none⟩ 52 #[.string (str ct), .string { data := #[10] }] (by kernel_rfl) rfl rfl (by kernel_rfl) ?_
      refine (HCo.out _).mono ?_
      rintro e wC ⟨rfl, hwC⟩
      rw [hwC]
      clear hwC
      refine ⟨_, rfl, hbD, ?_⟩
      simp only [Act.put, List.setIfInBounds_toArray, List.set_cons_zero, List.set_cons_succ]
      have hS := hbD
      refine anyH_take 15 ⟨some 37, .build 33 #[(3, .tmp 23), (4, .tmp 25), (5, .const (.string ⟨#[55, 98, 105, 116]⟩)), (6, .tmp 27), (7, .tmp 32), (8, .tmp 34), (9, .tmp 36)], _, _, _, none⟩ (.agg #[.string ⟨#[]⟩, .string ⟨#[]⟩, .slice none 0 0, .slice ia nI ic, .slice da nD dc, .string ⟨#[55, 98, 105, 116]⟩, .int .i64 a, .int .i64 ((a + hn : Nat) : Int), .int .i64 b, .int .i64 nl, .slice none 0 0]) rfl rfl (by kernel_rfl) (by kernel_rfl) (by kernel_rfl) (fun _ _ _ h => nomatch h.1) (fun X _ => exec_build33 rfl rfl rfl rfl rfl rfl) hS ?_
      simp only [Act.put, List.setIfInBounds_toArray, List.set_cons_zero, List.set_cons_succ]
      refine anyH_oneSkip 17 ⟨none, .store 33 (.tmp 10) (.tmp 37), _, _, _, none⟩ (row11 wD w3.drew.heap.size (pre3 L a (a + hn) b nl) nilV (.slice ia nI ic) (.slice da nD dc) nilV) (by kernel_rfl) rfl rfl (exec_store33 (d := (pre3 L a (a + hn) b nl)) (pa := none) (pn := 0) (pc := 0) (ka := none) (kn := 0) (kc := 0) rfl rfl hG) (row11_below _ _ _ _ _ _ hbD hgB (Nat.le_trans hbD.size (Nat.le_refl _))) ?_
      simp only [Act.put, List.setIfInBounds_toArray, List.set_cons_zero, List.set_cons_succ]
      refine wpAnyH_done (by kernel_rfl) ?_ _
      have hfin : D11 (row11 wD w3.drew.heap.size (pre3 L a (a + hn) b nl) nilV (.slice ia nI ic) (.slice da nD dc) nilV) w3.drew.heap.size (pre3 L a (a + hn) b nl) nilV (.slice ia nI ic) (.slice da nD dc) nilV ∧ RL (row11 wD w3.drew.heap.size (pre3 L a (a + hn) b nl) nilV (.slice ia nI ic) (.slice da nD dc) nilV) (.slice ia nI ic) 1 ((firstM L nId).map sR) ∧ RL (row11 wD w3.drew.heap.size (pre3 L a (a + hn) b nl) nilV (.slice ia nI ic) (.slice da nD dc) nilV) (.slice da nD dc) 1 ((firstM L nDesc).map sR) ∧ Below w3.heap.size w3 (row11 wD w3.drew.heap.size (pre3 L a (a + hn) b nl) nilV (.slice ia nI ic) (.slice da nD dc) nilV) ∧ w3.heap.size ≤ w3.drew.heap.size ∧ (∀ q, blk (.slice ia nI ic) = some q → q ≠ w3.drew.heap.size ∧ w3.heap.size ≤ q) ∧ (∀ q, blk (.slice da nD dc) = some q → q ≠ w3.drew.heap.size ∧ w3.heap.size ≤ q) := ⟨row11_is hG _ _ _ _ _, hvi.keptB (row11_self _ _ _ _ _ _ _) hni, hvd.keptB (row11_self _ _ _ _ _ _ _) hnd, row11_below _ _ _ _ _ _ hbD hgB (Nat.le_trans hbD.size (Nat.le_refl _)), hgB, fun q hq => ⟨hni q hq, hwi q hq⟩, fun q hq => ⟨hnd q hq, hwd q hq⟩⟩
      generalize (row11 wD w3.drew.heap.size (pre3 L a (a + hn) b nl) nilV (.slice ia nI ic) (.slice da nD dc) nilV) = Wf at hfin ⊢
      clear hG
      generalize w3.drew.heap.size = gq at hfin ⊢
      exact ⟨rfl, gq, ia, ic, da, dc, rfl, hfin⟩
  · rintro g ia ic da dc W' ⟨hg, hx, hy, hb', hgB, hni, hnd⟩
    have HKd := hid (HKo.out W' hb')
    unfold KOut at HKd
    have HG' := hid hg
    have HX' := hid hx
    have HY' := hid hy
    have HBq := hid hb'
    have HgB := hid hgB
    have HNi := hid hni
    have HNd := hid hnd
    have HW3 := hid (Nat.le_trans HgB.out (Nat.le_refl _))
    have HRlt := hid HR3.out.lt
    have hkw := hb'.size
    have HWw := hid hkw
    generalize (kindOfM L dg).1 = kty at *
    generalize (kindOfM L dg).2.1 = ksu at *
    generalize (kindOfM L dg).2.2 = kps at *
    clear hg hx hy hb' hgB hni hnd hkw
    go_wp2_with fail
    refine HKd.out.mono ?_
    rintro e w4 ⟨⟨vp, rfl, hvp, hbk⟩, hb4⟩
    obtain ⟨pa, pc, hvs⟩ := rl_slice2 hvp
    subst hvs
    have hg4 := HG'.out.later hb4
    have HB4 := hid (HBq.out.trans (hb4.mono HBq.out.size))
    have HX4 := hid (HX'.out.later hb4)
    have HY4 := hid (HY'.out.later hb4)
    have HP4 := hid hvp
    have HNp : Hid (∀ q, blk (.slice pa kps.length pc) = some q → q ≠ g ∧ w3.heap.size ≤ q) := fun q hq => by
      have h1 := (hbk q hq).1
      have h2 := HG'.out.lt
      have h3 := HWw.out
      exact ⟨by omega, by omega⟩
    have HG4 := hid hg4
    obtain ⟨x0, x1, x2, x3, x4, x5, x6, x7, x8, x9, x10⟩ := hg4.cs
    have xf := hg4.fz
    have HD5 : Hid (D11 (((w4.setCell ⟨g, 0, none⟩ (.string (str kty))).setCell ⟨g, 1, none⟩ (.string (str ksu))).setCell ⟨g, 2, none⟩ (.slice pa kps.length pc)) g (mid3 kty ksu kps (firstM L nId) (firstM L nDesc) w7bit a (a + hn) b nl) (.slice pa kps.length pc) (.slice ia nI ic) (.slice da nD dc) nilV) := set11 (set11 (set11 hg4 0 (.string (str kty))) 1 (.string (str ksu))) 2 (.slice pa kps.length pc)
    have HK5 : Hid (Kept [g] w4 (((w4.setCell ⟨g, 0, none⟩ (.string (str kty))).setCell ⟨g, 1, none⟩ (.string (str ksu))).setCell ⟨g, 2, none⟩ (.slice pa kps.length pc))) := keptA (keptA (keptA (Kept.refl _ _) _ _) _ _) _ _
    clear hvp hbk hb4 hg4 HKd
    go_wp2_with fail
    generalize (((w4.setCell ⟨g, 0, none⟩ (.string (str kty))).setCell ⟨g, 1, none⟩ (.string (str ksu))).setCell ⟨g, 2, none⟩ (.slice pa kps.length pc)) = w5 at *
    have HB5 := hid (below_kept HB4.out HK5.out (by simp; exact HgB.out) HB4.out.size)
    have HX5 := hid (HX4.out.keptB HK5.out (fun q hq => (HNi.out q hq).1))
    have HY5 := hid (HY4.out.keptB HK5.out (fun q hq => (HNd.out q hq).1))
    have HP5 := hid (HP4.out.keptB HK5.out (fun q hq => (HNp.out q hq).1))
    have HFe := hid (HF3.out w5 HB5.out)
    have hel := first_len L HFo.out nEnc
    have HEn : Hid (encM L = match firstM L nEnc with
      | t :: _ => low t
      | [] => w7bit) := rfl
    have hf1 : (firstM L nEnc).length ≤ 1 := by unfold firstM; simp; omega
    generalize firstM L nEnc = G at *
    clear x0 x1 x2 x3 x4 x5 x6 x7 x8 x9 x10 xf HX4 HY4 HP4 HG4 HK5
    refine HFe.out.mono ?_
    rintro e w6 ⟨⟨vE, rfl, hvE, _⟩, hb36, hb6⟩
    have HD6 := hid (HD5.out.later hb6)
    have HB6 := hid hb36
    have HX6 := hid (HX5.out.later hb6)
    have HY6 := hid (HY5.out.later hb6)
    have HP6 := hid (HP5.out.later hb6)
    have HR6 := hid (HR3.out.below hb36 HRlt.out)
    obtain ⟨_, ea, ec, rfl, hec, hvr⟩ := hvE
    rw [List.length_map] at *
    clear hb36 hb6 HFe HX5 HY5 HP5 HD5 HB5
    cases G with
    | nil =>
      go_wp2_with fail
      go_loopw [51] (fun i wr => i = .int .i64 0 ∧ wr = w6) (fun _ _ => 0)
      case atStart => exact ⟨rfl, rfl⟩
      case round =>
        obtain ⟨rfl, hww⟩ := hrel
        subst hww

        obtain ⟨y0, y1, y2, y3, y4, y5, y6, y7, y8, y9, y10⟩ := HD6.out.cs
        go_wp2_with (refine wpList_store33 (d := (mid3 kty ksu kps (firstM L nId) (firstM L nDesc) w7bit a (a + hn) b nl)) (pa := pa) (pn := kps.length) (pc := pc) (ia := ia) (n1 := nI) (c1 := ic) (da := da) (n2 := nD) (c2 := dc) (ka := none) (kn := 0) (kc := 0) rfl rfl HR6.out ?_)
        have q1 := row11_is HR6.out (mid3 kty ksu kps (firstM L nId) (firstM L nDesc) w7bit a (a + hn) b nl) (.slice pa kps.length pc) (.slice ia nI ic) (.slice da nD dc) nilV
        have q2 := row11_self wr R (mid3 kty ksu kps (firstM L nId) (firstM L nDesc) w7bit a (a + hn) b nl) (.slice pa kps.length pc) (.slice ia nI ic) (.slice da nD dc) nilV
        refine bodyPost_ret (w := row11 wr R (mid3 kty ksu kps (firstM L nId) (firstM L nDesc) w7bit a (a + hn) b nl) (.slice pa kps.length pc) (.slice ia nI ic) (.slice da nD dc) nilV) (results38_run _ rfl q1) rfl ?_
        have hRn : R < w3.heap.size := HRlt.out
        have hwB := HB3.out.trans (HB6.out.mono HB3.out.size)
        have hpe : partM m a b dg = mid3 kty ksu kps (firstM L nId) (firstM L nDesc) w7bit a (a + hn) b nl := by rw [HP.out]; unfold mid3; rw [show encM L = w7bit from HEn.out]
        rw [hpe]
        refine ⟨⟨_, _, _, rfl, ⟨HP6.out.keptB q2 (fun q hq => ?_), HX6.out.keptB q2 (fun q hq => ?_), HY6.out.keptB q2 (fun q hq => ?_), fun q hq _ => Nat.le_trans HB3.out.size (HNp.out q hq).2, fun q hq _ => Nat.le_trans HB3.out.size (HNi.out q hq).2, fun q hq _ => Nat.le_trans HB3.out.size (HNd.out q hq).2⟩⟩, below_kept hwB q2 (by simp; exact HRB.out) hwB.size⟩
        · have := (HNp.out q hq).2; omega
        · have := (HNi.out q hq).2; omega
        · have := (HNd.out q hq).2; omega
    | cons t G =>
      have hG0 : G = [] := by
        cases G with
        | nil => rfl
        | cons _ _ => simp at hf1
      subst hG0
      rcases hvr with hvr | ⟨ge, oe, rfl, hvr, hvg⟩
      · simp at hvr
      · have hc0 : w6.cell? ⟨ge, oe, none⟩ = some (.string (str t)) := by
          have := hvr 0 0 (sR t) t rfl rfl
          simpa using this
        have HLo := hid (lower_any t w6 (by have := hel t (by simp); omega))
        clear hvr hvg hel
        go_wp2_with fail
        go_loopw [51] (fun i wr => (i = .int .i64 0 ∧ wr = w6) ∨ (i = .int .i64 1 ∧ D11 wr g (mid3 kty ksu kps (firstM L nId) (firstM L nDesc) (low t) a (a + hn) b nl) (.slice pa kps.length pc) (.slice ia nI ic) (.slice da nD dc) nilV ∧ D11 wr R Pd.zero nilV nilV nilV nilV ∧ RL wr (.slice pa kps.length pc) 2 (kps.map pR) ∧ RL wr (.slice ia nI ic) 1 ((firstM L nId).map sR) ∧ RL wr (.slice da nD dc) 1 ((firstM L nDesc).map sR) ∧ Below w3.heap.size w3 wr)) (fun i _ => 1 - (intOf i).toNat)
        case atStart => exact .inl ⟨rfl, rfl⟩
        case round =>
          rcases hrel with ⟨rfl, hww⟩ | ⟨rfl, hd7, hr7, hp7, hx7, hy7, hb7⟩
          · subst hww
            go_wp2_with fail
            refine HLo.out.mono ?_
            rintro e w7 ⟨rfl, hb7⟩
            have hd7 := HD6.out.later hb7
            have HD7 := hid hd7
            have HR7 := hid (HR6.out.later hb7)
            have HP7 := hid (HP6.out.later hb7)
            have HX7 := hid (HX6.out.later hb7)
            have HY7 := hid (HY6.out.later hb7)
            have HB7 := hid (HB6.out.trans (hb7.mono HB6.out.size))
            have x5 := hd7.cs.2.2.2.2.2.1
            have xf := hd7.fz
            have HK7 : Hid (Kept [g] w7 (w7.setCell ⟨g, 5, none⟩ (.string (str (low t))))) := keptA (Kept.refl _ _) _ _
            clear hd7 hb7 HLo
            go_wp2_with fail
            go_roundw
            case rel =>
              refine .inr ⟨by go_num, set11 HD7.out 5 (.string (str (low t))), HR7.out.kept HK7.out (by rw [List.mem_singleton]; have := HRlt.out; have := HgB.out; omega), HP7.out.keptB HK7.out (fun q hq => (HNp.out q hq).1), HX7.out.keptB HK7.out (fun q hq => (HNi.out q hq).1), HY7.out.keptB HK7.out (fun q hq => (HNd.out q hq).1), below_kept HB7.out HK7.out (by simp; exact HgB.out) HB7.out.size⟩
            case measure => simp [intOf]
          · have HD7 := hid hd7
            have HR7 := hid hr7
            have HP7 := hid hp7
            have HX7 := hid hx7
            have HY7 := hid hy7
            have HB7 := hid hb7
            clear hd7 hr7 hp7 hx7 hy7 hb7 HD6 HR6 HP6 HX6 HY6 HB6

            obtain ⟨y0, y1, y2, y3, y4, y5, y6, y7, y8, y9, y10⟩ := HD7.out.cs
            go_wp2_with (refine wpList_store33 (d := (mid3 kty ksu kps (firstM L nId) (firstM L nDesc) (low t) a (a + hn) b nl)) (pa := pa) (pn := kps.length) (pc := pc) (ia := ia) (n1 := nI) (c1 := ic) (da := da) (n2 := nD) (c2 := dc) (ka := none) (kn := 0) (kc := 0) rfl rfl HR7.out ?_)
            have q1 := row11_is HR7.out (mid3 kty ksu kps (firstM L nId) (firstM L nDesc) (low t) a (a + hn) b nl) (.slice pa kps.length pc) (.slice ia nI ic) (.slice da nD dc) nilV
            have q2 := row11_self wr R (mid3 kty ksu kps (firstM L nId) (firstM L nDesc) (low t) a (a + hn) b nl) (.slice pa kps.length pc) (.slice ia nI ic) (.slice da nD dc) nilV
            refine bodyPost_ret (w := row11 wr R (mid3 kty ksu kps (firstM L nId) (firstM L nDesc) (low t) a (a + hn) b nl) (.slice pa kps.length pc) (.slice ia nI ic) (.slice da nD dc) nilV) (results38_run _ rfl q1) rfl ?_
            have hRn : R < w3.heap.size := HRlt.out
            have hwB := HB3.out.trans (HB7.out.mono HB3.out.size)
            have hpe : partM m a b dg = mid3 kty ksu kps (firstM L nId) (firstM L nDesc) (low t) a (a + hn) b nl := by rw [HP.out]; unfold mid3; rw [show encM L = low t from HEn.out]
            rw [hpe]
            refine ⟨⟨_, _, _, rfl, ⟨HP7.out.keptB q2 (fun q hq => ?_), HX7.out.keptB q2 (fun q hq => ?_), HY7.out.keptB q2 (fun q hq => ?_), fun q hq _ => Nat.le_trans HB3.out.size (HNp.out q hq).2, fun q hq _ => Nat.le_trans HB3.out.size (HNi.out q hq).2, fun q hq _ => Nat.le_trans HB3.out.size (HNd.out q hq).2⟩⟩, below_kept hwB q2 (by simp; exact HRB.out) hwB.size⟩
            · have := (HNp.out q hq).2; omega
            · have := (HNi.out q hq).2; omega
            · have := (HNd.out q hq).2; omega
end Go.Proofs.YtgolcmafbenjbaaGreatDoor
