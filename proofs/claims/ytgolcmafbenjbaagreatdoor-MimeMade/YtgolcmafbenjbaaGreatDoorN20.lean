/- What this text holds: a part with kids, the message that a part is about, what a number says: the program's calls. -/
import Derived.Test.YtgolcmafbenjbaaGreatDoorN19
namespace Go.Proofs.YtgolcmafbenjbaaGreatDoor
open Go.RowKit
set_option linter.unusedVariables false
set_option linter.unusedSimpArgs false

theorem KsAt.up {w : World} {N : Nat → Prop} : ∀ {n : Nat} {v : Value} {ks : List Pt}, KsAt w N n v ks → KsAt w N (n + 1) v ks
  | 0, v, ks, h => by obtain ⟨rfl, rfl⟩ := h; exact KsAt.nil _ _ _
  | n + 1, v, ks, h => by
    obtain ⟨a, c, rfl, hc, h⟩ := h
    refine ⟨a, c, rfl, hc, ?_⟩
    rcases h with h | ⟨g, o, rfl, hg, hN, h⟩
    · exact .inl h
    · refine .inr ⟨g, o, rfl, hg, hN, fun j k hj => ?_⟩
      obtain ⟨vp, vi, vd, vk, h1, h2, h3⟩ := h j k hj
      exact ⟨vp, vi, vd, vk, h1, h2, KsAt.up h3⟩
/-- A kid of a part. -/
theorem PtAt.kid {w : World} {N : Nat → Prop} {p : Pt} {vp vi vd vk : Value} (h : PtAt w N 7 p vp vi vd vk) (j : Nat) (k : Pt) (hj : p.kids[j]? = some k) :
    ∃ g o c, vk = .slice (some ⟨g, o, none⟩) p.kids.length c ∧ ∃ wp wi wd wk, (∀ i x, (ptC k.d wp wi wd wk)[i]? = some x → w.cell? ⟨g, o + j * 11 + i, none⟩ = some x) ∧ PtAt w N 7 k wp wi wd wk := by
  obtain ⟨a, c, rfl, hc, hk⟩ := h.k
  rcases hk with hk | ⟨g, o, rfl, hg, hN, hk⟩
  · rw [hk] at hj; simp at hj
  · obtain ⟨wp, wi, wd, wk, h1, h2, h3⟩ := hk j k hj
    exact ⟨g, o, c, rfl, wp, wi, wd, wk, h1, h2, KsAt.up h3⟩

/-- A multipart with kids. -/
def partedB (p : Pt) : Bool := isMulti p.d && decide (0 < p.kids.length)
/-- The message that a part is about. -/
def mailedM (p : Pt) : Option Pt := if isLetter p.d then p.kids[0]? else none
def withinM (p : Pt) : Option Pt := if partedB p then some p else mailedM p
def numberedM (p : Pt) (n : Int) : Option Pt := if partedB p then (if n < 1 ∨ (p.kids.length : Int) < n then none else p.kids[(n - 1).toNat]?) else if n = 1 then some p else none
def atG : Pt → Option Pt → List Int → Option Pt
  | p, _, [] => some p
  | _, none, _ :: _ => none
  | _, some a, n :: ns => match numberedM a n with
    | none => none
    | some q => atG q (withinM q) ns
/-- The part at a path. -/
def atM (p : Pt) (path : List Int) : Option Pt := atG p (some p) path
def headedM (p : Pt) (path : List Int) : Option Pt := if path = [] then some p else mailedM p
/-- A part, or none. -/
def POpt (N : Nat → Prop) (o : Option Pt) (w : World) (e : Ending) (w' : World) : Prop :=
  Below w.heap.size w w' ∧ match o with
    | some q => ∃ vp vi vd vk, e = .returned (.tuple #[ptV q.d vp vi vd vk, .bool true]) ∧ PtAt w' N 7 q vp vi vd vk
    | none => ∃ d pa pn pc ia n1 c1 da n2 c2 ka kn kc, e = .returned (.tuple #[ptV d (.slice pa pn pc) (.slice ia n1 c1) (.slice da n2 c2) (.slice ka kn kc), .bool false])
theorem POpt.some {N : Nat → Prop} {q : Pt} {w w' : World} {vp vi vd vk : Value} (hb : Below w.heap.size w w') (hp : PtAt w' N 7 q vp vi vd vk) : POpt N (some q) w (.returned (.tuple #[ptV q.d vp vi vd vk, .bool true])) w' := ⟨hb, _, _, _, _, rfl, hp⟩
theorem POpt.none {N : Nat → Prop} {w w' : World} {d : Pd} {pa ia da ka : Option Addr} {pn pc n1 c1 n2 c2 kn kc : Nat} (hb : Below w.heap.size w w') : POpt N none w (.returned (.tuple #[ptV d (.slice pa pn pc) (.slice ia n1 c1) (.slice da n2 c2) (.slice ka kn kc), .bool false])) w' := ⟨hb, _, _, _, _, _, _, _, _, _, _, _, _, _, rfl⟩

set_option maxRecDepth 100000 in
set_option maxHeartbeats 2000000 in
theorem parted_any {p : Pt} {vp vi vd : Value} {ka : Option Addr} {kc : Nat} (w : World) : Calls Tryz.prog 57 #[ptV p.d vp vi vd (.slice ka p.kids.length kc)] w fun e w' => e = .returned (.bool (partedB p)) ∧ Below w.heap.size w w' := by
  have HB := hid (below1 w (.cells (ptC p.d vp vi vd (.slice ka p.kids.length kc)) 33))
  have HD := hid (d11_new w p.d vp vi vd (.slice ka p.kids.length kc))
  have HM := hid (fun W => multi_any p.d vp vi vd (.slice ka p.kids.length kc) W)
  have HE : Hid (partedB p = (isMulti p.d && decide (0 < p.kids.length))) := rfl
  rw [HE.out]
  have hd : decide ((0 : Int) < p.kids.length) = decide (0 < p.kids.length) := by rw [Bool.eq_iff_iff]; simp only [decide_eq_true_eq]; omega
  have HDd := hid hd
  generalize p.kids.length = K at *
  unfold ptV ptC at *
  clear hd HE
  go_enter Tryz.func57, Tryz.ntmps57
  go_wp2_with fail
  generalize (w.alloc (.cells #[.string (str p.d.ty), .string (str p.d.sub), vp, vi, vd, .string (str p.d.enc), .int .i64 p.d.hd, .int .i64 p.d.fr, .int .i64 p.d.to, .int .i64 p.d.lns, .slice ka K kc] 33)) = W at *
  refine (HM.out W).mono ?_
  rintro e w1 ⟨rfl, hb1⟩
  have HB1 := hid (HB.out.trans (hb1.mono HB.out.size))
  have hd1 := HD.out.later hb1
  have x10 := hd1.cs.2.2.2.2.2.2.2.2.2.2
  clear hb1 hd1
  cases hmu : isMulti p.d with
  | true =>
    go_wp2_with fail
    go_ret
    exact ⟨by simp [hmu], HB1.out⟩
  | false =>
    go_wp2_with fail
    go_ret
    exact ⟨by simp [hmu], HB1.out⟩

set_option maxRecDepth 100000 in
theorem results42_run {w : World} {A : Nat} {d : Pd} {vp vi vd vk v : Value} (tmps : Array Value) (h2 : tmps[2]? = some (.pointer (some ⟨A, 0, none⟩))) (h3 : tmps[3]? = some v) (hA : D11 w A d vp vi vd vk) :
    (results Tryz.f42 tmps).run Tryz.prog w = .ok (.tuple #[ptV d vp vi vd vk, v]) w := by
  obtain ⟨x0, x1, x2, x3, x4, x5, x6, x7, x8, x9, x10⟩ := hA.cs
  simp [results, Tryz.results42, go_sem, h2, h3, x0, x1, x2, x3, x4, x5, x6, x7, x8, x9, x10, ptV, ptC]
set_option maxRecDepth 100000 in
theorem results40_run {w : World} {A : Nat} {d : Pd} {vp vi vd vk v : Value} (tmps : Array Value) (h2 : tmps[4]? = some (.pointer (some ⟨A, 0, none⟩))) (h3 : tmps[5]? = some v) (hA : D11 w A d vp vi vd vk) :
    (results Tryz.f40 tmps).run Tryz.prog w = .ok (.tuple #[ptV d vp vi vd vk, v]) w := by
  obtain ⟨x0, x1, x2, x3, x4, x5, x6, x7, x8, x9, x10⟩ := hA.cs
  simp [results, Tryz.results40, go_sem, h2, h3, x0, x1, x2, x3, x4, x5, x6, x7, x8, x9, x10, ptV, ptC]
set_option maxRecDepth 100000 in
theorem results41_run {w : World} {A : Nat} {d : Pd} {vp vi vd vk v : Value} (tmps : Array Value) (h2 : tmps[2]? = some (.pointer (some ⟨A, 0, none⟩))) (h3 : tmps[3]? = some v) (hA : D11 w A d vp vi vd vk) :
    (results Tryz.f41 tmps).run Tryz.prog w = .ok (.tuple #[ptV d vp vi vd vk, v]) w := by
  obtain ⟨x0, x1, x2, x3, x4, x5, x6, x7, x8, x9, x10⟩ := hA.cs
  simp [results, Tryz.results41, go_sem, h2, h3, x0, x1, x2, x3, x4, x5, x6, x7, x8, x9, x10, ptV, ptC]
set_option maxRecDepth 100000 in
theorem results30_run {w : World} {A : Nat} {d : Pd} {vp vi vd vk v : Value} (tmps : Array Value) (h2 : tmps[4]? = some (.pointer (some ⟨A, 0, none⟩))) (h3 : tmps[5]? = some v) (hA : D11 w A d vp vi vd vk) :
    (results Tryz.f30 tmps).run Tryz.prog w = .ok (.tuple #[ptV d vp vi vd vk, v]) w := by
  obtain ⟨x0, x1, x2, x3, x4, x5, x6, x7, x8, x9, x10⟩ := hA.cs
  simp [results, Tryz.results30, go_sem, h2, h3, x0, x1, x2, x3, x4, x5, x6, x7, x8, x9, x10, ptV, ptC]
set_option maxRecDepth 100000 in
theorem results27_run {w : World} {A : Nat} {d : Pd} {vp vi vd vk v : Value} (tmps : Array Value) (h2 : tmps[4]? = some (.pointer (some ⟨A, 0, none⟩))) (h3 : tmps[5]? = some v) (hA : D11 w A d vp vi vd vk) :
    (results Tryz.f27 tmps).run Tryz.prog w = .ok (.tuple #[ptV d vp vi vd vk, v]) w := by
  obtain ⟨x0, x1, x2, x3, x4, x5, x6, x7, x8, x9, x10⟩ := hA.cs
  simp [results, Tryz.results27, go_sem, h2, h3, x0, x1, x2, x3, x4, x5, x6, x7, x8, x9, x10, ptV, ptC]

set_option maxRecDepth 100000 in
set_option maxHeartbeats 4000000 in
theorem mailed_any {w : World} {N : Nat → Prop} {p : Pt} {vp vi vd vk : Value} (hp : PtAt w N 7 p vp vi vd vk) (hN : ∀ q, N q → q < w.heap.size) : Calls Tryz.prog 42 #[ptV p.d vp vi vd vk] w (POpt N (mailedM p) w) := by
  obtain ⟨pa, pn, pc, ia, n1, c1, da, n2, c2, ka, kn, kc, rfl, rfl, rfl, rfl⟩ := hp.slices
  have hkn : kn = p.kids.length := by obtain ⟨a, c, h, _⟩ := KsAt.slice hp.k; simp at h; exact h.2.1
  subst hkn
  have hB : Below w.heap.size w ((w.alloc (.cells #[.string (str p.d.ty), .string (str p.d.sub), .slice pa pn pc, .slice ia n1 c1, .slice da n2 c2, .string (str p.d.enc), .int .i64 p.d.hd, .int .i64 p.d.fr, .int .i64 p.d.to, .int .i64 p.d.lns, .slice ka p.kids.length kc] 33)).alloc (.cells #[.string ⟨#[]⟩, .string ⟨#[]⟩, .slice none 0 0, .slice none 0 0, .slice none 0 0, .string ⟨#[]⟩, .int .i64 0, .int .i64 0, .int .i64 0, .int .i64 0, .slice none 0 0] 33)) := below2 w _ _
  have HB := hid hB
  have HP := hid (hp.later hB)
  have HD : Hid (D11 ((w.alloc (.cells #[.string (str p.d.ty), .string (str p.d.sub), .slice pa pn pc, .slice ia n1 c1, .slice da n2 c2, .string (str p.d.enc), .int .i64 p.d.hd, .int .i64 p.d.fr, .int .i64 p.d.to, .int .i64 p.d.lns, .slice ka p.kids.length kc] 33)).alloc (.cells #[.string ⟨#[]⟩, .string ⟨#[]⟩, .slice none 0 0, .slice none 0 0, .slice none 0 0, .string ⟨#[]⟩, .int .i64 0, .int .i64 0, .int .i64 0, .int .i64 0, .slice none 0 0] 33)) w.heap.size p.d (.slice pa pn pc) (.slice ia n1 c1) (.slice da n2 c2) (.slice ka p.kids.length kc)) := (d11_new w p.d (.slice pa pn pc) (.slice ia n1 c1) (.slice da n2 c2) (.slice ka p.kids.length kc)).later (below1 _ _)
  have HR : Hid (D11 ((w.alloc (.cells #[.string (str p.d.ty), .string (str p.d.sub), .slice pa pn pc, .slice ia n1 c1, .slice da n2 c2, .string (str p.d.enc), .int .i64 p.d.hd, .int .i64 p.d.fr, .int .i64 p.d.to, .int .i64 p.d.lns, .slice ka p.kids.length kc] 33)).alloc (.cells #[.string ⟨#[]⟩, .string ⟨#[]⟩, .slice none 0 0, .slice none 0 0, .slice none 0 0, .string ⟨#[]⟩, .int .i64 0, .int .i64 0, .int .i64 0, .int .i64 0, .slice none 0 0] 33)) (w.heap.size + 1) Pd.zero nilV nilV nilV nilV) := by
    have h : D11 ((w.alloc (.cells #[.string (str p.d.ty), .string (str p.d.sub), .slice pa pn pc, .slice ia n1 c1, .slice da n2 c2, .string (str p.d.enc), .int .i64 p.d.hd, .int .i64 p.d.fr, .int .i64 p.d.to, .int .i64 p.d.lns, .slice ka p.kids.length kc] 33)).alloc (.cells #[.string ⟨#[]⟩, .string ⟨#[]⟩, .slice none 0 0, .slice none 0 0, .slice none 0 0, .string ⟨#[]⟩, .int .i64 0, .int .i64 0, .int .i64 0, .int .i64 0, .slice none 0 0] 33)) (w.alloc (.cells #[.string (str p.d.ty), .string (str p.d.sub), .slice pa pn pc, .slice ia n1 c1, .slice da n2 c2, .string (str p.d.enc), .int .i64 p.d.hd, .int .i64 p.d.fr, .int .i64 p.d.to, .int .i64 p.d.lns, .slice ka p.kids.length kc] 33)).heap.size Pd.zero nilV nilV nilV nilV := heap_alloc_new _ _
    rw [show (w.alloc (.cells #[.string (str p.d.ty), .string (str p.d.sub), .slice pa pn pc, .slice ia n1 c1, .slice da n2 c2, .string (str p.d.enc), .int .i64 p.d.hd, .int .i64 p.d.fr, .int .i64 p.d.to, .int .i64 p.d.lns, .slice ka p.kids.length kc] 33)).heap.size = w.heap.size + 1 by simp] at h
    exact h
  have HRB : Hid (w.heap.size ≤ w.heap.size + 1) := by rw [Hid]; omega
  have HLt : Hid (w.heap.size + 1 < ((w.alloc (.cells #[.string (str p.d.ty), .string (str p.d.sub), .slice pa pn pc, .slice ia n1 c1, .slice da n2 c2, .string (str p.d.enc), .int .i64 p.d.hd, .int .i64 p.d.fr, .int .i64 p.d.to, .int .i64 p.d.lns, .slice ka p.kids.length kc] 33)).alloc (.cells #[.string ⟨#[]⟩, .string ⟨#[]⟩, .slice none 0 0, .slice none 0 0, .slice none 0 0, .string ⟨#[]⟩, .int .i64 0, .int .i64 0, .int .i64 0, .int .i64 0, .slice none 0 0] 33)).heap.size) := HR.out.lt
  have HLe := hid (fun W => letter_any p.d (.slice pa pn pc) (.slice ia n1 c1) (.slice da n2 c2) (.slice ka p.kids.length kc) W)
  have HM : Hid (mailedM p = if isLetter p.d then p.kids[0]? else none) := rfl
  have hNR : ∀ i ∈ [w.heap.size + 1], ¬ N i := fun i hi h => by rw [List.mem_singleton] at hi; have := hN i h; omega
  have HNR := hid hNR
  clear hB hp hN hNR
  unfold ptV ptC at *
  go_enter Tryz.func42, Tryz.ntmps42
  go_wp2_with fail
  generalize ((w.alloc (.cells #[.string (str p.d.ty), .string (str p.d.sub), .slice pa pn pc, .slice ia n1 c1, .slice da n2 c2, .string (str p.d.enc), .int .i64 p.d.hd, .int .i64 p.d.fr, .int .i64 p.d.to, .int .i64 p.d.lns, .slice ka p.kids.length kc] 33)).alloc (.cells #[.string ⟨#[]⟩, .string ⟨#[]⟩, .slice none 0 0, .slice none 0 0, .slice none 0 0, .string ⟨#[]⟩, .int .i64 0, .int .i64 0, .int .i64 0, .int .i64 0, .slice none 0 0] 33)) = W at *
  generalize w.heap.size + 1 = R at *
  refine (HLe.out W).mono ?_
  rintro e w1 ⟨rfl, hb1⟩
  have hd1 := HD.out.later hb1
  have HR1 := hid (HR.out.later hb1)
  have HP1 := hid (HP.out.later hb1)
  have HB1 := hid (HB.out.trans (hb1.mono HB.out.size))
  have x10 := hd1.cs.2.2.2.2.2.2.2.2.2.2
  clear hb1 hd1 HD HR HP HB
  by_cases hle : isLetter p.d = true
  · cases hk0 : p.kids with
    | nil =>
      have HM2 : Hid (mailedM p = none) := by rw [Hid, HM.out, if_pos hle, hk0]; rfl
      have hkl : p.kids.length = 0 := by rw [hk0]; rfl
      rw [hle]
      rw [hkl] at x10
      go_wp2_with (refine wpList_store33 (d := Pd.zero) (pa := none) (pn := 0) (pc := 0) (ia := none) (n1 := 0) (c1 := 0) (da := none) (n2 := 0) (c2 := 0) (ka := none) (kn := 0) (kc := 0) rfl rfl HR1.out ?_)
      have q1 := row11_is HR1.out Pd.zero (.slice none 0 0) (.slice none 0 0) (.slice none 0 0) (.slice none 0 0)
      have q2 := row11_self w1 R Pd.zero (.slice none 0 0) (.slice none 0 0) (.slice none 0 0) (.slice none 0 0)
      refine bodyPost_ret (w := row11 w1 R Pd.zero (.slice none 0 0) (.slice none 0 0) (.slice none 0 0) (.slice none 0 0)) (results42_run _ rfl rfl q1) rfl ?_
      rw [HM2.out]
      exact POpt.none (below_kept HB1.out q2 (by simp; exact HRB.out) HB1.out.size)
    | cons k ks =>
      have HM2 : Hid (mailedM p = some k) := by rw [Hid, HM.out, if_pos hle, hk0]; rfl
      have hkl : (0 : Int) < p.kids.length := by rw [hk0]; simp <;> omega
      have hkl2 : ¬ ((p.kids.length : Int) = 0) := by omega
      obtain ⟨g, o, c, hv, wp, wi, wd, wk, hcs, hkp⟩ := HP1.out.kid 0 k (by rw [hk0]; rfl)
      simp at hv
      obtain ⟨rfl, rfl⟩ := hv
      obtain ⟨kpa, kpn, kpc, kia, kin, kic, kda, kdn, kdc, kka, kkn, kkc, rfl, rfl, rfl, rfl⟩ := hkp.slices
      simp only [Nat.zero_mul, Nat.add_zero] at hcs
      obtain ⟨c0, e1, e2, e3, e4, e5, e6, e7, e8, e9, e10⟩ := kid_cells hcs
      have HKp := hid hkp
      rw [hle]
      generalize p.kids.length = K at *
      clear hcs hkp hk0
      go_wp2_with (refine wpList_store33 (d := k.d) (pa := kpa) (pn := kpn) (pc := kpc) (ia := kia) (n1 := kin) (c1 := kic) (da := kda) (n2 := kdn) (c2 := kdc) (ka := kka) (kn := kkn) (kc := kkc) rfl rfl HR1.out ?_)
      have q1 := row11_is HR1.out k.d (.slice kpa kpn kpc) (.slice kia kin kic) (.slice kda kdn kdc) (.slice kka kkn kkc)
      have q2 := row11_self w1 R k.d (.slice kpa kpn kpc) (.slice kia kin kic) (.slice kda kdn kdc) (.slice kka kkn kkc)
      refine bodyPost_ret (w := row11 w1 R k.d (.slice kpa kpn kpc) (.slice kia kin kic) (.slice kda kdn kdc) (.slice kka kkn kkc)) (results42_run _ rfl rfl q1) rfl ?_
      rw [HM2.out]
      exact POpt.some (below_kept HB1.out q2 (by simp; exact HRB.out) HB1.out.size) (HKp.out.kept q2 HNR.out)
  · have hle' : isLetter p.d = false := by simpa using hle
    have HM2 : Hid (mailedM p = none) := by rw [Hid, HM.out, if_neg hle]
    rw [hle']
    go_wp2_with (refine wpList_store33 (d := Pd.zero) (pa := none) (pn := 0) (pc := 0) (ia := none) (n1 := 0) (c1 := 0) (da := none) (n2 := 0) (c2 := 0) (ka := none) (kn := 0) (kc := 0) rfl rfl HR1.out ?_)
    have q1 := row11_is HR1.out Pd.zero (.slice none 0 0) (.slice none 0 0) (.slice none 0 0) (.slice none 0 0)
    have q2 := row11_self w1 R Pd.zero (.slice none 0 0) (.slice none 0 0) (.slice none 0 0) (.slice none 0 0)
    refine bodyPost_ret (w := row11 w1 R Pd.zero (.slice none 0 0) (.slice none 0 0) (.slice none 0 0) (.slice none 0 0)) (results42_run _ rfl rfl q1) rfl ?_
    rw [HM2.out]
    exact POpt.none (below_kept HB1.out q2 (by simp; exact HRB.out) HB1.out.size)
end Go.Proofs.YtgolcmafbenjbaaGreatDoor
