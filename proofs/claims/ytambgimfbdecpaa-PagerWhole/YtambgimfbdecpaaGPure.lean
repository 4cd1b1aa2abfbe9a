/- What this text holds: plain facts about a disk that has power, and a pager on it. -/
import Derived.Test.YtambgimfbdecpaaGFormat
namespace Go.Proofs.Ytambgimfbdecpaa
open Go.RowKit Go.Maps
set_option linter.unusedVariables false

/-- It has power, and no fuse. -/
structure DS.ok (D : DS) : Prop where
  g : D.gone = false
  f : D.fuse = -1
theorem DS.ok.step {D : DS} (h : D.ok) : D.step = (true, { D with steps := D.steps + 1 }) := by
  obtain ⟨g, f⟩ := h
  cases D
  simp only at g f
  subst g f
  rfl
/-- A write waits. -/
def DS.wrote (D : DS) (i : Int) (l : List Int) : DS := { D with steps := D.steps + 1, waits := D.waits ++ [(i, l)] }
/-- All that waited is done. -/
def DS.flushd (D : DS) : DS := { D with steps := D.steps + 1, secs := layAll D.secs D.waits, waits := [] }
theorem DS.ok.write {D : DS} (h : D.ok) (i : Int) (l : List Int) (hi : 0 ≤ i ∧ i < D.n) (hl : l.length = 512) : D.write i l = (0, D.wrote i l) := by
  unfold DS.write
  rw [if_neg (by simp [hl]), if_neg (by simp [hi]), h.step, if_pos rfl]
  rfl
theorem DS.ok.flush {D : DS} (h : D.ok) : D.flush = (0, D.flushd) := by
  unfold DS.flush
  rw [h.step, if_pos rfl]
  rfl
theorem DS.ok.wrote {D : DS} (h : D.ok) (i : Int) (l : List Int) : (D.wrote i l).ok := ⟨h.g, h.f⟩
theorem DS.ok.flushd {D : DS} (h : D.ok) : D.flushd.ok := ⟨h.g, h.f⟩
theorem DS.ok.blank (n : Nat) : (DS.blank n).ok := ⟨rfl, rfl⟩

theorem wrote_read (D : DS) (i : Nat) (l : List Int) (j : Nat) : (D.wrote i l).read j = if j = i then l else D.read j := by
  unfold DS.read DS.wrote
  rw [lastW_append]
  show (if (i : Int) = j then l else _) = _
  by_cases h : j = i
  · subst h; rw [if_pos rfl, if_pos rfl]
  · rw [if_neg (by omega), if_neg h]
theorem sec_layAll (ws : List (Int × List Int)) : ∀ (l : List Int) (n j : Nat), l.length = n * 512 → (∀ x ∈ ws, 0 ≤ x.1 ∧ x.1 < n ∧ x.2.length = 512) → j < n → sec (layAll l ws) j = lastW ws j (sec l j) := by
  induction ws with
  | nil => intro l n j _ _ _; rfl
  | cons x ws ih =>
    intro l n j hl hw hj
    obtain ⟨h1, h2, h3⟩ := hw x (by simp)
    have hi : x.1.toNat < n := by omega
    show sec (layAll (layS l x.1.toNat x.2) ws) j = lastW ws j (if x.1 = j then x.2 else sec l j)
    rw [ih _ n j (layS_length l n _ _ hl hi (by omega)) (fun y hy => hw y (by simp [hy])) hj]
    congr 1
    by_cases h : x.1 = j
    · rw [if_pos h]
      have e : x.1.toNat = j := by omega
      rw [e, sec_layS_same l n j x.2 hl hj (by omega), h3, List.drop_of_length_le (by rw [sec_length l j n hl hj]; omega), List.append_nil]
    · rw [if_neg h, sec_layS_other l n _ j x.2 hl hi (by omega) (by omega)]
theorem flushd_read {D : DS} (h : D.good) (j : Nat) (hj : j < D.n) : D.flushd.read j = D.read j := by
  unfold DS.read DS.flushd
  exact sec_layAll D.waits D.secs D.n j h.len h.w hj
theorem DS.good.wrote {D : DS} (h : D.good) (i : Int) (l : List Int) (hi : 0 ≤ i ∧ i < D.n) (hl : l.length = 512) (hs : D.steps < 1000) (hw : D.waits.length < 200) : (D.wrote i l).good :=
  { n1 := h.n1, n2 := h.n2, len := h.len, wl := by simp [DS.wrote]; omega, w := fun x hx => by
      simp only [DS.wrote, List.mem_append, List.mem_singleton] at hx
      rcases hx with hx | rfl
      · exact h.w x hx
      · exact ⟨hi.1, hi.2, hl⟩
    f1 := h.f1, f2 := h.f2, s1 := by have := h.s1; simp [DS.wrote]; omega, s2 := by simp [DS.wrote]; omega }
theorem layAll_length (ws : List (Int × List Int)) : ∀ (l : List Int) (n : Nat), l.length = n * 512 → (∀ x ∈ ws, 0 ≤ x.1 ∧ x.1 < n ∧ x.2.length = 512) → (layAll l ws).length = n * 512 := by
  induction ws with
  | nil => intro l n h _; exact h
  | cons x ws ih =>
    intro l n hl hw
    obtain ⟨h1, h2, h3⟩ := hw x (by simp)
    exact ih _ n (layS_length l n _ _ hl (by omega) (by omega)) (fun y hy => hw y (by simp [hy]))
theorem DS.good.flushd {D : DS} (h : D.good) (hs : D.steps < 1000) : D.flushd.good :=
  { n1 := h.n1, n2 := h.n2, len := layAll_length _ _ _ h.len h.w, wl := by simp [DS.flushd], w := by simp [DS.flushd], f1 := h.f1, f2 := h.f2, s1 := by have := h.s1; simp [DS.flushd]; omega, s2 := by simp [DS.flushd]; omega }

/-- The root is laid. -/
def DS.laid (D : DS) (g : Int) (X : List Int) : DS := (D.flushd.wrote (g % 2) X).flushd
theorem DS.ok.layRoot {D : DS} (h : D.ok) (g : Int) (X : List Int) (hX : X.length = 512) (hn : 2 ≤ D.n) : D.layRoot g X = (0, D.laid g X) := by
  have h1 : D.flushd.write (g % 2) X = (0, D.flushd.wrote (g % 2) X) := h.flushd.write _ _ ⟨by omega, by show g % 2 < (D.n : Int); omega⟩ hX
  unfold DS.layRoot
  rw [h.flush]
  simp only [if_pos]
  rw [h1]
  simp only [if_pos]
  exact (h.flushd.wrote _ _).flush
theorem DS.ok.laid {D : DS} (h : D.ok) (g : Int) (X : List Int) : (D.laid g X).ok := (h.flushd.wrote _ _).flushd
theorem laid_read {D : DS} (h : D.good) (g : Int) (X : List Int) (hX : X.length = 512) (hn : 2 ≤ D.n) (hs : D.steps + 3 ≤ 1000) (j : Nat) (hj : j < D.n) : (D.laid g X).read j = if (j : Int) = g % 2 then X else D.read j := by
  have hg1 := h.flushd (by omega)
  obtain ⟨q, hq⟩ : ∃ q : Nat, g % 2 = q := ⟨(g % 2).toNat, by omega⟩
  have hg2 := hg1.wrote (g % 2) X ⟨by omega, by show g % 2 < (D.n : Int); omega⟩ hX (by simp [DS.flushd]; omega) (by simp [DS.flushd])
  unfold DS.laid
  rw [flushd_read hg2 j hj, hq, wrote_read, flushd_read h j hj]
  by_cases e : j = q
  · rw [if_pos e, if_pos (by omega)]
  · rw [if_neg e, if_neg (by omega)]
theorem laid_facts (D : DS) (g : Int) (X : List Int) : (D.laid g X).n = D.n ∧ (D.laid g X).waits = [] ∧ (D.laid g X).steps = D.steps + 3 := ⟨rfl, rfl, by simp [DS.laid, DS.flushd, DS.wrote]; omega⟩

/-- A healthy pager. -/
structure PS.ok (P : PS) : Prop where
  d : P.D.ok
  a : P.dead = false
theorem PS.ok.commit {P : PS} (h : P.ok) (s : ByteArray) (hs : s.size ≤ 490) (hg : okGen (P.gen + 1)) (hn : 2 ≤ P.D.n) : P.commit s = (0, { P with D := P.D.laid (P.gen + 1) (rootL (P.gen + 1) (bOf s)), gen := P.gen + 1, root := s, st := ((P.st.map (turnF 2 (1, 0))).map (turnF 3 (4, P.gen + 1))).map (relF (lowPin P.pins (P.gen + 1))) }) := by
  unfold PS.commit
  rw [if_neg (by simp [h.a]), rootE_yes hg hs, if_neg (by simp), h.d.layRoot _ _ (rootL_length _ _ (by rw [bOf_length]; omega)) hn]
  rfl
theorem PS.ok.put {P : PS} (h : P.ok) (kind : Int) (s : ByteArray) (hp : okPage kind (P.gen + 1)) (hs : s.size ≤ 492) (hl : lowFree P.st ≠ 0) (hn : P.st.length = P.D.n) :
    P.put kind s = (((lowFree P.st : Int), 0), { P with D := P.D.wrote (lowFree P.st) (sealL kind (P.gen + 1) (bOf s)), st := P.st.set (lowFree P.st) (2, 0) }) := by
  have h1 := (lowFree_lt P.st hl).2.1
  unfold PS.put
  rw [if_neg (by simp [h.a]), sealE_yes hp hs, if_neg (by simp), if_neg hl, h.d.write _ _ ⟨by omega, by omega⟩ (sealL_length _ _ _ (by rw [bOf_length]; exact hs))]
  rfl
theorem PS.ok.putFull {P : PS} (h : P.ok) (kind : Int) (s : ByteArray) (hp : okPage kind (P.gen + 1)) (hs : s.size ≤ 492) (hl : lowFree P.st = 0) : P.put kind s = ((0, 6), P) := by
  unfold PS.put
  rw [if_neg (by simp [h.a]), sealE_yes hp hs, if_neg (by simp), if_pos hl]

/-- A disk that was formatted. -/
def DS.fmt (n : Nat) : DS := (((DS.blank n).wrote 0 Z512).wrote 1 Z512).laid 1 (rootL 1 [])
theorem bOf_nil : bOf ⟨#[]⟩ = [] := rfl
theorem format_blank (n : Nat) (h4 : 4 ≤ n) : (DS.blank n).format = (0, DS.fmt n) := by
  have o0 := DS.ok.blank n
  have e0 : (DS.blank n).write 0 Z512 = (0, (DS.blank n).wrote 0 Z512) := o0.write 0 Z512 ⟨by omega, by show (0 : Int) < (n : Int); omega⟩ Z512_length
  have o1 := o0.wrote 0 Z512
  have e1 : ((DS.blank n).wrote 0 Z512).write 1 Z512 = (0, ((DS.blank n).wrote 0 Z512).wrote 1 Z512) := o1.write 1 Z512 ⟨by omega, by show (1 : Int) < (n : Int); omega⟩ Z512_length
  have o2 := o1.wrote 1 Z512
  have e2 := PS.ok.commit (P := PS.rootless (((DS.blank n).wrote 0 Z512).wrote 1 Z512)) ⟨o2, rfl⟩ ⟨#[]⟩ (by decide) (by unfold okGen PS.rootless; simp) (by show 2 ≤ n; omega)
  unfold DS.format
  rw [if_neg (by show ¬ ¬ 4 ≤ n; omega), e0]
  simp only [ne_eq, not_true_eq_false, if_false]
  rw [e1]
  simp only [not_true_eq_false, if_false]
  rw [e2]
  rfl
theorem fmt_facts (n : Nat) (h4 : 4 ≤ n) : (DS.fmt n).n = n ∧ (DS.fmt n).waits = [] ∧ (DS.fmt n).steps = 5 ∧ (DS.fmt n).ok := by
  refine ⟨rfl, rfl, by simp [DS.fmt, DS.laid, DS.flushd, DS.wrote, DS.blank], ⟨rfl, rfl⟩⟩
theorem fmt_read (n : Nat) (h4 : 4 ≤ n) (hn : n ≤ 4096) : (DS.fmt n).read 0 = Z512 ∧ (DS.fmt n).read 1 = rootL 1 [] := by
  have g0 := DS.blank_good n (by omega) hn
  have g1 := g0.wrote 0 Z512 ⟨by omega, by show (0 : Int) < (n : Int); omega⟩ Z512_length (by simp [DS.blank]) (by simp [DS.blank])
  have g2 := g1.wrote 1 Z512 ⟨by omega, by show (1 : Int) < (n : Int); omega⟩ Z512_length (by simp [DS.wrote, DS.blank]) (by simp [DS.wrote, DS.blank])
  have hr := fun j hj => laid_read g2 1 (rootL 1 []) (rootL_length _ _ (by decide)) (by show 2 ≤ n; omega) (by simp [DS.wrote, DS.blank]) j hj
  constructor
  · have := hr 0 (by show 0 < n; omega)
    unfold DS.fmt
    rw [this, if_neg (by decide)]
    have h1 : (((DS.blank n).wrote 0 Z512).wrote 1 Z512).read 0 = _ := wrote_read ((DS.blank n).wrote 0 Z512) 1 Z512 0
    have h2 : ((DS.blank n).wrote 0 Z512).read 0 = _ := wrote_read (DS.blank n) 0 Z512 0
    rw [h1, if_neg (by decide), h2, if_pos rfl]
  · have := hr 1 (by show 1 < n; omega)
    unfold DS.fmt
    rw [this, if_pos (by decide)]
theorem noRoot : ¬ isRoot Z512 := by
  intro h
  have e : rgenOf Z512 = 0 := by decide +kernel
  have := h.2.1.1
  omega
theorem fmt_roots (n : Nat) (h4 : 4 ≤ n) (hn : n ≤ 4096) : (DS.fmt n).roots 2 = (1, ⟨#[]⟩) := by
  obtain ⟨h0, h1⟩ := fmt_read n h4 hn
  have hr := isRoot_root 1 [] (by omega) (by omega) (by simp)
  have e1 : (DS.fmt n).roots 1 = (0, ⟨#[]⟩) := by
    show pickR ((DS.fmt n).read 0) 0 0 ⟨#[]⟩ = _
    rw [h0]
    unfold pickR
    rw [if_neg (fun h => noRoot h.1)]
  show pickR ((DS.fmt n).read 1) 1 ((DS.fmt n).roots 1).1 ((DS.fmt n).roots 1).2 = _
  rw [h1, e1]
  unfold pickR
  rw [rgenOf_root _ _ (by omega) (by omega), rconOf_root _ _ (by simp), if_pos ⟨hr, by decide, by decide⟩]
  rfl
theorem fmt_open (n : Nat) (h4 : 4 ≤ n) (hn : n ≤ 4096) : (DS.fmt n).openE = 0 := by
  have h := fmt_facts n h4
  unfold DS.openE
  rw [h.1, if_neg (by omega), h.2.2.2.g, if_neg (by decide), fmt_roots n h4 hn]
  rfl
/-- The pager on a disk that was formatted. -/
def PS.fmt (n : Nat) : PS := { D := DS.fmt n, st := List.replicate n (0, 0), pins := [], pm := 0, gen := 1, root := ⟨#[]⟩, dead := false }
theorem fmt_at (n : Nat) (h4 : 4 ≤ n) (hn : n ≤ 4096) : PS.at (DS.fmt n) 2 = PS.fmt n := by
  unfold PS.at
  rw [fmt_roots n h4 hn]
  rfl
theorem PS.ok.fmt (n : Nat) : (PS.fmt n).ok := ⟨⟨rfl, rfl⟩, rfl⟩
end Go.Proofs.Ytambgimfbdecpaa
