/- What this text holds: plain facts about a disk that has power, and a pager on it. · What this text holds: 'alive': the chapter's example. · What this text holds: a pager that is filled, page by page: plain facts. -/
import Derived.Test.YtambgimfbdecpaaQ12
namespace Go.Proofs.Ytambgimfbdecpaa
open Go.RowKit Go.Maps
set_option linter.unusedVariables false

/-- It has power, and no fuse. -/
structure DS.ok (D : DS) : Prop where
  g : D.gone = false
  f : D.fuse = -1
theorem DS.ok.step {D : DS} (h : D.ok) : D.step = (true, { D with steps := D.steps + 1 }) := by
  obtain ⟨g, f⟩ := h
  cases D
  simp only at g f
  subst g f
  rfl
/-- A write waits. -/
def DS.wrote (D : DS) (i : Int) (l : List Int) : DS := { D with steps := D.steps + 1, waits := D.waits ++ [(i, l)] }
/-- All that waited is done. -/
def DS.flushd (D : DS) : DS := { D with steps := D.steps + 1, secs := layAll D.secs D.waits, waits := [] }
theorem DS.ok.write {D : DS} (h : D.ok) (i : Int) (l : List Int) (hi : 0 ≤ i ∧ i < D.n) (hl : l.length = 512) : D.write i l = (0, D.wrote i l) := by
  unfold DS.write
  rw [if_neg (by simp [hl]), if_neg (by simp [hi]), h.step, if_pos rfl]
  rfl
theorem DS.ok.flush {D : DS} (h : D.ok) : D.flush = (0, D.flushd) := by
  unfold DS.flush
  rw [h.step, if_pos rfl]
  rfl
theorem DS.ok.wrote {D : DS} (h : D.ok) (i : Int) (l : List Int) : (D.wrote i l).ok := ⟨h.g, h.f⟩
theorem DS.ok.flushd {D : DS} (h : D.ok) : D.flushd.ok := ⟨h.g, h.f⟩
theorem DS.ok.blank (n : Nat) : (DS.blank n).ok := ⟨rfl, rfl⟩

theorem wrote_read (D : DS) (i : Nat) (l : List Int) (j : Nat) : (D.wrote i l).read j = if j = i then l else D.read j := by
  unfold DS.read DS.wrote
  rw [lastW_append]
  show (if (i : Int) = j then l else _) = _
  by_cases h : j = i
  · subst h; rw [if_pos rfl, if_pos rfl]
  · rw [if_neg (by omega), if_neg h]
theorem sec_layAll (ws : List (Int × List Int)) : ∀ (l : List Int) (n j : Nat), l.length = n * 512 → (∀ x ∈ ws, 0 ≤ x.1 ∧ x.1 < n ∧ x.2.length = 512) → j < n → sec (layAll l ws) j = lastW ws j (sec l j) := by
  induction ws with
  | nil => intro l n j _ _ _; rfl
  | cons x ws ih =>
    intro l n j hl hw hj
    obtain ⟨h1, h2, h3⟩ := hw x (by simp)
    have hi : x.1.toNat < n := by omega
    show sec (layAll (layS l x.1.toNat x.2) ws) j = lastW ws j (if x.1 = j then x.2 else sec l j)
    rw [ih _ n j (layS_length l n _ _ hl hi (by omega)) (fun y hy => hw y (by simp [hy])) hj]
    congr 1
    by_cases h : x.1 = j
    · rw [if_pos h]
      have e : x.1.toNat = j := by omega
      rw [e, sec_layS_same l n j x.2 hl hj (by omega), h3, List.drop_of_length_le (by rw [sec_length l j n hl hj]; omega), List.append_nil]
    · rw [if_neg h, sec_layS_other l n _ j x.2 hl hi (by omega) (by omega)]
theorem flushd_read {D : DS} (h : D.good) (j : Nat) (hj : j < D.n) : D.flushd.read j = D.read j := by
  unfold DS.read DS.flushd
  exact sec_layAll D.waits D.secs D.n j h.len h.w hj
theorem DS.good.wrote {D : DS} (h : D.good) (i : Int) (l : List Int) (hi : 0 ≤ i ∧ i < D.n) (hl : l.length = 512) (hs : D.steps < 1000) (hw : D.waits.length < 200) : (D.wrote i l).good :=
  { n1 := h.n1, n2 := h.n2, len := h.len, wl := by simp [DS.wrote]; omega, w := fun x hx => by
      simp only [DS.wrote, List.mem_append, List.mem_singleton] at hx
      rcases hx with hx | rfl
      · exact h.w x hx
      · exact ⟨hi.1, hi.2, hl⟩
    f1 := h.f1, f2 := h.f2, s1 := by have := h.s1; simp [DS.wrote]; omega, s2 := by simp [DS.wrote]; omega }
theorem layAll_length (ws : List (Int × List Int)) : ∀ (l : List Int) (n : Nat), l.length = n * 512 → (∀ x ∈ ws, 0 ≤ x.1 ∧ x.1 < n ∧ x.2.length = 512) → (layAll l ws).length = n * 512 := by
  induction ws with
  | nil => intro l n h _; exact h
  | cons x ws ih =>
    intro l n hl hw
    obtain ⟨h1, h2, h3⟩ := hw x (by simp)
    exact ih _ n (layS_length l n _ _ hl (by omega) (by omega)) (fun y hy => hw y (by simp [hy]))
theorem DS.good.flushd {D : DS} (h : D.good) (hs : D.steps < 1000) : D.flushd.good :=
  { n1 := h.n1, n2 := h.n2, len := layAll_length _ _ _ h.len h.w, wl := by simp [DS.flushd], w := by simp [DS.flushd], f1 := h.f1, f2 := h.f2, s1 := by have := h.s1; simp [DS.flushd]; omega, s2 := by simp [DS.flushd]; omega }

/-- The root is laid. -/
def DS.laid (D : DS) (g : Int) (X : List Int) : DS := (D.flushd.wrote (g % 2) X).flushd
theorem DS.ok.layRoot {D : DS} (h : D.ok) (g : Int) (X : List Int) (hX : X.length = 512) (hn : 2 ≤ D.n) : D.layRoot g X = (0, D.laid g X) := by
  have h1 : D.flushd.write (g % 2) X = (0, D.flushd.wrote (g % 2) X) := h.flushd.write _ _ ⟨by omega, by show g % 2 < (D.n : Int); omega⟩ hX
  unfold DS.layRoot
  rw [h.flush]
  simp only [if_pos]
  rw [h1]
  simp only [if_pos]
  exact (h.flushd.wrote _ _).flush
theorem DS.ok.laid {D : DS} (h : D.ok) (g : Int) (X : List Int) : (D.laid g X).ok := (h.flushd.wrote _ _).flushd
theorem laid_read {D : DS} (h : D.good) (g : Int) (X : List Int) (hX : X.length = 512) (hn : 2 ≤ D.n) (hs : D.steps + 3 ≤ 1000) (j : Nat) (hj : j < D.n) : (D.laid g X).read j = if (j : Int) = g % 2 then X else D.read j := by
  have hg1 := h.flushd (by omega)
  obtain ⟨q, hq⟩ : ∃ q : Nat, g % 2 = q := ⟨(g % 2).toNat, by omega⟩
  have hg2 := hg1.wrote (g % 2) X ⟨by omega, by show g % 2 < (D.n : Int); omega⟩ hX (by simp [DS.flushd]; omega) (by simp [DS.flushd])
  unfold DS.laid
  rw [flushd_read hg2 j hj, hq, wrote_read, flushd_read h j hj]
  by_cases e : j = q
  · rw [if_pos e, if_pos (by omega)]
  · rw [if_neg e, if_neg (by omega)]
theorem laid_facts (D : DS) (g : Int) (X : List Int) : (D.laid g X).n = D.n ∧ (D.laid g X).waits = [] ∧ (D.laid g X).steps = D.steps + 3 := ⟨rfl, rfl, by simp [DS.laid, DS.flushd, DS.wrote]; omega⟩

/-- A healthy pager. -/
structure PS.ok (P : PS) : Prop where
  d : P.D.ok
  a : P.dead = false
theorem PS.ok.commit {P : PS} (h : P.ok) (s : ByteArray) (hs : s.size ≤ 490) (hg : okGen (P.gen + 1)) (hn : 2 ≤ P.D.n) : P.commit s = (0, { P with D := P.D.laid (P.gen + 1) (rootL (P.gen + 1) (bOf s)), gen := P.gen + 1, root := s, st := ((P.st.map (turnF 2 (1, 0))).map (turnF 3 (4, P.gen + 1))).map (relF (lowPin P.pins (P.gen + 1))) }) := by
  unfold PS.commit
  rw [if_neg (by simp [h.a]), rootE_yes hg hs, if_neg (by simp), h.d.layRoot _ _ (rootL_length _ _ (by rw [bOf_length]; omega)) hn]
  rfl
theorem PS.ok.put {P : PS} (h : P.ok) (kind : Int) (s : ByteArray) (hp : okPage kind (P.gen + 1)) (hs : s.size ≤ 492) (hl : lowFree P.st ≠ 0) (hn : P.st.length = P.D.n) :
    P.put kind s = (((lowFree P.st : Int), 0), { P with D := P.D.wrote (lowFree P.st) (sealL kind (P.gen + 1) (bOf s)), st := P.st.set (lowFree P.st) (2, 0) }) := by
  have h1 := (lowFree_lt P.st hl).2.1
  unfold PS.put
  rw [if_neg (by simp [h.a]), sealE_yes hp hs, if_neg (by simp), if_neg hl, h.d.write _ _ ⟨by omega, by omega⟩ (sealL_length _ _ _ (by rw [bOf_length]; exact hs))]
  rfl
theorem PS.ok.putFull {P : PS} (h : P.ok) (kind : Int) (s : ByteArray) (hp : okPage kind (P.gen + 1)) (hs : s.size ≤ 492) (hl : lowFree P.st = 0) : P.put kind s = ((0, 6), P) := by
  unfold PS.put
  rw [if_neg (by simp [h.a]), sealE_yes hp hs, if_neg (by simp), if_pos hl]

/-- A disk that was formatted. -/
def DS.fmt (n : Nat) : DS := (((DS.blank n).wrote 0 Z512).wrote 1 Z512).laid 1 (rootL 1 [])
theorem bOf_nil : bOf ⟨#[]⟩ = [] := rfl
theorem format_blank (n : Nat) (h4 : 4 ≤ n) : (DS.blank n).format = (0, DS.fmt n) := by
  have o0 := DS.ok.blank n
  have e0 : (DS.blank n).write 0 Z512 = (0, (DS.blank n).wrote 0 Z512) := o0.write 0 Z512 ⟨by omega, by show (0 : Int) < (n : Int); omega⟩ Z512_length
  have o1 := o0.wrote 0 Z512
  have e1 : ((DS.blank n).wrote 0 Z512).write 1 Z512 = (0, ((DS.blank n).wrote 0 Z512).wrote 1 Z512) := o1.write 1 Z512 ⟨by omega, by show (1 : Int) < (n : Int); omega⟩ Z512_length
  have o2 := o1.wrote 1 Z512
  have e2 := PS.ok.commit (P := PS.rootless (((DS.blank n).wrote 0 Z512).wrote 1 Z512)) ⟨o2, rfl⟩ ⟨#[]⟩ (by decide) (by unfold okGen PS.rootless; simp) (by show 2 ≤ n; omega)
  unfold DS.format
  rw [if_neg (by show ¬ ¬ 4 ≤ n; omega), e0]
  simp only [ne_eq, not_true_eq_false, if_false]
  rw [e1]
  simp only [not_true_eq_false, if_false]
  rw [e2]
  rfl
theorem fmt_facts (n : Nat) (h4 : 4 ≤ n) : (DS.fmt n).n = n ∧ (DS.fmt n).waits = [] ∧ (DS.fmt n).steps = 5 ∧ (DS.fmt n).ok := by
  refine ⟨rfl, rfl, by simp [DS.fmt, DS.laid, DS.flushd, DS.wrote, DS.blank], ⟨rfl, rfl⟩⟩
theorem fmt_read (n : Nat) (h4 : 4 ≤ n) (hn : n ≤ 4096) : (DS.fmt n).read 0 = Z512 ∧ (DS.fmt n).read 1 = rootL 1 [] := by
  have g0 := DS.blank_good n (by omega) hn
  have g1 := g0.wrote 0 Z512 ⟨by omega, by show (0 : Int) < (n : Int); omega⟩ Z512_length (by simp [DS.blank]) (by simp [DS.blank])
  have g2 := g1.wrote 1 Z512 ⟨by omega, by show (1 : Int) < (n : Int); omega⟩ Z512_length (by simp [DS.wrote, DS.blank]) (by simp [DS.wrote, DS.blank])
  have hr := fun j hj => laid_read g2 1 (rootL 1 []) (rootL_length _ _ (by decide)) (by show 2 ≤ n; omega) (by simp [DS.wrote, DS.blank]) j hj
  constructor
  · have := hr 0 (by show 0 < n; omega)
    unfold DS.fmt
    rw [this, if_neg (by decide)]
    have h1 : (((DS.blank n).wrote 0 Z512).wrote 1 Z512).read 0 = _ := wrote_read ((DS.blank n).wrote 0 Z512) 1 Z512 0
    have h2 : ((DS.blank n).wrote 0 Z512).read 0 = _ := wrote_read (DS.blank n) 0 Z512 0
    rw [h1, if_neg (by decide), h2, if_pos rfl]
  · have := hr 1 (by show 1 < n; omega)
    unfold DS.fmt
    rw [this, if_pos (by decide)]
theorem noRoot : ¬ isRoot Z512 := by
  intro h
  have e : rgenOf Z512 = 0 := by decide +kernel
  have := h.2.1.1
  omega
theorem fmt_roots (n : Nat) (h4 : 4 ≤ n) (hn : n ≤ 4096) : (DS.fmt n).roots 2 = (1, ⟨#[]⟩) := by
  obtain ⟨h0, h1⟩ := fmt_read n h4 hn
  have hr := isRoot_root 1 [] (by omega) (by omega) (by simp)
  have e1 : (DS.fmt n).roots 1 = (0, ⟨#[]⟩) := by
    show pickR ((DS.fmt n).read 0) 0 0 ⟨#[]⟩ = _
    rw [h0]
    unfold pickR
    rw [if_neg (fun h => noRoot h.1)]
  show pickR ((DS.fmt n).read 1) 1 ((DS.fmt n).roots 1).1 ((DS.fmt n).roots 1).2 = _
  rw [h1, e1]
  unfold pickR
  rw [rgenOf_root _ _ (by omega) (by omega), rconOf_root _ _ (by simp), if_pos ⟨hr, by decide, by decide⟩]
  rfl
theorem fmt_open (n : Nat) (h4 : 4 ≤ n) (hn : n ≤ 4096) : (DS.fmt n).openE = 0 := by
  have h := fmt_facts n h4
  unfold DS.openE
  rw [h.1, if_neg (by omega), h.2.2.2.g, if_neg (by decide), fmt_roots n h4 hn]
  rfl
/-- The pager on a disk that was formatted. -/
def PS.fmt (n : Nat) : PS := { D := DS.fmt n, st := List.replicate n (0, 0), pins := [], pm := 0, gen := 1, root := ⟨#[]⟩, dead := false }
theorem fmt_at (n : Nat) (h4 : 4 ≤ n) (hn : n ≤ 4096) : PS.at (DS.fmt n) 2 = PS.fmt n := by
  unfold PS.at
  rw [fmt_roots n h4 hn]
  rfl
theorem PS.ok.fmt (n : Nat) : (PS.fmt n).ok := ⟨⟨rfl, rfl⟩, rfl⟩
end Go.Proofs.Ytambgimfbdecpaa
namespace Go.Proofs.Ytambgimfbdecpaa
open Go.RowKit Go.Maps
set_option linter.unusedVariables false

section
variable {w : World} {B b db : Nat} {all : List Nat} {P : PS}
theorem put_all (h : Pgr w B b db all P) (hs : P.D.steps < 1000) (hw : P.D.waits.length < 200) (kind : Int) (s : ByteArray) (hm : s.size ≤ maxLen) :
    Calls Try.prog 31 #[.pointer (some ⟨b, 0, none⟩), .int .i64 kind, .string s] w (DidP w B b db all (.tuple #[.int .i64 (P.put kind s).1.1, .int .i64 (P.put kind s).1.2]) (P.put kind s).2) := by
  obtain ⟨gs, mb, own, h, rfl⟩ := h
  exact put_at h hs hw kind s hm
theorem commit_all (h : Pgr w B b db all P) (hs : P.D.steps + 3 ≤ 1000) (s : ByteArray) (hm : s.size ≤ maxLen) :
    Calls Try.prog 32 #[.pointer (some ⟨b, 0, none⟩), .string s] w (DidP w B b db all (.int .i64 (P.commit s).1) (P.commit s).2) := by
  obtain ⟨gs, mb, own, h, rfl⟩ := h
  exact commit_at h hs s hm
theorem drop_all (h : Pgr w B b db all P) (n : Int) : Calls Try.prog 29 #[.pointer (some ⟨b, 0, none⟩), .int .i64 n] w (DidP w B b db all (.int .i64 (P.drop n).1) (P.drop n).2) := by
  obtain ⟨gs, mb, own, h, rfl⟩ := h
  exact drop_at h n
theorem abort_all (h : Pgr w B b db all P) : Calls Try.prog 38 #[.pointer (some ⟨b, 0, none⟩)] w (DidP w B b db all (.tuple #[]) P.abort) := by
  obtain ⟨gs, mb, own, h, rfl⟩ := h
  exact abort_at h
theorem read_all (h : Pgr w B b db all P) (n : Int) : Calls Try.prog 36 #[.pointer (some ⟨b, 0, none⟩), .int .i64 n] w (DidP w B b db all (P.read n).1.val (P.read n).2) := by
  obtain ⟨gs, mb, own, h, rfl⟩ := h
  exact read_at h n
theorem Pgr.len (h : Pgr w B b db all P) : P.st.length = P.D.n := by
  obtain ⟨gs, mb, own, h, rfl⟩ := h
  exact h.len
theorem Pgr.good (h : Pgr w B b db all P) : P.D.good := by
  obtain ⟨gs, mb, own, h, rfl⟩ := h
  exact h.disk.good
/-- What a call of a pager keeps below its base. -/
theorem DidP.below {w0 w' : World} (h : Pgr w B b db all P) (hk : Kept all w w') (hb : Below B w0 w) (hB : B ≤ w0.heap.size) : Below B w0 w' :=
  below_kept hb hk (fun i hi => (h.lt i hi).1) (Nat.le_trans hB hb.size)
end

set_option maxHeartbeats 400000 in
theorem no_any' (n : Int) (w : World) : Calls Try.prog 11 #[.int .i64 n] w fun e w' => e = .returned (.int .i64 n) ∧ w' = w := no_any n w

/-- The chapter's example, step by step. -/
def aP1 : PS := { PS.fmt 6 with D := (DS.fmt 6).wrote 2 (sealL 7 2 (bOf ⟨#[97]⟩)), st := [(0, 0), (0, 0), (2, 0), (0, 0), (0, 0), (0, 0)] }
def aP2 : PS := { aP1 with D := aP1.D.laid 2 (rootL 2 (bOf ⟨#[114]⟩)), gen := 2, root := ⟨#[114]⟩, st := [(0, 0), (0, 0), (1, 0), (0, 0), (0, 0), (0, 0)] }
def aP3 : PS := { aP2 with st := [(0, 0), (0, 0), (3, 0), (0, 0), (0, 0), (0, 0)] }
def aP4 : PS := { aP3 with D := aP3.D.laid 3 (rootL 3 (bOf ⟨#[115]⟩)), gen := 3, root := ⟨#[115]⟩, st := [(0, 0), (0, 0), (0, 0), (0, 0), (0, 0), (0, 0)] }
theorem aS1 : (PS.fmt 6).put 7 ⟨#[97]⟩ = ((2, 0), aP1) := by
  have hl : lowFree (PS.fmt 6).st = 2 := by decide
  rw [(PS.ok.fmt 6).put 7 ⟨#[97]⟩ (by unfold okPage PS.fmt; simp) (by decide) (by rw [hl]; decide) rfl, hl]
  rfl
theorem aO1 : aP1.ok := ⟨⟨rfl, rfl⟩, rfl⟩
theorem aS2 : aP1.commit ⟨#[114]⟩ = (0, aP2) := by
  rw [aO1.commit ⟨#[114]⟩ (by decide) (by unfold okGen aP1 PS.fmt; simp) (by decide)]
  rfl
theorem aO2 : aP2.ok := ⟨⟨rfl, rfl⟩, rfl⟩
theorem aS3 : aP2.drop 2 = (0, aP3) := by
  unfold PS.drop
  rw [if_neg (by rw [aO2.a]; decide), if_neg (by decide), if_neg (by decide), if_pos (by decide)]
  rfl
theorem aO3 : aP3.ok := ⟨⟨rfl, rfl⟩, rfl⟩
theorem aS4 : aP3.commit ⟨#[115]⟩ = (0, aP4) := by
  rw [aO3.commit ⟨#[115]⟩ (by decide) (by unfold okGen aP3 aP2 aP1 PS.fmt; simp) (by decide)]
  rfl
theorem aN1 : aP1.D.steps = 6 ∧ aP1.D.waits.length = 1 := by
  have := (fmt_facts 6 (by omega))
  simp [aP1, DS.wrote, this.2.2.1, this.2.1]
theorem aN3 : aP3.D.steps = 9 := by
  have := (laid_facts aP1.D 2 (rootL 2 (bOf ⟨#[114]⟩))).2.2
  rw [aN1.1] at this
  exact this

theorem DS.byt.wrote {D : DS} (h : D.byt) (i : Int) (l : List Int) (hl : Byt l) : (D.wrote i l).byt := ⟨h.s, fun x hx => by
  simp only [DS.wrote, List.mem_append, List.mem_singleton] at hx
  rcases hx with hx | rfl
  · exact h.w x hx
  · exact hl⟩
theorem DS.byt.flushd {D : DS} (h : D.byt) : D.flushd.byt := ⟨byt_layAll _ _ h.s h.w, fun x hx => by simp [DS.flushd] at hx⟩
theorem DS.byt.laid {D : DS} (h : D.byt) (g : Int) (X : List Int) (hX : Byt X) : (D.laid g X).byt := (h.flushd.wrote _ _ hX).flushd
theorem DS.byt.fmt (n : Nat) : (DS.fmt n).byt := (((DS.byt.blank n).wrote 0 Z512 Z512_byt).wrote 1 Z512 Z512_byt).laid 1 _ (byt_root 1 [] (fun x hx => nomatch hx))

/-- Open, on a disk that was formatted. -/
theorem open_fmt {w : World} {B db n : Nat} {own : List Nat} (h : Disk w B db own (DS.fmt n)) (h4 : 4 ≤ n) (hn : n ≤ 4096) :
    Calls Try.prog 33 #[.pointer (some ⟨db, 0, none⟩)] w fun e w' => ∃ b gs mb, e = .returned (.tuple #[.pointer (some ⟨b, 0, none⟩), .int .i64 0]) ∧ Pgr w' B b db (b :: gs :: mb :: own) (PS.fmt n) ∧ Below w.heap.size w w' := by
  refine (open_at h (DS.byt.fmt n)).mono ?_
  rintro e w' ⟨⟨pv, rfl, hp⟩, hb⟩
  have h0 := fmt_open n h4 hn
  rcases hp with ⟨h1, _⟩ | ⟨_, b, gs, mb, rfl, h1, h2, h3, hp⟩
  · exact absurd h0 h1
  · rw [fmt_at n h4 hn] at hp
    exact ⟨b, gs, mb, by rw [h0], ⟨gs, mb, own, hp, rfl⟩, hb⟩

set_option maxRecDepth 100000 in
set_option maxHeartbeats 4000000 in
theorem alive_any (w : World) : Calls Try.prog 12 #[] w fun e w' => e = .returned (.bool true) ∧ Below w.heap.size w w' := by
  go_enter Try.func12, Try.ntmps12
  go_wp2_with fail
  refine (new_yes 6 _ (by omega) (by omega)).mono ?_
  rintro e w1 ⟨db, own, rfl, hd1, hb1⟩
  have HD1 := hid hd1
  have HB1 := hid hb1
  clear hd1 hb1
  go_wp2_with (first | (go_at_call 11; refine (no_any' _ _).mono ?_; rintro e wa ⟨rfl, rfl⟩))
  have hF := format_all HD1.out (DS.byt.blank 6) (by simp [DS.blank]) (by simp [DS.blank])
  rw [format_blank 6 (by omega)] at hF
  refine hF.mono ?_
  rintro e w2 ⟨rfl, own2, hd2, hk2, hn2⟩
  have HD2 := hid hd2
  have HB2 := hid (HD1.out.below hk2 HB1.out (Nat.le_refl _))
  clear hd2 hk2 hn2 hF
  go_wp2_with (first | (go_at_call 11; refine (no_any' _ _).mono ?_; rintro e wb ⟨rfl, rfl⟩))
  refine (open_fmt HD2.out (by omega) (by omega)).mono ?_
  rintro e w3 ⟨b, gs, mb, rfl, hp3, hb3⟩
  have HP3 := hid hp3
  have HB3 := hid (HB2.out.trans (hb3.mono HB2.out.size))
  clear hp3 hb3 HD2 HB2 HD1 HB1
  have h3 := hid (gen_any HP3.out)
  go_wp2_with (first | (go_at_call 11; refine (no_any' _ _).mono ?_; rintro e wc ⟨rfl, rfl⟩) | (go_at_call 24; refine h3.out.mono ?_; rintro e wd ⟨rfl, rfl⟩))
  have hp := put_all HP3.out (by rw [show (PS.fmt 6).D = DS.fmt 6 from rfl, (fmt_facts 6 (by omega)).2.2.1]; omega) (by rw [show (PS.fmt 6).D = DS.fmt 6 from rfl, (fmt_facts 6 (by omega)).2.1]; decide) 7 ⟨#[97]⟩ (by unfold maxLen; decide)
  rw [aS1] at hp
  refine hp.mono ?_
  rintro e w4 ⟨rfl, all4, hp4, hk4, hn4⟩
  have HP4 := hid hp4
  have HB4 := hid (DidP.below HP3.out hk4 HB3.out (Nat.le_refl _))
  clear hp4 hk4 hn4 hp h3 HP3 HB3
  have h4 := hid (free_any HP4.out)
  rw [show cntFree aP1.st = 3 by decide] at h4
  go_wp2_with (first | (go_at_call 26; refine h4.out.mono ?_; rintro e we ⟨rfl, rfl⟩))
  have hp := commit_all HP4.out (by rw [aN1.1]; omega) ⟨#[114]⟩ (by unfold maxLen; decide)
  rw [aS2] at hp
  refine hp.mono ?_
  rintro e w5 ⟨rfl, all5, hp5, hk5, hn5⟩
  have HP5 := hid hp5
  have HB5 := hid (DidP.below HP4.out hk5 HB4.out (Nat.le_refl _))
  clear hp5 hk5 hn5 hp h4 HP4 HB4
  go_wp2_with fail
  have hp := drop_all HP5.out 2
  rw [aS3] at hp
  refine hp.mono ?_
  rintro e w6 ⟨rfl, all6, hp6, hk6, hn6⟩
  have HP6 := hid hp6
  have HB6 := hid (DidP.below HP5.out hk6 HB5.out (Nat.le_refl _))
  clear hp6 hk6 hn6 hp HP5 HB5
  have h6 := hid (free_any HP6.out)
  rw [show cntFree aP3.st = 3 by decide] at h6
  go_wp2_with (first | (go_at_call 26; refine h6.out.mono ?_; rintro e we ⟨rfl, rfl⟩))
  have hp := commit_all HP6.out (by rw [aN3]; omega) ⟨#[115]⟩ (by unfold maxLen; decide)
  rw [aS4] at hp
  refine hp.mono ?_
  rintro e w7 ⟨rfl, all7, hp7, hk7, hn7⟩
  have HP7 := hid hp7
  have HB7 := hid (DidP.below HP6.out hk7 HB6.out (Nat.le_refl _))
  clear hp7 hk7 hn7 hp h6 HP6 HB6
  have h7 := hid (free_any HP7.out)
  rw [show cntFree aP4.st = 4 by decide] at h7
  have h8 := hid (gen_any HP7.out)
  have h9 := hid (rootc_any HP7.out)
  rw [show aP4.gen = 3 from rfl] at h8
  rw [show aP4.root = ⟨#[115]⟩ from rfl] at h9
  go_wp2_with (first | (go_at_call 11; refine (no_any' _ _).mono ?_; rintro e wc ⟨rfl, rfl⟩) | (go_at_call 26; refine h7.out.mono ?_; rintro e we ⟨rfl, rfl⟩) | (go_at_call 24; refine h8.out.mono ?_; rintro e we ⟨rfl, rfl⟩) | (go_at_call 25; refine h9.out.mono ?_; rintro e we ⟨rfl, rfl⟩))
  go_ret
  exact ⟨rfl, HB7.out⟩
end Go.Proofs.Ytambgimfbdecpaa
namespace Go.Proofs.Ytambgimfbdecpaa
open Go.RowKit Go.Maps
set_option linter.unusedVariables false

def roomSt (a n i : Nat) : List (Int × Int) := (0, 0) :: (0, 0) :: (List.replicate (i - 2) ((a : Int), (0 : Int)) ++ List.replicate (n - i) (0, 0))
theorem roomSt_length (a n i : Nat) (h2 : 2 ≤ i) (hi : i ≤ n) : (roomSt a n i).length = n := by simp [roomSt]; omega
theorem roomSt_at (a n i j : Nat) (h2 : 2 ≤ i) (hi : i ≤ n) (hj : 2 ≤ j) (hjn : j < n) : stOf (roomSt a n i) j = if j < i then (a : Int) else 0 := by
  obtain ⟨m, rfl⟩ : ∃ m, j = m + 2 := ⟨j - 2, by omega⟩
  unfold stOf roomSt
  rw [List.getD_eq_getElem?_getD, List.getElem?_cons_succ, List.getElem?_cons_succ, List.getElem?_append, List.length_replicate]
  by_cases h : m + 2 < i
  · rw [if_pos (by omega), List.getElem?_replicate, if_pos (by omega), if_pos h]; rfl
  · rw [if_neg (by omega), List.getElem?_replicate, if_pos (by omega), if_neg h]; rfl
theorem roomSt_low (a n i : Nat) (ha : a ≠ 0) (h2 : 2 ≤ i) (hi : i < n) : lowFree (roomSt a n i) = i :=
  lowFree_yes (by rw [roomSt_length a n i h2 (by omega)]; exact hi) h2 (by rw [roomSt_at a n i i h2 (by omega) h2 hi, if_neg (by omega)])
    (fun j hj hji => by rw [roomSt_at a n i j h2 (by omega) hj (by omega), if_pos hji]; omega)
theorem roomSt_full (a n : Nat) (ha : a ≠ 0) (h2 : 2 ≤ n) : lowFree (roomSt a n n) = 0 :=
  lowFree_no (fun j hj hjn => by rw [roomSt_length a n n h2 (Nat.le_refl _)] at hjn; rw [roomSt_at a n n j h2 (Nat.le_refl _) hj hjn, if_pos hjn]; omega)
theorem roomSt_set (a n i : Nat) (h2 : 2 ≤ i) (hi : i < n) : (roomSt a n i).set i ((a : Int), 0) = roomSt a n (i + 1) := by
  obtain ⟨m, rfl⟩ : ∃ m, i = m + 2 := ⟨i - 2, by omega⟩
  unfold roomSt
  rw [List.set_cons_succ, List.set_cons_succ, List.set_append_right _ _ (by rw [List.length_replicate]; omega), List.length_replicate, show m - (m + 2 - 2) = 0 by omega, show n - (m + 2) = (n - (m + 2 + 1)) + 1 by omega, List.replicate_succ, List.set_cons_zero,
    show m + 2 + 1 - 2 = (m + 2 - 2) + 1 by omega, List.replicate_succ', List.append_assoc]
  rfl
theorem cnt_replicate (x : Int × Int) (m : Nat) : (List.replicate m x).countP (fun x => x.1 == 0) = if x.1 = 0 then m else 0 := by
  rw [List.countP_replicate]
  simp
theorem roomSt_cnt (a n i : Nat) (ha : a ≠ 0) : cntFree (roomSt a n i) = n - i := by
  unfold cntFree roomSt
  rw [List.drop_succ_cons, List.drop_succ_cons, List.drop_zero, List.countP_append, cnt_replicate, cnt_replicate, if_neg (by simp; omega), if_pos rfl]
  omega
theorem roomSt_map (f : Int × Int → Int × Int) (a b n : Nat) (h0 : f (0, 0) = (0, 0)) (ha : f ((a : Int), 0) = ((b : Int), 0)) : (roomSt a n n).map f = roomSt b n n := by
  unfold roomSt
  simp [h0, ha]
theorem blank_room (n : Nat) (h : 2 ≤ n) : List.replicate n ((0 : Int), (0 : Int)) = roomSt 2 n 2 := by
  obtain ⟨m, rfl⟩ : ∃ m, n = m + 2 := ⟨n - 2, by omega⟩
  unfold roomSt
  rw [List.replicate_succ, List.replicate_succ]
  rfl

/-- A pager with some pages that were put. -/
structure Room (n i : Nat) (P : PS) : Prop where
  ok : P.ok
  gen : P.gen = 1
  st : P.st = roomSt 2 n i
  pins : P.pins = []
  n : P.D.n = n
  s : P.D.steps = 5 + ((i - 2 : Nat) : Int)
  w : P.D.waits.length = i - 2
theorem Room.start (n : Nat) (h : 4 ≤ n) : Room n 2 (PS.fmt n) :=
  ⟨PS.ok.fmt n, rfl, blank_room n (by omega), rfl, rfl, (fmt_facts n h).2.2.1, by rw [show (PS.fmt n).D = DS.fmt n from rfl, (fmt_facts n h).2.1]; rfl⟩
theorem Room.put {n i : Nat} {P : PS} (h : Room n i P) (h2 : 2 ≤ i) (hi : i < n) (s : ByteArray) (hs : s.size ≤ 492) : (P.put 3 s).1 = ((i : Int), 0) ∧ Room n (i + 1) (P.put 3 s).2 := by
  have hl : lowFree P.st = i := by rw [h.st]; exact roomSt_low 2 n i (by omega) h2 hi
  rw [h.ok.put 3 s (by rw [h.gen]; unfold okPage; omega) hs (by rw [hl]; omega) (by rw [h.st, h.n]; exact roomSt_length 2 n i h2 (by omega)), hl]
  refine ⟨rfl, ⟨⟨h.ok.d.wrote _ _, h.ok.a⟩, h.gen, ?_, h.pins, h.n, ?_, ?_⟩⟩
  · show P.st.set i (2, 0) = _
    rw [h.st]
    exact roomSt_set 2 n i h2 hi
  · have := h.s
    simp only [DS.wrote]
    omega
  · have := h.w
    simp only [DS.wrote, List.length_append, List.length_cons, List.length_nil]
    omega
theorem Room.full {n : Nat} {P : PS} (h : Room n n P) (h2 : 2 ≤ n) (s : ByteArray) (hs : s.size ≤ 492) : P.put 3 s = ((0, 6), P) :=
  h.ok.putFull 3 s (by rw [h.gen]; unfold okPage; omega) hs (by rw [h.st]; exact roomSt_full 2 n (by omega) h2)
/-- Behind the first commit. -/
def room2St (x : Int × Int) (n : Nat) : List (Int × Int) := (roomSt 1 n n).set 2 x
theorem room2_at (x : Int × Int) (n j : Nat) (h : 3 ≤ n) (hj : 2 ≤ j) (hjn : j < n) : stOf (room2St x n) j = if j = 2 then x.1 else 1 := by
  have hl := roomSt_length 1 n n (by omega) (Nat.le_refl _)
  unfold room2St stOf
  rw [List.getD_eq_getElem?_getD, List.getElem?_set]
  by_cases e : j = 2
  · subst e; rw [if_pos rfl, if_pos (by omega), if_pos rfl]; rfl
  · rw [if_neg (fun h => e h.symm), if_neg e]
    have := roomSt_at 1 n n j (by omega) (Nat.le_refl _) hj hjn
    unfold stOf at this
    rw [List.getD_eq_getElem?_getD] at this
    rw [this, if_pos hjn]
    rfl
theorem room2_length (x : Int × Int) (n : Nat) (h : 2 ≤ n) : (room2St x n).length = n := by unfold room2St; rw [List.length_set]; exact roomSt_length 1 n n h (Nat.le_refl _)
/-- A pager with these sheets, nothing waiting. -/
structure RoomB (n : Nat) (g : Int) (st : List (Int × Int)) (S : Int) (P : PS) : Prop where
  ok : P.ok
  gen : P.gen = g
  st : P.st = st
  pins : P.pins = []
  n : P.D.n = n
  s : P.D.steps ≤ S
  w : P.D.waits = []
theorem Room.commit {n : Nat} {P : PS} (h : Room n n P) (h4 : 4 ≤ n) (hn : n ≤ 60) : (P.commit ⟨#[97]⟩).1 = 0 ∧ RoomB n 2 (roomSt 1 n n) 100 (P.commit ⟨#[97]⟩).2 := by
  have hg : P.gen + 1 = 2 := by rw [h.gen]; rfl
  rw [h.ok.commit ⟨#[97]⟩ (by decide) (by rw [h.gen]; unfold okGen; omega) (by rw [h.n]; omega), hg]
  refine ⟨rfl, ⟨h.ok.d.laid _ _, h.ok.a⟩, rfl, ?_, h.pins, h.n, ?_, rfl⟩
  · show ((P.st.map _).map _).map _ = _
    rw [h.st, roomSt_map (turnF 2 (1, 0)) 2 1 n (by decide) (by decide), roomSt_map (turnF 3 (4, 2)) 1 1 n (by decide) (by decide), roomSt_map (relF _) 1 1 n (by simp [relF]) (by simp [relF])]
  · show (DS.laid _ _ _).steps ≤ 100
    rw [(laid_facts _ _ _).2.2, h.s]
    omega
theorem RoomB.drop {n : Nat} {P : PS} (h : RoomB n 2 (roomSt 1 n n) 100 P) (h4 : 4 ≤ n) : (P.drop 2).1 = 0 ∧ RoomB n 2 (room2St (3, 0) n) 100 (P.drop 2).2 := by
  have hs : stOf P.st 2 = 1 := by rw [h.st, roomSt_at 1 n n 2 (by omega) (Nat.le_refl _) (by omega) (by omega), if_pos (by omega)]; rfl
  have hl : P.st.length = n := by rw [h.st]; exact roomSt_length 1 n n (by omega) (Nat.le_refl _)
  have hu : usedP P.st 2 = true := by
    unfold usedP
    rw [hl, show (2 : Int).toNat = 2 from rfl, hs, decide_eq_true (by omega)]
    rfl
  have e : P.drop 2 = (0, { P with st := P.st.set 2 (3, 0) }) := by
    unfold PS.drop
    rw [if_neg (by simp [h.ok.a]), hu, if_neg (by simp), show (2 : Int).toNat = 2 from rfl, hs, if_neg (by decide), if_pos rfl]
  rw [e]
  exact ⟨rfl, ⟨h.ok.d, h.ok.a⟩, h.gen, by show P.st.set 2 (3, 0) = _; rw [h.st]; rfl, h.pins, h.n, h.s, h.w⟩
theorem RoomB.full {n : Nat} {P : PS} (h : RoomB n 2 (room2St (3, 0) n) 100 P) (h4 : 4 ≤ n) (s : ByteArray) (hs : s.size ≤ 492) : P.put 3 s = ((0, 6), P) :=
  h.ok.putFull 3 s (by rw [h.gen]; unfold okPage; omega) hs (by
    rw [h.st]
    refine lowFree_no (fun j hj hjn => ?_)
    rw [room2_length _ _ (by omega)] at hjn
    rw [room2_at _ n j (by omega) hj hjn]
    split <;> omega)
theorem room2_map (f : Int × Int → Int × Int) (x y : Int × Int) (n : Nat) (h0 : f (0, 0) = (0, 0)) (h1 : f (1, 0) = (1, 0)) (hx : f x = y) : (room2St x n).map f = room2St y n := by
  unfold room2St
  rw [List.map_set, hx, roomSt_map f 1 1 n h0 h1]
theorem RoomB.commit {n : Nat} {P : PS} (h : RoomB n 2 (room2St (3, 0) n) 100 P) (h4 : 4 ≤ n) : (P.commit ⟨#[98]⟩).1 = 0 ∧ RoomB n 3 (room2St (0, 0) n) 110 (P.commit ⟨#[98]⟩).2 := by
  have hg : P.gen + 1 = 3 := by rw [h.gen]; rfl
  rw [h.ok.commit ⟨#[98]⟩ (by decide) (by rw [h.gen]; unfold okGen; omega) (by rw [h.n]; omega), hg]
  refine ⟨rfl, ⟨h.ok.d.laid _ _, h.ok.a⟩, rfl, ?_, h.pins, h.n, ?_, rfl⟩
  · show ((P.st.map _).map _).map _ = _
    rw [h.st, h.pins, room2_map (turnF 2 (1, 0)) (3, 0) (3, 0) n (by decide) (by decide) (by decide), room2_map (turnF 3 (4, 3)) (3, 0) (4, 3) n (by decide) (by decide) (by decide), room2_map (relF (lowPin [] 3)) (4, 3) (0, 0) n (by decide) (by decide) (by decide)]
  · show (DS.laid _ _ _).steps ≤ 110
    rw [(laid_facts _ _ _).2.2]
    have := h.s
    omega
theorem RoomB.put {n : Nat} {P : PS} (h : RoomB n 3 (room2St (0, 0) n) 110 P) (h4 : 4 ≤ n) (s : ByteArray) (hs : s.size ≤ 492) : (P.put 3 s).1 = (2, 0) := by
  have hl : lowFree P.st = 2 := by
    rw [h.st]
    exact lowFree_yes (by rw [room2_length _ _ (by omega)]; omega) (by omega) (by rw [room2_at _ n 2 (by omega) (by omega) (by omega), if_pos rfl]) (fun j h1 h2 => by omega)
  rw [h.ok.put 3 s (by rw [h.gen]; unfold okPage; omega) hs (by rw [hl]; omega) (by rw [h.st, h.n]; exact room2_length _ _ (by omega)), hl]
  rfl
end Go.Proofs.Ytambgimfbdecpaa
