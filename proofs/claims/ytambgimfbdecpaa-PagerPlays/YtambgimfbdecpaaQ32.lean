/- What this text holds: both are opened ('open'). · What this text holds: calls that are handed in, and whether they are few. · What this text holds: both disks, with pagers over them or without: what is done to the disks themselves. -/
import Derived.Test.YtambgimfbdecpaaQ31
import Derived.Test.YtambgimfbdecpaaQ17
import Derived.Test.YtambgimfbdecpaaQ14
import Derived.Deep.QuietTactic
namespace Go.Proofs.Ytambgimfbdecpaa
open Go.RowKit
set_option linter.unusedVariables false
set_option linter.unusedSimpArgs false

theorem guest_set {w : World} {al ar : List Nat} {k t j : Nat} {cs : List Value} {v : Value} (h : Guest.on (k, cs, t) w al ar) : Guest.on (k, cs.set j v, t) (w.setCell ⟨k, j, none⟩ v) al ar := by
  refine ⟨?_, h.2⟩
  show (w.setCell ⟨k, j, none⟩ v).heap[k]? = _
  rw [heap_setCell_same _ _ _ _ _ _ h.1]
  simp
theorem DuoD.setX {w : World} {B db c : Nat} {al ar : List Nat} {D E : DS} {xb t j : Nat} {cs : List Value} {v : Value} (h : DuoD w B [(xb, cs, t)] db c al ar D E) : DuoD (w.setCell ⟨xb, j, none⟩ v) B [(xb, cs.set j v, t)] db c al ar D E := by
  have hk := Kept.setCell [xb] w ⟨xb, j, none⟩ v (by simp)
  obtain ⟨g1, g2, g3⟩ := h.g _ (List.mem_singleton.2 rfl)
  refine { d := h.d.keep hk (fun i hi hm => by simp only [List.mem_singleton] at hm; subst hm; exact g2 hi), r := h.r.keep hk (fun i hi hm => by simp only [List.mem_singleton] at hm; subst hm; exact g3 hi), dis := h.dis, g := ?_, hB := by simpa using h.hB }
  intro x hx
  simp only [List.mem_singleton] at hx
  subst hx
  exact guest_set ⟨g1, g2, g3⟩
theorem Duo.setX {w : World} {B b db r c : Nat} {al ar : List Nat} {P : PS} {R : RS} {xb t j : Nat} {cs : List Value} {v : Value} (h : Duo w B [(xb, cs, t)] b db r c al ar P R) : Duo (w.setCell ⟨xb, j, none⟩ v) B [(xb, cs.set j v, t)] b db r c al ar P R := by
  have hk := Kept.setCell [xb] w ⟨xb, j, none⟩ v (by simp)
  obtain ⟨g1, g2, g3⟩ := h.g _ (List.mem_singleton.2 rfl)
  refine { p := h.p.keep hk (fun i hi hm => by simp only [List.mem_singleton] at hm; subst hm; exact g2 hi), r := h.r.keep hk (fun i hi hm => by simp only [List.mem_singleton] at hm; subst hm; exact g3 hi), dis := h.dis, g := ?_, hB := by simpa using h.hB }
  intro x hx
  simp only [List.mem_singleton] at hx
  subst hx
  exact guest_set ⟨g1, g2, g3⟩
/-- How both stand: without pagers, or with. -/
def St (w : World) (B xb db c k : Nat) : Prop :=
  (∃ al ar D, DuoD w B [(xb, [.pointer (some ⟨db, 0, none⟩), .pointer none, .pointer (some ⟨c, 0, none⟩), .pointer none], 39)] db c al ar D D ∧ D.byt ∧ LimD D k) ∨
  (∃ b r al ar P R, Duo w B [(xb, [.pointer (some ⟨db, 0, none⟩), .pointer (some ⟨b, 0, none⟩), .pointer (some ⟨c, 0, none⟩), .pointer (some ⟨r, 0, none⟩)], 39)] b db r c al ar P R ∧ Sim P R ∧ Lim P k)
/-- Both pagers come to be. -/
theorem duo_of {w w1 w2 : World} {B db c b r gs mb gi gf : Nat} {G : List Guest} {al ar : List Nat} {D : DS} (h : DuoD w B G db c al ar D D) (hb1 : Below w.heap.size w w1) (hb2 : Below w1.heap.size w1 w2)
    (p1 : w.heap.size ≤ b) (p2 : w.heap.size ≤ gs) (p3 : w.heap.size ≤ mb) (hp : PAt w1 B b db gs mb al (PS.at D 2)) (r1 : w1.heap.size ≤ r) (r2 : w1.heap.size ≤ gi) (r3 : w1.heap.size ≤ gf) (hr : RAt w2 B r c gi gf (.slice none 0 0) ar (RS.at D 2)) :
    Duo w2 B G b db r c (b :: gs :: mb :: al) (rall r gi gf (.slice none 0 0) ar) (PS.at D 2) (RS.at D 2) := by
  have hs1 := hb1.size
  have hlp := hp.lt
  have lb := (hlp b (by simp)).2
  have lg := (hlp gs (by simp)).2
  have lm := (hlp mb (by simp)).2
  refine { p := ⟨gs, mb, al, hp.later hb2, rfl⟩, r := ⟨gi, gf, _, ar, hr, rfl⟩, dis := ?_, g := ?_, hB := Nat.le_trans h.hB (Nat.le_trans hs1 hb2.size) }
  · intro i hi hm
    simp only [List.mem_cons] at hi
    simp only [rall, Value.ownBlock, Option.toList, List.nil_append, List.mem_cons] at hm
    have h5 : i ∈ ar → i < w.heap.size := fun h' => (h.r.lt i h').2
    have h6 : i ∈ al → i < w.heap.size := fun h' => (h.d.lt i h').2
    rcases hi with rfl | rfl | rfl | hi <;> rcases hm with hm | hm | hm | hm <;> try (first | omega | (have := h5 hm; omega))
    · have := h6 hi; omega
    · have := h6 hi; omega
    · have := h6 hi; omega
    · exact h.dis i hi hm
  · intro x hx
    obtain ⟨g1, g2, g3⟩ := h.g x hx
    have hlt := (Array.getElem?_eq_some_iff.1 g1).1
    refine ⟨(hb2.block x.1 (Nat.lt_of_lt_of_le hlt hs1)).trans ((hb1.block x.1 hlt).trans g1), ?_, ?_⟩
    · simp only [List.mem_cons, not_or]
      exact ⟨by omega, by omega, by omega, g2⟩
    · simp only [rall, Value.ownBlock, Option.toList, List.nil_append, List.mem_cons, not_or]
      exact ⟨by omega, by omega, by omega, g3⟩

theorem DuoD.xc {w : World} {B db c : Nat} {G : List Guest} {al ar : List Nat} {D E : DS} (h : DuoD w B G db c al ar D E) {k : Nat} {cs : List Value} {t : Nat} (hm : ((k, cs, t) : Guest) ∈ G) {j : Nat} {v : Value} (hv : cs[j]? = some v) : w.cell? ⟨k, j, none⟩ = some v := Guest.cell (h.g _ hm) hv
theorem one_mem {x : Guest} : x ∈ [x] := by simp
theorem openE_4 {D : DS} (h : D.openE = 0) : 4 ≤ D.n := by
  unfold DS.openE at h
  by_cases h4 : 4 ≤ D.n
  · exact h4
  · simp [h4] at h
set_option maxRecDepth 100000 in
set_option maxHeartbeats 4000000 in
theorem bopen_any {w : World} {B xb db c k : Nat} {al ar : List Nat} {D : DS} {pv0 rv0 : Value} (h : DuoD w B [(xb, [.pointer (some ⟨db, 0, none⟩), pv0, .pointer (some ⟨c, 0, none⟩), rv0], 39)] db c al ar D D) (hy : D.byt) (hl : LimD D k) (hx : B ≤ xb) :
    Calls Try.prog 16 #[.pointer (some ⟨xb, 0, none⟩)] w fun e w' => e = .returned (.bool true) ∧ St w' B xb db c k ∧ Below B w w' := by
  have x0 := h.xc (k := xb) one_mem (j := 0) rfl
  have x2 := h.xc (k := xb) one_mem (j := 2) rfl
  have H := hid h
  have HY := hid hy
  have HL := hid hl
  have hB := h.hB
  clear h hy hl
  go_enter Try.func16, Try.ntmps16
  go_wp2_with fail
  refine (open_at H.out.d HY.out).mono ?_
  rintro e w1 ⟨⟨pv, rfl, hc1⟩, hb1⟩
  have H1 := hid (H.out.later hb1)
  have HC1 := hid hc1
  have Hb1 := hid hb1
  have hB1 := Nat.le_trans hB hb1.size
  clear hc1 hb1 x0 x2
  have x2 := H1.out.xc (k := xb) one_mem (j := 2) rfl
  go_wp2_with fail
  refine (ropen_at H1.out.r HY.out).mono ?_
  rintro e w2 ⟨⟨rv, rfl, hc2⟩, hb2⟩
  have H2 := hid (H1.out.later hb2)
  have Hb2 := hid hb2
  have HB2 := hid ((Hb1.out.mono hB).trans (hb2.mono hB1))
  clear hb2 x2
  have x1 := H2.out.xc (k := xb) one_mem (j := 1) rfl
  have x3 := H2.out.xc (k := xb) one_mem (j := 3) rfl
  have f1 := Guest.free (H2.out.g _ one_mem) 1
  have f3 := Guest.free (H2.out.g _ one_mem) 3
  simp only at f1 f3
  rcases HC1.out with ⟨he, rfl⟩ | ⟨he, b, gs, mb, rfl, p1, p2, p3, hp⟩
  · rcases hc2 with ⟨he2, rfl⟩ | ⟨he2, _⟩
    · clear HC1
      generalize D.openE = q at *
      clear he he2
      go_wp2_with (first | (go_at_call 11; refine (no_any _ _).mono ?_; rintro e wz ⟨rfl, rfl⟩))
      go_ret
      refine ⟨by simp, .inl ⟨_, _, _, (H2.out.setX (j := 1) (v := .pointer none)).setX (j := 3) (v := .pointer none), HY.out, HL.out⟩, (HB2.out.setCell hx _).setCell hx _⟩
    · exact absurd he2 he
  · rcases hc2 with ⟨he2, _⟩ | ⟨he2, r, gi, gf, rfl, r1, r2, r3, hr⟩
    · exact absurd he he2
    · have HD := hid (duo_of H.out Hb1.out Hb2.out p1 p2 p3 hp r1 r2 r3 hr)
      have HS := hid (Sim.open D (openE_4 he))
      have HLm : Hid (Lim (PS.at D 2) k) := ⟨HL.out.st, HL.out.wt, Nat.zero_le _, Nat.zero_le _⟩
      clear HC1 hp hr p1 p2 p3 r1 r2 r3
      rw [he]
      clear he he2
      go_wp2_with (first | (go_at_call 11; refine (no_any _ _).mono ?_; rintro e wz ⟨rfl, rfl⟩))
      go_ret
      refine ⟨by simp, .inr ⟨b, r, _, _, _, _, (HD.out.setX (j := 1) (v := .pointer (some ⟨b, 0, none⟩))).setX (j := 3) (v := .pointer (some ⟨r, 0, none⟩)), HS.out, HLm.out⟩, (HB2.out.setCell hx _).setCell hx _⟩
end Go.Proofs.Ytambgimfbdecpaa
namespace Go.Proofs.Ytambgimfbdecpaa
open Go.RowKit
set_option linter.unusedVariables false
set_option linter.unusedSimpArgs false

/-- A call as plain data. -/
structure ActV where
  kind : Int
  n : Int
  m : Int
  s : ByteArray
  ka : Option Addr
  klen : Nat
  kcap : Nat
  ks : List (Int × Int)
structure ActAt (w : World) (ab o : Nat) (v : ActV) : Prop where
  c0 : w.cell? ⟨ab, o, none⟩ = some (.int .i64 v.kind)
  c1 : w.cell? ⟨ab, o + 1, none⟩ = some (.int .i64 v.n)
  c2 : w.cell? ⟨ab, o + 2, none⟩ = some (.int .i64 v.m)
  c3 : w.cell? ⟨ab, o + 3, none⟩ = some (.string v.s)
  c4 : w.cell? ⟨ab, o + 4, none⟩ = some (.slice v.ka v.klen v.kcap)
  n1 : -9223372036854775808 ≤ v.n
  n2 : v.n ≤ 9223372036854775807
  sm : v.s.size ≤ maxLen
  k : KeepsOk w v.ka v.klen v.ks
theorem ActAt.later {w w' : World} {ab o : Nat} {v : ActV} (h : ActAt w ab o v) (hb : Below w.heap.size w w') : ActAt w' ab o v :=
  ⟨cell_later hb h.c0, cell_later hb h.c1, cell_later hb h.c2, cell_later hb h.c3, cell_later hb h.c4, h.n1, h.n2, h.sm, h.k.later hb⟩
def ActsOk (w : World) (a : Option Addr) (len : Nat) (l : List ActV) : Prop :=
  l.length = len ∧ len ≤ maxLen ∧ (len = 0 ∨ ∃ ab ao, a = some ⟨ab, ao, none⟩ ∧ ∀ j (hj : j < l.length), ActAt w ab (ao + j * 5) l[j])
theorem ActsOk.later {w w' : World} {a : Option Addr} {len : Nat} {l : List ActV} (h : ActsOk w a len l) (hb : Below w.heap.size w w') : ActsOk w' a len l := by
  refine ⟨h.1, h.2.1, ?_⟩
  rcases h.2.2 with h0 | ⟨ab, ao, e, hk⟩
  · exact .inl h0
  · exact .inr ⟨ab, ao, e, fun j hj => (hk j hj).later hb⟩
section
variable {H : Type} {enc : TypeId × Value → H} {W : World} {held : Bool}
theorem cells42 : Try.prog.cellsOf 42 = 5 := by kernel_rfl
theorem cells40 : Try.prog.cellsOf 40 = 1 := by kernel_rfl
theorem cells9p : Try.prog.cellsOf 9 = 1 := by kernel_rfl
theorem cells3p : Try.prog.cellsOf 3 = 1 := by kernel_rfl
set_option maxRecDepth 100000 in
theorem open_act {n : Nat} {cs : List Value} {y : DataW H × List MemPlace} (hl : cs.length = 5) (h : DataW.trod enc Try.prog W 0 (fun _ => true) held n 42 cs = some y) :
    ∃ v : ActV, cs = [.int .i64 v.kind, .int .i64 v.n, .int .i64 v.m, .string v.s, .slice v.ka v.klen v.kcap] ∧ -9223372036854775808 ≤ v.n ∧ v.n ≤ 9223372036854775807 ∧ v.s.size ≤ maxLen ∧ KeepsOk W v.ka v.klen v.ks := by
  obtain ⟨xs, k, hk, hxy, _, hxl, hf⟩ := DataW.trod_struct Try.underlying42 h
  have hxl5 : xs.length = 5 := hxl
  match cs, hl, xs, hxl5 with
  | [v0, v1, v2, v3, v4], _, [y0, y1, y2, y3, y4], _ =>
    have g0 : DataW.trod enc Try.prog W 0 (fun _ => true) held k 3 [v0] = some y0 := by
      have h9 : DataW.trod enc Try.prog W 0 (fun _ => true) held k 3 (([v0, v1, v2, v3, v4].drop 0).take (Try.prog.cellsOf 3)) = [y0, y1, y2, y3, y4][0]? := hf 0 _ rfl
      rw [cells3p] at h9
      exact h9
    have g1 : DataW.trod enc Try.prog W 0 (fun _ => true) held k 3 [v1] = some y1 := by
      have h9 : DataW.trod enc Try.prog W 0 (fun _ => true) held k 3 (([v0, v1, v2, v3, v4].drop 1).take (Try.prog.cellsOf 3)) = [y0, y1, y2, y3, y4][1]? := hf 1 _ rfl
      rw [cells3p] at h9
      exact h9
    have g2 : DataW.trod enc Try.prog W 0 (fun _ => true) held k 3 [v2] = some y2 := by
      have h9 : DataW.trod enc Try.prog W 0 (fun _ => true) held k 3 (([v0, v1, v2, v3, v4].drop 2).take (Try.prog.cellsOf 3)) = [y0, y1, y2, y3, y4][2]? := hf 2 _ rfl
      rw [cells3p] at h9
      exact h9
    have g3 : DataW.trod enc Try.prog W 0 (fun _ => true) held k 9 [v3] = some y3 := by
      have h9 : DataW.trod enc Try.prog W 0 (fun _ => true) held k 9 (([v0, v1, v2, v3, v4].drop 3).take (Try.prog.cellsOf 9)) = [y0, y1, y2, y3, y4][3]? := hf 3 _ rfl
      rw [cells9p] at h9
      exact h9
    have g4 : DataW.trod enc Try.prog W 0 (fun _ => true) held k 40 [v4] = some y4 := by
      have h9 : DataW.trod enc Try.prog W 0 (fun _ => true) held k 40 (([v0, v1, v2, v3, v4].drop 4).take (Try.prog.cellsOf 40)) = [y0, y1, y2, y3, y4][4]? := hf 4 _ rfl
      rw [cells40] at h9
      exact h9
    obtain ⟨i0, e0, _, _⟩ := DataW.trod_int Try.underlying3 g0
    obtain ⟨i1, e1, _, w1⟩ := DataW.trod_int Try.underlying3 g1
    obtain ⟨i2, e2, _, _⟩ := DataW.trod_int Try.underlying3 g2
    obtain ⟨s3, e3, _, hs3⟩ := DataW.trod_string Try.underlying9 g3
    obtain ⟨ka, klen, kcap, e4⟩ : ∃ a l c, v4 = .slice a l c := by
      rcases Deep.open_slice Try.underlying40 g4 with ⟨hcs, _⟩ | ⟨a, len, cap, m, n, D, Pl, hcs, _⟩
      · simp at hcs; exact ⟨_, _, _, hcs⟩
      · simp at hcs; exact ⟨_, _, _, hcs⟩
    simp only [List.cons.injEq, and_true] at e0 e1 e2 e3
    subst e0 e1 e2 e3 e4
    obtain ⟨ks, hks⟩ := open_keeps g4
    have hb : -9223372036854775808 ≤ i1 ∧ i1 ≤ 9223372036854775807 := by simpa [Lit.wf, IntKind.min, IntKind.max, IntKind.signed, IntKind.bits] using w1
    exact ⟨⟨i0, i1, i2, s3, ka, klen, kcap, ks⟩, rfl, hb.1, hb.2, hs3, hks⟩
theorem open_acts {fuel : Nat} {a : Option Addr} {len cap : Nat} {x : DataW H × List MemPlace} (h : DataW.trod enc Try.prog W 0 (fun _ => true) held fuel 22 [.slice a len cap] = some x) : ∃ l, ActsOk W a len l := by
  rcases Deep.open_slice Try.underlying22 h with ⟨hcs, _⟩ | ⟨a', len', cap', m, n, D, Pl, hcs, _, hl, hm, hmm, _, hx⟩
  · simp at hcs
    obtain ⟨rfl, rfl, rfl⟩ := hcs
    exact ⟨[], rfl, by unfold maxLen; omega, .inl rfl⟩
  · simp only [List.cons.injEq, Value.slice.injEq, and_true] at hcs
    obtain ⟨rfl, rfl, rfl⟩ := hcs
    simp only [if_true] at hmm
    subst hmm
    rw [cells42] at hx
    have hact : ∀ i, i < m → ∃ v : ActV, W.cell? (a'.add (i * 5)) = some (.int .i64 v.kind) ∧ W.cell? (a'.add (i * 5 + 1)) = some (.int .i64 v.n) ∧ W.cell? (a'.add (i * 5 + 2)) = some (.int .i64 v.m) ∧
        W.cell? (a'.add (i * 5 + 3)) = some (.string v.s) ∧ W.cell? (a'.add (i * 5 + 4)) = some (.slice v.ka v.klen v.kcap) ∧ -9223372036854775808 ≤ v.n ∧ v.n ≤ 9223372036854775807 ∧ v.s.size ≤ maxLen ∧ KeepsOk W v.ka v.klen v.ks := fun i hi => by
      obtain ⟨cs', h1, h2⟩ := hx i hi
      obtain ⟨_, hlen, hcell⟩ := World.cells?_some h1
      obtain ⟨v, rfl, b1, b2, hsm, hk⟩ := open_act hlen h2
      refine ⟨v, ?_, ?_, ?_, ?_, ?_, b1, b2, hsm, hk⟩
      · have := hcell 0 (by omega); rw [Deep.add_add] at this; simpa using this
      · have := hcell 1 (by omega); rw [Deep.add_add] at this; simpa using this
      · have := hcell 2 (by omega); rw [Deep.add_add] at this; simpa using this
      · have := hcell 3 (by omega); rw [Deep.add_add] at this; simpa using this
      · have := hcell 4 (by omega); rw [Deep.add_add] at this; simpa using this
    have hinh : Inhabited ActV := ⟨⟨0, 0, 0, ⟨#[]⟩, none, 0, 0, []⟩⟩
    obtain ⟨f, hf⟩ := Deep.choose_lt hact
    refine ⟨(List.range len).map f, by simp, by omega, ?_⟩
    by_cases h0 : len = 0
    · exact .inl h0
    · right
      obtain ⟨ab, ao, sp⟩ := a'
      have hsp : sp = none := by
        have := (hf 0 (by omega)).1
        simp only [Nat.zero_mul, Addr.add, if_true, World.cell?] at this
        cases sp with
        | none => rfl
        | some s => split at this <;> simp at this
      subst hsp
      refine ⟨ab, ao, rfl, fun j hj => ?_⟩
      simp only [List.length_map, List.length_range] at hj
      obtain ⟨k0, k1, k2, k3, k4, b1, b2, hsm, hk⟩ := hf j (by omega)
      rw [Addr.add_mid] at k0 k1 k2 k3 k4
      simp only [List.getElem_map, List.getElem_range]
      exact ⟨k0, by rw [← Nat.add_assoc] at k1; exact k1, by rw [← Nat.add_assoc] at k2; exact k2, by rw [← Nat.add_assoc] at k3; exact k3, by rw [← Nat.add_assoc] at k4; exact k4, b1, b2, hsm, hk⟩
end
/-- What 'few' ends in. -/
def FewPost (w : World) (len : Nat) (e : Ending) (w' : World) : Prop := (∃ r, e = .returned (.bool r) ∧ (r = true → len ≤ 60)) ∧ Below w.heap.size w w'

set_option maxRecDepth 100000 in
set_option maxHeartbeats 2000000 in
theorem few_any (w : World) (a : Option Addr) (len cap : Nat) (l : List ActV) (h : ActsOk w a len l) :
    Calls Try.prog 13 #[.slice a len cap] w (FewPost w len) := by
  have hm := h.2.1
  unfold maxLen at hm
  have HA := hid h
  clear h
  go_enter Try.func13, Try.ntmps13
  go_wp2_with fail
  go_loopw [3, 4] (fun m q wr => ∃ (k : Nat) (x : Int), k ≤ len ∧ q = .int .i64 k ∧ m = .int .i64 x ∧ Below w.heap.size w wr) (fun _ q _ => len - (intOf q).toNat)
  case atStart => exact ⟨0, _, by omega, rfl, rfl, Below.refl _ _⟩
  case round =>
    obtain ⟨k, x, hk, rfl, rfl, hb⟩ := hrel
    have HB := hid hb
    by_cases hlt : k < len ∧ k ≤ 60
    · obtain ⟨hlt, h80⟩ := hlt
      have hlt' : (k : Int) < len := by omega
      have h80' : (k : Int) ≤ 60 := by omega
      rcases HA.out.2.2 with h0 | ⟨ab, ao, rfl, hk⟩
      · omega
      · have hA := (hk k (by rw [HA.out.1]; exact hlt)).later hb
        have h3 := hA.c3
        have h4 := hA.c4
        have hkl := hA.k.2.1
        have hsz := hA.sm
        unfold maxLen at hkl hsz
        clear hk hA hb
        generalize l[k]'(by rw [HA.out.1]; exact hlt) = v at *
        obtain ⟨v1, v2, v3, vs, vka, vkl, vkc, vks⟩ := v
        simp only at h3 h4 hkl hsz
        go_wp2_with fail
        go_quiet (fail)
        all_goals go_wp2_with fail
        all_goals
          go_roundw
          case rel => exact ⟨k + 1, _, by omega, by go_num, rfl, HB.out.trans ((below_drewN _ _).mono HB.out.size)⟩
          case measure => simp [intOf]; omega
    · by_cases h1 : k < len
      · have h2 : ¬ (k : Int) ≤ 60 := by omega
        have h3 : ¬ (len : Int) ≤ 60 := by omega
        have h4 : (k : Int) < len := by omega
        clear hlt hb
        go_wp2_with fail
        go_ret
        exact ⟨⟨_, rfl, fun h => by simp at h⟩, HB.out⟩
      · have h2 : k = len := by omega
        subst h2
        clear hlt hb
        have h3 : ¬ (k : Int) < k := by omega
        by_cases h60 : (k : Int) ≤ 60
        · go_wp2_with fail
          go_ret
          exact ⟨⟨_, rfl, fun _ => by omega⟩, HB.out⟩
        · go_wp2_with fail
          go_ret
          exact ⟨⟨_, rfl, fun h => by simp at h⟩, HB.out⟩
end Go.Proofs.Ytambgimfbdecpaa
namespace Go.Proofs.Ytambgimfbdecpaa
open Go.RowKit
set_option linter.unusedVariables false
set_option linter.unusedSimpArgs false

/-- Both disks, D and E; pagers over them, or none. -/
def Duet (w : World) (B db c k : Nat) (G : List Guest) (D E : DS) (pv rv : Value) : Prop :=
  (pv = .pointer none ∧ rv = .pointer none ∧ D.byt ∧ E.byt ∧ ∃ al ar, DuoD w B G db c al ar D E) ∨
  (∃ b r al ar P R, pv = .pointer (some ⟨b, 0, none⟩) ∧ rv = .pointer (some ⟨r, 0, none⟩) ∧ Duo w B G b db r c al ar { P with D := D } { R with D := E } ∧ Sim P R ∧ Lim P k ∧ D.n = P.D.n ∧ E.n = P.D.n ∧ D.byt ∧ E.byt)
section
variable {w w1 : World} {B db c k : Nat} {G : List Guest} {D E : DS} {pv rv : Value}
theorem Duet.guest (h : Duet w B db c k G D E pv rv) {x : Guest} (hx : x ∈ G) : w.heap[x.1]? = some (.cells x.2.1.toArray x.2.2 (0, 0)) := by
  rcases h with ⟨_, _, _, _, al, ar, h⟩ | ⟨b, r, al, ar, P, R, _, _, h, _⟩
  · exact (h.g x hx).1
  · exact (h.g x hx).1
theorem Duet.xc (h : Duet w B db c k G D E pv rv) {q : Nat} {cs : List Value} {t : Nat} (hm : ((q, cs, t) : Guest) ∈ G) {j : Nat} {v : Value} (hv : cs[j]? = some v) : w.cell? ⟨q, j, none⟩ = some v := by
  simp only [World.cell?, h.guest hm]
  simpa using hv
theorem Duet.hB (h : Duet w B db c k G D E pv rv) : B ≤ w.heap.size := by
  rcases h with ⟨_, _, _, _, al, ar, h⟩ | ⟨b, r, al, ar, P, R, _, _, h, _⟩
  · exact h.hB
  · exact h.hB
theorem Duet.later (h : Duet w B db c k G D E pv rv) (hb : Below w.heap.size w w1) : Duet w1 B db c k G D E pv rv := by
  rcases h with ⟨h1, h2, h3, h4, al, ar, h⟩ | ⟨b, r, al, ar, P, R, h1, h2, h, h3⟩
  · exact .inl ⟨h1, h2, h3, h4, al, ar, h.later hb⟩
  · exact .inr ⟨b, r, al, ar, P, R, h1, h2, h.later hb, h3⟩
theorem Duet.box (h : Duet w B db c k G D E pv rv) (cs : List Value) (t : Nat) : Duet (w.alloc (.cells cs.toArray t)) B db c k ((w.heap.size, cs, t) :: G) D E pv rv := by
  rcases h with ⟨h1, h2, h3, h4, al, ar, h⟩ | ⟨b, r, al, ar, P, R, h1, h2, h, h3⟩
  · exact .inl ⟨h1, h2, h3, h4, al, ar, h.box cs t⟩
  · exact .inr ⟨b, r, al, ar, P, R, h1, h2, h.box cs t, h3⟩
theorem Duet.less {x : Guest} (h : Duet w B db c k (x :: G) D E pv rv) : Duet w B db c k G D E pv rv := by
  rcases h with ⟨h1, h2, h3, h4, al, ar, h⟩ | ⟨b, r, al, ar, P, R, h1, h2, h, h3⟩
  · exact .inl ⟨h1, h2, h3, h4, al, ar, h.less⟩
  · exact .inr ⟨b, r, al, ar, P, R, h1, h2, h.less, h3⟩
/-- The program's disk turns. -/
theorem Duet.leftK (h : Duet w B db c k G D E pv rv) : ∃ own, Disk w B db own D ∧ (∀ x ∈ G, x.1 ∉ own) ∧ ∀ (w1 : World) (own' : List Nat) (D' : DS), Disk w1 B db own' D' → Kept own w w1 → (∀ q ∈ own', q ∈ own ∨ w.heap.size ≤ q) → D'.n = D.n → D'.byt → Duet w1 B db c k G D' E pv rv ∧ Below B w w1 := by
  rcases h with ⟨h1, h2, h3, h4, al, ar, h⟩ | ⟨b, r, al, ar, P, R, h1, h2, h, h3, h4, h5, h6, h7, h8⟩
  · refine ⟨al, h.d, fun x hx => (h.g x hx).2.1, fun w1 own' D' hd hk hn he hy => ?_⟩
    obtain ⟨a1, a2⟩ := h.leftK hd hk hn
    exact ⟨.inl ⟨h1, h2, hy, h4, _, _, a1⟩, a2⟩
  · obtain ⟨own, ho, hs, hf⟩ := h.leftK
    refine ⟨own, ho, fun x hx hm => (h.g x hx).2.1 (hs _ hm), fun w1 own' D' hd hk hn he hy => ?_⟩
    obtain ⟨al', a1, a2⟩ := hf w1 own' D' hd hk hn he hy
    exact ⟨.inr ⟨b, r, al', ar, P, R, h1, h2, a1, h3, h4, he.trans h5, h6, hy, h8⟩, a2⟩
theorem Duet.rightK (h : Duet w B db c k G D E pv rv) : ∃ own, RDisk w B c own E ∧ (∀ x ∈ G, x.1 ∉ own) ∧ ∀ (w1 : World) (own' : List Nat) (D' : DS), RDisk w1 B c own' D' → Kept own w w1 → (∀ q ∈ own', q ∈ own ∨ w.heap.size ≤ q) → D'.n = E.n → D'.byt → Duet w1 B db c k G D D' pv rv ∧ Below B w w1 := by
  rcases h with ⟨h1, h2, h3, h4, al, ar, h⟩ | ⟨b, r, al, ar, P, R, h1, h2, h, h3, h4, h5, h6, h7, h8⟩
  · refine ⟨ar, h.r, fun x hx => (h.g x hx).2.2, fun w1 own' D' hd hk hn he hy => ?_⟩
    obtain ⟨a1, a2⟩ := h.rightK hd hk hn
    exact ⟨.inl ⟨h1, h2, h3, hy, _, _, a1⟩, a2⟩
  · obtain ⟨own, ho, hs, hf⟩ := h.rightK
    refine ⟨own, ho, fun x hx hm => (h.g x hx).2.2 (hs _ hm), fun w1 own' D' hd hk hn he hy => ?_⟩
    obtain ⟨ar', a1, a2⟩ := hf w1 own' D' hd hk hn he hy
    exact ⟨.inr ⟨b, r, al, ar', P, R, h1, h2, a1, h3, h4, h5, he.trans h6, h7, hy⟩, a2⟩
theorem Duet.byt (h : Duet w B db c k G D E pv rv) : D.byt ∧ E.byt := by
  rcases h with ⟨h1, h2, h3, h4, _⟩ | ⟨b, r, al, ar, P, R, h1, h2, h, h3, h4, h5, h6, h7, h8⟩
  · exact ⟨h3, h4⟩
  · exact ⟨h7, h8⟩
/-- Fuse. -/
theorem Duet.fuseL (h : Duet w B db c k G D E pv rv) (n : Int) (hn : n ≤ 9223372036854775807) : Calls Try.prog 17 #[.pointer (some ⟨db, 0, none⟩), .int .i64 n] w fun e w' => e = .returned (.tuple #[]) ∧ Duet w' B db c k G (D.fused n) E pv rv ∧ Below B w w' := by
  obtain ⟨own, ho, _, hf⟩ := h.leftK
  refine (fuse_all ho n hn).mono ?_
  rintro e w' ⟨rfl, hd, hk⟩
  exact ⟨rfl, hf w' own _ hd hk (fun q hq => .inl hq) rfl (h.byt.1.fused n)⟩
theorem Duet.fuseR (h : Duet w B db c k G D E pv rv) (n : Int) (hn : n ≤ 9223372036854775807) : Calls Try.prog 18 #[.pointer (some ⟨c, 0, none⟩), .int .i64 n] w fun e w' => e = .returned (.tuple #[]) ∧ Duet w' B db c k G D (E.fused n) pv rv ∧ Below B w w' := by
  obtain ⟨own, ho, _, hf⟩ := h.rightK
  refine (rfuse_all ho n hn).mono ?_
  rintro e w' ⟨rfl, hd, hk⟩
  exact ⟨rfl, hf w' own _ hd hk (fun q hq => .inl hq) rfl (h.byt.2.fused n)⟩
/-- Write of bytes that lie in a block beside. -/
theorem Duet.writeL (h : Duet w B db c k G D E pv rv) (hs : D.steps < 1000) (hw : D.waits.length < 200) (i : Int) {g : Nat} {l : List Int} (hg : ((g, bc l, 5) : Guest) ∈ G) (hl : l.length = 512) (hb : Byt l) :
    Calls Try.prog 21 #[.pointer (some ⟨db, 0, none⟩), .int .i64 i, .slice (some ⟨g, 0, none⟩) 512 512] w fun e w' => e = .returned (.int .i64 (D.write i l).1) ∧ Duet w' B db c k G (D.write i l).2 E pv rv ∧ Below B w w' := by
  obtain ⟨own, ho, hno, hf⟩ := h.leftK
  have hsrc : ∀ j v, (bc l)[j]? = some v → w.cell? ((⟨g, 0, none⟩ : Addr).add j) = some v := fun j v hv => by rw [Addr.add_mid, Nat.zero_add]; exact h.xc hg hv
  refine (write_all ho hs hw i (some ⟨g, 0, none⟩) 512 512 l (by unfold maxLen; omega) ?_ (fun x hx => by obtain rfl := Option.some.inj hx; exact hno _ hg)).mono ?_
  · exact ⟨hl, fun _ => ⟨_, rfl, hsrc⟩⟩
  · rintro e w' ⟨rfl, own', hd, hk, hn⟩
    exact ⟨rfl, hf w' own' _ hd hk hn (write_grow D i l).1 (h.byt.1.write i l hb)⟩
theorem Duet.writeR (h : Duet w B db c k G D E pv rv) (hs : E.steps < 1000) (hw : E.waits.length < 200) (i : Int) {g : Nat} {l : List Int} (hg : ((g, bc l, 5) : Guest) ∈ G) (hl : l.length = 512) (hb : Byt l) :
    Calls Try.prog 22 #[.pointer (some ⟨c, 0, none⟩), .int .i64 i, .slice (some ⟨g, 0, none⟩) 512 512] w fun e w' => e = .returned (.int .i64 (E.write i l).1) ∧ Duet w' B db c k G D (E.write i l).2 pv rv ∧ Below B w w' := by
  obtain ⟨own, ho, hno, hf⟩ := h.rightK
  have hsrc : ∀ j v, (bc l)[j]? = some v → w.cell? ((⟨g, 0, none⟩ : Addr).add j) = some v := fun j v hv => by rw [Addr.add_mid, Nat.zero_add]; exact h.xc hg hv
  refine (rwrite_all ho hs hw i ⟨g, 0, none⟩ 512 512 l (by unfold maxLen; omega) hl ?_ (hno _ hg)).mono ?_
  · exact hsrc
  · rintro e w' ⟨rfl, own', hd, hk, hn⟩
    exact ⟨rfl, hf w' own' _ hd hk hn (write_grow E i l).1 (h.byt.2.write i l hb)⟩
/-- Crash. -/
theorem Duet.crashL (h : Duet w B db c k G D E pv rv) (ka : Option Addr) (klen kcap : Nat) (ks : List (Int × Int)) (hk : KeepsOk w ka klen ks) : Calls Try.prog 19 #[.pointer (some ⟨db, 0, none⟩), .slice ka klen kcap] w (MadeDisk w (D.crash ks)) := by
  obtain ⟨own, ho, _, _⟩ := h.leftK
  exact crash_all ho ka klen kcap ks hk
theorem Duet.crashR (h : Duet w B db c k G D E pv rv) (ka : Option Addr) (klen kcap : Nat) (ks : List (Int × Int)) (hk : KeepsOk w ka klen ks) : Calls Try.prog 20 #[.pointer (some ⟨c, 0, none⟩), .slice ka klen kcap] w (RMade w (E.crash ks)) := by
  obtain ⟨own, ho, _, _⟩ := h.rightK
  exact rcrash_all ho ka klen kcap ks hk
end
theorem St.mid {w : World} {B xb db c k : Nat} (h : St w B xb db c k) : ∃ D pv rv, Duet w B db c k [(xb, [.pointer (some ⟨db, 0, none⟩), pv, .pointer (some ⟨c, 0, none⟩), rv], 39)] D D pv rv ∧ D.steps ≤ 10 + 4 * k ∧ D.waits.length ≤ 10 + 2 * k := by
  rcases h with ⟨al, ar, D, h, hy, hl⟩ | ⟨b, r, al, ar, P, R, h, hs, hl⟩
  · exact ⟨D, .pointer none, .pointer none, .inl ⟨rfl, rfl, hy, hy, al, ar, h⟩, hl.st, hl.wt⟩
  · have e : R = { R with D := P.D } := by rw [← hs.D]
    have hy : P.D.byt := by obtain ⟨gs, mb, own, hp, _⟩ := h.p; exact hp.byt
    exact ⟨P.D, _, _, .inr ⟨b, r, al, ar, P, R, rfl, rfl, by rw [← e]; exact h, hs, hl, rfl, rfl, hy, hy⟩, hl.st, hl.wt⟩
theorem Duet.st {w : World} {B xb db c k : Nat} {D : DS} {pv rv : Value} (h : Duet w B db c k [(xb, [.pointer (some ⟨db, 0, none⟩), pv, .pointer (some ⟨c, 0, none⟩), rv], 39)] D D pv rv) (h1 : D.steps ≤ 10 + 4 * (k + 1)) (h2 : D.waits.length ≤ 10 + 2 * (k + 1)) : St w B xb db c (k + 1) := by
  rcases h with ⟨rfl, rfl, h3, h4, al, ar, h⟩ | ⟨b, r, al, ar, P, R, rfl, rfl, h, h3, h4, h5, h6, h7, h8⟩
  · exact .inl ⟨al, ar, D, h, h3, ⟨h1, h2⟩⟩
  · exact .inr ⟨b, r, al, ar, _, _, h, h3.disk D h5, ⟨h1, h2, by have := h4.pn; show P.pins.length ≤ _; omega, by have := h4.pm; show P.pm ≤ _; omega⟩⟩
theorem RDisk.base {w : World} {B B' c : Nat} {own : List Nat} {D : DS} (h : RDisk w B c own D) (hB : B' ≤ B) : RDisk w B' c own D := by
  obtain ⟨gl, lc, wv, hd, rfl⟩ := h
  exact ⟨gl, lc, wv, { hd with L := ownsRow_base hd.L hB, W := ownsRow_base hd.W hB, hB := Nat.le_trans hB hd.hB }, rfl⟩
theorem Disk.base2 {w : World} {B B' b : Nat} {own : List Nat} {D : DS} (h : Disk w B b own D) (hB : B' ≤ B) : Disk w B' b own D := by
  obtain ⟨bs, sc, wv, hd, rfl⟩ := h
  exact ⟨bs, sc, wv, hd.base hB, rfl⟩
/-- Two new disks. -/
theorem made_duo {w w1 w2 : World} {B db c : Nat} {al ar : List Nat} {D E : DS} {G : List Guest} (hB : B ≤ w.heap.size) (hd : Disk w1 w.heap.size db al D) (hb1 : Below w.heap.size w w1) {w1' : World} (hbm : Below w1.heap.size w1 w1') (hr : RDisk w2 w1'.heap.size c ar E) (hb2 : Below w1'.heap.size w1' w2)
    (hg : ∀ x ∈ G, w.heap[x.1]? = some (.cells x.2.1.toArray x.2.2 (0, 0))) : DuoD w2 B G db c al ar D E := by
  have h12 : Below w1.heap.size w1 w2 := hbm.trans (hb2.mono hbm.size)
  have hs1 := hb1.size
  have hsm := hbm.size
  refine { d := (hd.base2 hB).keep (Kept.ofBelow h12 []) (by simp), r := hr.base (by omega), dis := ?_, g := ?_, hB := by have := h12.size; omega }
  · intro i hi hm
    have h1 := (hd.lt i hi).2
    have h2 := (hr.lt i hm).1
    omega
  · intro x hx
    have hgx := hg x hx
    have hlt := (Array.getElem?_eq_some_iff.1 hgx).1
    refine ⟨(h12.block x.1 (by omega)).trans ((hb1.block x.1 hlt).trans hgx), fun hm => ?_, fun hm => ?_⟩
    · have := (hd.lt _ hm).1; omega
    · have := (hr.lt _ hm).1; omega
theorem Duet.add {w w1 : World} {B db c k g t : Nat} {G : List Guest} {D E : DS} {pv rv : Value} {cs : List Value} (h : Duet w B db c k G D E pv rv) (hb : Below w.heap.size w w1) (hg : w1.heap[g]? = some (.cells cs.toArray t (0, 0))) (hge : w.heap.size ≤ g) : Duet w1 B db c k ((g, cs, t) :: G) D E pv rv := by
  rcases h with ⟨h1, h2, h3, h4, al, ar, h⟩ | ⟨b, r, al, ar, P, R, h1, h2, h, h3⟩
  · refine .inl ⟨h1, h2, h3, h4, al, ar, { h.later hb with g := fun x hx => ?_ }⟩
    simp only [List.mem_cons] at hx
    rcases hx with rfl | hx
    · exact ⟨hg, fun hm => by have := (h.d.lt _ hm).2; simp only at this; omega, fun hm => by have := (h.r.lt _ hm).2; simp only at this; omega⟩
    · exact (h.later hb).g x hx
  · refine .inr ⟨b, r, al, ar, P, R, h1, h2, { h.later hb with g := fun x hx => ?_ }, h3⟩
    simp only [List.mem_cons] at hx
    rcases hx with rfl | hx
    · exact ⟨hg, fun hm => by have := (h.p.lt _ hm).2; simp only at this; omega, fun hm => by have := (h.r.lt _ hm).2; simp only at this; omega⟩
    · exact (h.later hb).g x hx
end Go.Proofs.Ytambgimfbdecpaa
