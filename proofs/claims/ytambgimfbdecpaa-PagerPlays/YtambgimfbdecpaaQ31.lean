/- What this text holds: Use of the program's pager, of two pages. · What this text holds: Use of two pages: both alike. · What this text holds: both pagers, and both disks, side by side in memory. · What this text holds: how far a pager's numbers grow in a call. -/
import Derived.Test.YtambgimfbdecpaaQ17
import Derived.Test.YtambgimfbdecpaaQ30
namespace Go.Proofs.Ytambgimfbdecpaa
open Go.RowKit Go.Maps
set_option linter.unusedVariables false

/-- Use of two pages. -/
def PS.use2 (P : PS) (n m : Int) : Int × PS :=
  if P.dead = true then (9, P) else if useE P.st n ≠ 0 then (useE P.st n, P)
  else if useE (P.st.set n.toNat (1, 0)) m ≠ 0 then (useE (P.st.set n.toNat (1, 0)) m, { P with st := (P.st.set n.toNat (1, 0)).set n.toNat (0, 0) })
  else (0, { P with st := (P.st.set n.toNat (1, 0)).set m.toNat (1, 0) })

section
variable {w : World} {B b db gs mb : Nat} {own : List Nat} {P : PS}
set_option maxRecDepth 100000 in
set_option maxHeartbeats 2000000 in
theorem use2_at (h : PAt w B b db gs mb own P) (q : Nat) (n m : Int) (hc0 : w.cell? ⟨q, 0, none⟩ = some (.int .i64 n)) (hc1 : w.cell? ⟨q, 1, none⟩ = some (.int .i64 m)) (hq : q ≠ gs) :
    Calls Try.prog 39 #[.pointer (some ⟨b, 0, none⟩), .slice (some ⟨q, 0, none⟩) 2 2] w (DidP w B b db (b :: gs :: mb :: own) (.int .i64 (P.use2 n m).1) (P.use2 n m).2) := by
  have HR := hid (ready_any h)
  have HH := hid h
  by_cases hd : P.dead = true
  · have HE : Hid (P.use2 n m = (9, P)) := by show P.use2 n m = _; unfold PS.use2; rw [if_pos hd]
    rw [if_pos hd] at HR
    clear h hd
    go_enter Try.func39, Try.ntmps39
    go_wp2_with (first | (go_at_call 61; refine HR.out.mono ?_; rintro e wa ⟨rfl, rfl⟩))
    go_ret
    rw [HE.out]
    exact DidP.same HH.out
  · rw [if_neg hd] at HR
    have HU := hid (use1_at h n)
    by_cases he : useE P.st n ≠ 0
    · have HE : Hid (P.use2 n m = (useE P.st n, P)) := by show P.use2 n m = _; unfold PS.use2; rw [if_neg hd, if_pos he]
      have e1 : useSt P.st n = P.st := by unfold useSt; rw [if_neg he]
      rw [e1] at HU
      have he' : (useE P.st n != 0) = true := by rw [bne_iff_ne]; exact he
      generalize useE P.st n = E at HU HE he'
      clear h hd he e1
      go_enter Try.func39, Try.ntmps39
      go_wp2_with (first | (go_at_call 61; refine HR.out.mono ?_; rintro e wa ⟨rfl, rfl⟩))
      refine wp_loop_rounds 1 ?_
      rw [rounds_succ]
      go_wp2_with fail
      refine HU.out.mono ?_
      rintro e w1 ⟨rfl, h1, hk1⟩
      have H1 := hid h1
      have HK1 := hid (hk1.mono (T := b :: gs :: mb :: own) (fun i _ hi => by simp only [List.mem_singleton] at hi; simp [hi]))
      clear h1 hk1
      go_wp2_with fail
      refine wp_loop_rounds 1 ?_
      rw [rounds_succ]
      go_wp2_with fail
      go_ret
      rw [HE.out]
      exact DidP.at H1.out HK1.out
    · have he0 : useE P.st n = 0 := by simpa using he
      have e1 : useSt P.st n = P.st.set n.toNat (1, 0) := by unfold useSt; rw [if_pos he0]
      rw [e1, he0] at HU
      have hpg : 2 ≤ n ∧ n < P.D.n := by
        rw [← h.len]
        by_cases q : 2 ≤ n ∧ n < P.st.length
        · exact q
        · unfold useE at he0; rw [if_pos q] at he0; omega
      obtain ⟨N, rfl⟩ : ∃ N : Nat, n = N := ⟨n.toNat, by omega⟩
      rw [Int.toNat_natCast] at HU
      have hN : N < P.D.n := by omega
      have hN' : (N : Int) < P.D.n := by omega
      have hmx := h.max
      have HU2 := hid (fun (w1 : World) (h1 : PAt w1 B b db gs mb own { P with st := P.st.set N (1, 0) }) => use1_at h1 m)
      simp only at HU2
      by_cases he2 : useE (P.st.set N (1, 0)) m ≠ 0
      · have HE : Hid (P.use2 N m = (useE (P.st.set N (1, 0)) m, { P with st := (P.st.set N (1, 0)).set N (0, 0) })) := by show P.use2 N m = _; unfold PS.use2; rw [if_neg hd, if_neg he, Int.toNat_natCast, if_pos he2]
        have e2 : useSt (P.st.set N (1, 0)) m = P.st.set N (1, 0) := by unfold useSt; rw [if_neg he2]
        rw [e2] at HU2
        have he' : (useE (P.st.set N (1, 0)) m != 0) = true := by rw [bne_iff_ne]; exact he2
        generalize useE (P.st.set N (1, 0)) m = E at HU2 HE he'
        clear h hd he e1 he0 he2 e2
        go_enter Try.func39, Try.ntmps39
        go_wp2_with (first | (go_at_call 61; refine HR.out.mono ?_; rintro e wa ⟨rfl, rfl⟩))
        refine wp_loop_rounds 2 ?_
        rw [rounds_succ]
        go_wp2_with fail
        refine HU.out.mono ?_
        rintro e w1 ⟨rfl, h1, hk1⟩
        have H1 := hid h1
        have HK1 := hid hk1
        have d1 := hk1.cell hc1 (by simpa using hq)
        clear h1 hk1
        go_wp2_with fail
        rw [rounds_succ]
        go_wp2_with fail
        refine (HU2.out _ H1.out).mono ?_
        rintro e w2 ⟨rfl, h2, hk2⟩
        have H2 := hid h2
        have HK2 := hid (HK1.out.trans hk2 (fun _ _ h => h))
        have f0 := HK2.out.cell hc0 (by simpa using hq)
        obtain ⟨p0, p1, p2, p3, p4, p5⟩ := h2.cells
        obtain ⟨r1, r2⟩ := h2.shAt.at_ N hN
        obtain ⟨x1, hx1⟩ : ∃ x1, w2.cell? ⟨gs, N * 2, none⟩ = some (.int .i64 x1) := ⟨_, r1⟩
        obtain ⟨x2, hx2⟩ : ∃ x2, w2.cell? ⟨gs, N * 2 + 1, none⟩ = some (.int .i64 x2) := ⟨_, r2⟩
        have hf1 := h2.shAt.free (N * 2)
        have hf2 := h2.shAt.free (N * 2 + 1)
        simp only at p1
        clear h2 hk2 r1 r2
        go_wp2_with fail
        refine wp_loop_rounds 2 ?_
        rw [rounds_succ]
        go_wp2_with fail
        rw [rounds_succ]
        go_wp2_with fail
        go_ret
        rw [HE.out]
        exact DidP.at (H2.out.setSt (H2.out.shAt.set H2.out.n1 N hN (0, 0)) (setSh_kept w2 gs N (0, 0))) ((HK2.out.trans (setSh_kept w2 gs N (0, 0)) (fun _ _ h => h)).mono (fun i _ hi => by simp only [List.mem_singleton] at hi; simp [hi]))
      · have he20 : useE (P.st.set N (1, 0)) m = 0 := by simpa using he2
        have HE : Hid (P.use2 N m = (0, { P with st := (P.st.set N (1, 0)).set m.toNat (1, 0) })) := by show P.use2 N m = _; unfold PS.use2; rw [if_neg hd, if_neg he, Int.toNat_natCast, if_neg he2]
        have e2 : useSt (P.st.set N (1, 0)) m = (P.st.set N (1, 0)).set m.toNat (1, 0) := by unfold useSt; rw [if_pos he20]
        rw [e2, he20] at HU2
        clear h hd he e1 he0 he2 e2 he20
        go_enter Try.func39, Try.ntmps39
        go_wp2_with (first | (go_at_call 61; refine HR.out.mono ?_; rintro e wa ⟨rfl, rfl⟩))
        refine wp_loop_rounds 3 ?_
        rw [rounds_succ]
        go_wp2_with fail
        refine HU.out.mono ?_
        rintro e w1 ⟨rfl, h1, hk1⟩
        have H1 := hid h1
        have HK1 := hid hk1
        have d1 := hk1.cell hc1 (by simpa using hq)
        clear h1 hk1
        go_wp2_with fail
        rw [rounds_succ]
        go_wp2_with fail
        refine (HU2.out _ H1.out).mono ?_
        rintro e w2 ⟨rfl, h2, hk2⟩
        have H2 := hid h2
        have HK2 := hid ((HK1.out.trans hk2 (fun _ _ h => h)).mono (T := b :: gs :: mb :: own) (fun i _ hi => by simp only [List.mem_singleton] at hi; simp [hi]))
        clear h2 hk2
        go_wp2_with fail
        rw [rounds_succ]
        go_wp2_with fail
        go_ret
        rw [HE.out]
        exact DidP.at H2.out HK2.out
end
end Go.Proofs.Ytambgimfbdecpaa
namespace Go.Proofs.Ytambgimfbdecpaa
open Go.RowKit
set_option linter.unusedVariables false
set_option linter.unusedSimpArgs false

theorem use2_E (R : RS) (n m : Int) : R.useE [n, m] = match R.useAt [n, m] 0 with
    | some e => e
    | none => (R.useAt [n, m] 1).getD 0 := by
  unfold RS.useE
  have e : List.range [n, m].length = [0, 1] := rfl
  rw [e]
  simp only [List.findSome?_cons, List.findSome?_nil]
  cases R.useAt [n, m] 0 with
  | some x => rfl
  | none =>
    cases R.useAt [n, m] 1 with
    | some x => rfl
    | none => rfl
theorem set_same (l : List Int) (k : Nat) (h : l.getD k 0 = 0) : l.set k 0 = l := by
  apply List.ext_getElem (by simp)
  intro i h1 h2
  rw [List.getElem_set]
  split
  · rename_i e
    subst e
    simpa [List.getD, List.getElem?_eq_getElem h2] using h.symm
  · rfl
theorem Sim.use {P : PS} {R : RS} (h : Sim P R) (n m : Int) : (P.use2 n m).1 = (R.use [n, m]).1 ∧ Sim (P.use2 n m).2 (R.use [n, m]).2 := by
  obtain ⟨D, is, fo, pins, gen, root, dead⟩ := R
  obtain rfl : D = P.D := h.D
  obtain rfl : is = P.st.map (·.1) := h.is
  obtain rfl : dead = P.dead := h.dead
  unfold PS.use2 RS.use
  rw [use2_E]
  dsimp only
  by_cases hd : P.dead = true
  · rw [if_pos hd, if_pos hd]; exact ⟨rfl, h⟩
  · rw [if_neg hd, if_neg hd]
    have g0 : [n, m].getD 0 0 = n := rfl
    have g1 : [n, m].getD 1 0 = m := rfl
    by_cases hp : 2 ≤ n ∧ n < P.D.n
    · have hk : n.toNat < P.st.length := by rw [h.len]; omega
      by_cases hs : stOf P.st n.toNat = 0
      · have eP : useE P.st n = 0 := by unfold useE; rw [if_neg (by rw [h.len]; exact fun q => q hp), if_neg (by simpa using hs)]
        have eR : RS.useAt ⟨P.D, P.st.map (·.1), fo, pins, gen, root, P.dead⟩ [n, m] 0 = none := by
          unfold RS.useAt
          rw [g0, if_neg (fun q => q hp), is_get, if_neg (by simpa using hs)]
          simp
        rw [eR, if_neg (by simpa using eP)]
        dsimp only
        have h1 := h.set n.toNat (by omega) hk 1 (by decide)
        have hk1 : n.toNat < (P.st.set n.toNat (1, 0)).length := by rw [List.length_set]; exact hk
        have back : Sim { P with st := (P.st.set n.toNat (1, 0)).set n.toNat (0, 0) } ⟨P.D, P.st.map (·.1), fo, pins, gen, root, P.dead⟩ := by
          have q := h.set n.toNat (by omega) hk 0 (by decide)
          dsimp only at q
          rw [set_same _ _ (by rw [is_get]; exact hs)] at q
          rw [List.set_set]
          exact q
        by_cases hp2 : 2 ≤ m ∧ m < P.D.n
        · have hk2 : m.toNat < P.st.length := by rw [h.len]; omega
          by_cases hbad : stOf P.st m.toNat ≠ 0 ∨ n = m
          · have eP2 : useE (P.st.set n.toNat (1, 0)) m = 8 := by
              unfold useE
              rw [if_neg (by rw [List.length_set, h.len]; exact fun q => q hp2), stOf_setI _ _ _ _ hk, if_pos]
              by_cases e : m.toNat = n.toNat
              · rw [if_pos e]; decide
              · rw [if_neg e]
                rcases hbad with q | q
                · exact q
                · exact absurd (by rw [q]) e
            have eR2 : RS.useAt ⟨P.D, P.st.map (·.1), fo, pins, gen, root, P.dead⟩ [n, m] 1 = some 8 := by
              unfold RS.useAt
              rw [g1, if_neg (fun q => q hp2), is_get]
              by_cases q : stOf P.st m.toNat ≠ 0
              · rw [if_pos q]
              · rw [if_neg q]
                have e : n = m := by rcases hbad with r | r; exact absurd r q; exact r
                rw [if_pos (by simp [e])]
            rw [eR2, eP2]
            exact ⟨rfl, back⟩
          · have hz : stOf P.st m.toNat = 0 := by
              by_cases q : stOf P.st m.toNat = 0
              · exact q
              · exact absurd (.inl q) hbad
            have hnm : n ≠ m := fun q => hbad (.inr q)
            have hnm' : ¬ m.toNat = n.toNat := by omega
            have eP2 : useE (P.st.set n.toNat (1, 0)) m = 0 := by
              unfold useE
              rw [if_neg (by rw [List.length_set, h.len]; exact fun q => q hp2), stOf_setI _ _ _ _ hk, if_neg hnm', if_neg (by simpa using hz)]
            have eR2 : RS.useAt ⟨P.D, P.st.map (·.1), fo, pins, gen, root, P.dead⟩ [n, m] 1 = none := by
              unfold RS.useAt
              rw [g1, if_neg (fun q => q hp2), is_get, if_neg (by simpa using hz), if_neg (by simpa using hnm)]
            rw [eR2, eP2]
            exact ⟨rfl, h1.set m.toNat (by omega) (by rw [List.length_set]; exact hk2) 1 (by decide)⟩
        · have eP2 : useE (P.st.set n.toNat (1, 0)) m = 3 := by unfold useE; rw [if_pos (by rw [List.length_set, h.len]; exact hp2)]
          have eR2 : RS.useAt ⟨P.D, P.st.map (·.1), fo, pins, gen, root, P.dead⟩ [n, m] 1 = some 3 := by unfold RS.useAt; rw [g1, if_pos hp2]
          rw [eR2, eP2]
          exact ⟨rfl, back⟩
      · have eP : useE P.st n = 8 := by unfold useE; rw [if_neg (by rw [h.len]; exact fun q => q hp), if_pos hs]
        have eR : RS.useAt ⟨P.D, P.st.map (·.1), fo, pins, gen, root, P.dead⟩ [n, m] 0 = some 8 := by
          unfold RS.useAt
          rw [g0, if_neg (fun q => q hp), is_get, if_pos hs]
        rw [eR, eP]
        exact ⟨rfl, h⟩
    · have eP : useE P.st n = 3 := by unfold useE; rw [if_pos (by rw [h.len]; exact hp)]
      have eR : RS.useAt ⟨P.D, P.st.map (·.1), fo, pins, gen, root, P.dead⟩ [n, m] 0 = some 3 := by unfold RS.useAt; rw [g0, if_pos hp]
      rw [eR, eP]
      exact ⟨rfl, h⟩
end Go.Proofs.Ytambgimfbdecpaa
namespace Go.Proofs.Ytambgimfbdecpaa
open Go.RowKit
set_option linter.unusedVariables false
set_option linter.unusedSimpArgs false

theorem Rpg.lt {w : World} {B b c : Nat} {all : List Nat} {R : RS} (h : Rpg w B b c all R) : ∀ i ∈ all, B ≤ i ∧ i < w.heap.size := by
  obtain ⟨gi, gf, pv, own, h, rfl⟩ := h
  exact h.lt
theorem Rpg.keep {w w' : World} {B b c : Nat} {all : List Nat} {R : RS} (h : Rpg w B b c all R) {S : List Nat} (k : Kept S w w') (hS : ∀ i ∈ all, i ∉ S) : Rpg w' B b c all R := by
  obtain ⟨gi, gf, pv, own, h, rfl⟩ := h
  exact ⟨gi, gf, pv, own, h.keep k hS, rfl⟩
theorem Rpg.later {w w' : World} {B b c : Nat} {all : List Nat} {R : RS} (h : Rpg w B b c all R) (hb : Below w.heap.size w w') : Rpg w' B b c all R := h.keep (Kept.ofBelow hb []) (by simp)

/-- A block that lies beside. -/
abbrev Guest := Nat × List Value × Nat
def Guest.on (x : Guest) (w : World) (al ar : List Nat) : Prop := w.heap[x.1]? = some (.cells x.2.1.toArray x.2.2 (0, 0)) ∧ x.1 ∉ al ∧ x.1 ∉ ar
theorem Guest.cell {x : Guest} {w : World} {al ar : List Nat} (h : Guest.on x w al ar) {j : Nat} {v : Value} (hv : x.2.1[j]? = some v) : w.cell? ⟨x.1, j, none⟩ = some v := by
  simp only [World.cell?, h.1]
  simpa using hv
theorem Guest.free {x : Guest} {w : World} {al ar : List Nat} (h : Guest.on x w al ar) (j : Nat) : w.frozen? ⟨x.1, j, none⟩ = false := by
  simp [World.frozen?, h.1]

/-- Both pagers. -/
structure Duo (w : World) (B : Nat) (G : List Guest) (b db r c : Nat) (al ar : List Nat) (P : PS) (R : RS) : Prop where
  p : Pgr w B b db al P
  r : Rpg w B r c ar R
  dis : ∀ i ∈ al, i ∉ ar
  g : ∀ x ∈ G, Guest.on x w al ar
  hB : B ≤ w.heap.size
section
variable {w w1 : World} {B b db r c : Nat} {G : List Guest} {al ar : List Nat} {P : PS} {R : RS}
theorem Duo.later (h : Duo w B G b db r c al ar P R) (hb : Below w.heap.size w w1) : Duo w1 B G b db r c al ar P R :=
  { p := h.p.later hb, r := h.r.later hb, dis := h.dis, g := fun x hx => ⟨(hb.block x.1 (Array.getElem?_eq_some_iff.1 (h.g x hx).1).1).trans (h.g x hx).1, (h.g x hx).2⟩, hB := Nat.le_trans h.hB hb.size }
theorem Duo.left {v : Value} {P' : PS} {e : Ending} (h : Duo w B G b db r c al ar P R) (d : DidP w B b db al v P' e w1) : e = .returned v ∧ ∃ al', Duo w1 B G b db r c al' ar P' R ∧ Below B w w1 := by
  obtain ⟨rfl, al', hp, hk, hn⟩ := d
  refine ⟨rfl, al', ⟨hp, h.r.keep hk (fun i hi hm => h.dis i hm hi), ?_, ?_, Nat.le_trans h.hB hk.size⟩, hk.below (fun i hi => (h.p.lt i hi).1) h.hB⟩
  · intro i hi hr
    rcases hn i hi with h1 | h1
    · exact h.dis i h1 hr
    · have := (h.r.lt i hr).2; omega
  · intro x hx
    obtain ⟨g1, g2, g3⟩ := h.g x hx
    have hlt := (Array.getElem?_eq_some_iff.1 g1).1
    exact ⟨(hk.block x.1 hlt g2).trans g1, fun hm => (hn _ hm).elim (fun h1 => g2 h1) (fun h1 => by omega), g3⟩
theorem Duo.right {v : Value} {R' : RS} {e : Ending} (h : Duo w B G b db r c al ar P R) (d : DidR w B r c ar v R' e w1) : e = .returned v ∧ ∃ ar', Duo w1 B G b db r c al ar' P R' ∧ Below B w w1 := by
  obtain ⟨rfl, ar', hp, hk, hn⟩ := d
  refine ⟨rfl, ar', ⟨h.p.keep hk (fun i hi hm => h.dis i hi hm), hp, ?_, ?_, Nat.le_trans h.hB hk.size⟩, hk.below (fun i hi => (h.r.lt i hi).1) h.hB⟩
  · intro i hi hr
    rcases hn i hr with h1 | h1
    · exact h.dis i hi h1
    · have := (h.p.lt i hi).2; omega
  · intro x hx
    obtain ⟨g1, g2, g3⟩ := h.g x hx
    have hlt := (Array.getElem?_eq_some_iff.1 g1).1
    exact ⟨(hk.block x.1 hlt g3).trans g1, g2, fun hm => (hn _ hm).elim (fun h1 => g3 h1) (fun h1 => by omega)⟩
/-- A new block beside. -/
theorem Duo.box (h : Duo w B G b db r c al ar P R) (cs : List Value) (t : Nat) : Duo (w.alloc (.cells cs.toArray t)) B ((w.heap.size, cs, t) :: G) b db r c al ar P R := by
  have hl := h.later (w1 := w.alloc (.cells cs.toArray t)) ((Below.refl _ _).alloc (Nat.le_refl _) _)
  refine { hl with g := ?_ }
  intro x hx
  simp only [List.mem_cons] at hx
  rcases hx with rfl | hx
  · exact ⟨heap_alloc_new w _, fun hm => by have := (h.p.lt _ hm).2; simp at this, fun hm => by have := (h.r.lt _ hm).2; simp at this⟩
  · exact hl.g x hx
theorem Duo.less {x : Guest} (h : Duo w B (x :: G) b db r c al ar P R) : Duo w B G b db r c al ar P R := { h with g := fun y hy => h.g y (List.mem_cons_of_mem _ hy) }
theorem Duo.rput (h : Duo w B G b db r c al ar P R) (hs : R.D.steps < 1000) (hw : R.D.waits.length < 200) (kind : Int) (s : ByteArray) (hm : s.size ≤ maxLen) :
    Calls Try.prog 51 #[.pointer (some ⟨r, 0, none⟩), .int .i64 kind, .string s] w (DidR w B r c ar (.tuple #[.int .i64 (R.put kind s).1.1, .int .i64 (R.put kind s).1.2]) (R.put kind s).2) := by
  obtain ⟨gi, gf, pv, own, hq, rfl⟩ := h.r
  exact rput_at hq hs hw kind s hm
theorem Duo.rread (h : Duo w B G b db r c al ar P R) (n : Int) : Calls Try.prog 52 #[.pointer (some ⟨r, 0, none⟩), .int .i64 n] w (DidR w B r c ar (R.read n).1.val (R.read n).2) := by
  obtain ⟨gi, gf, pv, own, hq, rfl⟩ := h.r
  exact rread_at hq n
theorem Duo.rdrop (h : Duo w B G b db r c al ar P R) (n : Int) : Calls Try.prog 53 #[.pointer (some ⟨r, 0, none⟩), .int .i64 n] w (DidR w B r c ar (.int .i64 (R.drop n).1) (R.drop n).2) := by
  obtain ⟨gi, gf, pv, own, hq, rfl⟩ := h.r
  exact rdrop_at hq n
theorem Duo.rcommit (h : Duo w B G b db r c al ar P R) (hs : R.D.steps + 3 ≤ 1000) (s : ByteArray) (hm : s.size ≤ maxLen) : Calls Try.prog 54 #[.pointer (some ⟨r, 0, none⟩), .string s] w (DidR w B r c ar (.int .i64 (R.commit s).1) (R.commit s).2) := by
  obtain ⟨gi, gf, pv, own, hq, rfl⟩ := h.r
  exact rcommit_at hq hs s hm
theorem Duo.rabort (h : Duo w B G b db r c al ar P R) : Calls Try.prog 55 #[.pointer (some ⟨r, 0, none⟩)] w (DidR w B r c ar (.tuple #[]) R.abort) := by
  obtain ⟨gi, gf, pv, own, hq, rfl⟩ := h.r
  refine (rabort_at hq).mono ?_
  rintro e w' ⟨rfl, h', hk⟩
  exact DidR.at h' (hk.mono (fun i _ hi => by simp only [List.mem_singleton] at hi; subst hi; simp [rall]))
theorem Duo.rpin (h : Duo w B G b db r c al ar P R) (hl : R.pins.length ≤ 1000) : Calls Try.prog 56 #[.pointer (some ⟨r, 0, none⟩)] w (DidR w B r c ar (.int .i64 R.gen) R.pin) := by
  obtain ⟨gi, gf, pv, own, hq, rfl⟩ := h.r
  exact rpin_at hq hl
theorem Duo.runpin (h : Duo w B G b db r c al ar P R) (hl : R.pins.length ≤ 1000) (g : Int) : Calls Try.prog 57 #[.pointer (some ⟨r, 0, none⟩), .int .i64 g] w (DidR w B r c ar (.int .i64 (R.unpin g).1) (R.unpin g).2) := by
  obtain ⟨gi, gf, pv, own, hq, rfl⟩ := h.r
  exact runpin_at hq hl g
theorem Duo.rfree (h : Duo w B G b db r c al ar P R) : Calls Try.prog 27 #[.pointer (some ⟨r, 0, none⟩)] w fun e w' => e = .returned (.int .i64 (rcnt R.is)) ∧ w' = w := by
  obtain ⟨gi, gf, pv, own, hq, rfl⟩ := h.r
  exact rfree_any hq
theorem Duo.rcells (h : Duo w B G b db r c al ar P R) : w.cell? ⟨r, 1, none⟩ = some (.int .i64 R.gen) ∧ w.cell? ⟨r, 2, none⟩ = some (.string R.root) := by
  obtain ⟨gi, gf, pv, own, hq, _⟩ := h.r
  obtain ⟨c0, c1, c2, c3, c4, c5, c6⟩ := hq.cells
  exact ⟨c1, c2⟩
end

/-- Both disks. -/
structure DuoD (w : World) (B : Nat) (G : List Guest) (db c : Nat) (al ar : List Nat) (D E : DS) : Prop where
  d : Disk w B db al D
  r : RDisk w B c ar E
  dis : ∀ i ∈ al, i ∉ ar
  g : ∀ x ∈ G, Guest.on x w al ar
  hB : B ≤ w.heap.size
section
variable {w w1 : World} {B db c : Nat} {G : List Guest} {al ar : List Nat} {D E : DS}
theorem DuoD.later (h : DuoD w B G db c al ar D E) (hb : Below w.heap.size w w1) : DuoD w1 B G db c al ar D E :=
  { d := h.d.keep (Kept.ofBelow hb []) (by simp), r := h.r.keep (Kept.ofBelow hb []) (by simp), dis := h.dis, g := fun x hx => ⟨(hb.block x.1 (Array.getElem?_eq_some_iff.1 (h.g x hx).1).1).trans (h.g x hx).1, (h.g x hx).2⟩, hB := Nat.le_trans h.hB hb.size }
theorem DuoD.leftK {al' : List Nat} {D' : DS} (h : DuoD w B G db c al ar D E) (hd : Disk w1 B db al' D') (hk : Kept al w w1) (hn : ∀ k ∈ al', k ∈ al ∨ w.heap.size ≤ k) : DuoD w1 B G db c al' ar D' E ∧ Below B w w1 := by
  refine ⟨⟨hd, h.r.keep hk (fun i hi hm => h.dis i hm hi), ?_, ?_, Nat.le_trans h.hB hk.size⟩, hk.below (fun i hi => (h.d.lt i hi).1) h.hB⟩
  · intro i hi hr
    rcases hn i hi with h1 | h1
    · exact h.dis i h1 hr
    · have := (h.r.lt i hr).2; omega
  · intro x hx
    obtain ⟨g1, g2, g3⟩ := h.g x hx
    have hlt := (Array.getElem?_eq_some_iff.1 g1).1
    exact ⟨(hk.block x.1 hlt g2).trans g1, fun hm => (hn _ hm).elim (fun h1 => g2 h1) (fun h1 => by omega), g3⟩
theorem DuoD.rightK {ar' : List Nat} {E' : DS} (h : DuoD w B G db c al ar D E) (hd : RDisk w1 B c ar' E') (hk : Kept ar w w1) (hn : ∀ k ∈ ar', k ∈ ar ∨ w.heap.size ≤ k) : DuoD w1 B G db c al ar' D E' ∧ Below B w w1 := by
  refine ⟨⟨h.d.keep hk (fun i hi hm => h.dis i hi hm), hd, ?_, ?_, Nat.le_trans h.hB hk.size⟩, hk.below (fun i hi => (h.r.lt i hi).1) h.hB⟩
  · intro i hi hr
    rcases hn i hr with h1 | h1
    · exact h.dis i hi h1
    · have := (h.d.lt i hi).2; omega
  · intro x hx
    obtain ⟨g1, g2, g3⟩ := h.g x hx
    have hlt := (Array.getElem?_eq_some_iff.1 g1).1
    exact ⟨(hk.block x.1 hlt g3).trans g1, g2, fun hm => (hn _ hm).elim (fun h1 => g3 h1) (fun h1 => by omega)⟩
theorem DuoD.box (h : DuoD w B G db c al ar D E) (cs : List Value) (t : Nat) : DuoD (w.alloc (.cells cs.toArray t)) B ((w.heap.size, cs, t) :: G) db c al ar D E := by
  have hl := h.later (w1 := w.alloc (.cells cs.toArray t)) ((Below.refl _ _).alloc (Nat.le_refl _) _)
  refine { hl with g := ?_ }
  intro x hx
  simp only [List.mem_cons] at hx
  rcases hx with rfl | hx
  · exact ⟨heap_alloc_new w _, fun hm => by have := (h.d.lt _ hm).2; simp at this, fun hm => by have := (h.r.lt _ hm).2; simp at this⟩
  · exact hl.g x hx
theorem DuoD.less {x : Guest} (h : DuoD w B (x :: G) db c al ar D E) : DuoD w B G db c al ar D E := { h with g := fun y hy => h.g y (List.mem_cons_of_mem _ hy) }
end
section
variable {w w1 : World} {B b db r c : Nat} {G : List Guest} {al ar : List Nat} {P : PS} {R : RS}
/-- The program's disk beneath its pager has turned. -/
theorem Duo.leftK (h : Duo w B G b db r c al ar P R) : ∃ own, Disk w B db own P.D ∧ (∀ i ∈ own, i ∈ al) ∧ ∀ (w1 : World) (own' : List Nat) (D' : DS), Disk w1 B db own' D' → Kept own w w1 → (∀ k ∈ own', k ∈ own ∨ w.heap.size ≤ k) → D'.n = P.D.n → D'.byt → ∃ al', Duo w1 B G b db r c al' ar { P with D := D' } R ∧ Below B w w1 := by
  obtain ⟨gs, mb, own, hp, rfl⟩ := h.p
  refine ⟨own, hp.disk, fun i hi => by simp [hi], fun w1 own' D' hd hk hn he hy => ?_⟩
  have h2 := hp.setDisk hd hk hn he hy
  obtain ⟨_, al', hD, hB⟩ := h.left (v := .tuple #[]) (P' := { P with D := D' }) (e := .returned (.tuple #[])) (w1 := w1) ⟨rfl, _, ⟨gs, mb, own', h2, rfl⟩, hk.mono (fun i _ hi => by simp [hi]), fun k hk' => by
    simp only [List.mem_cons] at hk' ⊢
    rcases hk' with h1 | h1 | h1 | h1
    · exact .inl (.inl h1)
    · exact .inl (.inr (.inl h1))
    · exact .inl (.inr (.inr (.inl h1)))
    · rcases hn k h1 with h3 | h3
      · exact .inl (.inr (.inr (.inr h3)))
      · exact .inr h3⟩
  exact ⟨al', hD, hB⟩
/-- The document's disk beneath its pager has turned. -/
theorem Duo.rightK (h : Duo w B G b db r c al ar P R) : ∃ own, RDisk w B c own R.D ∧ (∀ i ∈ own, i ∈ ar) ∧ ∀ (w1 : World) (own' : List Nat) (D' : DS), RDisk w1 B c own' D' → Kept own w w1 → (∀ k ∈ own', k ∈ own ∨ w.heap.size ≤ k) → D'.n = R.D.n → D'.byt → ∃ ar', Duo w1 B G b db r c al ar' P { R with D := D' } ∧ Below B w w1 := by
  obtain ⟨gi, gf, pv, own, hp, rfl⟩ := h.r
  refine ⟨own, hp.disk, fun i hi => by simp [rall, hi], fun w1 own' D' hd hk hn he hy => ?_⟩
  have h2 := hp.setDisk hd hk hn he hy
  obtain ⟨_, ar', hD, hB⟩ := h.right (v := .tuple #[]) (R' := { R with D := D' }) (e := .returned (.tuple #[])) (w1 := w1) ⟨rfl, _, ⟨gi, gf, pv, own', h2, rfl⟩, hk.mono (fun i _ hi => by simp [rall, hi]), fun k hk' => by
    simp only [rall, List.mem_cons, List.mem_append] at hk' ⊢
    rcases hk' with h1 | h1 | h1 | h1 | h1
    · exact .inl (.inl h1)
    · exact .inl (.inr (.inl h1))
    · exact .inl (.inr (.inr (.inl h1)))
    · exact .inl (.inr (.inr (.inr (.inl h1))))
    · rcases hn k h1 with h3 | h3
      · exact .inl (.inr (.inr (.inr (.inr h3))))
      · exact .inr h3⟩
  exact ⟨ar', hD, hB⟩
end
end Go.Proofs.Ytambgimfbdecpaa
namespace Go.Proofs.Ytambgimfbdecpaa
open Go.RowKit
set_option linter.unusedVariables false
set_option linter.unusedSimpArgs false

/-- No more than so many calls have been. -/
structure Lim (P : PS) (k : Nat) : Prop where
  st : P.D.steps ≤ 10 + 4 * k
  wt : P.D.waits.length ≤ 10 + 2 * k
  pn : P.pins.length ≤ k
  pm : P.pm ≤ k
structure LimD (D : DS) (k : Nat) : Prop where
  st : D.steps ≤ 10 + 4 * k
  wt : D.waits.length ≤ 10 + 2 * k
theorem layRoot_grow (D : DS) (g : Int) (X : List Int) : (D.layRoot g X).2.n = D.n ∧ (D.layRoot g X).2.steps ≤ D.steps + 3 ∧ (D.layRoot g X).2.waits.length ≤ D.waits.length + 1 := by
  unfold DS.layRoot
  obtain ⟨a1, a2, a3, _⟩ := flush_grow D
  obtain ⟨b1, b2, b3⟩ := write_grow D.flush.2 (g % 2) X
  obtain ⟨c1, c2, c3, _⟩ := flush_grow (D.flush.2.write (g % 2) X).2
  split
  · split
    · exact ⟨by rw [c1, b1, a1], by omega, by omega⟩
    · exact ⟨by rw [b1, a1], by omega, by omega⟩
  · exact ⟨a1, by omega, by omega⟩
section
variable {P : PS} {k : Nat}
theorem Lim.more (h : Lim P k) : Lim P (k + 1) := ⟨by have := h.st; omega, by have := h.wt; omega, by have := h.pn; omega, by have := h.pm; omega⟩
theorem Lim.hear {e : Int} (h : Lim P k) : Lim (P.hear e) k := by
  unfold PS.hear
  split
  · exact ⟨h.st, h.wt, h.pn, h.pm⟩
  · exact h
theorem Lim.setD {D' : DS} (h : Lim P k) (h1 : D'.steps ≤ P.D.steps + 3) (h2 : D'.waits.length ≤ P.D.waits.length + 1) : Lim { P with D := D' } (k + 1) :=
  ⟨by have := h.st; show D'.steps ≤ _; omega, by have := h.wt; show D'.waits.length ≤ _; omega, by have := h.pn; show P.pins.length ≤ _; omega, by have := h.pm; show P.pm ≤ _; omega⟩
theorem Lim.setSt {st : List (Int × Int)} (h : Lim P k) : Lim { P with st := st } k := ⟨h.st, h.wt, h.pn, h.pm⟩
theorem Lim.put (h : Lim P k) (kind : Int) (s : ByteArray) : Lim (P.put kind s).2 (k + 1) := by
  obtain ⟨b1, b2, b3⟩ := write_grow P.D (lowFree P.st) (sealL kind (P.gen + 1) (bOf s))
  unfold PS.put
  split
  · exact h.more
  · split
    · exact h.more
    · split
      · exact h.more
      · split
        · have := (h.setD (D' := (P.D.write (lowFree P.st) (sealL kind (P.gen + 1) (bOf s))).2) (by omega) (by omega)).setSt (st := P.st.set (lowFree P.st) (2, 0))
          exact this
        · exact (h.setD (by omega) (by omega)).hear
theorem Lim.commit (h : Lim P k) (s : ByteArray) : Lim (P.commit s).2 (k + 1) := by
  obtain ⟨b1, b2, b3⟩ := layRoot_grow P.D (P.gen + 1) (rootL (P.gen + 1) (bOf s))
  unfold PS.commit
  split
  · exact h.more
  · split
    · exact h.more
    · split
      · have := h.setD (D' := (P.D.layRoot (P.gen + 1) (rootL (P.gen + 1) (bOf s))).2) b2 b3
        exact ⟨this.st, this.wt, this.pn, this.pm⟩
      · exact (h.setD b2 b3).hear
theorem Lim.read (h : Lim P k) (n : Int) : Lim (P.read n).2 (k + 1) := by
  unfold PS.read
  split
  · exact h.more
  · split
    · exact h.more
    · split
      · exact ⟨h.more.st, h.more.wt, h.more.pn, h.more.pm⟩
      · split <;> exact h.more
theorem Lim.drop (h : Lim P k) (n : Int) : Lim (P.drop n).2 (k + 1) := by
  unfold PS.drop
  split
  · exact h.more
  · split
    · exact h.more
    · split
      · exact h.more.setSt
      · split
        · exact h.more.setSt
        · exact h.more
theorem Lim.abort (h : Lim P k) : Lim P.abort (k + 1) := h.more.setSt
theorem Lim.pin (h : Lim P k) : Lim P.pin (k + 1) := ⟨h.more.st, h.more.wt, by have := h.pn; show (P.pins ++ [P.gen]).length ≤ _; simp; omega, by have := h.pm; show P.pm + 1 ≤ _; omega⟩
theorem Lim.unpin (h : Lim P k) (g : Int) : Lim (P.unpin g).2 (k + 1) := by
  have he : (P.pins.erase g).length ≤ P.pins.length := List.length_erase_le
  have := h.pn
  have := h.pm
  unfold PS.unpin
  split
  · exact h.more
  · split
    · exact ⟨h.more.st, h.more.wt, by show (P.pins.erase g).length ≤ _; omega, by show P.pm + 1 ≤ _; omega⟩
    · exact ⟨h.more.st, h.more.wt, by show (P.pins.erase g).length ≤ _; omega, by show P.pm + 1 ≤ _; omega⟩
theorem Lim.use (h : Lim P k) (n m : Int) : Lim (P.use2 n m).2 (k + 1) := by
  unfold PS.use2
  split
  · exact h.more
  · split
    · exact h.more
    · split
      · exact h.more.setSt
      · exact h.more.setSt
end
end Go.Proofs.Ytambgimfbdecpaa
