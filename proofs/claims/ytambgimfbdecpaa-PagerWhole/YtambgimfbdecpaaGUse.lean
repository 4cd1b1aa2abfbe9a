/- What this text holds: Use of a pager, of one page; 'holds'. -/
import Derived.Test.YtambgimfbdecpaaGWhole
namespace Go.Proofs.Ytambgimfbdecpaa
open Go.RowKit Go.Maps
set_option linter.unusedVariables false

/-- use: one page. -/
def useE (st : List (Int × Int)) (z : Int) : Int := if ¬ (2 ≤ z ∧ z < st.length) then 3 else if stOf st z.toNat ≠ 0 then 8 else 0
def useSt (st : List (Int × Int)) (z : Int) : List (Int × Int) := if useE st z = 0 then st.set z.toNat (1, 0) else st

set_option maxRecDepth 100000 in
set_option maxHeartbeats 1000000 in
theorem use1_at {w : World} {B b db gs mb : Nat} {own : List Nat} {P : PS} (h : PAt w B b db gs mb own P) (z : Int) :
    Calls Try.prog 73 #[.pointer (some ⟨b, 0, none⟩), .int .i64 z] w fun e w' => e = .returned (.int .i64 (useE P.st z)) ∧ PAt w' B b db gs mb own { P with st := useSt P.st z } ∧ Kept [gs] w w' := by
  obtain ⟨c0, c1, c2, c3, c4, c5⟩ := h.cells
  have HP := hid (isPage_any h.shAt z)
  have HU := hid (isUsed_any h.shAt z)
  have HH := hid h
  have hm := h.max
  unfold useSt useE usedP at *
  rw [h.len] at HU ⊢
  by_cases h1 : 2 ≤ z ∧ z < P.D.n
  · obtain ⟨k, rfl⟩ : ∃ k : Nat, z = k := ⟨z.toNat, by omega⟩
    have hk : k < P.D.n := by omega
    rw [if_neg (by simpa using h1)]
    rw [decide_eq_true h1] at HP HU
    rw [Int.toNat_natCast] at *
    rw [Bool.true_and] at HU
    have hki : (k : Int) < P.D.n := h1.2
    by_cases h0 : stOf P.st k = 0
    · rw [if_neg (by simp [h0]), if_pos rfl]
      have hb : (stOf P.st k != 0) = false := by simp [h0]
      rw [hb] at HU
      obtain ⟨y, d2⟩ : ∃ y, w.cell? ⟨gs, k * 2 + 1, none⟩ = some (.int .i64 y) := ⟨_, (h.shAt.at_ k hk).2⟩
      have ds := h.shAt.st k hk
      have hf1 := h.shAt.free (k * 2)
      have hf2 := h.shAt.free (k * 2 + 1)
      clear h h1 h0 hb
      go_enter Try.func73, Try.ntmps73
      go_wp2_with (first | (go_at_call 86; refine HP.out.mono ?_; rintro e wa ⟨rfl, rfl⟩) | (go_at_call 62; refine HU.out.mono ?_; rintro e wb ⟨rfl, rfl⟩))
      go_ret
      exact ⟨rfl, HH.out.setSt (HH.out.shAt.set HH.out.n1 k hk (1, 0)) (setSh_kept _ gs k (1, 0)), setSh_kept _ gs k (1, 0)⟩
    · rw [if_pos h0, if_neg (by decide)]
      have hb : (stOf P.st k != 0) = true := by simpa using h0
      rw [hb] at HU
      clear h h1 h0 hb
      go_enter Try.func73, Try.ntmps73
      go_wp2_with (first | (go_at_call 86; refine HP.out.mono ?_; rintro e wa ⟨rfl, rfl⟩) | (go_at_call 62; refine HU.out.mono ?_; rintro e wb ⟨rfl, rfl⟩))
      go_ret
      exact ⟨rfl, HH.out, Kept.refl _ _⟩
  · rw [if_pos h1, if_neg (by decide)]
    rw [decide_eq_false h1] at HP
    clear h h1 HU
    go_enter Try.func73, Try.ntmps73
    go_wp2_with (first | (go_at_call 86; refine HP.out.mono ?_; rintro e wa ⟨rfl, rfl⟩))
    go_ret
    exact ⟨rfl, HH.out, Kept.refl _ _⟩

set_option maxRecDepth 100000 in
set_option maxHeartbeats 1000000 in
theorem use_one {w : World} {B b db gs mb : Nat} {own : List Nat} {P : PS} (h : PAt w B b db gs mb own P) (hd : P.dead = false) (q : Nat) (z : Int) (hc : w.cell? ⟨q, 0, none⟩ = some (.int .i64 z)) (he : useE P.st z = 0) :
    Calls Try.prog 39 #[.pointer (some ⟨b, 0, none⟩), .slice (some ⟨q, 0, none⟩) 1 1] w (DidP w B b db (b :: gs :: mb :: own) (.int .i64 0) { P with st := useSt P.st z }) := by
  have HR := hid (ready_any h)
  have hd' : ¬ P.dead = true := by simp [hd]
  rw [if_neg hd'] at HR
  have HU := hid (use1_at h z)
  rw [he] at HU
  clear h hd hd' he
  go_enter Try.func39, Try.ntmps39
  go_wp2_with (first | (go_at_call 61; refine HR.out.mono ?_; rintro e wa ⟨rfl, rfl⟩))
  refine wp_loop_rounds 2 ?_
  rw [rounds_succ]
  go_wp2_with fail
  refine HU.out.mono ?_
  rintro e w1 ⟨rfl, h1, hk1⟩
  have H1 := hid h1
  have HK1 := hid (hk1.mono (T := b :: gs :: mb :: own) (fun i _ hi => by simp only [List.mem_singleton] at hi; simp [hi]))
  clear h1 hk1
  go_wp2_with fail
  rw [rounds_succ]
  go_wp2_with fail
  go_ret
  exact DidP.at H1.out HK1.out
theorem use_oneP {w : World} {B b db : Nat} {all : List Nat} {P : PS} (h : Pgr w B b db all P) (hd : P.dead = false) (q : Nat) (z : Int) (hc : w.cell? ⟨q, 0, none⟩ = some (.int .i64 z)) (he : useE P.st z = 0) :
    Calls Try.prog 39 #[.pointer (some ⟨b, 0, none⟩), .slice (some ⟨q, 0, none⟩) 1 1] w (DidP w B b db all (.int .i64 0) { P with st := useSt P.st z }) := by
  obtain ⟨gs, mb, own, h, rfl⟩ := h
  exact use_one h hd q z hc he

/-- A pager that was opened anew, some pages told. -/
structure Anew (D : DS) (ps : List (Int × ByteArray)) (k : Nat) (P : PS) : Prop where
  d : P.D = D
  ok : P.ok
  len : P.st.length = 30
  st : ∀ i : Nat, i < 30 → ((i : Int) ∈ (ps.take k).map (·.1) ∨ stOf P.st i = 0)
theorem Anew.step {D : DS} {ps : List (Int × ByteArray)} {k : Nat} {P : PS} (h : Anew D ps k P) (hk : k < ps.length) (hnd : (ps.map (·.1)).Nodup) (hh : HoldsP D ps[k]) :
    useE P.st (ps[k]).1 = 0 ∧ Anew D ps (k + 1) { P with st := useSt P.st (ps[k]).1 } ∧ ∃ kd, PS.read { P with st := useSt P.st (ps[k]).1 } (ps[k]).1 = (⟨kd, (ps[k]).2, 0⟩, { P with st := useSt P.st (ps[k]).1 }) := by
  obtain ⟨N, kd, g, e1, h2, h3, h4, h5, h6⟩ := hh
  have hN : stOf P.st N = 0 := by
    rcases h.st N h3 with hm | h0
    · exfalso
      rw [← e1] at hm
      rw [List.map_take] at hm
      obtain ⟨i, hi, he⟩ := List.getElem_of_mem hm
      rw [List.length_take, List.length_map] at hi
      rw [List.getElem_take, List.getElem_map] at he
      have := List.pairwise_iff_getElem.1 hnd i k (by rw [List.length_map]; omega) (by rw [List.length_map]; exact hk) (by omega)
      rw [List.getElem_map, List.getElem_map] at this
      exact this he
    · exact h0
  have hE : useE P.st (ps[k]).1 = 0 := by
    unfold useE
    rw [e1, h.len, if_neg (by omega), Int.toNat_natCast, hN, if_neg (by simp)]
  have hS : useSt P.st (ps[k]).1 = P.st.set N (1, 0) := by
    unfold useSt
    rw [if_pos hE, e1, Int.toNat_natCast]
  refine ⟨hE, ⟨h.d, ⟨h.ok.d, h.ok.a⟩, ?_, ?_⟩, kd, ?_⟩
  · show (useSt P.st (ps[k]).1).length = 30
    rw [hS, List.length_set]; exact h.len
  · intro i hi
    show _ ∨ stOf (useSt P.st (ps[k]).1) i = 0
    rw [hS, stOf_set _ _ _ _ (by rw [h.len]; exact h3)]
    by_cases e : i = N
    · left
      rw [List.take_succ_eq_append_getElem hk, List.map_append, List.mem_append]
      right
      subst e
      rw [← e1]
      simp
    · rw [if_neg e]
      rcases h.st i hi with hm | h0
      · left
        rw [List.take_succ_eq_append_getElem hk, List.map_append, List.mem_append]
        exact .inl hm
      · exact .inr h0
  · have hr : PS.ok { P with st := useSt P.st (ps[k]).1 } := ⟨h.ok.d, h.ok.a⟩
    rw [e1] at *
    exact read_page hr N h2 (by show N < (useSt P.st N).length; rw [hS, List.length_set, h.len]; exact h3) (by show stOf (useSt P.st N) N ≠ 0; rw [hS, stOf_set _ _ _ _ (by rw [h.len]; exact h3), if_pos rfl]; decide) kd g _ h5 h4 (by show P.D.read N = _; rw [h.d]; exact h6)

def HoldsPost (w : World) (B b db : Nat) (all : List Nat) (e : Ending) (w' : World) : Prop := e = .returned (.bool true) ∧ Kept all w w'

set_option maxRecDepth 100000 in
set_option maxHeartbeats 4000000 in
theorem holds_any {w : World} {B b db : Nat} {all : List Nat} {P : PS} {D : DS} {v : Value} {ps : List (Int × ByteArray)} (hP : Pgr w B b db all P) (hA : Anew D ps 0 P) (hpg : PgsAt w B v ps) (hsep : ∀ g, v.ownBlock = some g → g ∉ all) (hnd : (ps.map (·.1)).Nodup) (hh : ∀ x ∈ ps, HoldsP D x) (hl : ps.length ≤ 100) :
    Calls Try.prog 34 #[.pointer (some ⟨b, 0, none⟩), v] w fun e w' => e = .returned (.bool true) ∧ Below B w w' := by
  have HP0 := hid hP
  have HA0 := hid hA
  have HPG0 := hid hpg
  have HSP0 := hid hsep
  have HND := hid hnd
  have HH := hid hh
  have hBw : B ≤ w.heap.size := by
    obtain ⟨gs, mb, own, h, rfl⟩ := hP
    exact Nat.le_trans h.hb (Nat.le_of_lt (h.lt b (by simp)).2)
  have HBW := hid hBw
  obtain ⟨va, vc, hsh⟩ := hpg.shape
  subst hsh
  clear hP hA hpg hsep hnd hh hBw
  go_enter Try.func34, Try.ntmps34
  go_wp2_with fail
  go_loopw [12] (fun q wr => ∃ k : Nat, k ≤ ps.length ∧ q = .int .i64 k ∧ ∃ P all, Pgr wr B b db all P ∧ Anew D ps k P ∧ PgsAt wr B (.slice va ps.length vc) ps ∧ (∀ g, (Value.slice va ps.length vc).ownBlock = some g → g ∉ all) ∧ Below B w wr) (fun q _ => ps.length - (intOf q).toNat)
  case atStart => exact ⟨0, by omega, rfl, _, _, HP0.out, HA0.out, HPG0.out, HSP0.out, Below.refl _ _⟩
  case round =>
    clear HP0 HA0 HPG0 HSP0
    obtain ⟨k, hkl, rfl, P, all, hP, hAn, hPg, hSep, hBel⟩ := hrel
    have HP := hid hP
    have HAn := hid hAn
    have HPG := hid hPg
    have HSP := hid hSep
    have HBL := hid hBel
    clear hP hAn hPg hSep hBel
    by_cases hkt : k < ps.length
    · have hkt' : (k : Int) < ps.length := by omega
      obtain ⟨g, c, hsh, hob, hc1, hc2⟩ := HPG.out.get k hkt
      simp only [Value.slice.injEq, true_and] at hsh
      obtain ⟨rfl, rfl⟩ := hsh
      obtain ⟨hu1, hu2, kd, hu3⟩ := HAn.out.step hkt HND.out (HH.out _ (List.getElem_mem hkt))
      obtain ⟨X, hX⟩ : ∃ X, X = ps[k] := ⟨_, rfl⟩
      obtain ⟨x, y⟩ := X
      rw [← hX] at hc1 hc2 hu1 hu2 hu3
      simp only at hc1 hc2 hu1 hu2 hu3
      have HU1 := hid hu1
      have HU2 := hid hu2
      have HU3 := hid hu3
      have HOb := hid hob
      clear hu1 hu2 hu3 hX hob
      have hsz : (wr.alloc (.cells #[.int .i64 x, .string y] 65)).heap.size = wr.heap.size + 1 := by simp
      have hk2 : Kept [] wr ((wr.alloc (.cells #[.int .i64 x, .string y] 65)).alloc (.cells #[.int .i64 x] 3)) := (Kept.alloc [] wr _).trans (Kept.alloc [] _ _) (fun _ _ h => h)
      have HP2 := hid (HP.out.keep hk2 (by simp))
      have HPG2 := hid (HPG.out.keep hk2 (by simp))
      have HB2 := hid (below_kept HBL.out hk2 (by simp) (Nat.le_trans HBW.out HBL.out.size))
      have hx0 : ((wr.alloc (.cells #[.int .i64 x, .string y] 65)).alloc (.cells #[.int .i64 x] 3)).cell? ⟨wr.heap.size + 1, 0, none⟩ = some (.int .i64 x) := by
        rw [← hsz]; simp
      have hx1 : ((wr.alloc (.cells #[.int .i64 x, .string y] 65)).alloc (.cells #[.int .i64 x] 3)).cell? ⟨wr.heap.size, 0, none⟩ = some (.int .i64 x) := cell_alloc (by simp) _
      have hx2 : ((wr.alloc (.cells #[.int .i64 x, .string y] 65)).alloc (.cells #[.int .i64 x] 3)).cell? ⟨wr.heap.size, 1, none⟩ = some (.string y) := cell_alloc (by simp) _
      have HNA : Hid (wr.heap.size ∉ all) := fun h => by have := (HP.out.lt _ h).2; omega
      have HUs := hid (use_oneP HP2.out HAn.out.ok.a (wr.heap.size + 1) x hx0 HU1.out)
      have HX1 := hid hx1
      have HX2 := hid hx2
      clear hk2 hx0 hx1 hx2 hsz
      generalize PS.mk P.D (useSt P.st x) P.pins P.pm P.gen P.root P.dead = P' at HUs HU2 HU3
      go_wp2_with fail
      refine HUs.out.mono ?_
      rintro e w5 ⟨rfl, all5, hp5, hk5, hn5⟩
      have HP5 := hid hp5
      have HB5 := hid (below_kept HB2.out hk5 (fun i hi => (HP2.out.lt i hi).1) (Nat.le_trans HBW.out HB2.out.size))
      have HPG5 := hid (HPG2.out.keep hk5 HSP.out)
      have HSP5 : Hid (∀ g', (Value.slice (some ⟨g, 0, none⟩) ps.length vc).ownBlock = some g' → g' ∉ all5) := fun g' hg hm => by
        rcases hn5 g' hm with h | h
        · exact HSP.out g' hg h
        · have := (HPG2.out.lt g' hg).2; omega
      have hy1 : w5.cell? ⟨wr.heap.size, 0, none⟩ = some (.int .i64 x) := hk5.cell HX1.out (by simpa using HNA.out)
      have hy2 : w5.cell? ⟨wr.heap.size, 1, none⟩ = some (.string y) := hk5.cell HX2.out (by simpa using HNA.out)
      have HNA5 : Hid (wr.heap.size ∉ all5) := fun hm => by
        rcases hn5 _ hm with h | h
        · exact HNA.out h
        · simp at h; omega
      have HY2 := hid hy2
      clear hp5 hk5 hn5 HX1 HX2 HUs hy2
      have hrd := read_all HP5.out x
      rw [HU3.out] at hrd
      have HRD := hid hrd
      clear hrd
      go_wp2_with (first | (go_at_call 11; refine (no_any _ _).mono ?_; rintro e wd ⟨rfl, rfl⟩))
      refine HRD.out.mono ?_
      rintro e w6 ⟨rfl, all6, hp6, hk6, hn6⟩
      have HP6 := hid hp6
      have HB6 := hid (below_kept HB5.out hk6 (fun i hi => (HP5.out.lt i hi).1) (Nat.le_trans HBW.out HB5.out.size))
      have HPG6 := hid (HPG5.out.keep hk6 HSP5.out)
      have HSP6 : Hid (∀ g', (Value.slice (some ⟨g, 0, none⟩) ps.length vc).ownBlock = some g' → g' ∉ all6) := fun g' hg hm => by
        rcases hn6 g' hm with h | h
        · exact HSP5.out g' hg h
        · have := (HPG5.out.lt g' hg).2; omega
      have hz2 : w6.cell? ⟨wr.heap.size, 1, none⟩ = some (.string y) := hk6.cell HY2.out (by simpa using HNA5.out)
      clear hp6 hk6 hn6 hy1 HRD
      unfold RdV.val
      go_wp2_with (first | (go_at_call 11; refine (no_any _ _).mono ?_; rintro e wd ⟨rfl, rfl⟩))
      go_roundw
      case rel => exact ⟨k + 1, by omega, by go_num, P', all6, HP6.out, HU2.out, HPG6.out, HSP6.out, HB6.out⟩
      case measure => simp [intOf]; omega
    · obtain rfl : k = ps.length := by omega
      have hkt' : ¬ ((ps.length : Nat) : Int) < (ps.length : Nat) := by omega
      go_wp2_with fail
      go_ret
      exact ⟨rfl, HBL.out⟩
end Go.Proofs.Ytambgimfbdecpaa
