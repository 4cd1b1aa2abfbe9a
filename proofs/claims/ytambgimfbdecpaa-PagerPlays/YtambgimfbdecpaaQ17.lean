/- What this text holds: Use of a pager, of one page; 'holds'. · What this text holds: keeps that are handed in, and a crash; a list of pages, copied. -/
import Derived.Test.YtambgimfbdecpaaQ16
import Derived.Deep.SlicePairs
import Derived.Laws.AppendOwnNone
namespace Go.Proofs.Ytambgimfbdecpaa
open Go.RowKit Go.Maps
set_option linter.unusedVariables false

/-- use: one page. -/
def useE (st : List (Int × Int)) (z : Int) : Int := if ¬ (2 ≤ z ∧ z < st.length) then 3 else if stOf st z.toNat ≠ 0 then 8 else 0
def useSt (st : List (Int × Int)) (z : Int) : List (Int × Int) := if useE st z = 0 then st.set z.toNat (1, 0) else st

set_option maxRecDepth 100000 in
set_option maxHeartbeats 1000000 in
theorem use1_at {w : World} {B b db gs mb : Nat} {own : List Nat} {P : PS} (h : PAt w B b db gs mb own P) (z : Int) :
    Calls Try.prog 73 #[.pointer (some ⟨b, 0, none⟩), .int .i64 z] w fun e w' => e = .returned (.int .i64 (useE P.st z)) ∧ PAt w' B b db gs mb own { P with st := useSt P.st z } ∧ Kept [gs] w w' := by
  obtain ⟨c0, c1, c2, c3, c4, c5⟩ := h.cells
  have HP := hid (isPage_any h.shAt z)
  have HU := hid (isUsed_any h.shAt z)
  have HH := hid h
  have hm := h.max
  unfold useSt useE usedP at *
  rw [h.len] at HU ⊢
  by_cases h1 : 2 ≤ z ∧ z < P.D.n
  · obtain ⟨k, rfl⟩ : ∃ k : Nat, z = k := ⟨z.toNat, by omega⟩
    have hk : k < P.D.n := by omega
    rw [if_neg (by simpa using h1)]
    rw [decide_eq_true h1] at HP HU
    rw [Int.toNat_natCast] at *
    rw [Bool.true_and] at HU
    have hki : (k : Int) < P.D.n := h1.2
    by_cases h0 : stOf P.st k = 0
    · rw [if_neg (by simp [h0]), if_pos rfl]
      have hb : (stOf P.st k != 0) = false := by simp [h0]
      rw [hb] at HU
      obtain ⟨y, d2⟩ : ∃ y, w.cell? ⟨gs, k * 2 + 1, none⟩ = some (.int .i64 y) := ⟨_, (h.shAt.at_ k hk).2⟩
      have ds := h.shAt.st k hk
      have hf1 := h.shAt.free (k * 2)
      have hf2 := h.shAt.free (k * 2 + 1)
      clear h h1 h0 hb
      go_enter Try.func73, Try.ntmps73
      go_wp2_with (first | (go_at_call 86; refine HP.out.mono ?_; rintro e wa ⟨rfl, rfl⟩) | (go_at_call 62; refine HU.out.mono ?_; rintro e wb ⟨rfl, rfl⟩))
      go_ret
      exact ⟨rfl, HH.out.setSt (HH.out.shAt.set HH.out.n1 k hk (1, 0)) (setSh_kept _ gs k (1, 0)), setSh_kept _ gs k (1, 0)⟩
    · rw [if_pos h0, if_neg (by decide)]
      have hb : (stOf P.st k != 0) = true := by simpa using h0
      rw [hb] at HU
      clear h h1 h0 hb
      go_enter Try.func73, Try.ntmps73
      go_wp2_with (first | (go_at_call 86; refine HP.out.mono ?_; rintro e wa ⟨rfl, rfl⟩) | (go_at_call 62; refine HU.out.mono ?_; rintro e wb ⟨rfl, rfl⟩))
      go_ret
      exact ⟨rfl, HH.out, Kept.refl _ _⟩
  · rw [if_pos h1, if_neg (by decide)]
    rw [decide_eq_false h1] at HP
    clear h h1 HU
    go_enter Try.func73, Try.ntmps73
    go_wp2_with (first | (go_at_call 86; refine HP.out.mono ?_; rintro e wa ⟨rfl, rfl⟩))
    go_ret
    exact ⟨rfl, HH.out, Kept.refl _ _⟩

set_option maxRecDepth 100000 in
set_option maxHeartbeats 1000000 in
theorem use_one {w : World} {B b db gs mb : Nat} {own : List Nat} {P : PS} (h : PAt w B b db gs mb own P) (hd : P.dead = false) (q : Nat) (z : Int) (hc : w.cell? ⟨q, 0, none⟩ = some (.int .i64 z)) (he : useE P.st z = 0) :
    Calls Try.prog 39 #[.pointer (some ⟨b, 0, none⟩), .slice (some ⟨q, 0, none⟩) 1 1] w (DidP w B b db (b :: gs :: mb :: own) (.int .i64 0) { P with st := useSt P.st z }) := by
  have HR := hid (ready_any h)
  have hd' : ¬ P.dead = true := by simp [hd]
  rw [if_neg hd'] at HR
  have HU := hid (use1_at h z)
  rw [he] at HU
  clear h hd hd' he
  go_enter Try.func39, Try.ntmps39
  go_wp2_with (first | (go_at_call 61; refine HR.out.mono ?_; rintro e wa ⟨rfl, rfl⟩))
  refine wp_loop_rounds 2 ?_
  rw [rounds_succ]
  go_wp2_with fail
  refine HU.out.mono ?_
  rintro e w1 ⟨rfl, h1, hk1⟩
  have H1 := hid h1
  have HK1 := hid (hk1.mono (T := b :: gs :: mb :: own) (fun i _ hi => by simp only [List.mem_singleton] at hi; simp [hi]))
  clear h1 hk1
  go_wp2_with fail
  rw [rounds_succ]
  go_wp2_with fail
  go_ret
  exact DidP.at H1.out HK1.out
theorem use_oneP {w : World} {B b db : Nat} {all : List Nat} {P : PS} (h : Pgr w B b db all P) (hd : P.dead = false) (q : Nat) (z : Int) (hc : w.cell? ⟨q, 0, none⟩ = some (.int .i64 z)) (he : useE P.st z = 0) :
    Calls Try.prog 39 #[.pointer (some ⟨b, 0, none⟩), .slice (some ⟨q, 0, none⟩) 1 1] w (DidP w B b db all (.int .i64 0) { P with st := useSt P.st z }) := by
  obtain ⟨gs, mb, own, h, rfl⟩ := h
  exact use_one h hd q z hc he

/-- A pager that was opened anew, some pages told. -/
structure Anew (D : DS) (ps : List (Int × ByteArray)) (k : Nat) (P : PS) : Prop where
  d : P.D = D
  ok : P.ok
  len : P.st.length = 30
  st : ∀ i : Nat, i < 30 → ((i : Int) ∈ (ps.take k).map (·.1) ∨ stOf P.st i = 0)
theorem Anew.step {D : DS} {ps : List (Int × ByteArray)} {k : Nat} {P : PS} (h : Anew D ps k P) (hk : k < ps.length) (hnd : (ps.map (·.1)).Nodup) (hh : HoldsP D ps[k]) :
    useE P.st (ps[k]).1 = 0 ∧ Anew D ps (k + 1) { P with st := useSt P.st (ps[k]).1 } ∧ ∃ kd, PS.read { P with st := useSt P.st (ps[k]).1 } (ps[k]).1 = (⟨kd, (ps[k]).2, 0⟩, { P with st := useSt P.st (ps[k]).1 }) := by
  obtain ⟨N, kd, g, e1, h2, h3, h4, h5, h6⟩ := hh
  have hN : stOf P.st N = 0 := by
    rcases h.st N h3 with hm | h0
    · exfalso
      rw [← e1] at hm
      rw [List.map_take] at hm
      obtain ⟨i, hi, he⟩ := List.getElem_of_mem hm
      rw [List.length_take, List.length_map] at hi
      rw [List.getElem_take, List.getElem_map] at he
      have := List.pairwise_iff_getElem.1 hnd i k (by rw [List.length_map]; omega) (by rw [List.length_map]; exact hk) (by omega)
      rw [List.getElem_map, List.getElem_map] at this
      exact this he
    · exact h0
  have hE : useE P.st (ps[k]).1 = 0 := by
    unfold useE
    rw [e1, h.len, if_neg (by omega), Int.toNat_natCast, hN, if_neg (by simp)]
  have hS : useSt P.st (ps[k]).1 = P.st.set N (1, 0) := by
    unfold useSt
    rw [if_pos hE, e1, Int.toNat_natCast]
  refine ⟨hE, ⟨h.d, ⟨h.ok.d, h.ok.a⟩, ?_, ?_⟩, kd, ?_⟩
  · show (useSt P.st (ps[k]).1).length = 30
    rw [hS, List.length_set]; exact h.len
  · intro i hi
    show _ ∨ stOf (useSt P.st (ps[k]).1) i = 0
    rw [hS, stOf_set _ _ _ _ (by rw [h.len]; exact h3)]
    by_cases e : i = N
    · left
      rw [List.take_succ_eq_append_getElem hk, List.map_append, List.mem_append]
      right
      subst e
      rw [← e1]
      simp
    · rw [if_neg e]
      rcases h.st i hi with hm | h0
      · left
        rw [List.take_succ_eq_append_getElem hk, List.map_append, List.mem_append]
        exact .inl hm
      · exact .inr h0
  · have hr : PS.ok { P with st := useSt P.st (ps[k]).1 } := ⟨h.ok.d, h.ok.a⟩
    rw [e1] at *
    exact read_page hr N h2 (by show N < (useSt P.st N).length; rw [hS, List.length_set, h.len]; exact h3) (by show stOf (useSt P.st N) N ≠ 0; rw [hS, stOf_set _ _ _ _ (by rw [h.len]; exact h3), if_pos rfl]; decide) kd g _ h5 h4 (by show P.D.read N = _; rw [h.d]; exact h6)

def HoldsPost (w : World) (B b db : Nat) (all : List Nat) (e : Ending) (w' : World) : Prop := e = .returned (.bool true) ∧ Kept all w w'

set_option maxRecDepth 100000 in
set_option maxHeartbeats 4000000 in
theorem holds_any {w : World} {B b db : Nat} {all : List Nat} {P : PS} {D : DS} {v : Value} {ps : List (Int × ByteArray)} (hP : Pgr w B b db all P) (hA : Anew D ps 0 P) (hpg : PgsAt w B v ps) (hsep : ∀ g, v.ownBlock = some g → g ∉ all) (hnd : (ps.map (·.1)).Nodup) (hh : ∀ x ∈ ps, HoldsP D x) (hl : ps.length ≤ 100) :
    Calls Try.prog 34 #[.pointer (some ⟨b, 0, none⟩), v] w fun e w' => e = .returned (.bool true) ∧ Below B w w' := by
  have HP0 := hid hP
  have HA0 := hid hA
  have HPG0 := hid hpg
  have HSP0 := hid hsep
  have HND := hid hnd
  have HH := hid hh
  have hBw : B ≤ w.heap.size := by
    obtain ⟨gs, mb, own, h, rfl⟩ := hP
    exact Nat.le_trans h.hb (Nat.le_of_lt (h.lt b (by simp)).2)
  have HBW := hid hBw
  obtain ⟨va, vc, hsh⟩ := hpg.shape
  subst hsh
  clear hP hA hpg hsep hnd hh hBw
  go_enter Try.func34, Try.ntmps34
  go_wp2_with fail
  go_loopw [12] (fun q wr => ∃ k : Nat, k ≤ ps.length ∧ q = .int .i64 k ∧ ∃ P all, Pgr wr B b db all P ∧ Anew D ps k P ∧ PgsAt wr B (.slice va ps.length vc) ps ∧ (∀ g, (Value.slice va ps.length vc).ownBlock = some g → g ∉ all) ∧ Below B w wr) (fun q _ => ps.length - (intOf q).toNat)
  case atStart => exact ⟨0, by omega, rfl, _, _, HP0.out, HA0.out, HPG0.out, HSP0.out, Below.refl _ _⟩
  case round =>
    clear HP0 HA0 HPG0 HSP0
    obtain ⟨k, hkl, rfl, P, all, hP, hAn, hPg, hSep, hBel⟩ := hrel
    have HP := hid hP
    have HAn := hid hAn
    have HPG := hid hPg
    have HSP := hid hSep
    have HBL := hid hBel
    clear hP hAn hPg hSep hBel
    by_cases hkt : k < ps.length
    · have hkt' : (k : Int) < ps.length := by omega
      obtain ⟨g, c, hsh, hob, hc1, hc2⟩ := HPG.out.get k hkt
      simp only [Value.slice.injEq, true_and] at hsh
      obtain ⟨rfl, rfl⟩ := hsh
      obtain ⟨hu1, hu2, kd, hu3⟩ := HAn.out.step hkt HND.out (HH.out _ (List.getElem_mem hkt))
      obtain ⟨X, hX⟩ : ∃ X, X = ps[k] := ⟨_, rfl⟩
      obtain ⟨x, y⟩ := X
      rw [← hX] at hc1 hc2 hu1 hu2 hu3
      simp only at hc1 hc2 hu1 hu2 hu3
      have HU1 := hid hu1
      have HU2 := hid hu2
      have HU3 := hid hu3
      have HOb := hid hob
      clear hu1 hu2 hu3 hX hob
      have hsz : (wr.alloc (.cells #[.int .i64 x, .string y] 65)).heap.size = wr.heap.size + 1 := by simp
      have hk2 : Kept [] wr ((wr.alloc (.cells #[.int .i64 x, .string y] 65)).alloc (.cells #[.int .i64 x] 3)) := (Kept.alloc [] wr _).trans (Kept.alloc [] _ _) (fun _ _ h => h)
      have HP2 := hid (HP.out.keep hk2 (by simp))
      have HPG2 := hid (HPG.out.keep hk2 (by simp))
      have HB2 := hid (below_kept HBL.out hk2 (by simp) (Nat.le_trans HBW.out HBL.out.size))
      have hx0 : ((wr.alloc (.cells #[.int .i64 x, .string y] 65)).alloc (.cells #[.int .i64 x] 3)).cell? ⟨wr.heap.size + 1, 0, none⟩ = some (.int .i64 x) := by
        rw [← hsz]; simp
      have hx1 : ((wr.alloc (.cells #[.int .i64 x, .string y] 65)).alloc (.cells #[.int .i64 x] 3)).cell? ⟨wr.heap.size, 0, none⟩ = some (.int .i64 x) := cell_alloc (by simp) _
      have hx2 : ((wr.alloc (.cells #[.int .i64 x, .string y] 65)).alloc (.cells #[.int .i64 x] 3)).cell? ⟨wr.heap.size, 1, none⟩ = some (.string y) := cell_alloc (by simp) _
      have HNA : Hid (wr.heap.size ∉ all) := fun h => by have := (HP.out.lt _ h).2; omega
      have HUs := hid (use_oneP HP2.out HAn.out.ok.a (wr.heap.size + 1) x hx0 HU1.out)
      have HX1 := hid hx1
      have HX2 := hid hx2
      clear hk2 hx0 hx1 hx2 hsz
      generalize PS.mk P.D (useSt P.st x) P.pins P.pm P.gen P.root P.dead = P' at HUs HU2 HU3
      go_wp2_with fail
      refine HUs.out.mono ?_
      rintro e w5 ⟨rfl, all5, hp5, hk5, hn5⟩
      have HP5 := hid hp5
      have HB5 := hid (below_kept HB2.out hk5 (fun i hi => (HP2.out.lt i hi).1) (Nat.le_trans HBW.out HB2.out.size))
      have HPG5 := hid (HPG2.out.keep hk5 HSP.out)
      have HSP5 : Hid (∀ g', (Value.slice (some ⟨g, 0, none⟩) ps.length vc).ownBlock = some g' → g' ∉ all5) := fun g' hg hm => by
        rcases hn5 g' hm with h | h
        · exact HSP.out g' hg h
        · have := (HPG2.out.lt g' hg).2; omega
      have hy1 : w5.cell? ⟨wr.heap.size, 0, none⟩ = some (.int .i64 x) := hk5.cell HX1.out (by simpa using HNA.out)
      have hy2 : w5.cell? ⟨wr.heap.size, 1, none⟩ = some (.string y) := hk5.cell HX2.out (by simpa using HNA.out)
      have HNA5 : Hid (wr.heap.size ∉ all5) := fun hm => by
        rcases hn5 _ hm with h | h
        · exact HNA.out h
        · simp at h; omega
      have HY2 := hid hy2
      clear hp5 hk5 hn5 HX1 HX2 HUs hy2
      have hrd := read_all HP5.out x
      rw [HU3.out] at hrd
      have HRD := hid hrd
      clear hrd
      go_wp2_with (first | (go_at_call 11; refine (no_any _ _).mono ?_; rintro e wd ⟨rfl, rfl⟩))
      refine HRD.out.mono ?_
      rintro e w6 ⟨rfl, all6, hp6, hk6, hn6⟩
      have HP6 := hid hp6
      have HB6 := hid (below_kept HB5.out hk6 (fun i hi => (HP5.out.lt i hi).1) (Nat.le_trans HBW.out HB5.out.size))
      have HPG6 := hid (HPG5.out.keep hk6 HSP5.out)
      have HSP6 : Hid (∀ g', (Value.slice (some ⟨g, 0, none⟩) ps.length vc).ownBlock = some g' → g' ∉ all6) := fun g' hg hm => by
        rcases hn6 g' hm with h | h
        · exact HSP5.out g' hg h
        · have := (HPG5.out.lt g' hg).2; omega
      have hz2 : w6.cell? ⟨wr.heap.size, 1, none⟩ = some (.string y) := hk6.cell HY2.out (by simpa using HNA5.out)
      clear hp6 hk6 hn6 hy1 HRD
      unfold RdV.val
      go_wp2_with (first | (go_at_call 11; refine (no_any _ _).mono ?_; rintro e wd ⟨rfl, rfl⟩))
      go_roundw
      case rel => exact ⟨k + 1, by omega, by go_num, P', all6, HP6.out, HU2.out, HPG6.out, HSP6.out, HB6.out⟩
      case measure => simp [intOf]; omega
    · obtain rfl : k = ps.length := by omega
      have hkt' : ¬ ((ps.length : Nat) : Int) < (ps.length : Nat) := by omega
      go_wp2_with fail
      go_ret
      exact ⟨rfl, HBL.out⟩
end Go.Proofs.Ytambgimfbdecpaa
namespace Go.Proofs.Ytambgimfbdecpaa
open Go.RowKit Go.Maps
set_option linter.unusedVariables false

/-- A slice of keeps that was handed in. -/
def KeepsOk (w : World) (ka : Option Addr) (klen : Nat) (ks : List (Int × Int)) : Prop :=
  ks.length = klen ∧ klen ≤ maxLen ∧ (klen = 0 ∨ ∃ kb ko, ka = some ⟨kb, ko, none⟩ ∧ KeepsAt w kb ko ks)
theorem KeepsOk.later {w w' : World} {ka : Option Addr} {klen : Nat} {ks : List (Int × Int)} (h : KeepsOk w ka klen ks) (hb : Below w.heap.size w w') : KeepsOk w' ka klen ks := by
  refine ⟨h.1, h.2.1, ?_⟩
  rcases h.2.2 with h0 | ⟨kb, ko, e, hk⟩
  · exact .inl h0
  · exact .inr ⟨kb, ko, e, fun j hj => ⟨cell_later hb (hk j hj).1, cell_later hb (hk j hj).2⟩⟩
theorem crash_all {w : World} {B b : Nat} {own : List Nat} {D : DS} (h : Disk w B b own D) (ka : Option Addr) (klen kcap : Nat) (ks : List (Int × Int)) (hk : KeepsOk w ka klen ks) :
    Calls Try.prog 19 #[.pointer (some ⟨b, 0, none⟩), .slice ka klen kcap] w (MadeDisk w (D.crash ks)) := by
  obtain ⟨bs, sc, wv, hd, rfl⟩ := h
  obtain ⟨h1, h2, h3⟩ := hk
  rcases h3 with h0 | ⟨kb, ko, rfl, hk⟩
  · subst h0
    obtain rfl : ks = [] := List.eq_nil_of_length_eq_zero h1
    exact crash_none hd ka kcap
  · subst h1
    exact crash_some hd kb ko kcap ks h2 hk
section
variable {H : Type} {enc : TypeId × Value → H} {W : World} {held : Bool}
theorem open_keeps {fuel : Nat} {ka : Option Addr} {klen kcap : Nat} {x : DataW H × List MemPlace} (h : DataW.trod enc Try.prog W 0 (fun _ => true) held fuel 40 [.slice ka klen kcap] = some x) : ∃ ks, KeepsOk W ka klen ks := by
  rcases Deep.open_slice_pairs Try.underlying40 Try.underlying94 (by kernel_rfl) rfl rfl (by kernel_rfl) (by kernel_rfl) h with ⟨hcs, _⟩ | ⟨a, len, cap, m, n, V0, V1, D0, D1, P0, P1, hcs, _, hl, hm, hmm, _, hx⟩
  · simp at hcs
    obtain ⟨rfl, rfl, rfl⟩ := hcs
    exact ⟨[], rfl, by unfold maxLen; omega, .inl rfl⟩
  · simp only [List.cons.injEq, Value.slice.injEq, and_true] at hcs
    obtain ⟨rfl, rfl, rfl⟩ := hcs
    simp only [if_true] at hmm
    subst hmm
    have hint : ∀ i, i < m → ∃ p : Int × Int, V0 i = .int .i64 p.1 ∧ V1 i = .int .i64 p.2 := fun i hi => by
      obtain ⟨_, _, h3, h4⟩ := hx i hi
      obtain ⟨y0, e0, _⟩ := DataW.trod_int Try.underlying3 h3
      obtain ⟨y1, e1, _⟩ := DataW.trod_int Try.underlying3 h4
      simp at e0 e1
      exact ⟨(y0, y1), e0, e1⟩
    obtain ⟨f, hf⟩ := Deep.choose_lt hint
    refine ⟨(List.range klen).map f, by simp, by omega, ?_⟩
    by_cases h0 : klen = 0
    · exact .inl h0
    · right
      obtain ⟨kb, ko, sp⟩ := a
      have hsp : sp = none := by
        have := (hx 0 (by omega)).1
        rw [Nat.zero_mul] at this
        exact spot_none this
      subst hsp
      refine ⟨kb, ko, rfl, fun j hj => ?_⟩
      simp only [List.length_map, List.length_range] at hj
      obtain ⟨h1, h2, _, _⟩ := hx j (by omega)
      obtain ⟨e0, e1⟩ := hf j (by omega)
      rw [Addr.add_mid] at h1 h2
      rw [e0] at h1
      rw [e1] at h2
      simp only [List.getElem_map, List.getElem_range]
      exact ⟨h1, by rw [← Nat.add_assoc] at h2; exact h2⟩
end
theorem disk_base {w : World} {B B' b : Nat} {own : List Nat} {D : DS} (h : Disk w B b own D) (hB : B' ≤ B) : Disk w B' b own D := by
  obtain ⟨bs, sc, wv, hd, rfl⟩ := h
  exact ⟨bs, sc, wv, hd.base hB, rfl⟩
/-- The disk beneath a pager. -/
theorem Pgr.disk {w : World} {B b db : Nat} {all : List Nat} {P : PS} (h : Pgr w B b db all P) : ∃ own, Disk w B db own P.D ∧ P.D.byt := by
  obtain ⟨gs, mb, own, h, rfl⟩ := h
  exact ⟨own, h.disk, h.byt⟩
/-- A fuse is set. -/
theorem fuse_p {w : World} {B b db : Nat} {all : List Nat} {P : PS} (h : Pgr w B b db all P) (n : Int) (hn : n ≤ 9223372036854775807) :
    Calls Try.prog 17 #[.pointer (some ⟨db, 0, none⟩), .int .i64 n] w (DidP w B b db all (.tuple #[]) { P with D := P.D.fused n }) := by
  obtain ⟨gs, mb, own, h, rfl⟩ := h
  refine (fuse_all h.disk n hn).mono ?_
  rintro e w' ⟨rfl, hd, hk⟩
  exact DidP.at (h.setDisk hd hk (fun k hk => .inl hk) rfl (h.byt.fused n)) (hk.mono (fun i _ hi => by simp [hi]))
/-- A list of pages is copied. -/
theorem pgs_copy {w : World} {B : Nat} {v : Value} {ps : List (Int × ByteArray)} (h : PgsAt w B v ps) (hl : ps.length ≤ 1000) :
    ∃ v' w', (Builtin.append_ #[57, 57] 57 #[.slice (some ⟨w.heap.size, 0, none⟩) 0 0, v]).run Try.prog (w.alloc (.cells #[] 65)) = .ok v' w' ∧ PgsAt w' w.heap.size v' ps ∧ Below w.heap.size w w' := by
  obtain ⟨i, hi, hz0, hz1, hz2⟩ := info_parts Try.info65
  have hown0 : (w.alloc (.cells #[] 65)).ownsRow w.heap.size 65 2 (.slice (some ⟨w.heap.size, 0, none⟩) 0 0) 0 [] := World.ownsRow_made w #[] 0 (Nat.le_refl _) (by unfold maxLen; omega) (by simp)
  have hbel : Below w.heap.size w (w.alloc (.cells #[] 65)) := (Below.refl _ _).alloc (Nat.le_refl _) _
  rcases h.2 with ⟨h1, h2⟩ | ⟨g, cap, cur, h1, _⟩
  · obtain rfl : ps = [] := List.eq_nil_of_length_eq_zero h2
    subst h1
    refine ⟨_, _, run_append_owned_none (P := Try.prog) (w.alloc (.cells #[] 65)) w.heap.size 57 57 65 i 2 Try.underlying57 hi _ 0 [] hown0, hown0, hbel⟩
  · subst h1
    obtain ⟨v', w', hr, ho, hg, _⟩ := run_append_own (P := Try.prog) (w.alloc (.cells #[] 65)) w.heap.size 57 57 65 i _ 2 24 Try.underlying57 hi hz0 hz1 hz2 rfl (by omega) _ 0 [] hown0 ⟨g, 0, none⟩ ps.length cap (pgc ps)
      (by rw [pgc_length]) (cells_of_owned (World.ownsRow.alloc h _)) (pgc_oneCell _) (by unfold maxLen; omega) (by omega) (by simp)
    rw [Nat.zero_add, List.nil_append] at ho
    exact ⟨v', w', hr, ho, hbel.grown hg (by simp) (fun k hk => by simp only [Value.ownBlock, Option.some.injEq] at hk; omega)⟩
theorem PAt.base {w : World} {B B' b db gs mb : Nat} {own : List Nat} {P : PS} (h : PAt w B b db gs mb own P) (hB : B' ≤ B) : PAt w B' b db gs mb own P :=
  { h with disk := disk_base h.disk hB, hb := Nat.le_trans hB h.hb, hgs := Nat.le_trans hB h.hgs, hmb := Nat.le_trans hB h.hmb }
theorem PgsAt.base {w : World} {B B' : Nat} {v : Value} {ps : List (Int × ByteArray)} (h : PgsAt w B v ps) (hB : B' ≤ B) : PgsAt w B' v ps := ownsRow_base h hB

/-- Open, where a root lies on the disk. -/
theorem open_yes {w : World} {B db : Nat} {own : List Nat} {D : DS} (h : Disk w B db own D) (hy : D.byt) (h4 : 4 ≤ D.n) (hg : D.gone = false) {g : Int} {r : ByteArray} (hr : D.roots 2 = (g, r)) (hg0 : g ≠ 0) :
    Calls Try.prog 33 #[.pointer (some ⟨db, 0, none⟩)] w fun e w' => ∃ b gs mb, e = .returned (.tuple #[.pointer (some ⟨b, 0, none⟩), .int .i64 0]) ∧ (w.heap.size ≤ b ∧ w.heap.size ≤ gs ∧ w.heap.size ≤ mb) ∧ Pgr w' B b db (b :: gs :: mb :: own) { D := D, st := List.replicate D.n (0, 0), pins := [], pm := 0, gen := g, root := r, dead := false } ∧ Below w.heap.size w w' := by
  refine (open_at h hy).mono ?_
  rintro e w' ⟨⟨pv, rfl, hp⟩, hb⟩
  have h0 : D.openE = 0 := by unfold DS.openE; rw [if_neg (by omega), hg, if_neg (by decide), hr, if_neg hg0]
  rcases hp with ⟨h1, _⟩ | ⟨_, b, gs, mb, rfl, h1, h2, h3, hp⟩
  · exact absurd h0 h1
  · have e : PS.at D 2 = { D := D, st := List.replicate D.n (0, 0), pins := [], pm := 0, gen := g, root := r, dead := false } := by unfold PS.at; rw [hr]; rfl
    rw [e] at hp
    exact ⟨b, gs, mb, by rw [h0], ⟨h1, h2, h3⟩, ⟨gs, mb, own, hp, rfl⟩, hb⟩
theorem anew_start (D : DS) (hn : D.n = 30) (hok : D.ok) (ps : List (Int × ByteArray)) (g : Int) (r : ByteArray) : Anew D ps 0 { D := D, st := List.replicate D.n (0, 0), pins := [], pm := 0, gen := g, root := r, dead := false } := by
  refine ⟨rfl, ⟨hok, rfl⟩, by simp [hn], fun i hi => .inr ?_⟩
  show stOf (List.replicate D.n (0, 0)) i = 0
  rw [hn, blank_room 30 (by omega)]
  rcases Nat.lt_or_ge i 2 with h | h
  · rcases (by omega : i = 0 ∨ i = 1) with rfl | rfl <;> rfl
  · rw [roomSt_at 2 30 2 i (by omega) (by omega) h hi, if_neg (by omega)]
theorem hear_D (P : PS) (e : Int) : (P.hear e).D = P.D := by unfold PS.hear; split <;> rfl
theorem layRoot_n (D : DS) (g : Int) (X : List Int) : (D.layRoot g X).2.n = D.n := by
  unfold DS.layRoot
  split
  · split
    · rw [(flush_grow _).1, (write_grow _ _ _).1, (flush_grow _).1]
    · rw [(write_grow _ _ _).1, (flush_grow _).1]
  · exact (flush_grow _).1
theorem commit_n (P : PS) (s : ByteArray) : (P.commit s).2.D.n = P.D.n := by
  unfold PS.commit
  split
  · rfl
  · split
    · rfl
    · split
      · exact layRoot_n _ _ _
      · rw [hear_D]; exact layRoot_n _ _ _
theorem pages_nodup (ss : List ByteArray) (m : Nat) : ((pagesOf ss m).map (·.1)).Nodup := by
  rw [show (pagesOf ss m).map (·.1) = (List.range m).map fun i => ((i + 2 : Nat) : Int) by simp [pagesOf, Function.comp_def]]
  refine List.Pairwise.map _ (fun a b hab => ?_) List.nodup_range
  omega
end Go.Proofs.Ytambgimfbdecpaa
