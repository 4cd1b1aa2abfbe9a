/- What this text holds: the document's Internal. (Written by genr9.py.) -/
import Derived.Test.YtnjdgbbdjkhpoaaDoorR8
namespace Go.Proofs.YtnjdgbbdjkhpoaaDoor
open Go.RowKit
set_option linter.unusedVariables false
set_option linter.unusedSimpArgs false

def dayR (s : Bs) : Bs := if s.head? = some 32 then 48 :: ((s.drop 1).take 1) else s.take 2
def dR (s : Bs) : Dt := ⟨numR ((s.drop 7).take 4), monthR ((s.drop 3).take 3), numR (dayR s), numR ((s.drop 12).take 2), numR ((s.drop 15).take 2), numR ((s.drop 18).take 2), (zoneT ((s.drop 21).take 5)).getD 0⟩
def rintV (s : Bs) : Option Dt := if s.length = 26 ∧ printV (dR s) = s then some (dR s) else none
theorem wp_once2 {c : Code} {R : Exit → Act → World → Prop} {a : Act} {w : World} (PW : Nat → World → Prop) (h : ∃ A : Nat → Act, c.wp Tryd.prog (fun e a' w' => e = .normal ∧ ∃ g, a' = A g ∧ PW g w') a w ∧ ∀ g w', PW g w' → R .normal (A g) w') : c.wp Tryd.prog R a w := by
  obtain ⟨A, h1, h2⟩ := h
  refine Code.wp_mono (fun e a' w' hh => ?_) h1
  obtain ⟨rfl, g, rfl, hp⟩ := hh
  exact h2 _ _ hp
theorem old_at (w : World) : (((w.alloc (.cells (dtL Dt.zero).toArray 29)).drew).alloc (.cells (dtL Dt.zero).toArray 29)).heap[w.heap.size]? = some (.cells (dtL Dt.zero).toArray 29 (0, 0)) :=
  (Below.heap_alloc _ _ _ (by simp)).trans (boxed0 Dt.zero w)
theorem below_new (w : World) {v : World} (hb : Below (((w.alloc (.cells (dtL Dt.zero).toArray 29)).drew).alloc (.cells (dtL Dt.zero).toArray 29)).heap.size (((w.alloc (.cells (dtL Dt.zero).toArray 29)).drew).alloc (.cells (dtL Dt.zero).toArray 29)) v) : Below w.heap.size w v :=
  ((((Below.refl _ w).alloc (Nat.le_refl _) _).drew).alloc (by simp) _).trans (hb.mono (by simp; omega))
theorem fin_a (w : World) {v : World} (hb : Below (((w.alloc (.cells (dtL Dt.zero).toArray 29)).drew).alloc (.cells (dtL Dt.zero).toArray 29)).heap.size (((w.alloc (.cells (dtL Dt.zero).toArray 29)).drew).alloc (.cells (dtL Dt.zero).toArray 29)) v) (hG : v.heap[w.heap.size + 1]? = some (.cells (dtL Dt.zero).toArray 29 (0, 0))) (D : Dt) :
    (putD v (w.heap.size + 1) D).heap[w.heap.size + 1]? = some (.cells (dtL D).toArray 29 (0, 0)) ∧ (putD v (w.heap.size + 1) D).heap[w.heap.size]? = some (.cells (dtL Dt.zero).toArray 29 (0, 0)) ∧ Below w.heap.size w (putD v (w.heap.size + 1) D) := by
  have e0 := putD_is v (w.heap.size + 1) Dt.zero D hG
  have hz := (hb.block w.heap.size (by simp; omega)).trans (old_at w)
  exact ⟨e0.1, (e0.2.2.block w.heap.size (lt_of_some hz) (by simp)).trans hz, below_kept (below_new w hb) e0.2.2 (by simp) (below_new w hb).size⟩
theorem fin_b (w : World) {v : World} (hb : Below ((w.alloc (.cells (dtL Dt.zero).toArray 29)).drew).heap.size ((w.alloc (.cells (dtL Dt.zero).toArray 29)).drew) v) (D : Dt) :
    (v.alloc (.cells (dtL D).toArray 29)).heap[v.heap.size]? = some (.cells (dtL D).toArray 29 (0, 0)) ∧ (v.alloc (.cells (dtL D).toArray 29)).heap[w.heap.size]? = some (.cells (dtL Dt.zero).toArray 29 (0, 0)) ∧ Below w.heap.size w (v.alloc (.cells (dtL D).toArray 29)) := by
  have hz := (hb.block w.heap.size (by simp)).trans (boxed0 Dt.zero w)
  have hb0 : Below w.heap.size w v := (((Below.refl _ w).alloc (Nat.le_refl _) _).drew).trans (hb.mono (by simp))
  exact ⟨heap_alloc_new _ _, (Below.heap_alloc _ _ _ (lt_of_some hz)).trans hz, hb0.alloc hb0.size _⟩
set_option maxRecDepth 100000 in
theorem results22_run {w : World} {A : Nat} {t : Dt} {v : Value} (tmps : Array Value) (h2 : tmps[2]? = some (.pointer (some ⟨A, 0, none⟩))) (h3 : tmps[3]? = some v)
    (hA : w.heap[A]? = some (.cells (dtL t).toArray 29 (0, 0))) : (results Tryd.f22 tmps).run Tryd.prog w = .ok (.tuple #[dtV t, v]) w := by
  obtain ⟨a0, a1, a2, a3, a4, a5, a6⟩ := cA_load hA
  simp [results, Tryd.results22, go_sem, h2, h3, a0, a1, a2, a3, a4, a5, a6, dtV, dtL]
theorem new_at (w : World) : (((w.alloc (.cells (dtL Dt.zero).toArray 29)).drew).alloc (.cells (dtL Dt.zero).toArray 29)).heap[w.heap.size + 1]? = some (.cells (dtL Dt.zero).toArray 29 (0, 0)) := by
  have := heap_alloc_new (w.alloc (.cells (dtL Dt.zero).toArray 29)).drew (.cells (dtL Dt.zero).toArray 29)
  simpa using this
set_option maxRecDepth 100000 in
set_option maxHeartbeats 8000000 in
theorem rinternal_any (s : Bs) (hs : s.length ≤ 1000000) (w : World) : Calls Tryd.prog 22 #[.string (str s)] w fun e w' => e = .returned (readV (rintV s)) ∧ Below w.heap.size w w' := by
  have hsz := str_size s
  have hA := boxed0 Dt.zero w
  have HA := hid hA
  have HB : Hid (Below w.heap.size w (w.alloc (.cells (dtL Dt.zero).toArray 29))) := (Below.refl _ _).alloc (Nat.le_refl _) _
  by_cases h26 : s.length = 26
  · have h26' : ((s.length : Int) == 26) = true := by rw [h26]; rfl
    have f26 : ((s.length : Int) != 26) = false := by rw [h26]; rfl
    have H26 := hid h26
    have i2 : (2 : Int) ≤ s.length := by omega
    have i3 : (3 : Int) ≤ s.length := by omega
    have i6 : (6 : Int) ≤ s.length := by omega
    have i7 : (7 : Int) ≤ s.length := by omega
    have i11 : (11 : Int) ≤ s.length := by omega
    have i12 : (12 : Int) ≤ s.length := by omega
    have i14 : (14 : Int) ≤ s.length := by omega
    have i15 : (15 : Int) ≤ s.length := by omega
    have i17 : (17 : Int) ≤ s.length := by omega
    have i18 : (18 : Int) ≤ s.length := by omega
    have i20 : (20 : Int) ≤ s.length := by omega
    have i21 : (21 : Int) ≤ s.length := by omega
    have m7 : (str s).extract 7 11 = str ((s.drop 7).take 4) := mid_str s 7 11
    have b7 : ((s.drop 7).take 4).length ≤ 1000000 := by simp; omega
    have m3 : (str s).extract 3 6 = str ((s.drop 3).take 3) := mid_str s 3 6
    have b3 : ((s.drop 3).take 3).length ≤ 1000000 := by simp; omega
    have m12 : (str s).extract 12 14 = str ((s.drop 12).take 2) := mid_str s 12 14
    have b12 : ((s.drop 12).take 2).length ≤ 1000000 := by simp; omega
    have m15 : (str s).extract 15 17 = str ((s.drop 15).take 2) := mid_str s 15 17
    have b15 : ((s.drop 15).take 2).length ≤ 1000000 := by simp; omega
    have m18 : (str s).extract 18 20 = str ((s.drop 18).take 2) := mid_str s 18 20
    have b18 : ((s.drop 18).take 2).length ≤ 1000000 := by simp; omega
    have m21 : (str s).extract 21 26 = str ((s.drop 21).take 5) := mid_str s 21 26
    have b21 : ((s.drop 21).take 5).length ≤ 1000000 := by simp; omega
    have m2 : (str s).extract 0 2 = str (s.take 2) := take_str s 2
    have z2 : (str (s.take 2)).size = 2 := by rw [str_size]; simp; omega
    have hx : 0 < (str (s.take 2)).size := by omega
    have hs0 : 0 < s.length := by omega
    have gg : (str (s.take 2))[0]'hx = s[0] := by
      show (s.take 2)[0]'(by simp; omega) = s[0]
      simp
    have hh := head_at hs0
    have HDR : Hid (dR s = ⟨numR ((s.drop 7).take 4), monthR ((s.drop 3).take 3), numR (dayR s), numR ((s.drop 12).take 2), numR ((s.drop 15).take 2), numR ((s.drop 18).take 2), (zoneT ((s.drop 21).take 5)).getD 0⟩) := rfl
    generalize (s.drop 7).take 4 = x7 at m7 b7 HDR
    generalize (s.drop 3).take 3 = x3 at m3 b3 HDR
    generalize (s.drop 12).take 2 = x12 at m12 b12 HDR
    generalize (s.drop 15).take 2 = x15 at m15 b15 HDR
    generalize (s.drop 18).take 2 = x18 at m18 b18 HDR
    generalize (s.drop 21).take 5 = x21 at m21 b21 HDR
    by_cases h32 : s[0] = 32
    · have e32 : ((s[0].toNat : Int) == 32) = true := by rw [h32]; rfl
      have md : { data := #[48] } ++ (str (s.take 2)).extract 1 2 = str (dayR s) := by
        unfold dayR
        rw [hh, h32, if_pos rfl, mid_str, show ({ data := #[48] } : ByteArray) = str [48] from rfl, app_str, List.drop_take, List.take_take]
        rfl
      have bd : (dayR s).length ≤ 1000000 := by unfold dayR; rw [hh, h32, if_pos rfl]; simp; omega
      generalize dayR s = dy at md bd HDR
      generalize s[0] = c at gg e32
      clear h32 hh
      go_enter Tryd.func22, Tryd.ntmps22
      go_wp2_with fail
      refine (rzone_any x21 b21 _).mono ?_
      rintro e w1 ⟨rfl, rfl⟩
      go_wp2_with fail
      apply wp_once2 (fun g W => W.heap[g]? = some (.cells (dtL ⟨numR x7, monthR x3, numR dy, numR x12, numR x15, numR x18, (zoneT x21).getD 0⟩).toArray 29 (0, 0)) ∧ W.heap[w.heap.size]? = some (.cells (dtL Dt.zero).toArray 29 (0, 0)) ∧ Below w.heap.size w W)
      apply Exists.intro
      apply And.intro
      · go_region_held3 (fun _ => True) (trivial) (first | (go_at_call 44; refine (rnumber_any _ (by assumption) _).mono ?_; rintro e wn ⟨rfl, rfl⟩) | (go_at_call 45; refine (rmonth_any _ b3 _).mono ?_; rintro e wm ⟨rfl, hbm⟩; first | (have hG : wm.heap[w.heap.size + 1]? = some (.cells (dtL Dt.zero).toArray 29 (0, 0)) := (hbm.block (w.heap.size + 1) (by simp)).trans (new_at w); have hGc := cA_load hG; have hGf : ∀ k, wm.frozen? ⟨w.heap.size + 1, k, none⟩ = false := (fun k => by simp [World.frozen?, hG]); obtain ⟨g0, g1, g2, g3, g4, g5, g6⟩ := hGc) | skip))
        all_goals
          first
          | (have e := fin_a w hbm hG ⟨numR x7, monthR x3, numR dy, numR x12, numR x15, numR x18, (zoneT x21).getD 0⟩
             generalize w.heap.size + 1 = g at e ⊢
             exact ⟨rfl, g, rfl, e⟩)
          | (have e := fin_b w hbm ⟨numR x7, monthR x3, numR dy, numR x12, numR x15, numR x18, (zoneT x21).getD 0⟩
             first
             | generalize wn.heap.size = g at e ⊢
             | generalize wm.heap.size = g at e ⊢
             exact ⟨rfl, g, rfl, e⟩)
      · rintro g W ⟨hg, hA7, hb7⟩
        obtain ⟨g0, g1, g2, g3, g4, g5, g6⟩ := cA_load hg
        have HG := hid hg
        have HA7 := hid hA7
        have HB7 := hid hb7
        have CP := rprint_any ⟨numR x7, monthR x3, numR dy, numR x12, numR x15, numR x18, (zoneT x21).getD 0⟩ W
        rw [show dtV ⟨numR x7, monthR x3, numR dy, numR x12, numR x15, numR x18, (zoneT x21).getD 0⟩ = .agg #[.int .i64 (numR x7), .int .i64 (monthR x3), .int .i64 (numR dy), .int .i64 (numR x12), .int .i64 (numR x15), .int .i64 (numR x18), .int .i64 ((zoneT x21).getD 0)] from rfl] at CP
        have HCP := hid CP
        clear hg hA7 hb7 CP
        go_wp2_with fail
        refine HCP.out.mono ?_
        rintro e w5 ⟨rfl, hb5⟩
        have hg5 := (hb5.block g (lt_of_some HG.out)).trans HG.out
        have hA5 := (hb5.block w.heap.size (lt_of_some HA7.out)).trans HA7.out
        have HB5 := hid (HB7.out.trans (hb5.mono HB7.out.size))
        have HA5 := hid hA5
        clear g0 g1 g2 g3 g4 g5 g6
        obtain ⟨g0, g1, g2, g3, g4, g5, g6⟩ := cA_load hg5
        obtain ⟨a0, a1, a2, a3, a4, a5, a6⟩ := cA_load hA5
        have fA : ∀ k, w5.frozen? ⟨w.heap.size, k, none⟩ = false := fun k => by simp [World.frozen?, hA5]
        clear hg5 hA5 hb5
        by_cases hp : printV ⟨numR x7, monthR x3, numR dy, numR x12, numR x15, numR x18, (zoneT x21).getD 0⟩ = s
        · have hq : ((str (printV ⟨numR x7, monthR x3, numR dy, numR x12, numR x15, numR x18, (zoneT x21).getD 0⟩)).toList == (str s).toList) = true := by rw [str_eq]; simp [hp]
          have HV : Hid (rintV s = some ⟨numR x7, monthR x3, numR dy, numR x12, numR x15, numR x18, (zoneT x21).getD 0⟩) := by unfold Hid rintV; rw [HDR.out, if_pos ⟨H26.out, hp⟩]
          clear hp
          go_wp2_with fail
          obtain ⟨p1, p2, p3⟩ := putD_is w5 w.heap.size Dt.zero ⟨numR x7, monthR x3, numR dy, numR x12, numR x15, numR x18, (zoneT x21).getD 0⟩ HA5.out
          refine bodyPost_ret (w := putD w5 w.heap.size ⟨numR x7, monthR x3, numR dy, numR x12, numR x15, numR x18, (zoneT x21).getD 0⟩) (results22_run _ rfl rfl p1) rfl ?_
          rw [HV.out]
          exact ⟨rfl, below_kept HB5.out p3 (by simp) HB5.out.size⟩
        · have hq : ((str (printV ⟨numR x7, monthR x3, numR dy, numR x12, numR x15, numR x18, (zoneT x21).getD 0⟩)).toList == (str s).toList) = false := by rw [str_eq]; simp [hp]
          have HV : Hid (rintV s = none) := by unfold Hid rintV; rw [HDR.out, if_neg]; rintro ⟨_, h⟩; exact hp h
          clear hp
          go_wp2_with fail
          obtain ⟨p1, p2, p3⟩ := putD_is w5 w.heap.size Dt.zero Dt.zero HA5.out
          refine bodyPost_ret (w := putD w5 w.heap.size Dt.zero) (results22_run _ rfl rfl p1) rfl ?_
          rw [HV.out]
          exact ⟨rfl, below_kept HB5.out p3 (by simp) HB5.out.size⟩
    · have e32 : ((s[0].toNat : Int) == 32) = false := by
        rw [show ((32 : Int)) = ((32 : Nat) : Int) from rfl, u8_int s[0] 32 (by omega)]
        simpa using h32
      have hd0 : dayR s = s.take 2 := by
        unfold dayR
        rw [hh, if_neg]
        intro e
        exact h32 (Option.some.inj e)
      rw [hd0] at HDR
      have bd : (s.take 2).length ≤ 1000000 := by simp; omega
      generalize s.take 2 = dy at m2 z2 hx gg HDR bd
      generalize s[0] = c at gg e32
      clear h32 hh hd0
      go_enter Tryd.func22, Tryd.ntmps22
      go_wp2_with fail
      refine (rzone_any x21 b21 _).mono ?_
      rintro e w1 ⟨rfl, rfl⟩
      go_wp2_with fail
      apply wp_once2 (fun g W => W.heap[g]? = some (.cells (dtL ⟨numR x7, monthR x3, numR dy, numR x12, numR x15, numR x18, (zoneT x21).getD 0⟩).toArray 29 (0, 0)) ∧ W.heap[w.heap.size]? = some (.cells (dtL Dt.zero).toArray 29 (0, 0)) ∧ Below w.heap.size w W)
      apply Exists.intro
      apply And.intro
      · go_region_held3 (fun _ => True) (trivial) (first | (go_at_call 44; refine (rnumber_any _ (by assumption) _).mono ?_; rintro e wn ⟨rfl, rfl⟩) | (go_at_call 45; refine (rmonth_any _ b3 _).mono ?_; rintro e wm ⟨rfl, hbm⟩; first | (have hG : wm.heap[w.heap.size + 1]? = some (.cells (dtL Dt.zero).toArray 29 (0, 0)) := (hbm.block (w.heap.size + 1) (by simp)).trans (new_at w); have hGc := cA_load hG; have hGf : ∀ k, wm.frozen? ⟨w.heap.size + 1, k, none⟩ = false := (fun k => by simp [World.frozen?, hG]); obtain ⟨g0, g1, g2, g3, g4, g5, g6⟩ := hGc) | skip))
        all_goals
          first
          | (have e := fin_a w hbm hG ⟨numR x7, monthR x3, numR dy, numR x12, numR x15, numR x18, (zoneT x21).getD 0⟩
             generalize w.heap.size + 1 = g at e ⊢
             exact ⟨rfl, g, rfl, e⟩)
          | (have e := fin_b w hbm ⟨numR x7, monthR x3, numR dy, numR x12, numR x15, numR x18, (zoneT x21).getD 0⟩
             first
             | generalize wn.heap.size = g at e ⊢
             | generalize wm.heap.size = g at e ⊢
             exact ⟨rfl, g, rfl, e⟩)
      · rintro g W ⟨hg, hA7, hb7⟩
        obtain ⟨g0, g1, g2, g3, g4, g5, g6⟩ := cA_load hg
        have HG := hid hg
        have HA7 := hid hA7
        have HB7 := hid hb7
        have CP := rprint_any ⟨numR x7, monthR x3, numR dy, numR x12, numR x15, numR x18, (zoneT x21).getD 0⟩ W
        rw [show dtV ⟨numR x7, monthR x3, numR dy, numR x12, numR x15, numR x18, (zoneT x21).getD 0⟩ = .agg #[.int .i64 (numR x7), .int .i64 (monthR x3), .int .i64 (numR dy), .int .i64 (numR x12), .int .i64 (numR x15), .int .i64 (numR x18), .int .i64 ((zoneT x21).getD 0)] from rfl] at CP
        have HCP := hid CP
        clear hg hA7 hb7 CP
        go_wp2_with fail
        refine HCP.out.mono ?_
        rintro e w5 ⟨rfl, hb5⟩
        have hg5 := (hb5.block g (lt_of_some HG.out)).trans HG.out
        have hA5 := (hb5.block w.heap.size (lt_of_some HA7.out)).trans HA7.out
        have HB5 := hid (HB7.out.trans (hb5.mono HB7.out.size))
        have HA5 := hid hA5
        clear g0 g1 g2 g3 g4 g5 g6
        obtain ⟨g0, g1, g2, g3, g4, g5, g6⟩ := cA_load hg5
        obtain ⟨a0, a1, a2, a3, a4, a5, a6⟩ := cA_load hA5
        have fA : ∀ k, w5.frozen? ⟨w.heap.size, k, none⟩ = false := fun k => by simp [World.frozen?, hA5]
        clear hg5 hA5 hb5
        by_cases hp : printV ⟨numR x7, monthR x3, numR dy, numR x12, numR x15, numR x18, (zoneT x21).getD 0⟩ = s
        · have hq : ((str (printV ⟨numR x7, monthR x3, numR dy, numR x12, numR x15, numR x18, (zoneT x21).getD 0⟩)).toList == (str s).toList) = true := by rw [str_eq]; simp [hp]
          have HV : Hid (rintV s = some ⟨numR x7, monthR x3, numR dy, numR x12, numR x15, numR x18, (zoneT x21).getD 0⟩) := by unfold Hid rintV; rw [HDR.out, if_pos ⟨H26.out, hp⟩]
          clear hp
          go_wp2_with fail
          obtain ⟨p1, p2, p3⟩ := putD_is w5 w.heap.size Dt.zero ⟨numR x7, monthR x3, numR dy, numR x12, numR x15, numR x18, (zoneT x21).getD 0⟩ HA5.out
          refine bodyPost_ret (w := putD w5 w.heap.size ⟨numR x7, monthR x3, numR dy, numR x12, numR x15, numR x18, (zoneT x21).getD 0⟩) (results22_run _ rfl rfl p1) rfl ?_
          rw [HV.out]
          exact ⟨rfl, below_kept HB5.out p3 (by simp) HB5.out.size⟩
        · have hq : ((str (printV ⟨numR x7, monthR x3, numR dy, numR x12, numR x15, numR x18, (zoneT x21).getD 0⟩)).toList == (str s).toList) = false := by rw [str_eq]; simp [hp]
          have HV : Hid (rintV s = none) := by unfold Hid rintV; rw [HDR.out, if_neg]; rintro ⟨_, h⟩; exact hp h
          clear hp
          go_wp2_with fail
          obtain ⟨p1, p2, p3⟩ := putD_is w5 w.heap.size Dt.zero Dt.zero HA5.out
          refine bodyPost_ret (w := putD w5 w.heap.size Dt.zero) (results22_run _ rfl rfl p1) rfl ?_
          rw [HV.out]
          exact ⟨rfl, below_kept HB5.out p3 (by simp) HB5.out.size⟩
  · have h26' : ((s.length : Int) == 26) = false := by rw [beq_eq_false_iff_ne]; omega
    have f26 : ((s.length : Int) != 26) = true := by simp [bne, h26']
    have HV : Hid (rintV s = none) := by unfold Hid rintV; rw [if_neg]; rintro ⟨h, _⟩; exact h26 h
    obtain ⟨a0, a1, a2, a3, a4, a5, a6⟩ := cA_load hA
    clear hA h26
    go_enter Tryd.func22, Tryd.ntmps22
    go_wp2_with fail
    first
    | (refine bodyPost_ret (results22_run (t := Dt.zero) _ rfl rfl HA.out) rfl ?_
       rw [HV.out]
       exact ⟨rfl, HB.out⟩)
    | (obtain ⟨x1, x2, x3⟩ := putD_is _ w.heap.size Dt.zero Dt.zero HA.out
       refine bodyPost_ret (w := putD (w.alloc (.cells (dtL Dt.zero).toArray 29)) w.heap.size Dt.zero) (results22_run (t := Dt.zero) _ rfl rfl x1) rfl ?_
       rw [HV.out]
       exact ⟨rfl, below_kept HB.out x3 (by simp) HB.out.size⟩)
end Go.Proofs.YtnjdgbbdjkhpoaaDoor
