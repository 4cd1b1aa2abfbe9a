/- What this text holds: flags that are kept, in order, none twice. -/
import Derived.Test.YtaniljfjmbifnaaGreatDoorK1
import Derived.Sort.OwnSorted
import Derived.Lib.RowBridge
namespace Go.Proofs.YtaniljfjmbifnaaGreatDoor.H
open Go.RowKit
set_option linter.unusedVariables false
set_option linter.unusedSimpArgs false

def sortP (l : List Bs) : List Bs := l.mergeSort fun x y => decide (x ≤ y)
def allP (l : List Bs) : List Bs := Go.Lib.compact (sortP (l.filterMap keptP))
def flagsP (l : List Bs) : List Bs := (allP l).take (min (allP l).length 20)
theorem rc_s (l : List Bs) : rc (l.map sR) = l.map Go.Proofs.encStr := by
  unfold rc
  induction l with
  | nil => rfl
  | cons a l ih => rw [List.map_cons, List.flatten_cons, List.map_append, ih]; rfl
theorem own_of {w : World} {B : Nat} {v : Value} {l : List Bs} (h : RO w B 9 1 v (l.map sR)) : w.ownsRow B 9 1 v l.length (l.map Go.Proofs.encStr) := by
  have := h.2
  rw [rc_s, List.length_map] at this
  exact this
theorem of_own {w : World} {B : Nat} {v : Value} {l : List Bs} (h : w.ownsRow B 9 1 v l.length (l.map Go.Proofs.encStr)) : RO w B 9 1 v (l.map sR) := by
  refine ⟨fun r hr => ?_, ?_⟩
  · obtain ⟨x, _, rfl⟩ := List.mem_map.1 hr
    rfl
  · rw [rc_s, List.length_map]
    exact h
theorem own_prefix {w : World} {B g c n : Nat} {l : List Bs} (h : w.ownsRow B 9 1 (.slice (some ⟨g, 0, none⟩) l.length c) l.length (l.map Go.Proofs.encStr)) (hn : n ≤ l.length) :
    w.ownsRow B 9 1 (.slice (some ⟨g, 0, none⟩) (l.take n).length c) (l.take n).length ((l.take n).map Go.Proofs.encStr) := by
  obtain ⟨h1, h2⟩ := h
  rcases h2 with ⟨h2, _⟩ | ⟨g', cap, cur, he, hB, hb, hc, hm, hs, ht⟩
  · cases h2
  · injection he with e1 e2 e3
    injection e1 with e1
    injection e1 with e1 e4 e5
    subst e1 e3
    have hl : (l.take n).length = n := by rw [List.length_take]; omega
    refine ⟨by simp, .inr ⟨_, _, cur, rfl, hB, hb, by rw [hl]; omega, hm, hs, ?_⟩⟩
    rw [hl, Nat.mul_one]
    rw [Nat.mul_one] at ht
    have := congrArg (List.take n) ht
    rw [List.take_take, Nat.min_eq_left hn, ← List.map_take] at this
    exact this
theorem sort_len (l : List Bs) : (sortP l).length = l.length := by unfold sortP; simp
/-- What the sort leaves: the same row, in order. -/
theorem sorted_row {w : World} {B : Nat} {v : Value} {l : List Bs} (h : RO w B 9 1 v (l.map sR)) (h0 : l ≠ []) : ∃ g c, v = .slice (some ⟨g, 0, none⟩) l.length c ∧ B ≤ g ∧ g < w.heap.size ∧ l.length ≤ c ∧ Go.Sort.Holds Go.Proofs.encStr w g 0 l.toArray ∧
    ∀ (ts : List Bs) n os, ts.length = l.length → RO (Go.Sort.grow (Go.Sort.putRow Go.Proofs.encStr (Go.Sort.ahead w n) g 0 ts.toArray) os) B 9 1 (.slice (some ⟨g, 0, none⟩) l.length c) (ts.map sR) ∧
      Below B w (Go.Sort.grow (Go.Sort.putRow Go.Proofs.encStr (Go.Sort.ahead w n) g 0 ts.toArray) os) := by
  have ho := own_of h
  rcases id ho.2 with ⟨_, h1⟩ | ⟨g, cap, cur, he, hB, hb, hc, hm, hs, ht⟩
  · exact absurd (List.length_eq_zero_iff.1 h1) h0
  · rw [Nat.mul_one] at ht
    refine ⟨g, cap, he, hB, (Array.getElem?_eq_some_iff.1 hb).1, hc, holds_of_block hb ht, fun ts n os hl => ⟨?_, ?_⟩⟩
    · have := ownsRow_sorted (os := os) (n := n) hl hB hb hc hm hs
      rw [← hl] at this ⊢
      exact of_own this
    · have := grownBy_sorted (w := w) (g := g) (n := n) (os := os) ts.toArray
      exact ⟨this.os, this.tape, this.output, this.size, fun i hi => this.block i (Nat.lt_of_lt_of_le hi (Nat.le_of_lt (Nat.lt_of_le_of_lt hB (Array.getElem?_eq_some_iff.1 hb).1))) (fun e => by cases e; omega)⟩
theorem filter_next (l : List Bs) (k : Nat) (h : k < l.length) : (l.take (k + 1)).filterMap keptP = (l.take k).filterMap keptP ++ (keptP l[k]).toList := by
  rw [List.take_succ_eq_append_getElem h, List.filterMap_append]
  rcases hk : keptP l[k] with _ | g
  · simp [List.filterMap_cons, hk]
  · simp [List.filterMap_cons, hk]
theorem keptV_none {f : Bs} (h : keptP f = none) : keptV f = .tuple #[.string (str f), .bool false] := by unfold keptV; rw [h]
theorem keptV_some {f g : Bs} (h : keptP f = some g) : keptV f = .tuple #[.string (str g), .bool true] := by unfold keptV; rw [h]
theorem filter_len (l : List Bs) : (l.filterMap keptP).length ≤ l.length := List.length_filterMap_le _ _
theorem sort_nil : sortP [] = [] := List.length_eq_zero_iff.1 (by rw [sort_len]; rfl)
theorem all_nil : allP [] = [] := by unfold allP; rw [List.filterMap_nil, sort_nil]; rfl
theorem sort_calls {w : World} {B : Nat} {v : Value} {l : List Bs} (h : RO w B 9 1 v (l.map sR)) (hBw : B ≤ w.heap.size) (hl : l.length ≤ 1000000) :
    Calls Tryz.prog 59 #[v] w fun e w' => e = .returned (.tuple #[]) ∧ RO w' B 9 1 v ((sortP l).map sR) ∧ Below B w w' := by
  by_cases h0 : l = []
  · subst h0
    obtain ⟨a, c, rfl⟩ := h.slice
    refine (Tryz.slices_Sort_string_none a c w).mono ?_
    rintro e w2 ⟨rfl, rfl⟩
    rw [sort_nil]
    exact ⟨rfl, h, Below.refl _ _⟩
  · obtain ⟨g, c, rfl, hB, hg, hc, hH, hall⟩ := sorted_row h h0
    refine (Tryz.slices_Sort_string g 0 c l w hH hg (by omega)).mono ?_
    rintro e w2 ⟨rfl, n, os, rfl⟩
    obtain ⟨h1, h2⟩ := hall (sortP l) n os (sort_len l)
    exact ⟨rfl, h1, h2⟩
theorem compact_calls {w : World} {B : Nat} {v : Value} {l : List Bs} (h : RO w B 9 1 v (l.map sR)) (hBw : B ≤ w.heap.size) (hl : l.length ≤ 1000000) :
    Calls Tryz.prog 60 #[v] w fun e w' => (∃ u, e = .returned u ∧ RO w' B 9 1 u ((Go.Lib.compact l).map sR)) ∧ Below B w w' := by
  by_cases h0 : l = []
  · subst h0
    obtain ⟨a, c, rfl⟩ := h.slice
    refine (Tryz.slices_Compact_string_empty a c w).mono ?_
    rintro e w2 ⟨rfl, rfl⟩
    exact ⟨⟨_, rfl, h⟩, Below.refl _ _⟩
  · obtain ⟨g, c, rfl, hB, hg, hc, hH, hall⟩ := sorted_row h h0
    refine (Tryz.slices_Compact_string g 0 c l w hH (by omega) hc).mono ?_
    rintro e w2 ⟨rfl, q, rfl⟩
    have hle := Go.Lib.compact_length_le l
    have hlen : (Go.Lib.compact l ++ List.replicate (l.length - (Go.Lib.compact l).length) ([] : Bs)).length = l.length := by simp; omega
    have htake : (Go.Lib.compact l ++ List.replicate (l.length - (Go.Lib.compact l).length) ([] : Bs)).take (Go.Lib.compact l).length = Go.Lib.compact l := List.take_left
    generalize Go.Lib.compact l ++ List.replicate (l.length - (Go.Lib.compact l).length) ([] : Bs) = ts at *
    obtain ⟨h1, h2⟩ := hall ts q #[] hlen
    rw [Go.Sort.grow_empty] at h1 h2
    refine ⟨⟨_, rfl, ?_⟩, h2⟩
    have h3 := own_of h1
    rw [← hlen] at h3
    have h4 := own_prefix (n := (Go.Lib.compact l).length) h3 (by omega)
    rw [htake] at h4
    exact of_own h4
set_option maxRecDepth 100000 in
set_option maxHeartbeats 2000000 in
theorem allKept_any {w : World} {v : Value} {l : List Bs} (h : RL w v 1 (l.map sR)) (hl : l.length ≤ 1000000) (hf : ∀ f ∈ l, f.length ≤ 10000000) :
    Calls Tryz.prog 30 #[v] w fun e w' => (∃ u, e = .returned u ∧ RO w' w.heap.size 9 1 u ((allP l).map sR)) ∧ Below w.heap.size w w' := by
  have HL := hid hl
  obtain ⟨hw, a, c, rfl, hc, hr⟩ := h
  rw [List.length_map] at *
  rcases hr with hr | ⟨g, o, rfl, hr, hg⟩
  · have : l = [] := by simpa using hr
    subst this
    have S := Tryz.slices_Sort_string_none none 0 w
    have C := Tryz.slices_Compact_string_empty none 0 w
    go_enter Tryz.func30, Tryz.ntmps30
    go_wp2_with fail
    go_loopw [3, 10] (fun v i wr => v = .slice none 0 0 ∧ i = .int .i64 0 ∧ wr = w) (fun _ _ _ => 0)
    case atStart => exact ⟨rfl, rfl, rfl⟩
    case round =>
      obtain ⟨rfl, rfl, rfl⟩ := hrel
      go_wp2_with fail
      refine S.mono ?_
      rintro e w2 ⟨rfl, rfl⟩
      go_wp2_with fail
      refine C.mono ?_
      rintro e w2 ⟨rfl, rfl⟩
      go_wp2_with fail
      go_ret
      rw [all_nil]
      exact ⟨⟨_, rfl, RO.nil _ _ _ _⟩, Below.refl _ _⟩
  · have HR := hid hr
    have HF := hid hf
    clear hr hf
    go_enter Tryz.func30, Tryz.ntmps30
    go_wp2_with fail
    go_loopw [3, 10] (fun v i wr => ∃ k : Nat, k ≤ l.length ∧ i = .int .i64 k ∧ RO wr w.heap.size 9 1 v (((l.take k).filterMap keptP).map sR) ∧ Below w.heap.size w wr) (fun _ i _ => l.length - (intOf i).toNat)
    case atStart => exact ⟨0, by omega, rfl, RO.nil _ _ _ _, Below.refl _ _⟩
    case round =>
      obtain ⟨k, hk, rfl, ho2, hb2⟩ := hrel
      have HB2 := hid hb2
      have HO2 := hid ho2
      clear ho2 hb2
      obtain ⟨a0, c0, hv0⟩ := HO2.out.slice
      rw [List.length_map] at hv0
      by_cases hlt : k < l.length
      · have hlt' : (k : Int) < l.length := by omega
        have HR2 := hid (HR.out.later HB2.out)
        have hrec : (l.map sR)[k]? = some (sR l[k]) := by rw [List.getElem?_map, List.getElem?_eq_getElem hlt]; rfl
        have hc0 : wr.cell? ⟨g, o + k, none⟩ = some (.string (str l[k])) := by
          have := HR2.out.rec k _ hrec 0 _ rfl
          simpa using this
        have hx := HF.out _ (List.getElem_mem hlt)
        have HN := hid (filter_next l k hlt)
        have HGl : Hid (((l.take k).filterMap keptP).length ≤ k) := by have := filter_len (l.take k); rw [List.length_take] at this; unfold Hid; omega
        clear hrec HF
        generalize l[k] = x at *
        have CK := kept_any x wr hx
        rcases hkp : keptP x with _ | g'
        · rw [keptV_none hkp] at CK
          have HN2 : Hid ((l.take (k + 1)).filterMap keptP = (l.take k).filterMap keptP) := by rw [Hid, HN.out, hkp]; simp
          clear HN hkp
          generalize ((l.take k).filterMap keptP).length = n0 at *
          subst hv0
          go_wp2_with fail
          refine CK.mono ?_
          rintro e w3 ⟨rfl, b3⟩
          have HB3 := hid (HB2.out.trans (b3.mono HB2.out.size))
          have HO3 := hid (HO2.out.later b3)
          clear b3
          go_wp2_with fail
          go_roundw
          case rel => exact ⟨k + 1, by omega, by go_num, by rw [HN2.out]; exact HO3.out, HB3.out⟩
          case measure => simp [intOf]; omega
        · rw [keptV_some hkp] at CK
          have HN2 : Hid ((l.take (k + 1)).filterMap keptP = (l.take k).filterMap keptP ++ [g']) := by rw [Hid, HN.out, hkp]; rfl
          clear HN hkp
          go_wp2_with fail
          refine CK.mono ?_
          rintro e w3 ⟨rfl, b3⟩
          have HB3 := hid (HB2.out.trans (b3.mono HB2.out.size))
          have HO3 := hid (HO2.out.later b3)
          clear b3
          obtain ⟨v', w', hr', ho', hb'⟩ := ro_one Tryz.underlying29 Tryz.info9 rfl (by omega) (by omega) HO3.out HB3.out.size (by have := HGl.out; have := HL.out; simp; omega) (sR g') rfl w3.heap.size rfl
          have HR' := hid hr'
          have HO' : Hid (RO w' w.heap.size 9 1 v' (((l.take (k + 1)).filterMap keptP).map sR)) := by
            rw [Hid, HN2.out, List.map_append]
            exact ho'
          have HB' := hid (HB3.out.trans hb')
          clear hr' ho' hb'
          obtain ⟨a5, c5, hv5⟩ := HO'.out.slice
          rw [List.length_map] at hv5
          generalize ((l.take k).filterMap keptP).length = n0 at *
          generalize ((l.take (k + 1)).filterMap keptP).length = n5 at *
          subst hv0 hv5
          go_wp2_with (at_builtin; refine wpList_append_run rfl rfl HR'.out ?_)
          go_roundw
          case rel => exact ⟨k + 1, by omega, by go_num, HO'.out, HB'.out⟩
          case measure => simp [intOf]; omega
      · have hlt' : ¬ (k : Int) < l.length := by omega
        have e := HO2.out
        rw [List.take_of_length_le (by omega)] at e
        have hle := filter_len l
        have S := sort_calls e HB2.out.size (by omega)
        have HSL := hid (sort_len (l.filterMap keptP))
        have HLE := hid hle
        have HAp : Hid (allP l = Go.Lib.compact (sortP (l.filterMap keptP))) := rfl
        clear e hle
        generalize l.filterMap keptP = m at *
        generalize ((l.take k).filterMap keptP).length = n0 at *
        subst hv0
        go_wp2_with fail
        refine S.mono ?_
        rintro e w2 ⟨rfl, s1, s2⟩
        have HB3 := hid (HB2.out.trans s2)
        have C := compact_calls s1 HB3.out.size (by rw [HSL.out]; have := HLE.out; have := HL.out; omega)
        clear s1 s2
        go_wp2_with fail
        refine C.mono ?_
        rintro e w3 ⟨⟨u, rfl, s1⟩, s2⟩
        have s3 := HB3.out.trans s2
        go_wp2_with fail
        go_ret
        rw [HAp.out]
        exact ⟨⟨_, rfl, s1⟩, s3⟩
end Go.Proofs.YtaniljfjmbifnaaGreatDoor.H
