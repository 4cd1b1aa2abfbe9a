/- What this text holds: names in small letters, and whether a field has one of them; values of fields; lines of fields. · What this text holds: values of fields with some names; lines of fields with some names, or with others. -/
import Derived.Test.YtaniljfjmbifnaaGreatDoorHM6
namespace Go.Proofs.YtaniljfjmbifnaaGreatDoor.H
open Go.RowKit
set_option linter.unusedVariables false
set_option linter.unusedSimpArgs false

def sR (n : Bs) : List Bs := [n]
def hasB (l : List Bs) (x : Bs) : Bool := l.contains x
theorem contains_str (l : List Bs) (x : Bs) : Go.Lib.containsS (l.map str) (str x) = l.contains x := by
  rw [Bool.eq_iff_iff, Go.Lib.containsS_iff, List.contains_iff_mem, List.mem_map]
  constructor
  · rintro ⟨y, hy, h⟩
    rw [← str_inj h]; exact hy
  · intro h
    exact ⟨x, h, rfl⟩
theorem contains_any {w : World} {v : Value} {l : List Bs} (h : RL w v 1 (l.map sR)) (x : Bs) (hl : l.length ≤ 10000000) :
    Calls Tryz.prog 62 #[v, .string (str x)] w fun e w' => e = .returned (.bool (hasB l x)) ∧ w' = w := by
  obtain ⟨hw, a, c, rfl, hc, hr⟩ := h
  rw [List.length_map]
  rcases hr with hr | ⟨g, o, rfl, hr, hg⟩
  · have : l = [] := by simpa using hr
    subst this
    exact Tryz.slices_Contains_string_empty a c (str x) w
  · have C := Tryz.slices_Contains_string g o l.length c (l.map str) (str x) w (by simp) (by omega) (fun j hj => by
      rw [List.length_map] at hj
      have := hr.rec j [l[j]] (by simp [List.getElem?_eq_getElem hj, sR]) 0 l[j] rfl
      rw [Nat.mul_one, Nat.add_zero] at this
      rw [this, List.getD_eq_getElem?_getD, List.getElem?_map, List.getElem?_eq_getElem hj]
      rfl)
    rw [List.take_of_length_le (by simp), contains_str] at C
    exact C
set_option maxRecDepth 100000 in
set_option maxHeartbeats 4000000 in
theorem lowered_any {w : World} {v : Value} {names : List Bs} (h : RL w v 1 (names.map sR)) (hl : names.length ≤ 1000000) (hn : ∀ n ∈ names, n.length ≤ 10000000) :
    Calls Tryz.prog 101 #[v] w fun e w' => (∃ v, e = .returned v ∧ RO w' w.heap.size 9 1 v ((names.map low).map sR)) ∧ Below w.heap.size w w' := by
  obtain ⟨hw, a, c, rfl, hc, hr⟩ := h
  rw [List.length_map] at *
  rcases hr with hr | ⟨g, o, rfl, hr, hg⟩
  · have : names = [] := by simpa using hr
    subst this
    go_enter Tryz.func101, Tryz.ntmps101
    go_wp2_with fail
    go_loopw [3, 8] (fun v i wr => v = .slice none 0 0 ∧ i = .int .i64 0 ∧ wr = w) (fun _ _ _ => 0)
    case atStart => exact ⟨rfl, rfl, rfl⟩
    case round =>
      obtain ⟨rfl, rfl, rfl⟩ := hrel
      go_wp2_with fail
      go_ret
      exact ⟨⟨_, rfl, RO.nil _ _ _ _⟩, Below.refl _ _⟩
  · have HR := hid hr
    have HN0 := hid hn
    clear hr hn
    go_enter Tryz.func101, Tryz.ntmps101
    go_wp2_with fail
    go_loopw [3, 8] (fun v i wr => ∃ k : Nat, k ≤ names.length ∧ i = .int .i64 k ∧ RO wr w.heap.size 9 1 v (((names.take k).map low).map sR) ∧ Below w.heap.size w wr) (fun _ i _ => names.length - (intOf i).toNat)
    case atStart => exact ⟨0, by omega, rfl, RO.nil _ _ _ _, Below.refl _ _⟩
    case round =>
      obtain ⟨k, hk, rfl, ho2, hb2⟩ := hrel
      have HB2 := hid hb2
      have HO2 := hid ho2
      clear ho2 hb2
      by_cases hlt : k < names.length
      · have hlt' : (k : Int) < names.length := by omega
        have HR2 := hid (HR.out.later HB2.out)
        have hrec : (names.map sR)[k]? = some (sR names[k]) := by rw [List.getElem?_map, List.getElem?_eq_getElem hlt]; rfl
        have hc0 : wr.cell? ⟨g, o + k, none⟩ = some (.string (str names[k])) := by
          have := HR2.out.rec k _ hrec 0 _ rfl
          rw [Nat.mul_one] at this
          exact this
        have HN : Hid (((names.take (k + 1)).map low).map sR = ((names.take k).map low).map sR ++ [sR (low names[k])]) := by rw [Hid, List.take_succ_eq_append_getElem hlt, List.map_append, List.map_append]; rfl
        have HLo := hid (fun W => lower_any names[k] W (HN0.out _ (List.getElem_mem hlt)))
        clear hrec HN0
        generalize low names[k] = y at *
        generalize names[k] = x at *
        go_wp2_with fail
        refine (HLo.out _).mono ?_
        rintro e w3 ⟨rfl, hb3⟩
        have HB3 := hid (HB2.out.trans (hb3.mono HB2.out.size))
        have HO3 := hid (HO2.out.later hb3)
        obtain ⟨v', w', hr', ho', hb'⟩ := ro_one Tryz.underlying29 Tryz.info9 rfl (by omega) (by omega) HO3.out HB3.out.size (by simp; omega) (sR y) rfl w3.heap.size rfl
        rw [← HN.out] at ho'
        have HR' := hid hr'
        have HO' := hid ho'
        have HB' := hid (HB3.out.trans hb')
        clear hr' ho' hb' hb3 HN
        obtain ⟨a0, c0, hv0⟩ := HO2.out.sliceN (n := k) (by simp; omega)
        obtain ⟨a5, c5, hv5⟩ := HO'.out.sliceN (n := k + 1) (by simp; omega)
        subst hv0 hv5
        go_wp2_with (at_builtin; refine wpList_append_run rfl rfl HR'.out ?_)
        go_roundw
        case rel => exact ⟨k + 1, by omega, by go_num, HO'.out, HB'.out⟩
        case measure => simp [intOf]; omega
      · have hlt' : ¬ (k : Int) < names.length := by omega
        go_wp2_with fail
        go_ret
        have e := HO2.out
        rw [List.take_of_length_le (by omega), List.map_map] at e
        exact ⟨⟨_, rfl, e⟩, HB2.out⟩
set_option maxRecDepth 100000 in
set_option maxHeartbeats 4000000 in
theorem named_any {w : World} {v : Value} {sm : List Bs} (h : RL w v 1 (sm.map sR)) (nm vl : Bs) (hn : nm.length ≤ 10000000) (hl : sm.length ≤ 10000000) :
    Calls Tryz.prog 102 #[.agg #[.string (str nm), .string (str vl)], v] w fun e w' => e = .returned (.bool (hasB sm (low nm))) ∧ Below w.heap.size w w' := by
  have HB0 : Hid (Below w.heap.size w (w.alloc (.cells #[.string (str nm), .string (str vl)] 108))) := (Below.refl _ _).alloc (Nat.le_refl _) _
  have HLo := hid (fun W => lower_any nm W hn)
  have HR := hid h
  have HS : Hid (∃ a c, v = .slice a sm.length c) := by
    obtain ⟨hw, a, c, h, _⟩ := h
    rw [List.length_map] at h
    exact ⟨a, c, h⟩
  clear h
  go_enter Tryz.func102, Tryz.ntmps102
  go_wp2_with fail
  refine (HLo.out _).mono ?_
  rintro e w1 ⟨rfl, hb⟩
  have HB1 := hid (HB0.out.trans (hb.mono HB0.out.size))
  clear hb
  have HC := hid (contains_any (HR.out.later HB1.out) (low nm) hl)
  go_wp2_with fail
  refine HC.out.mono ?_
  rintro e w2 ⟨rfl, rfl⟩
  go_wp2_with fail
  go_ret
  exact ⟨rfl, HB1.out⟩
theorem among_is (n : Bs) (names : List Bs) : amongP n names = hasB (names.map low) (low n) := rfl
end Go.Proofs.YtaniljfjmbifnaaGreatDoor.H
namespace Go.Proofs.YtaniljfjmbifnaaGreatDoor.H
open Go.RowKit
set_option linter.unusedVariables false
set_option linter.unusedSimpArgs false

theorem getP_next (l : List (Bs × Bs)) (names : List Bs) (k : Nat) (hk : k < l.length) : getP (l.take (k + 1)) names = getP (l.take k) names ++ (if amongP l[k].1 names then [unf l[k].2] else []) := by
  unfold getP
  rw [List.take_succ_eq_append_getElem hk, List.filter_append, List.map_append]
  congr 1
  by_cases h : amongP l[k].1 names = true
  · simp [h]
  · simp [h]
theorem getP_len (l : List (Bs × Bs)) (names : List Bs) : (getP l names).length ≤ l.length := by
  unfold getP
  rw [List.length_map]
  exact List.length_filter_le _ _
set_option maxRecDepth 100000 in
set_option maxHeartbeats 4000000 in
theorem get_any {w : World} (he : Env w) {vl vn : Value} {l : List (Bs × Bs)} {names : List Bs} (h : RL w vl 2 (l.map fR)) (h' : RL w vn 1 (names.map sR)) (hl : l.length ≤ 1000000) (hnl : names.length ≤ 1000000) (hf : ∀ f ∈ l, f.1.length ≤ 10000000 ∧ f.2.length ≤ 10000000) (hn : ∀ n ∈ names, n.length ≤ 10000000) :
    Calls Tryz.prog 66 #[vl, vn] w fun e w' => (∃ v, e = .returned v ∧ RO w' w.heap.size 9 1 v ((getP l names).map sR)) ∧ Below w.heap.size w w' := by
  have HLw := hid (lowered_any h' hnl hn)
  have HE := hid he
  have hpos := he.pos
  clear he h' hn
  obtain ⟨hw, a, c, rfl, hc, hr⟩ := h
  rw [List.length_map] at *
  rcases hr with hr | ⟨g, o, rfl, hr, hg⟩
  · have : l = [] := by simpa using hr
    subst this
    go_enter Tryz.func66, Tryz.ntmps66
    go_wp2_with fail
    refine HLw.out.mono ?_
    rintro e w1 ⟨⟨vs, rfl, hs⟩, hb⟩
    have HB1 := hid hb
    clear hb
    go_wp2_with fail
    go_loopw [5, 13] (fun v i wr => v = .slice none 0 0 ∧ i = .int .i64 0 ∧ wr = w1) (fun _ _ _ => 0)
    case atStart => exact ⟨rfl, rfl, rfl⟩
    case round =>
      obtain ⟨rfl, rfl, rfl⟩ := hrel
      go_wp2_with fail
      go_ret
      exact ⟨⟨_, rfl, RO.nil _ _ _ _⟩, HB1.out⟩
  · have HR := hid hr
    have HF := hid hf
    clear hr hf
    go_enter Tryz.func66, Tryz.ntmps66
    go_wp2_with fail
    refine HLw.out.mono ?_
    rintro e w1 ⟨⟨vs, rfl, hs⟩, hb⟩
    have HB1 := hid hb
    have HW1 := hid hb.size
    have HS := hid hs.rl
    have HR1 := hid (HR.out.later hb)
    clear hb hs HLw HR
    go_wp2_with fail
    go_loopw [5, 13] (fun v i wr => ∃ k : Nat, k ≤ l.length ∧ i = .int .i64 k ∧ RO wr w1.heap.size 9 1 v ((getP (l.take k) names).map sR) ∧ Below w1.heap.size w1 wr) (fun _ i _ => l.length - (intOf i).toNat)
    case atStart => exact ⟨0, by omega, rfl, RO.nil _ _ _ _, Below.refl _ _⟩
    case round =>
      obtain ⟨k, hk, rfl, ho2, hb2⟩ := hrel
      have HB2 := hid hb2
      have HO2 := hid ho2
      clear ho2 hb2
      by_cases hlt : k < l.length
      · have hlt' : (k : Int) < l.length := by omega
        have HR2 := hid (HR1.out.later HB2.out)
        have hrec : (l.map fR)[k]? = some (fR l[k]) := by rw [List.getElem?_map, List.getElem?_eq_getElem hlt]; rfl
        have hc0 : wr.cell? ⟨g, o + k * 2, none⟩ = some (.string (str l[k].1)) := HR2.out.rec k _ hrec 0 _ rfl
        have hc1 : wr.cell? ⟨g, o + k * 2 + 1, none⟩ = some (.string (str l[k].2)) := HR2.out.rec k _ hrec 1 _ rfl
        have HN := hid (getP_next l names k hlt)
        have hx := (HF.out _ (List.getElem_mem hlt)).1
        have hy := (HF.out _ (List.getElem_mem hlt)).2
        have HGl : Hid ((getP (l.take k) names).length ≤ k) := by have := getP_len (l.take k) names; rw [List.length_take] at this; unfold Hid; omega
        clear hrec HF
        generalize l[k].1 = x at *
        generalize l[k].2 = y at *
        have HBa := hid (HB2.out.alloc HB2.out.size (.cells #[.string (str x), .string (str y)] 108))
        have HOa := hid (HO2.out.later ((Below.refl _ wr).alloc (Nat.le_refl _) (.cells #[.string (str x), .string (str y)] 108)))
        have HCn := hid (named_any (HS.out.later HBa.out) x y hx (by simp; omega))
        have hca0 : (wr.alloc (.cells #[.string (str x), .string (str y)] 108)).cell? ⟨wr.heap.size, 0, none⟩ = some (.string (str x)) := by simp only [World.cell?, heap_alloc_new]; rfl
        have hca1 : (wr.alloc (.cells #[.string (str x), .string (str y)] 108)).cell? ⟨wr.heap.size, 1, none⟩ = some (.string (str y)) := by simp only [World.cell?, heap_alloc_new]; rfl
        have HCa := hid hca1
        have HAs : Hid ((wr.alloc (.cells #[.string (str x), .string (str y)] 108)).heap.size = wr.heap.size + 1) := by simp [Hid]
        have hlt2 := HB2.out.size
        rw [← among_is] at HCn
        rcases hm : amongP x names
        · rw [hm] at HCn HN
          go_wp2_with fail
          refine HCn.out.mono ?_
          rintro e w3 ⟨rfl, hb3⟩
          have HB3 := hid (HBa.out.trans (hb3.mono (by rw [HAs.out]; omega)))
          have HO3 := hid (HOa.out.later hb3)
          clear hb3
          go_wp2_with fail
          go_roundw
          case rel => exact ⟨k + 1, by omega, by go_num, by rw [HN.out]; simpa using HO3.out, HB3.out⟩
          case measure => simp [intOf]; omega
        · rw [hm] at HCn HN
          go_wp2_with fail
          refine HCn.out.mono ?_
          rintro e w3 ⟨rfl, hb3⟩
          have HB3 := hid (HBa.out.trans (hb3.mono (by rw [HAs.out]; omega)))
          have HO3 := hid (HOa.out.later hb3)
          have hc3 : w3.cell? ⟨wr.heap.size, 1, none⟩ = some (.string (str y)) := (World.cell?_of_block (hb3.block wr.heap.size (by rw [HAs.out]; omega))).trans HCa.out
          clear hb3 hca0 hca1
          have HUn := hid (unfold_any y ((HE.out.later HB1.out).below HB3.out (by have := HW1.out; omega)) hy)
          go_wp2_with fail
          refine HUn.out.mono ?_
          rintro e w4 ⟨rfl, hb4⟩
          have HB4 := hid (HB3.out.trans (hb4.mono HB3.out.size))
          have HO4 := hid (HO3.out.later hb4)
          obtain ⟨v', w', hr', ho', hb'⟩ := ro_one Tryz.underlying29 Tryz.info9 rfl (by omega) (by omega) HO4.out HB4.out.size (by have := HGl.out; simp; omega) (sR (unf y)) rfl w4.heap.size rfl
          have HR' := hid hr'
          have HO' : Hid (RO w' w1.heap.size 9 1 v' ((getP (l.take (k + 1)) names).map sR)) := by
            rw [Hid, HN.out, List.map_append]
            exact ho'
          have HB' := hid (HB4.out.trans hb')
          clear hr' ho' hb' hb4 HN
          obtain ⟨a0, c0, hv0⟩ := HO2.out.slice
          obtain ⟨a5, c5, hv5⟩ := HO'.out.slice
          rw [List.length_map] at hv0 hv5
          generalize (getP (l.take k) names).length = n0 at *
          generalize (getP (l.take (k + 1)) names).length = n5 at *
          subst hv0 hv5
          go_wp2_with (at_builtin; refine wpList_append_run rfl rfl HR'.out ?_)
          go_roundw
          case rel => exact ⟨k + 1, by omega, by go_num, HO'.out, HB'.out⟩
          case measure => simp [intOf]; omega
      · have hlt' : ¬ (k : Int) < l.length := by omega
        go_wp2_with fail
        go_ret
        have e := HO2.out
        rw [List.take_of_length_le (by omega)] at e
        exact ⟨⟨_, rfl, e.base HW1.out⟩, HB1.out.trans (HB2.out.mono HW1.out)⟩
end Go.Proofs.YtaniljfjmbifnaaGreatDoor.H
