/- What this text holds: names in small letters, and whether a field has one of them; values of fields; lines of fields. -/
import Derived.Test.YtaniljfjmbifnaaGreatDoorHM6
namespace Go.Proofs.YtaniljfjmbifnaaGreatDoor.H
open Go.RowKit
set_option linter.unusedVariables false
set_option linter.unusedSimpArgs false

def sR (n : Bs) : List Bs := [n]
def hasB (l : List Bs) (x : Bs) : Bool := l.contains x
theorem contains_str (l : List Bs) (x : Bs) : Go.Lib.containsS (l.map str) (str x) = l.contains x := by
  rw [Bool.eq_iff_iff, Go.Lib.containsS_iff, List.contains_iff_mem, List.mem_map]
  constructor
  · rintro ⟨y, hy, h⟩
    rw [← str_inj h]; exact hy
  · intro h
    exact ⟨x, h, rfl⟩
theorem contains_any {w : World} {v : Value} {l : List Bs} (h : RL w v 1 (l.map sR)) (x : Bs) (hl : l.length ≤ 10000000) :
    Calls Tryz.prog 62 #[v, .string (str x)] w fun e w' => e = .returned (.bool (hasB l x)) ∧ w' = w := by
  obtain ⟨hw, a, c, rfl, hc, hr⟩ := h
  rw [List.length_map]
  rcases hr with hr | ⟨g, o, rfl, hr, hg⟩
  · have : l = [] := by simpa using hr
    subst this
    exact Tryz.slices_Contains_string_empty a c (str x) w
  · have C := Tryz.slices_Contains_string g o l.length c (l.map str) (str x) w (by simp) (by omega) (fun j hj => by
      rw [List.length_map] at hj
      have := hr.rec j [l[j]] (by simp [List.getElem?_eq_getElem hj, sR]) 0 l[j] rfl
      rw [Nat.mul_one, Nat.add_zero] at this
      rw [this, List.getD_eq_getElem?_getD, List.getElem?_map, List.getElem?_eq_getElem hj]
      rfl)
    rw [List.take_of_length_le (by simp), contains_str] at C
    exact C
set_option maxRecDepth 100000 in
set_option maxHeartbeats 4000000 in
theorem lowered_any {w : World} {v : Value} {names : List Bs} (h : RL w v 1 (names.map sR)) (hl : names.length ≤ 1000000) (hn : ∀ n ∈ names, n.length ≤ 10000000) :
    Calls Tryz.prog 101 #[v] w fun e w' => (∃ v, e = .returned v ∧ RO w' w.heap.size 9 1 v ((names.map low).map sR)) ∧ Below w.heap.size w w' := by
  obtain ⟨hw, a, c, rfl, hc, hr⟩ := h
  rw [List.length_map] at *
  rcases hr with hr | ⟨g, o, rfl, hr, hg⟩
  · have : names = [] := by simpa using hr
    subst this
    go_enter Tryz.func101, Tryz.ntmps101
    go_wp2_with fail
    go_loopw [3, 8] (fun v i wr => v = .slice none 0 0 ∧ i = .int .i64 0 ∧ wr = w) (fun _ _ _ => 0)
    case atStart => exact ⟨rfl, rfl, rfl⟩
    case round =>
      obtain ⟨rfl, rfl, rfl⟩ := hrel
      go_wp2_with fail
      go_ret
      exact ⟨⟨_, rfl, RO.nil _ _ _ _⟩, Below.refl _ _⟩
  · have HR := hid hr
    have HN0 := hid hn
    clear hr hn
    go_enter Tryz.func101, Tryz.ntmps101
    go_wp2_with fail
    go_loopw [3, 8] (fun v i wr => ∃ k : Nat, k ≤ names.length ∧ i = .int .i64 k ∧ RO wr w.heap.size 9 1 v (((names.take k).map low).map sR) ∧ Below w.heap.size w wr) (fun _ i _ => names.length - (intOf i).toNat)
    case atStart => exact ⟨0, by omega, rfl, RO.nil _ _ _ _, Below.refl _ _⟩
    case round =>
      obtain ⟨k, hk, rfl, ho2, hb2⟩ := hrel
      have HB2 := hid hb2
      have HO2 := hid ho2
      clear ho2 hb2
      by_cases hlt : k < names.length
      · have hlt' : (k : Int) < names.length := by omega
        have HR2 := hid (HR.out.later HB2.out)
        have hrec : (names.map sR)[k]? = some (sR names[k]) := by rw [List.getElem?_map, List.getElem?_eq_getElem hlt]; rfl
        have hc0 : wr.cell? ⟨g, o + k, none⟩ = some (.string (str names[k])) := by
          have := HR2.out.rec k _ hrec 0 _ rfl
          rw [Nat.mul_one] at this
          exact this
        have HN : Hid (((names.take (k + 1)).map low).map sR = ((names.take k).map low).map sR ++ [sR (low names[k])]) := by rw [Hid, List.take_succ_eq_append_getElem hlt, List.map_append, List.map_append]; rfl
        have HLo := hid (fun W => lower_any names[k] W (HN0.out _ (List.getElem_mem hlt)))
        clear hrec HN0
        generalize low names[k] = y at *
        generalize names[k] = x at *
        go_wp2_with fail
        refine (HLo.out _).mono ?_
        rintro e w3 ⟨rfl, hb3⟩
        have HB3 := hid (HB2.out.trans (hb3.mono HB2.out.size))
        have HO3 := hid (HO2.out.later hb3)
        obtain ⟨v', w', hr', ho', hb'⟩ := ro_one Tryz.underlying29 Tryz.info9 rfl (by omega) (by omega) HO3.out HB3.out.size (by simp; omega) (sR y) rfl w3.heap.size rfl
        rw [← HN.out] at ho'
        have HR' := hid hr'
        have HO' := hid ho'
        have HB' := hid (HB3.out.trans hb')
        clear hr' ho' hb' hb3 HN
        obtain ⟨a0, c0, hv0⟩ := HO2.out.sliceN (n := k) (by simp; omega)
        obtain ⟨a5, c5, hv5⟩ := HO'.out.sliceN (n := k + 1) (by simp; omega)
        subst hv0 hv5
        go_wp2_with (at_builtin; refine wpList_append_run rfl rfl HR'.out ?_)
        go_roundw
        case rel => exact ⟨k + 1, by omega, by go_num, HO'.out, HB'.out⟩
        case measure => simp [intOf]; omega
      · have hlt' : ¬ (k : Int) < names.length := by omega
        go_wp2_with fail
        go_ret
        have e := HO2.out
        rw [List.take_of_length_le (by omega), List.map_map] at e
        exact ⟨⟨_, rfl, e⟩, HB2.out⟩
set_option maxRecDepth 100000 in
set_option maxHeartbeats 4000000 in
theorem named_any {w : World} {v : Value} {sm : List Bs} (h : RL w v 1 (sm.map sR)) (nm vl : Bs) (hn : nm.length ≤ 10000000) (hl : sm.length ≤ 10000000) :
    Calls Tryz.prog 102 #[.agg #[.string (str nm), .string (str vl)], v] w fun e w' => e = .returned (.bool (hasB sm (low nm))) ∧ Below w.heap.size w w' := by
  have HB0 : Hid (Below w.heap.size w (w.alloc (.cells #[.string (str nm), .string (str vl)] 108))) := (Below.refl _ _).alloc (Nat.le_refl _) _
  have HLo := hid (fun W => lower_any nm W hn)
  have HR := hid h
  have HS : Hid (∃ a c, v = .slice a sm.length c) := by
    obtain ⟨hw, a, c, h, _⟩ := h
    rw [List.length_map] at h
    exact ⟨a, c, h⟩
  clear h
  go_enter Tryz.func102, Tryz.ntmps102
  go_wp2_with fail
  refine (HLo.out _).mono ?_
  rintro e w1 ⟨rfl, hb⟩
  have HB1 := hid (HB0.out.trans (hb.mono HB0.out.size))
  clear hb
  have HC := hid (contains_any (HR.out.later HB1.out) (low nm) hl)
  go_wp2_with fail
  refine HC.out.mono ?_
  rintro e w2 ⟨rfl, rfl⟩
  go_wp2_with fail
  go_ret
  exact ⟨rfl, HB1.out⟩
theorem among_is (n : Bs) (names : List Bs) : amongP n names = hasB (names.map low) (low n) := rfl
end Go.Proofs.YtaniljfjmbifnaaGreatDoor.H
