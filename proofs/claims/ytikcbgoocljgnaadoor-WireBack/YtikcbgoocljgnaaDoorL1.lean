/- What this text holds: whether a command is gone through. -/
import Derived.Test.YtikcbgoocljgnaaDoorM27
namespace Go.Proofs.YtikcbgoocljgnaaDoor
open Go.RowKit
set_option linter.unusedVariables false
set_option linter.unusedSimpArgs false

def sm (l : List Bs) : Nat := (l.map fun t => min t.length 50000).sum
theorem sm_snoc (l : List Bs) (k : Nat) (h : k < l.length) : sm (l.take (k + 1)) = sm (l.take k) + min l[k].length 50000 := by
  rw [List.take_succ_eq_append_getElem h]
  simp only [sm, List.map_append, List.sum_append, List.map_cons, List.map_nil, List.sum_cons, List.sum_nil, Nat.add_zero]
theorem sm_le (l : List Bs) (k : Nat) : sm (l.take k) ≤ k * 50000 := by
  induction k with
  | zero => simp [sm]
  | succ k ih =>
    by_cases h : k < l.length
    · rw [sm_snoc l k h]; omega
    · have e : l.take (k + 1) = l.take k := by rw [List.take_of_length_le (by omega), List.take_of_length_le (by omega)]
      rw [e]
      exact Nat.le_trans ih (Nat.mul_le_mul_right _ (by omega))
theorem sm_lens : ∀ l : List Bs, sm l ≤ 20000 → lens l = sm l
  | [], _ => rfl
  | a :: l, h => by
    have e : sm (a :: l) = min a.length 50000 + sm l := by simp [sm]
    have e2 : lens (a :: l) = a.length + lens l := by simp [lens]
    rw [e] at h
    rw [e, e2, sm_lens l (by omega)]
    omega
/-- What is known of a command that is gone through. -/
def Few (T L : List Bs) : Prop := T.length ≤ 40 ∧ L.length ≤ 40 ∧ lens T + lens L ≤ 20000
theorem few_of {T L : List Bs} {k m : Nat} (h1 : T.length ≤ 40) (h2 : L.length ≤ 40) (hk : T.length ≤ k) (hm : L.length ≤ m) (h : sm (T.take k) + sm (L.take m) ≤ 20000) : Few T L := by
  rw [List.take_of_length_le hk, List.take_of_length_le hm] at h
  refine ⟨h1, h2, ?_⟩
  rw [sm_lens T (by omega), sm_lens L (by omega)]
  exact h
def FewIs (T L : List Bs) (w : World) (e : Ending) (w' : World) : Prop := ∃ r, e = .returned (.bool r) ∧ (r = true → Few T L) ∧ Below w.heap.size w w'
theorem mn (n : Nat) : ∃ m : Nat, min (n : Int) 50000 = m ∧ m = min n 50000 ∧ m ≤ 50000 := ⟨min n 50000, by omega, rfl, by omega⟩
set_option maxRecDepth 100000 in
set_option maxHeartbeats 4000000 in
theorem few_any {w : World} {vt vl : Value} {T L : List Bs} (hT : GL eS w vt T) (hL : GL eS w vl L) (hTl : ∀ s ∈ T, s.length ≤ 9223372036854775807) (hLl : ∀ s ∈ L, s.length ≤ 9223372036854775807) :
    Calls Tryd.prog 15 #[.agg #[vt, vl]] w (FewIs T L w) := by
  obtain ⟨a0, c0, rfl, hc0, h0⟩ := hT
  obtain ⟨a1, c1, rfl, hc1, h1⟩ := hL
  have hal : Below w.heap.size w (w.alloc (.cells #[.slice a0 T.length c0, .slice a1 L.length c1] 36)) := (Below.refl _ _).alloc (Nat.le_refl _) _
  have hrow := heap_alloc_new w (.cells #[.slice a0 T.length c0, .slice a1 L.length c1] 36)
  have r0 := row_at hrow 0 (v := .slice a0 T.length c0) rfl
  have r1 := row_at hrow 1 (v := .slice a1 L.length c1) rfl
  have HT := hid h0
  have HL := hid h1
  have HB := hid hal
  have HTl := hid hTl
  have HLl := hid hLl
  clear h0 h1 hal hrow hTl hLl
  go_enter Tryd.func15, Tryd.ntmps15
  go_wp2_with fail
  go_loop [3, 4] (fun nv i => ∃ k : Nat, k ≤ 41 ∧ k ≤ T.length ∧ nv = .int .i64 (sm (T.take k)) ∧ i = .int .i64 k) (fun _ i => 50 - (intOf i).toNat)
  case atStart => exact ⟨0, by omega, by omega, by simp [sm], rfl⟩
  case round =>
    obtain ⟨k, hk41, hk, rfl, rfl⟩ := hrel
    have hsm := sm_le T k
    by_cases hlt : k < T.length
    · have hlt' : (k : Int) < T.length := by omega
      by_cases h40 : k ≤ 40
      · have h40' : (k : Int) ≤ 40 := by omega
        obtain ⟨g, o, rfl, hga, hg⟩ := HT.out.resolve_left (fun e => by rw [e] at hlt; simp at hlt)
        have ct : (w.alloc (.cells #[.slice (some ⟨g, o, none⟩) T.length c0, .slice a1 L.length c1] 36)).cell? ⟨g, o + k, none⟩ = some (.string (str T[k])) := (hga.later HB.out).s k T[k] (List.getElem?_eq_getElem hlt)
        have hx := HTl.out T[k] (List.getElem_mem hlt)
        obtain ⟨m, hm1, hm2, hm3⟩ := mn T[k].length
        have HS : Hid (sm (T.take (k + 1)) = sm (T.take k) + m) := by rw [Hid, sm_snoc T k hlt, hm2]
        have hz := str_size T[k]
        clear hga HT hm2
        generalize T[k] = t at *
        generalize sm (T.take k) = n at *
        go_wp2_with fail
        go_round
        case rel => exact ⟨k + 1, by omega, by omega, by rw [HS.out]; go_num, by go_num⟩
        case measure => simp [intOf]; omega
      · have h40' : ¬ (k : Int) ≤ 40 := by omega
        have HK : Hid (¬ T.length ≤ 40) := by rw [Hid]; omega
        have HT40 := hid hk
        clear hk HT
        generalize hn0 : sm (T.take k) = n0 at *
        have Hn0 := hid hn0
        clear hn0
        go_wp2_with fail
        go_loop [3, 5] (fun nv i => ∃ q : Nat, q ≤ 41 ∧ q ≤ L.length ∧ nv = .int .i64 ((n0 + sm (L.take q) : Nat) : Int) ∧ i = .int .i64 q) (fun _ i => 50 - (intOf i).toNat)
        case atStart => exact ⟨0, by omega, by omega, by simp [sm], rfl⟩
        case round =>
          obtain ⟨q, hq41, hq, rfl, rfl⟩ := hrel
          have hsq := sm_le L q
          by_cases hlq : q < L.length
          · have hlq' : (q : Int) < L.length := by omega
            by_cases g40 : q ≤ 40
            · have g40' : (q : Int) ≤ 40 := by omega
              obtain ⟨g, o, rfl, hga, hg⟩ := HL.out.resolve_left (fun e => by rw [e] at hlq; simp at hlq)
              have ct : (w.alloc (.cells #[.slice a0 T.length c0, .slice (some ⟨g, o, none⟩) L.length c1] 36)).cell? ⟨g, o + q, none⟩ = some (.string (str L[q])) := (hga.later HB.out).s q L[q] (List.getElem?_eq_getElem hlq)
              have hx := HLl.out L[q] (List.getElem_mem hlq)
              obtain ⟨m, hm1, hm2, hm3⟩ := mn L[q].length
              have HS : Hid (n0 + sm (L.take (q + 1)) = n0 + sm (L.take q) + m) := by rw [Hid, sm_snoc L q hlq, hm2]; omega
              have hz := str_size L[q]
              clear hga HL hm2
              generalize L[q] = t at *
              generalize sm (L.take q) = n at *
              have hnb : n0 + n ≤ 5000000 := by omega
              generalize n0 + n = nn at *
              go_wp2_with fail
              go_round
              case rel => exact ⟨q + 1, by omega, by omega, by rw [HS.out]; go_num, by go_num⟩
              case measure => simp [intOf]; omega
            · have g40' : ¬ (q : Int) ≤ 40 := by omega
              have d2 : ¬ (L.length : Int) ≤ 40 := by omega
              have d1 : ¬ (T.length : Int) ≤ 40 := by have := HK.out; omega
              generalize n0 + sm (L.take q) = nn at *
              go_wp2_with fail
              go_ret
              exact ⟨false, rfl, (fun h => by cases h), HB.out⟩
          · have hlq' : ¬ (q : Int) < L.length := by omega
            have HQ : Hid (L.length ≤ q) := by rw [Hid]; omega
            have d1 : ¬ (T.length : Int) ≤ 40 := by have := HK.out; omega
            generalize n0 + sm (L.take q) = nn at *
            go_wp2_with fail
            go_ret
            exact ⟨false, rfl, (fun h => by cases h), HB.out⟩
    · have hlt' : ¬ (k : Int) < T.length := by omega
      have HK : Hid (T.length ≤ k) := by rw [Hid]; omega
      have HT40 := hid hk
      clear hk HT
      generalize hn0 : sm (T.take k) = n0 at *
      have Hn0 := hid hn0
      clear hn0
      go_wp2_with fail
      go_loop [3, 5] (fun nv i => ∃ q : Nat, q ≤ 41 ∧ q ≤ L.length ∧ nv = .int .i64 ((n0 + sm (L.take q) : Nat) : Int) ∧ i = .int .i64 q) (fun _ i => 50 - (intOf i).toNat)
      case atStart => exact ⟨0, by omega, by omega, by simp [sm], rfl⟩
      case round =>
        obtain ⟨q, hq41, hq, rfl, rfl⟩ := hrel
        have hsq := sm_le L q
        by_cases hlq : q < L.length
        · have hlq' : (q : Int) < L.length := by omega
          by_cases g40 : q ≤ 40
          · have g40' : (q : Int) ≤ 40 := by omega
            obtain ⟨g, o, rfl, hga, hg⟩ := HL.out.resolve_left (fun e => by rw [e] at hlq; simp at hlq)
            have ct : (w.alloc (.cells #[.slice a0 T.length c0, .slice (some ⟨g, o, none⟩) L.length c1] 36)).cell? ⟨g, o + q, none⟩ = some (.string (str L[q])) := (hga.later HB.out).s q L[q] (List.getElem?_eq_getElem hlq)
            have hx := HLl.out L[q] (List.getElem_mem hlq)
            obtain ⟨m, hm1, hm2, hm3⟩ := mn L[q].length
            have HS : Hid (n0 + sm (L.take (q + 1)) = n0 + sm (L.take q) + m) := by rw [Hid, sm_snoc L q hlq, hm2]; omega
            have hz := str_size L[q]
            clear hga HL hm2
            generalize L[q] = t at *
            generalize sm (L.take q) = n at *
            have hnb : n0 + n ≤ 5000000 := by omega
            generalize n0 + n = nn at *
            go_wp2_with fail
            go_round
            case rel => exact ⟨q + 1, by omega, by omega, by rw [HS.out]; go_num, by go_num⟩
            case measure => simp [intOf]; omega
          · have g40' : ¬ (q : Int) ≤ 40 := by omega
            have d2 : ¬ (L.length : Int) ≤ 40 := by omega
            by_cases e1 : T.length ≤ 40
            · have d1 : (T.length : Int) ≤ 40 := by omega
              generalize n0 + sm (L.take q) = nn at *
              go_wp2_with fail
              go_ret
              exact ⟨false, rfl, (fun h => by cases h), HB.out⟩
            · have d1 : ¬ (T.length : Int) ≤ 40 := by omega
              generalize n0 + sm (L.take q) = nn at *
              go_wp2_with fail
              go_ret
              exact ⟨false, rfl, (fun h => by cases h), HB.out⟩
        · have hlq' : ¬ (q : Int) < L.length := by omega
          have HQ : Hid (L.length ≤ q) := by rw [Hid]; omega
          by_cases e1 : T.length ≤ 40
          · have d1 : (T.length : Int) ≤ 40 := by omega
            by_cases e2 : L.length ≤ 40
            · have d2 : (L.length : Int) ≤ 40 := by omega
              have HF : Hid (n0 + sm (L.take q) ≤ 20000 → Few T L) := fun h => few_of e1 e2 HK.out HQ.out (by rw [Hn0.out]; exact h)
              generalize n0 + sm (L.take q) = nn at *
              by_cases e3 : nn ≤ 20000
              · have d3 : (nn : Int) ≤ 20000 := by omega
                have HG := hid (HF.out e3)
                clear HF
                go_wp2_with fail
                go_ret
                exact ⟨true, rfl, fun _ => HG.out, HB.out⟩
              · have d3 : ¬ (nn : Int) ≤ 20000 := by omega
                clear HF
                go_wp2_with fail
                go_ret
                exact ⟨false, rfl, (fun h => by cases h), HB.out⟩
            · have d2 : ¬ (L.length : Int) ≤ 40 := by omega
              generalize n0 + sm (L.take q) = nn at *
              go_wp2_with fail
              go_ret
              exact ⟨false, rfl, (fun h => by cases h), HB.out⟩
          · have d1 : ¬ (T.length : Int) ≤ 40 := by omega
            generalize n0 + sm (L.take q) = nn at *
            go_wp2_with fail
            go_ret
            exact ⟨false, rfl, (fun h => by cases h), HB.out⟩
end Go.Proofs.YtikcbgoocljgnaaDoor
