/- What this text holds: whether a command is one that comes of its bytes. -/
import Derived.Test.YtikcbgoocljgnaaDoorD3
import Derived.Test.YtikcbgoocljgnaaDoorM26
namespace Go.Proofs.YtikcbgoocljgnaaDoor
open Go.RowKit
set_option linter.unusedVariables false
set_option linter.unusedSimpArgs false

/-- What is known of a command that comes of its bytes. -/
def Clean (T L : List Bs) : Prop := T.length = L.length + 1 ∧ L.length ≤ 20 ∧ (∀ t ∈ T, okT t) ∧ 8 * L.length + lens T ≤ 4000
def CleanIs (T L : List Bs) (w : World) (e : Ending) (w' : World) : Prop := ∃ r, e = .returned (.bool r) ∧ (r = true → Clean T L) ∧ Below w.heap.size w w'
set_option maxRecDepth 100000 in
set_option maxHeartbeats 4000000 in
theorem clean_any {w : World} {vt vl : Value} {T L : List Bs} (hT : GL eS w vt T) (hL : GL eS w vl L) (hTl : T.length ≤ 1000) (hLl : L.length ≤ 1000) (hs : 8 * L.length + lens T ≤ 9223372036854775807) :
    Calls Tryd.prog 18 #[.agg #[vt, vl]] w (CleanIs T L w) := by
  obtain ⟨a0, c0, rfl, hc0, h0⟩ := hT
  obtain ⟨a1, c1, rfl, hc1, h1⟩ := hL
  have hal : Below w.heap.size w (w.alloc (.cells #[.slice a0 T.length c0, .slice a1 L.length c1] 36)) := (Below.refl _ _).alloc (Nat.le_refl _) _
  have hrow := heap_alloc_new w (.cells #[.slice a0 T.length c0, .slice a1 L.length c1] 36)
  have r0 := row_at hrow 0 (v := .slice a0 T.length c0) rfl
  have r1 := row_at hrow 1 (v := .slice a1 L.length c1) rfl
  have HB := hid hal
  by_cases hlen : T.length = L.length + 1
  · have hq : ((T.length : Int) != (L.length : Int) + 1) = false := by simp; omega
    have hq2 : ((T.length : Int) == (L.length : Int) + 1) = true := by simp; omega
    by_cases h20 : L.length ≤ 20
    · have d20 : ¬ (20 : Int) < L.length := by omega
      have hTne : T ≠ [] := fun e => by rw [e] at hlen; simp at hlen
      obtain ⟨g, o, rfl, hga, hg⟩ := h0.resolve_left hTne
      have HG : Hid (GA eS (w.alloc (.cells #[.slice (some ⟨g, o, none⟩) T.length c0, .slice a1 L.length c1] 36)) g o T) := hga.later hal
      have HLen := hid hlen
      have H20 := hid h20
      have HS := hid hs
      clear h0 h1 hlen hal hrow hga hTne h20 hs
      go_enter Tryd.func18, Tryd.ntmps18
      go_wp2_with fail
      go_loop [3, 31] (fun nv i => ∃ k : Nat, k ≤ T.length ∧ nv = .int .i64 ((8 * L.length + lens (T.take k) : Nat) : Int) ∧ i = .int .i64 k ∧ ∀ t ∈ T.take k, okT t) (fun _ i => T.length - (intOf i).toNat)
      case atStart => exact ⟨0, by omega, by simp [lens], rfl, by simp⟩
      case round =>
        obtain ⟨k, hk, rfl, rfl, hok⟩ := hrel
        have HOk := hid hok
        have hln := lens_take T k
        have hs := HS.out
        clear hok
        by_cases hlt : k < T.length
        · have hlt' : (k : Int) < T.length := by omega
          obtain ⟨t, htk⟩ : ∃ t, T[k] = t := ⟨_, rfl⟩
          have ct : (w.alloc (.cells #[.slice (some ⟨g, o, none⟩) T.length c0, .slice a1 L.length c1] 36)).cell? ⟨g, o + k, none⟩ = some (.string (str t)) := by rw [← htk]; exact HG.out.s k T[k] (List.getElem?_eq_getElem hlt)
          have hsum : lens (T.take k) + t.length ≤ lens T := by
            have h1 := lens_take T (k + 1)
            rw [List.take_succ_eq_append_getElem hlt, htk] at h1
            simpa [lens] using h1
          have HTk : Hid (T[k]? = some t) := by rw [Hid, ← htk]; exact List.getElem?_eq_getElem hlt
          have HkT : Hid (k < T.length) := hlt
          have hz := str_size t
          clear htk
          have hnb : 8 * L.length + lens (T.take k) + t.length ≤ 9223372036854775807 := by omega
          have Hnb := hid hnb
          generalize hnn : 8 * L.length + lens (T.take k) = nn at *
          have Hnn := hid hnn
          clear hnn hs hsum hln HS hlt
          go_wp2_with fail
          go_loop [41] (fun v => ∃ i : Nat, v = .int .i64 i ∧ i ≤ t.length ∧ 10 ∉ t.take i) (fun v => t.length - (intOf v).toNat)
          case atStart => exact ⟨0, rfl, by omega, by simp⟩
          case round =>
            obtain ⟨i, rfl, hi, h10⟩ := hrel
            have H10 := hid h10
            clear h10
            by_cases hit : i < t.length
            · have hit' : (i : Int) < t.length := by omega
              have his : i < (str t).size := by rw [hz]; exact hit
              obtain ⟨c, hc⟩ : ∃ c, (str t)[i]'his = c := ⟨_, rfl⟩
              have Hc : Hid (t[i]? = some c) := by rw [Hid, ← hc]; exact List.getElem?_eq_getElem hit
              have Hit := hid hit
              clear hit
              by_cases c10 : c = 10
              · have q10 : ((c.toNat : Int) == 10) = true := is_c c10
                clear c10
                go_wp2_with fail
                go_ret
                exact ⟨false, rfl, (fun h => by cases h), HB.out⟩
              · have q10 : ((c.toNat : Int) == 10) = false := no_c c10
                have H2 : Hid (10 ∉ t.take (i + 1)) := by
                  rw [Hid, List.take_add_one, Hc.out, Option.toList_some]
                  intro e
                  rcases List.mem_append.1 e with e | e
                  · exact H10.out e
                  · rw [List.mem_singleton] at e; exact c10 e.symm
                clear c10
                go_wp2_with fail
                go_round
                case rel => exact ⟨i + 1, by go_num, by have := Hit.out; omega, H2.out⟩
                case measure => simp [intOf]; have := Hit.out; omega
            · have hit' : ¬ (i : Int) < t.length := by omega
              have HNo10 : Hid (10 ∉ t) := by
                have := H10.out
                rw [List.take_of_length_le (by omega)] at this
                exact this
              have HMC := hid (mark_any t (by have := Hnb.out; omega) (w.alloc (.cells #[.slice (some ⟨g, o, none⟩) T.length c0, .slice a1 L.length c1] 36)))
              clear hit H10
              rw [← Hnn.out] at *
              rcases List.eq_nil_or_concat t with he | ⟨t2, d, he⟩
              · have z0 : ¬ (0 : Int) < t.length := by rw [he]; simp
                have HCr : Hid (t.getLast? ≠ some 13) := by rw [Hid, he]; simp
                clear he
                go_wp2_with fail
                refine HMC.out.mono ?_
                rintro e w9 ⟨kv, nv, on, rfl, hMk, hw9⟩
                subst w9
                have HMk := hid hMk
                clear hMk
                by_cases hk0 : kv < 0
                · have b0 : ¬ (0 : Int) ≤ kv := by omega
                  have HNk : Hid (∀ t' ∈ T.take (k + 1), okT t') := fun t' ht' => by
                    rw [List.take_add_one, HTk.out, Option.toList_some] at ht'
                    rcases List.mem_append.1 ht' with e | e
                    · exact HOk.out t' e
                    · rw [List.mem_singleton] at e
                      rw [e]
                      exact ⟨HNo10.out, HCr.out, HMk.out hk0⟩
                  have HS2 : Hid (8 * L.length + lens (T.take (k + 1)) = 8 * L.length + lens (T.take k) + t.length) := by
                    rw [Hid, List.take_add_one, HTk.out, Option.toList_some]
                    simp only [lens, List.map_append, List.sum_append, List.map_cons, List.map_nil, List.sum_cons, List.sum_nil]
                    omega
                  have Hkl := HkT.out
                  go_wp2_with fail
                  go_round
                  case rel => exact ⟨k + 1, by omega, by rw [HS2.out]; go_num, by go_num, HNk.out⟩
                  case measure => simp [intOf]; omega
                · have b0 : (0 : Int) ≤ kv := by omega
                  go_wp2_with fail
                  go_ret
                  exact ⟨false, rfl, (fun h => by cases h), HB.out⟩
              · rw [List.concat_eq_append] at he
                have z0 : (0 : Int) < t.length := by rw [he]; simp
                have hsub : (t.length : Int) - 1 = (t2.length : Int) := by rw [he]; simp
                have his : t2.length < (str t).size := by rw [hz, he]; simp
                have hd : (str t)[t2.length]'his = d := by
                  show t[t2.length]'_ = d
                  simp [he]
                have HLa : Hid (t.getLast? = some d) := by rw [Hid, he]; simp
                clear he
                generalize t2.length = n2 at *
                by_cases d13 : d = 13
                · have q13 : ((d.toNat : Int) == 13) = true := is_c d13
                  clear d13
                  go_wp2_with fail
                  refine HMC.out.mono ?_
                  rintro e w9 ⟨kv, nv, on, rfl, hMk, hw9⟩
                  subst w9
                  have HMk := hid hMk
                  clear hMk
                  go_wp2_with fail
                  go_ret
                  exact ⟨false, rfl, (fun h => by cases h), HB.out⟩
                · have q13 : ((d.toNat : Int) == 13) = false := no_c d13
                  have HCr : Hid (t.getLast? ≠ some 13) := by rw [Hid, HLa.out]; simpa using d13
                  clear d13
                  go_wp2_with fail
                  refine HMC.out.mono ?_
                  rintro e w9 ⟨kv, nv, on, rfl, hMk, hw9⟩
                  subst w9
                  have HMk := hid hMk
                  clear hMk
                  by_cases hk0 : kv < 0
                  · have b0 : ¬ (0 : Int) ≤ kv := by omega
                    have HNk : Hid (∀ t' ∈ T.take (k + 1), okT t') := fun t' ht' => by
                      rw [List.take_add_one, HTk.out, Option.toList_some] at ht'
                      rcases List.mem_append.1 ht' with e | e
                      · exact HOk.out t' e
                      · rw [List.mem_singleton] at e
                        rw [e]
                        exact ⟨HNo10.out, HCr.out, HMk.out hk0⟩
                    have HS2 : Hid (8 * L.length + lens (T.take (k + 1)) = 8 * L.length + lens (T.take k) + t.length) := by
                      rw [Hid, List.take_add_one, HTk.out, Option.toList_some]
                      simp only [lens, List.map_append, List.sum_append, List.map_cons, List.map_nil, List.sum_cons, List.sum_nil]
                      omega
                    have Hkl := HkT.out
                    go_wp2_with fail
                    go_round
                    case rel => exact ⟨k + 1, by omega, by rw [HS2.out]; go_num, by go_num, HNk.out⟩
                    case measure => simp [intOf]; omega
                  · have b0 : (0 : Int) ≤ kv := by omega
                    go_wp2_with fail
                    go_ret
                    exact ⟨false, rfl, (fun h => by cases h), HB.out⟩
        · have hlt' : ¬ (k : Int) < T.length := by omega
          have hkT : k = T.length := by omega
          have hsk : lens (T.take k) = lens T := by rw [hkT, List.take_length]
          have HF : Hid (8 * L.length + lens (T.take k) ≤ 4000 → Clean T L) := fun h => ⟨HLen.out, H20.out, fun t ht => HOk.out t (by rw [hkT, List.take_length]; exact ht), by rw [← hsk]; exact h⟩
          clear hsk
          generalize 8 * L.length + lens (T.take k) = nn at *
          clear hkT
          by_cases h4 : nn ≤ 4000
          · have q4 : (nn : Int) ≤ 4000 := by omega
            have HG2 := hid (HF.out h4)
            clear HF
            go_wp2_with fail
            go_ret
            exact ⟨true, rfl, fun _ => HG2.out, HB.out⟩
          · have q4 : ¬ (nn : Int) ≤ 4000 := by omega
            clear HF
            go_wp2_with fail
            go_ret
            exact ⟨false, rfl, (fun h => by cases h), HB.out⟩
    · have d20 : (20 : Int) < L.length := by omega
      clear h0 h1 hlen hal hrow h20 hs
      generalize T.length = n at *
      generalize L.length = m at *
      go_enter Tryd.func18, Tryd.ntmps18
      go_wp2_with fail
      go_ret
      exact ⟨false, rfl, (fun h => by cases h), HB.out⟩
  · have hq : ((T.length : Int) != (L.length : Int) + 1) = true := by simp; omega
    have hq2 : ((T.length : Int) == (L.length : Int) + 1) = false := by simp; omega
    clear h0 h1 hlen hal hrow hs
    generalize T.length = n at *
    generalize L.length = m at *
    go_enter Tryd.func18, Tryd.ntmps18
    go_wp2_with fail
    go_ret
    exact ⟨false, rfl, (fun h => by cases h), HB.out⟩
end Go.Proofs.YtikcbgoocljgnaaDoor
