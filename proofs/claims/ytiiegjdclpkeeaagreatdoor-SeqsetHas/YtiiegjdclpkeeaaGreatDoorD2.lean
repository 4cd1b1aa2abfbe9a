/- What this text holds: the document's words for what a set has, and its members among some numbers. -/
import Derived.Test.YtiiegjdclpkeeaaGreatDoorD1
import Derived.Test.YtiiegjdclpkeeaaGreatDoorM4
namespace Go.Proofs.YtiiegjdclpkeeaaGreatDoor
open Go.RowKit
set_option linter.unusedVariables false
set_option linter.unusedSimpArgs false

theorem hasB_step (l : List Sp) (n most : Int) (k : Nat) (hk : k < l.length) : hasB (l.take (k + 1)) n most = (hasB (l.take k) n most || (decide (1 ≤ n) && covB l[k] n most)) := by
  unfold hasB
  rw [List.take_succ_eq_append_getElem hk, List.any_append]
  simp
set_option maxRecDepth 100000 in
set_option maxHeartbeats 4000000 in
theorem rhas_any {w : World} {v : Value} {l : List Sp} (h : GL eSp w v l) (hl : l.length ≤ 1000000) (n most : Int) :
    Calls Tryz.prog 21 #[v, .int .i64 n, .int .i64 most] w fun e w' => e = .returned (.bool (hasB l n most)) ∧ Below w.heap.size w w' := by
  obtain ⟨a, c, rfl, hg, hc⟩ := gl_slice h
  have HG := hid hg
  clear hg h
  go_enter Tryz.func21, Tryz.ntmps21
  go_wp2_with fail
  go_loopw [7] (fun i wr => ∃ k : Nat, k ≤ l.length ∧ i = .int .i64 k ∧ hasB (l.take k) n most = false ∧ Below w.heap.size w wr) (fun i _ => l.length - (intOf i).toNat)
  case atStart => exact ⟨0, by omega, rfl, rfl, Below.refl _ _⟩
  case round =>
    obtain ⟨k, hk, rfl, hf, hb⟩ := hrel
    have HB := hid hb
    have HF := hid hf
    clear hf hb
    by_cases hlt : k < l.length
    · have hlt' : (k : Int) < l.length := by omega
      have hne : l ≠ [] := by rintro rfl; simp at hlt
      obtain ⟨g, o, rfl, hga, hgz⟩ := HG.out hne
      obtain ⟨hc0, hc1⟩ := (hga.later HB.out).sp k l[k] (List.getElem?_eq_getElem hlt)
      have HN := hid (hasB_step l n most k hlt)
      rw [HF.out] at HN
      have HY := hid (hasB_yes l n most (k + 1))
      clear hga hne HG
      generalize l[k] = s at *
      obtain ⟨x, y⟩ := s
      simp only at hc0 hc1
      by_cases hn : 1 ≤ n
      · have d1 : decide (1 ≤ n) = true := by simpa using hn
        rw [d1] at HN
        have C := rcovers_any x y n most wr
        generalize covB (x, y) n most = cb at *
        cases cb with
        | false =>
          have HN2 : Hid (hasB (l.take (k + 1)) n most = false) := by rw [Hid, HN.out]; rfl
          go_wp2_with fail
          refine C.mono ?_
          clear C
          rintro e w1 ⟨rfl, hb1⟩
          have HB1 := hid (HB.out.trans (hb1.mono HB.out.size))
          clear hb1
          go_wp2_with fail
          go_roundw
          case rel => exact ⟨k + 1, by omega, by go_num, HN2.out, HB1.out⟩
          case measure => simp [intOf]; omega
        | true =>
          have HT : Hid (hasB l n most = true) := HY.out (by rw [HN.out]; rfl)
          go_wp2_with fail
          refine C.mono ?_
          clear C
          rintro e w1 ⟨rfl, hb1⟩
          have HB1 := hid (HB.out.trans (hb1.mono HB.out.size))
          clear hb1
          go_wp2_with fail
          go_ret
          rw [HT.out]
          exact ⟨rfl, HB1.out⟩
      · have d1 : decide (1 ≤ n) = false := by simpa using hn
        rw [d1] at HN
        have HN2 : Hid (hasB (l.take (k + 1)) n most = false) := by rw [Hid, HN.out]; rfl
        go_wp2_with fail
        go_roundw
        case rel => exact ⟨k + 1, by omega, by go_num, HN2.out, HB.out⟩
        case measure => simp [intOf]; omega
    · have hlt' : ¬ (k : Int) < l.length := by omega
      have e : l.take k = l := List.take_of_length_le (by omega)
      rw [e] at HF
      go_wp2_with fail
      go_ret
      rw [HF.out]
      exact ⟨rfl, HB.out⟩
set_option maxRecDepth 100000 in
set_option maxHeartbeats 4000000 in
theorem rmembers_any {w : World} {v u : Value} {l : List Sp} {among : List Int} (h : GL eSp w v l) (hu : GL eI w u among) (hl : l.length ≤ 1000000) (ha : among.length ≤ 1000000) (most : Int) :
    Calls Tryz.prog 19 #[v, .int .i64 most, u] w (MembIs l most among w) := by
  obtain ⟨a, c, rfl, hg, hc⟩ := gl_slice hu
  have HG := hid hg
  have HL0 := hid h
  clear hg hu h
  go_enter Tryz.func19, Tryz.ntmps19
  go_wp2_with fail
  go_loopw [7, 8] (fun v i wr => ∃ k : Nat, k ≤ among.length ∧ i = .int .i64 k ∧ GO eI wr w.heap.size v ((among.take k).filter fun n => hasB l n most) ∧ Below w.heap.size w wr) (fun _ i _ => among.length - (intOf i).toNat)
  case atStart => exact ⟨0, by omega, rfl, GO.nil _ _ _, Below.refl _ _⟩
  case round =>
    obtain ⟨k, hk, rfl, ho, hb⟩ := hrel
    have HO := hid ho
    have HB := hid hb
    clear ho hb
    by_cases hlt : k < among.length
    · have hlt' : (k : Int) < among.length := by omega
      have h0 : (0 : Int) ≤ k := by omega
      have hne : among ≠ [] := by rintro rfl; simp at hlt
      obtain ⟨g, o, rfl, hga, hgz⟩ := HG.out hne
      have HGA := hid (hga.later HB.out)
      have hc0 := HGA.out.i k among[k] (List.getElem?_eq_getElem hlt)
      have HN := hid (memb_next among (fun n => hasB l n most) k hlt)
      have HE := hid (List.getElem?_eq_getElem hlt)
      have HL : Hid (((among.take k).filter fun n => hasB l n most).length ≤ 1000000) := by have := List.length_filter_le (fun n => hasB l n most) (among.take k); rw [List.length_take] at this; unfold Hid; omega
      clear hga hne HG
      generalize among[k] = x at *
      have C := rhas_any (HL0.out.later HB.out) hl x most
      generalize hbb : hasB l x most = b at *
      clear hbb
      go_wp2_with fail
      refine C.mono ?_
      clear C
      rintro e w3 ⟨rfl, hb3⟩
      have HB3 := hid (HB.out.trans (hb3.mono HB.out.size))
      have HO3 := hid (HO.out.later hb3)
      have hc3 := (HGA.out.later hb3).i k x HE.out
      clear hb3
      cases b with
      | false =>
        go_wp2_with fail
        go_roundw
        case rel => exact ⟨k + 1, by omega, by go_num, by rw [HN.out]; simpa using HO3.out, HB3.out⟩
        case measure => simp [intOf]; omega
      | true =>
        obtain ⟨v', w', hr', ho', hb', _⟩ := go_one eI HO3.out HB3.out.size (by have := HL.out; omega) x w3.heap.size rfl
        have HR' := hid hr'
        have HO' := hid ho'
        have HB' := hid (HB3.out.trans hb')
        clear hr' ho' hb'
        obtain ⟨a0, c0, hv0⟩ := HO.out.slice (n := ((among.take k).filter fun n => hasB l n most).length) rfl
        obtain ⟨a5, c5, hv5⟩ := HO'.out.slice (n := ((among.take k).filter fun n => hasB l n most).length + 1) (by simp)
        subst hv0 hv5
        go_wp2_with (at_builtin; refine wpList_append_run rfl rfl HR'.out ?_)
        go_roundw
        case rel => exact ⟨k + 1, by omega, by go_num, by rw [HN.out]; exact HO'.out, HB'.out⟩
        case measure => simp [intOf]; omega
    · have hlt' : ¬ (k : Int) < among.length := by omega
      have e : among.take k = among := List.take_of_length_le (by omega)
      rw [e] at HO
      go_wp2_with fail
      go_ret
      exact ⟨⟨_, rfl, HO.out⟩, HB.out⟩
end Go.Proofs.YtiiegjdclpkeeaaGreatDoor
