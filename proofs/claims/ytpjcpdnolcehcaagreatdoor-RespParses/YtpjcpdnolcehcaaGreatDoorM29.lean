/- What this text holds: lines are told. -/
import Derived.Test.YtpjcpdnolcehcaaGreatDoorP5
namespace Go.Proofs.YtpjcpdnolcehcaaGreatDoor
open Go.RowKit
set_option linter.unusedVariables false
set_option linter.unusedSimpArgs false

theorem lines_low {w w' : World} {B : Nat} {u : Value} {ls : List Ln} (h : LsAt w (· < B) u ls) (hb : Below B w w') : LsAt w' (· < B) u ls := by
  obtain ⟨rows, h1, h2, h3⟩ := h
  exact ⟨rows, h1.low hb, h2, fun p hp => (h3 p hp).low hb⟩
theorem U_new (w : World) : UAt (w.alloc (.cells #[.pointer none, .slice none 0 0] 62)) w.heap.size w.heap.size [] := by
  refine ⟨.inl ⟨Nat.le_refl _, .slice none 0 0, heap_alloc_new _ _, ⟨rfl, .inl ⟨rfl, rfl⟩⟩, by simp [Value.ownBlock]⟩, by simp⟩
theorem flatT_next (l : List Ln) (k : Nat) (hk : k < l.length) : (l.take (k + 1)).flatMap lineT = (l.take k).flatMap lineT ++ lineT l[k] := by
  rw [List.take_succ_eq_append_getElem hk, List.flatMap_append]
  simp
theorem flatT_le (l : List Ln) (k : Nat) : ((l.take k).flatMap lineT).length ≤ (l.flatMap lineT).length := by
  have h : l.flatMap lineT = (l.take k).flatMap lineT ++ (l.drop k).flatMap lineT := by rw [← List.flatMap_append, List.take_append_drop]
  rw [h, List.length_append]
  omega
theorem print_no {ls : List Ln} {x : Ln} (h : x ∈ ls) (hx : lineB x = false) : printP ls = [] := by
  unfold printP
  rw [if_neg]
  intro e
  have := List.all_eq_true.1 e x h
  rw [hx] at this
  cases this
set_option maxRecDepth 100000 in
set_option maxHeartbeats 2000000 in
theorem print_any (w : World) (u : Value) (ls : List Ln) (hE : Env w) (hu : LsAt w (· < w.heap.size) u ls) (hn : ∀ l ∈ ls, NumN l) (hkl : ls.length ≤ 1000000000) (hl : (ls.flatMap lineT).length ≤ 1000000000) :
    Calls Tryz.prog 13 #[u] w fun e w' => e = .returned (.string (str (printP ls))) ∧ Below w.heap.size w w' := by
  have hB11 := hE.pos
  obtain ⟨rows, hv, rfl, hrow⟩ := hu
  obtain ⟨a, c, rfl, hc⟩ := hv.slice
  have hZ : Below w.heap.size w (w.alloc (.cells #[.pointer none, .slice none 0 0] 62)) := (Below.refl _ _).alloc (Nat.le_refl _) _
  have H0 := hid (U_new w)
  have HZ := hid hZ
  have HE := hid hE
  have HVs := hid hv
  have HRow := hid hrow
  have HN := hid hn
  have HL := hid hl
  clear hE hv hrow hn hZ hl
  simp only [List.length_map] at hc hkl ⊢
  have hfu := fldU w.heap.size
  go_enter Tryz.func13, Tryz.ntmps13
  go_wp2_with fail
  go_loopw [9] (fun i wr => ∃ k : Nat, k ≤ rows.length ∧ i = .int .i64 k ∧ UAt wr w.heap.size w.heap.size (((rows.map (·.2)).take k).flatMap lineT) ∧ Below w.heap.size w wr ∧ (∀ p ∈ rows.take k, lineB p.2 = true) ∧ (k = 0 → wr = w.alloc (.cells #[.pointer none, .slice none 0 0] 62))) (fun i _ => rows.length - (intOf i).toNat)
  case atStart => exact ⟨0, by omega, rfl, by simpa using H0.out, HZ.out, by simp, fun _ => rfl⟩
  case round =>
    obtain ⟨k, hk, rfl, h1, h2, h3, h4⟩ := hrel
    have H1 := hid h1
    have H2 := hid h2
    have H3 := hid h3
    have H4 := hid h4
    clear h1 h2 h3 h4
    by_cases hlt : k < rows.length
    · have hlt' : (k : Int) < rows.length := by omega
      have hne : rows.map (·.1) ≠ [] := by intro e; have := congrArg List.length e; simp at this; subst this; simp at hlt
      obtain ⟨g, o, c', he, hc', hga, hN, hg⟩ := (HVs.out.low H2.out).at_ hne
      simp only [Value.slice.injEq] at he
      obtain ⟨rfl, hlen, rfl⟩ := he
      clear hlen
      obtain ⟨p, hpk⟩ : ∃ p, rows[k] = p := ⟨_, rfl⟩
      have hp := HRow.out rows[k] (List.getElem_mem hlt)
      have hc5 := hga.l k rows[k].1 (by rw [List.getElem?_map, List.getElem?_eq_getElem hlt]; rfl)
      rw [hpk] at hp hc5
      have hxm : p.2 ∈ rows.map (·.2) := by rw [← hpk]; exact List.mem_map_of_mem (List.getElem_mem hlt)
      have hmk : (rows.map (·.2))[k]'(by simpa using hlt) = p.2 := by simp [hpk]
      have hnx := flatT_next (rows.map (·.2)) k (by simpa using hlt)
      rw [hmk] at hnx
      have hle := flatT_le (rows.map (·.2)) (k + 1)
      rw [hnx, List.length_append] at hle
      have hyes : lineB p.2 = true → ∀ q ∈ rows.take (k + 1), lineB q.2 = true := by
        intro hh q hq
        rw [List.take_succ_eq_append_getElem hlt, List.mem_append] at hq
        rcases hq with hq | hq
        · exact H3.out q hq
        · simp at hq; rw [hq, hpk]; exact hh
      obtain ⟨⟨rt, ⟨va, vb, vc⟩, rs, ⟨ca, cb, cc⟩, rx⟩, x⟩ := p
      obtain ⟨c0, c1, c2, c3, c4⟩ := hc5
      simp only [Sl.v] at c1 c3 hxm hnx hle hyes
      have ha : Below wr.heap.size wr (wr.alloc (.cells #[.string (str rt), .slice va vb vc, .string (str rs), .slice ca cb cc, .string (str rx)] 28)) := (Below.refl _ _).alloc (Nat.le_refl _) _
      have hv5 : Hid (L5 (wr.alloc (.cells #[.string (str rt), .slice va vb vc, .string (str rs), .slice ca cb cc, .string (str rx)] 28)) wr.heap.size ⟨rt, (va, vb, vc), rs, (ca, cb, cc), rx⟩) := L5.new wr ⟨rt, (va, vb, vc), rs, (ca, cb, cc), rx⟩
      have HXn := hid (HN.out x hxm)
      have HNx := hid hnx
      have HLe := hid hle
      have HY := hid hyes
      have HXm := hid hxm
      have HA := hid ha
      have HVA := hid ((hp.low H2.out).low (HA.out.mono H1.out.B))
      have CR := right_any _ _ ⟨rt, (va, vb, vc), rs, (ca, cb, cc), rx⟩ x HVA.out HXn.out
      rw [lV_mk] at CR
      obtain ⟨x0, x1, x2, x3, x4⟩ := hv5.out.cs
      simp only [Sl.v] at x1 x3
      clear hga hp hxm hmk hnx hle ha hpk hyes
      rcases hb : lineB x with _ | _
      · rw [hb] at CR
        have hX := hid (print_no HXm.out hb)
        go_wp2_with fail
        refine CR.mono ?_
        rintro e w2 ⟨rfl, k1⟩
        have K1 := hid ((H2.out.trans (HA.out.mono H1.out.B)).trans (k1.mono (by have := HA.out.size; have := H1.out.B; omega)))
        clear k1 CR x0 x1 x2 x3 x4
        go_wp2_with fail
        go_ret
        rw [hX.out]
        exact ⟨rfl, K1.out⟩
      · rw [hb] at CR
        have hY := hid (HY.out hb)
        have HB := hid hb
        clear hb
        go_wp2_with fail
        refine CR.mono ?_
        rintro e w2 ⟨rfl, k1⟩
        have k1' := k1.mono (show w.heap.size ≤ _ by have := HA.out.size; have := H1.out.B; omega)
        have K1 := hid ((H2.out.trans (HA.out.mono H1.out.B)).trans k1')
        have U1 := (H1.out.later HA.out).later k1
        have v5 := hid (hv5.out.later k1)
        have D := uline_any w2 w.heap.size w.heap.size _ ⟨rt, (va, vb, vc), rs, (ca, cb, cc), rx⟩ x (HE.out.keep K1.out hB11) hB11 U1 (HVA.out.low k1') HB.out HXn.out (by have := HLe.out; have := HL.out; omega)
        rw [lV_mk] at D
        clear k1 k1' CR x0 x1 x2 x3 x4 U1
        obtain ⟨x0, x1, x2, x3, x4⟩ := v5.out.cs
        simp only [Sl.v] at x1 x3
        go_wp2_with fail
        refine D.mono ?_
        rintro e w3 ⟨rfl, k1, k2, k3⟩
        have K3 : Hid (UAt w3 w.heap.size w.heap.size (((rows.map (·.2)).take (k + 1)).flatMap lineT)) := by rw [Hid, HNx.out]; exact k1
        have K4 := hid (K1.out.trans k2)
        clear k1 k2 k3 D x0 x1 x2 x3 x4
        go_wp2_with fail
        go_round
        case rel => exact ⟨k + 1, by omega, by go_num, K3.out, K4.out, hY.out, fun h => by omega⟩
        case measure => simp [intOf]; omega
    · have hlt' : ¬ (k : Int) < rows.length := by omega
      have HP : Hid (printP (rows.map (·.2)) = (rows.map (·.2)).flatMap lineT) := by
        unfold Hid printP
        rw [if_pos]
        rw [List.all_eq_true]
        intro x hx
        obtain ⟨p, hp, rfl⟩ := List.mem_map.1 hx
        exact H3.out p (by rw [List.take_of_length_le (by omega)]; exact hp)
      by_cases h0 : rows = []
      · subst h0
        have hk0 : k = 0 := by simp at hk; exact hk
        obtain rfl := H4.out hk0
        have C := string_none w.heap.size w.heap.size (.pointer none) (w.alloc (.cells #[.pointer none, .slice none 0 0] 62)) (heap_alloc_new _ _)
        have HP2 : Hid (printP (([] : List (Lw × Ln)).map (·.2)) = []) := rfl
        clear HP hk0
        go_wp2_with fail
        refine C.mono ?_
        rintro e w2 ⟨rfl, k1⟩
        have K1 := hid (HZ.out.trans k1)
        clear k1 C
        go_wp2_with fail
        go_ret
        rw [HP2.out]
        exact ⟨rfl, K1.out⟩
      · have hT : (rows.map (·.2)).flatMap lineT ≠ [] := by
          intro e
          have h1 := flat_pos (rows.map (·.2))
          rw [e] at h1
          simp at h1
          exact h0 h1
        have HU : Hid (UAt wr w.heap.size w.heap.size ((rows.map (·.2)).flatMap lineT)) := by have := H1.out; rw [List.take_of_length_le (by simp; omega)] at this; exact this
        have C := HU.out.text hT
        clear hT
        generalize (rows.map (·.2)).flatMap lineT = T at *
        go_wp2_with fail
        refine C.mono ?_
        rintro e w2 ⟨rfl, k1⟩
        have K1 := hid (H2.out.trans k1)
        clear k1 C
        go_wp2_with fail
        go_ret
        rw [HP.out]
        exact ⟨rfl, K1.out⟩
end Go.Proofs.YtpjcpdnolcehcaaGreatDoor
