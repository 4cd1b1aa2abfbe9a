/- What this text holds: whether two lists of events are the same. -/
import Derived.Test.YtikcbgoocljgnaaDoorM18
namespace Go.Proofs.YtikcbgoocljgnaaDoor
open Go.RowKit
set_option linter.unusedVariables false
set_option linter.unusedSimpArgs false

/-- Events in memory, to be read. -/
def EvR (w : World) (v : Value) (L : List Ev) : Prop := ∃ es : List (Int × Sl × Sl), GL eE w v es ∧ es.length = L.length ∧ ∀ (j : Nat) e E, es[j]? = some e → L[j]? = some E → e.1 = E.1 ∧ GL eS w (Sl.v e.2.1) E.2.1 ∧ GL eS w (Sl.v e.2.2) E.2.2
theorem EvL.r {w : World} {v : Value} {own : List Nat} {L : List Ev} (h : EvL w v own L) : EvR w v L := by
  obtain ⟨es, h1, h2, h3, h4⟩ := h
  exact ⟨es, h1.gl, h3, fun j e E he hE => by obtain ⟨a, b, c, _⟩ := h4 j e E he hE; exact ⟨a, b.gl, c.gl⟩⟩
theorem EvR.later {w w' : World} {v : Value} {L : List Ev} (h : EvR w v L) (hb : Below w.heap.size w w') : EvR w' v L := by
  obtain ⟨es, h1, h3, h4⟩ := h
  exact ⟨es, h1.later hb, h3, fun j e E he hE => by obtain ⟨a, b, c⟩ := h4 j e E he hE; exact ⟨a, b.later hb, c.later hb⟩⟩
theorem ev_eq (x y : Ev) : x = y ↔ x.1 = y.1 ∧ x.2.1 = y.2.1 ∧ x.2.2 = y.2.2 := by
  obtain ⟨a, b, c⟩ := x
  obtain ⟨d, e, f⟩ := y
  simp
set_option maxRecDepth 100000 in
set_option maxHeartbeats 2000000 in
theorem same_any {w : World} {va vb : Value} {l m : List Ev} (h : EvR w va l) (h' : EvR w vb m) (hl : l.length ≤ 1000000) (hm : m.length ≤ 1000000) (hls : ∀ E ∈ l, E.2.1.length ≤ 1000000 ∧ E.2.2.length ≤ 1000000) (hms : ∀ E ∈ m, E.2.1.length ≤ 1000000 ∧ E.2.2.length ≤ 1000000) :
    Calls Tryd.prog 13 #[va, vb] w fun e w' => e = .returned (.bool (decide (l = m))) ∧ ∃ n, w' = w.drewN n := by
  obtain ⟨es, ⟨a, c, rfl, hc, hr⟩, hel, he⟩ := h
  obtain ⟨fs, ⟨a', c', rfl, hc', hr'⟩, hfl, hf⟩ := h'
  rw [hel] at hc ⊢
  rw [hfl] at hc' ⊢
  by_cases hlen : l.length = m.length
  · by_cases h0 : l = []
    · have e2 : m = [] := List.eq_nil_of_length_eq_zero (by rw [← hlen, h0]; rfl)
      subst h0 e2
      clear hr hr' he hf hel hfl
      go_enter Tryd.func13, Tryd.ntmps13
      go_wp2_with fail
      go_loopw [5] (fun i wr => i = .int .i64 0 ∧ wr = w) (fun _ _ => 0)
      case atStart => exact ⟨rfl, rfl⟩
      case round =>
        obtain ⟨rfl, rfl⟩ := hrel
        go_wp2_with fail
        go_ret
        exact ⟨rfl, 0, rfl⟩
    · have n1 : es ≠ [] := fun e => h0 (List.eq_nil_of_length_eq_zero (by rw [← hel, e]; rfl))
      have n2 : fs ≠ [] := fun e => h0 (List.eq_nil_of_length_eq_zero (by rw [hlen, ← hfl, e]; rfl))
      obtain ⟨g, o, rfl, hga, hg⟩ := hr.resolve_left n1
      obtain ⟨g', o', rfl, hga', hg'⟩ := hr'.resolve_left n2
      have HR := hid hga
      have HR' := hid hga'
      have HL := hid hlen
      have HE := hid he
      have HFs := hid hf
      have Hel := hid hel
      have Hfl := hid hfl
      have Hls := hid hls
      have Hms := hid hms
      rw [← hlen]
      clear hr hr' hlen hga hga' h0 n1 n2 he hf hel hfl hls hms
      go_enter Tryd.func13, Tryd.ntmps13
      go_wp2_with fail
      go_loopw [5] (fun i wr => ∃ (k n : Nat), k ≤ l.length ∧ i = .int .i64 k ∧ l.take k = m.take k ∧ wr = w.drewN n) (fun i _ => l.length - (intOf i).toNat)
      case atStart => exact ⟨0, 0, by omega, rfl, by simp, rfl⟩
      case round =>
        obtain ⟨k, n, hk, rfl, ht, hwr⟩ := hrel
        have HT := hid ht
        clear ht
        by_cases hlt : k < l.length
        · have hlt' : (k : Int) < l.length := by omega
          have hlm : k < m.length := by rw [← HL.out]; exact hlt
          have hle : k < es.length := by rw [Hel.out]; exact hlt
          have hlf : k < fs.length := by rw [Hfl.out]; exact hlm
          obtain ⟨x0, x1, x2⟩ := HR.out.e k es[k] (List.getElem?_eq_getElem hle)
          obtain ⟨y0, y1, y2⟩ := HR'.out.e k fs[k] (List.getElem?_eq_getElem hlf)
          obtain ⟨p0, p1, p2⟩ := HE.out k es[k] l[k] (List.getElem?_eq_getElem hle) (List.getElem?_eq_getElem hlt)
          obtain ⟨q0, q1, q2⟩ := HFs.out k fs[k] m[k] (List.getElem?_eq_getElem hlf) (List.getElem?_eq_getElem hlm)
          have b1 := Hls.out _ (List.getElem_mem hlt)
          have b2 := Hms.out _ (List.getElem_mem hlm)
          have CT : Hid (∀ W n, W = w.drewN n → Calls Tryd.prog 19 #[Sl.v es[k].2.1, Sl.v fs[k].2.1] W fun e w' => e = .returned (.bool (decide (l[k].2.1 = m[k].2.1))) ∧ ∃ n, w' = W.drewN n) := fun W n hW => by subst hW; exact texts_any (p1.later (drewN_below _ _ _)) (q1.later (drewN_below _ _ _)) b1.1 b2.1
          have CL : Hid (∀ W n, W = w.drewN n → Calls Tryd.prog 19 #[Sl.v es[k].2.2, Sl.v fs[k].2.2] W fun e w' => e = .returned (.bool (decide (l[k].2.2 = m[k].2.2))) ∧ ∃ n, w' = W.drewN n) := fun W n hW => by subst hW; exact texts_any (p2.later (drewN_below _ _ _)) (q2.later (drewN_below _ _ _)) b1.2 b2.2
          have HS : Hid (l[k] = m[k] → l.take (k + 1) = m.take (k + 1)) := fun h => by rw [List.take_succ_eq_append_getElem hlt, List.take_succ_eq_append_getElem hlm, HT.out, h]
          have HN : Hid (l[k] ≠ m[k] → decide (l = m) = false) := fun h => by simp; intro e; subst e; exact h rfl
          rw [p0] at x0
          rw [q0] at y0
          have X0 : wr.cell? ⟨g, o + k * 3, none⟩ = some (.int .i64 l[k].1) := by rw [hwr]; exact x0
          have X1 : wr.cell? ⟨g, o + k * 3 + 1, none⟩ = some (Sl.v es[k].2.1) := by rw [hwr]; exact x1
          have X2 : wr.cell? ⟨g, o + k * 3 + 2, none⟩ = some (Sl.v es[k].2.2) := by rw [hwr]; exact x2
          have Y0 : wr.cell? ⟨g', o' + k * 3, none⟩ = some (.int .i64 m[k].1) := by rw [hwr]; exact y0
          have Y1 : wr.cell? ⟨g', o' + k * 3 + 1, none⟩ = some (Sl.v fs[k].2.1) := by rw [hwr]; exact y1
          have Y2 : wr.cell? ⟨g', o' + k * 3 + 2, none⟩ = some (Sl.v fs[k].2.2) := by rw [hwr]; exact y2
          clear x0 x1 x2 y0 y1 y2 p0 p1 p2 q0 q1 q2 b1 b2
          unfold Sl.v at *
          generalize es[k].2.1.1 = s1 at *
          generalize es[k].2.1.2.1 = s2 at *
          generalize es[k].2.1.2.2 = s3 at *
          generalize es[k].2.2.1 = s4 at *
          generalize es[k].2.2.2.1 = s5 at *
          generalize es[k].2.2.2.2 = s6 at *
          generalize fs[k].2.1.1 = t1 at *
          generalize fs[k].2.1.2.1 = t2 at *
          generalize fs[k].2.1.2.2 = t3 at *
          generalize fs[k].2.2.1 = t4 at *
          generalize fs[k].2.2.2.1 = t5 at *
          generalize fs[k].2.2.2.2 = t6 at *
          generalize l[k] = x at *
          generalize m[k] = y at *
          have HW := hid hwr
          have hWx := hwr
          have HEq := hid (ev_eq x y)
          have CT' : Hid (∀ j, Calls Tryd.prog 19 #[.slice s1 s2 s3, .slice t1 t2 t3] (wr.drewN j) fun e w' => e = .returned (.bool (decide (x.2.1 = y.2.1))) ∧ ∃ n, w' = (wr.drewN j).drewN n) := fun j => CT.out _ (n + j) (by rw [HW.out, World.drewN_drewN])
          have CL' : Hid (∀ j, Calls Tryd.prog 19 #[.slice s4 s5 s6, .slice t4 t5 t6] (wr.drewN j) fun e w' => e = .returned (.bool (decide (x.2.2 = y.2.2))) ∧ ∃ n, w' = (wr.drewN j).drewN n) := fun j => CL.out _ (n + j) (by rw [HW.out, World.drewN_drewN])
          clear CT CL hwr hWx
          by_cases k1 : x.1 = y.1
          · have r1 : (x.1 == y.1) = true := by simpa using k1
            have r1' : (x.1 != y.1) = false := by simp [k1]
            by_cases k2 : x.2.1 = y.2.1
            · rw [show decide (x.2.1 = y.2.1) = true by simpa using k2] at CT'
              by_cases k3 : x.2.2 = y.2.2
              · rw [show decide (x.2.2 = y.2.2) = true by simpa using k3] at CL'
                have HF := hid (HS.out (HEq.out.2 ⟨k1, k2, k3⟩))
                clear k1 k2 k3 HS HN HEq
                go_wp2_with fail
                go_quiet ((first | (go_at_call_of 19 (Value.slice s1 s2 s3); exact Calls.quiet_of (CT'.out _)) | (go_at_call_of 19 (Value.slice s4 s5 s6); exact Calls.quiet_of (CL'.out _))))
                go_wp2_with fail
                go_roundw
                case rel => exact ⟨k + 1, n + nq, by omega, by go_num, HF.out, by rw [HW.out, World.drewN_drewN]⟩
                case measure => simp [intOf]; omega
              · rw [show decide (x.2.2 = y.2.2) = false by simpa using k3] at CL'
                have HF := hid (HN.out (fun e => k3 (HEq.out.1 e).2.2))
                clear k1 k2 k3 HS HN HEq
                go_wp2_with fail
                go_quiet ((first | (go_at_call_of 19 (Value.slice s1 s2 s3); exact Calls.quiet_of (CT'.out _)) | (go_at_call_of 19 (Value.slice s4 s5 s6); exact Calls.quiet_of (CL'.out _))))
                go_wp2_with fail
                go_ret
                refine ⟨by rw [HF.out]; rfl, ?_⟩
                rw [HW.out]
                exact ⟨n + nq, by rw [World.drewN_drewN]⟩
            · rw [show decide (x.2.1 = y.2.1) = false by simpa using k2] at CT'
              have HF := hid (HN.out (fun e => k2 (HEq.out.1 e).2.1))
              clear k1 k2 HS HN HEq
              go_wp2_with fail
              go_quiet ((first | (go_at_call_of 19 (Value.slice s1 s2 s3); exact Calls.quiet_of (CT'.out _)) | (go_at_call_of 19 (Value.slice s4 s5 s6); exact Calls.quiet_of (CL'.out _))))
              go_wp2_with fail
              go_ret
              refine ⟨by rw [HF.out]; rfl, ?_⟩
              rw [HW.out]
              exact ⟨n + nq, by rw [World.drewN_drewN]⟩
          · have r1 : (x.1 == y.1) = false := by simpa using k1
            have r1' : (x.1 != y.1) = true := by simp [k1]
            have HF := hid (HN.out (fun e => k1 (HEq.out.1 e).1))
            clear k1 HS HN HEq
            go_wp2_with fail
            go_quiet ((first | (go_at_call_of 19 (Value.slice s1 s2 s3); exact Calls.quiet_of (CT'.out _)) | (go_at_call_of 19 (Value.slice s4 s5 s6); exact Calls.quiet_of (CL'.out _))))
            go_wp2_with fail
            go_ret
            refine ⟨by rw [HF.out]; rfl, ?_⟩
            rw [HW.out]
            exact ⟨n + nq, by rw [World.drewN_drewN]⟩
        · have hlt' : ¬ (k : Int) < l.length := by omega
          have HF : Hid (decide (l = m) = true) := by
            have := HT.out
            rw [List.take_of_length_le (by omega), List.take_of_length_le (by have := HL.out; omega)] at this
            simp [Hid, this]
          have HW := hid hwr
          clear hwr
          go_wp2_with fail
          go_ret
          exact ⟨by rw [HF.out]; rfl, n, HW.out⟩
  · have HF : Hid (decide (l = m) = false) := by simp [Hid]; intro e; subst e; exact hlen rfl
    have hlen' : ¬ (l.length : Int) = m.length := by omega
    clear hr hr' hlen he hf hel hfl
    rw [HF.out]
    go_enter Tryd.func13, Tryd.ntmps13
    go_wp2_with fail
    go_ret
    exact ⟨rfl, 0, rfl⟩
end Go.Proofs.YtikcbgoocljgnaaDoor
