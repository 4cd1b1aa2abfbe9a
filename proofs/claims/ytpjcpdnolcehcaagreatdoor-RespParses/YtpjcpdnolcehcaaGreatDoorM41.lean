/- What this text holds: the document's right values. -/
import Derived.Test.YtpjcpdnolcehcaaGreatDoorM39
import Derived.Test.YtpjcpdnolcehcaaGreatDoorM35
namespace Go.Proofs.YtpjcpdnolcehcaaGreatDoor
open Go.RowKit
set_option linter.unusedVariables false
set_option linter.unusedSimpArgs false

def ROk (sz : Nat) : Prop := ∀ (w : World) (N : Nat → Prop) (d : Nat) (r : Rw) (v : Vl), VAt w N r v → NumV v → szV v ≤ sz → d ≤ 30 → Calls Tryz.prog 54 #[vV r, .int .i64 d] w (Bo (rightB d v) w)
def RsOk (sz : Nat) : Prop := ∀ (w : World) (N : Nat → Prop) (d : Nat) (u : Value) (ks : List Vl), VsAt w N u ks → NumL ks → szL ks ≤ sz → d ≤ 30 → ks.length ≤ 1000000000 → Calls Tryz.prog 37 #[u, .int .i64 d] w (Bo (rightsB d ks) w)
set_option maxRecDepth 100000 in
set_option maxHeartbeats 8000000 in
theorem value_r {sz : Nat} (hV : RsOk sz) : ROk (sz + 1) := by
  intro w N d r v hr hn hs hd
  obtain ⟨rk, rx, rn, ⟨ra, rb, rc⟩, ⟨rd, re, rf⟩⟩ := r
  obtain ⟨⟨ek, ex, en, hf⟩, hk⟩ := hr
  obtain ⟨k, x, n, kids, frm⟩ := v
  simp only [Vl.k, Vl.x, Vl.n, Vl.kids, Vl.frm, Sl.v] at ek ex en hf hk
  subst ek ex en
  obtain ⟨_, _, he, _⟩ := hf.slice
  simp only [Value.slice.injEq] at he
  obtain ⟨rfl, rfl, rfl⟩ := he
  obtain ⟨_, _, he, _⟩ := hk.slice
  simp only [Value.slice.injEq] at he
  obtain ⟨rfl, rfl, rfl⟩ := he
  obtain ⟨hn1, hn2, hn3, hn4, hn5, hn6⟩ := hn
  have hszk : szL kids ≤ sz := by simp only [szV] at hs; omega
  rw [vV_mk]
  have hA : Below w.heap.size w (w.alloc (.cells #[.int .i64 rk, .string (str rx), .int .i64 rn, .slice ra kids.length rc, .slice rd frm.length rf] 43)) := al _ _
  have HA := hid hA
  have v1 : V5 (w.alloc (.cells #[.int .i64 rk, .string (str rx), .int .i64 rn, .slice ra kids.length rc, .slice rd frm.length rf] 43)) w.heap.size ⟨rk, rx, rn, (ra, kids.length, rc), (rd, frm.length, rf)⟩ := V5.new w ⟨rk, rx, rn, (ra, kids.length, rc), (rd, frm.length, rf)⟩
  obtain ⟨x0, x1, x2, x3, x4⟩ := v1.cs
  simp only [Sl.v] at x3 x4
  have CA := hid (fun (w' : World) => atom_r rx w' hn2)
  have CV := hid (fun (hd30 : d + 1 ≤ 30) (w' : World) (hW : Below w.heap.size w w') => show Calls Tryz.prog 37 #[.slice ra kids.length rc, .int .i64 ((d : Int) + 1)] w' (Bo (rightsB (d + 1) kids) w') from by
    have := hV w' N (d + 1) _ kids (hk.later hW) hn4 hszk hd30 (by omega)
    rw [show ((d + 1 : Nat) : Int) = (d : Int) + 1 by omega] at this
    exact this)
  have HF : Hid (frm.length = 1 → ∃ g o n0, frm.headD 0 = n0 ∧ I64 n0 ∧ rd = some ⟨g, o, none⟩ ∧ (w.alloc (.cells #[.int .i64 rk, .string (str rx), .int .i64 rn, .slice ra kids.length rc, .slice rd frm.length rf] 43)).cell? ⟨g, o, none⟩ = some (.int .i64 n0)) := by
    intro h1
    match frm, h1 with
    | [n0], _ =>
      obtain ⟨g, o, c, e, _, h, _, _⟩ := (hf.kept (Kept.ofBelow hA []) (by simp)).at_ (by simp)
      simp only [Value.slice.injEq] at e
      exact ⟨g, o, n0, rfl, hn3 n0 (by simp), e.1, by have := h.i 0 n0 rfl; simpa using this⟩
  have hf0 := fun A => fld43k A 0 (by omega)
  have hf1 := fld43
  have hf2 := fun A => fld43k A 1 (by omega)
  have hf3 := fun A => fld43k A 2 (by omega)
  have hf4 := fun A => fld43k A 3 (by omega)
  have HRB : Hid (rightB d (.mk rk rx rn kids frm) = (bareB (.mk rk rx rn kids frm) && (if rk = 0 then true else if rk = 3 then true else if rk = 1 then decide (0 ≤ rn) else if rk = 2 then atomB rx else if rk = 4 then decide (d < 30) && rightsB (d + 1) kids else if rk = 5 then atomB rx && frB frm && (decide (d < 30) && rightsB (d + 1) kids) else false))) := by rw [Hid, rightB]
  have hkl : kids.length ≤ 100000000 := hn5
  have hfl : frm.length ≤ 100000000 := hn6
  have HKE : Hid (kids.isEmpty = decide (kids.length = 0)) := by cases kids <;> rfl
  have HFE : Hid (frm.isEmpty = decide (frm.length = 0)) := by cases frm <;> rfl
  have HFL : Hid (frB frm = (decide (frm.length = 0) || (decide (frm.length = 1) && decide (0 ≤ frm.headD 0)))) := by unfold Hid frB; cases frm <;> simp
  have HXE : Hid ((rx == []) = decide (rx = [])) := by cases rx <;> rfl
  generalize rightB d (.mk rk rx rn kids frm) = Z at *
  generalize kids.length = K at *
  generalize frm.length = F at *
  clear hV hf hk hn1 hn2 hn3 hn4 hn5 hn6 hszk hs v1 hA
  by_cases hk0 : rk = 0
  · subst hk0
    as_aux_lemma =>
      by_cases hkd0 : K = 0
      case neg =>
        have hkd : (0 : Int) < K := by omega
        have hkd2 : 0 < K := by omega
        have HZ : Hid (Z = false) := by rw [Hid, HRB.out]; (try have q1 := HK0.out); (try have q2 := HF0.out); (try have q3 := HFB.out); (try have q4 := HAT.out); simp [bareB, Vl.k, Vl.x, Vl.n, Vl.kids, Vl.frm, HKE.out, HFE.out, HXE.out, *]
        clear HRB HKE HFE HXE HFL HF
        go_enter Tryz.func54, Tryz.ntmps54
        go_wp2_with fail
        go_ret
        rw [HZ.out]
        exact ⟨rfl, HA.out⟩
      subst hkd0
      by_cases hfd0 : F = 0
      case neg =>
        have hfd : (0 : Int) < F := by omega
        have hfd2 : 0 < F := by omega
        have HZ : Hid (Z = false) := by rw [Hid, HRB.out]; (try have q1 := HK0.out); (try have q2 := HF0.out); (try have q3 := HFB.out); (try have q4 := HAT.out); simp [bareB, Vl.k, Vl.x, Vl.n, Vl.kids, Vl.frm, HKE.out, HFE.out, HXE.out, *]
        clear HRB HKE HFE HXE HFL HF
        go_enter Tryz.func54, Tryz.ntmps54
        go_wp2_with fail
        go_ret
        rw [HZ.out]
        exact ⟨rfl, HA.out⟩
      subst hfd0
      by_cases hnd : rn = 0
      case neg =>
        have HZ : Hid (Z = false) := by rw [Hid, HRB.out]; (try have q1 := HK0.out); (try have q2 := HF0.out); (try have q3 := HFB.out); (try have q4 := HAT.out); simp [bareB, Vl.k, Vl.x, Vl.n, Vl.kids, Vl.frm, HKE.out, HFE.out, HXE.out, *]
        clear HRB HKE HFE HXE HFL HF
        go_enter Tryz.func54, Tryz.ntmps54
        go_wp2_with fail
        go_ret
        rw [HZ.out]
        exact ⟨rfl, HA.out⟩
      subst hnd
      by_cases hx0 : rx = []
      case neg =>
        have g1 : ((str rx).toList == ([] : Bs)) = false := by rw [toL, beq_eq_false_iff_ne]; exact hx0
        have g2 : (str rx).toList.isEmpty = false := by rw [toL]; simpa using hx0
        have g3 : ¬ (str rx).toList = ([] : Bs) := by rw [toL]; exact hx0
        have HZ : Hid (Z = false) := by rw [Hid, HRB.out]; (try have q1 := HK0.out); (try have q2 := HF0.out); (try have q3 := HFB.out); (try have q4 := HAT.out); simp [bareB, Vl.k, Vl.x, Vl.n, Vl.kids, Vl.frm, HKE.out, HFE.out, HXE.out, hx0, *]
        clear HRB HKE HFE HXE HFL HF
        go_enter Tryz.func54, Tryz.ntmps54
        go_wp2_with fail
        go_ret
        rw [HZ.out]
        exact ⟨rfl, HA.out⟩
      subst hx0
      have g1 : (str ([] : Bs)).toList = ([] : Bs) := by rw [toL]
      have g2 : (str ([] : Bs)).toList.isEmpty = true := by rw [toL]; rfl
      have HZ : Hid (Z = true) := by rw [Hid, HRB.out]; (try have q1 := HK0.out); (try have q2 := HF0.out); (try have q3 := HFB.out); (try have q4 := HAT.out); simp [bareB, Vl.k, Vl.x, Vl.n, Vl.kids, Vl.frm, HKE.out, HFE.out, HXE.out, *]
      clear HRB HKE HFE HXE HFL HF
      go_enter Tryz.func54, Tryz.ntmps54
      go_wp2_with fail
      go_ret
      rw [HZ.out]
      exact ⟨rfl, HA.out⟩
  by_cases hk1 : rk = 1
  · subst hk1
    as_aux_lemma =>
      by_cases hkd0 : K = 0
      case neg =>
        have hkd : (0 : Int) < K := by omega
        have hkd2 : 0 < K := by omega
        have HZ : Hid (Z = false) := by rw [Hid, HRB.out]; (try have q1 := HK0.out); (try have q2 := HF0.out); (try have q3 := HFB.out); (try have q4 := HAT.out); simp [bareB, Vl.k, Vl.x, Vl.n, Vl.kids, Vl.frm, HKE.out, HFE.out, HXE.out, *]
        clear HRB HKE HFE HXE HFL HF
        go_enter Tryz.func54, Tryz.ntmps54
        go_wp2_with fail
        go_ret
        rw [HZ.out]
        exact ⟨rfl, HA.out⟩
      subst hkd0
      by_cases hfd0 : F = 0
      case neg =>
        have hfd : (0 : Int) < F := by omega
        have hfd2 : 0 < F := by omega
        have HZ : Hid (Z = false) := by rw [Hid, HRB.out]; (try have q1 := HK0.out); (try have q2 := HF0.out); (try have q3 := HFB.out); (try have q4 := HAT.out); simp [bareB, Vl.k, Vl.x, Vl.n, Vl.kids, Vl.frm, HKE.out, HFE.out, HXE.out, *]
        clear HRB HKE HFE HXE HFL HF
        go_enter Tryz.func54, Tryz.ntmps54
        go_wp2_with fail
        go_ret
        rw [HZ.out]
        exact ⟨rfl, HA.out⟩
      subst hfd0
      by_cases hx0 : rx = []
      case neg =>
        have g1 : ((str rx).toList == ([] : Bs)) = false := by rw [toL, beq_eq_false_iff_ne]; exact hx0
        have g2 : (str rx).toList.isEmpty = false := by rw [toL]; simpa using hx0
        have g3 : ¬ (str rx).toList = ([] : Bs) := by rw [toL]; exact hx0
        have HZ : Hid (Z = false) := by rw [Hid, HRB.out]; (try have q1 := HK0.out); (try have q2 := HF0.out); (try have q3 := HFB.out); (try have q4 := HAT.out); simp [bareB, Vl.k, Vl.x, Vl.n, Vl.kids, Vl.frm, HKE.out, HFE.out, HXE.out, hx0, *]
        clear HRB HKE HFE HXE HFL HF
        go_enter Tryz.func54, Tryz.ntmps54
        go_wp2_with fail
        go_ret
        rw [HZ.out]
        exact ⟨rfl, HA.out⟩
      subst hx0
      have g1 : (str ([] : Bs)).toList = ([] : Bs) := by rw [toL]
      have g2 : (str ([] : Bs)).toList.isEmpty = true := by rw [toL]; rfl
      by_cases hn0 : (0 : Int) ≤ rn
      case neg =>
        have HZ : Hid (Z = false) := by rw [Hid, HRB.out]; (try have q1 := HK0.out); (try have q2 := HF0.out); (try have q3 := HFB.out); (try have q4 := HAT.out); simp [bareB, Vl.k, Vl.x, Vl.n, Vl.kids, Vl.frm, HKE.out, HFE.out, HXE.out, *]
        clear HRB HKE HFE HXE HFL HF
        go_enter Tryz.func54, Tryz.ntmps54
        go_wp2_with fail
        go_ret
        rw [HZ.out]
        exact ⟨rfl, HA.out⟩
      have HZ : Hid (Z = true) := by rw [Hid, HRB.out]; (try have q1 := HK0.out); (try have q2 := HF0.out); (try have q3 := HFB.out); (try have q4 := HAT.out); simp [bareB, Vl.k, Vl.x, Vl.n, Vl.kids, Vl.frm, HKE.out, HFE.out, HXE.out, *]
      clear HRB HKE HFE HXE HFL HF
      go_enter Tryz.func54, Tryz.ntmps54
      go_wp2_with fail
      go_ret
      rw [HZ.out]
      exact ⟨rfl, HA.out⟩
  by_cases hk2 : rk = 2
  · subst hk2
    as_aux_lemma =>
      by_cases hkd0 : K = 0
      case neg =>
        have hkd : (0 : Int) < K := by omega
        have hkd2 : 0 < K := by omega
        have HZ : Hid (Z = false) := by rw [Hid, HRB.out]; (try have q1 := HK0.out); (try have q2 := HF0.out); (try have q3 := HFB.out); (try have q4 := HAT.out); simp [bareB, Vl.k, Vl.x, Vl.n, Vl.kids, Vl.frm, HKE.out, HFE.out, HXE.out, *]
        clear HRB HKE HFE HXE HFL HF
        go_enter Tryz.func54, Tryz.ntmps54
        go_wp2_with fail
        go_ret
        rw [HZ.out]
        exact ⟨rfl, HA.out⟩
      subst hkd0
      by_cases hfd0 : F = 0
      case neg =>
        have hfd : (0 : Int) < F := by omega
        have hfd2 : 0 < F := by omega
        have HZ : Hid (Z = false) := by rw [Hid, HRB.out]; (try have q1 := HK0.out); (try have q2 := HF0.out); (try have q3 := HFB.out); (try have q4 := HAT.out); simp [bareB, Vl.k, Vl.x, Vl.n, Vl.kids, Vl.frm, HKE.out, HFE.out, HXE.out, *]
        clear HRB HKE HFE HXE HFL HF
        go_enter Tryz.func54, Tryz.ntmps54
        go_wp2_with fail
        go_ret
        rw [HZ.out]
        exact ⟨rfl, HA.out⟩
      subst hfd0
      by_cases hnd : rn = 0
      case neg =>
        have HZ : Hid (Z = false) := by rw [Hid, HRB.out]; (try have q1 := HK0.out); (try have q2 := HF0.out); (try have q3 := HFB.out); (try have q4 := HAT.out); simp [bareB, Vl.k, Vl.x, Vl.n, Vl.kids, Vl.frm, HKE.out, HFE.out, HXE.out, *]
        clear HRB HKE HFE HXE HFL HF
        go_enter Tryz.func54, Tryz.ntmps54
        go_wp2_with fail
        go_ret
        rw [HZ.out]
        exact ⟨rfl, HA.out⟩
      subst hnd
      have HZ : Hid (Z = atomB rx) := by rw [Hid, HRB.out]; (try have q1 := HK0.out); (try have q2 := HF0.out); (try have q3 := HFB.out); (try have q4 := HAT.out); simp [bareB, Vl.k, Vl.x, Vl.n, Vl.kids, Vl.frm, HKE.out, HFE.out, HXE.out, *]
      clear HRB HKE HFE HXE HFL HF
      go_enter Tryz.func54, Tryz.ntmps54
      go_wp2_with fail
      refine (CA.out _).mono ?_
      rintro e w2 ⟨rfl, rfl⟩
      go_wp2_with fail
      go_ret
      rw [HZ.out]
      exact ⟨rfl, HA.out⟩
  by_cases hk3 : rk = 3
  · subst hk3
    as_aux_lemma =>
      by_cases hkd0 : K = 0
      case neg =>
        have hkd : (0 : Int) < K := by omega
        have hkd2 : 0 < K := by omega
        have HZ : Hid (Z = false) := by rw [Hid, HRB.out]; (try have q1 := HK0.out); (try have q2 := HF0.out); (try have q3 := HFB.out); (try have q4 := HAT.out); simp [bareB, Vl.k, Vl.x, Vl.n, Vl.kids, Vl.frm, HKE.out, HFE.out, HXE.out, *]
        clear HRB HKE HFE HXE HFL HF
        go_enter Tryz.func54, Tryz.ntmps54
        go_wp2_with fail
        go_ret
        rw [HZ.out]
        exact ⟨rfl, HA.out⟩
      subst hkd0
      by_cases hfd0 : F = 0
      case neg =>
        have hfd : (0 : Int) < F := by omega
        have hfd2 : 0 < F := by omega
        have HZ : Hid (Z = false) := by rw [Hid, HRB.out]; (try have q1 := HK0.out); (try have q2 := HF0.out); (try have q3 := HFB.out); (try have q4 := HAT.out); simp [bareB, Vl.k, Vl.x, Vl.n, Vl.kids, Vl.frm, HKE.out, HFE.out, HXE.out, *]
        clear HRB HKE HFE HXE HFL HF
        go_enter Tryz.func54, Tryz.ntmps54
        go_wp2_with fail
        go_ret
        rw [HZ.out]
        exact ⟨rfl, HA.out⟩
      subst hfd0
      by_cases hnd : rn = 0
      case neg =>
        have HZ : Hid (Z = false) := by rw [Hid, HRB.out]; (try have q1 := HK0.out); (try have q2 := HF0.out); (try have q3 := HFB.out); (try have q4 := HAT.out); simp [bareB, Vl.k, Vl.x, Vl.n, Vl.kids, Vl.frm, HKE.out, HFE.out, HXE.out, *]
        clear HRB HKE HFE HXE HFL HF
        go_enter Tryz.func54, Tryz.ntmps54
        go_wp2_with fail
        go_ret
        rw [HZ.out]
        exact ⟨rfl, HA.out⟩
      subst hnd
      have HZ : Hid (Z = true) := by rw [Hid, HRB.out]; (try have q1 := HK0.out); (try have q2 := HF0.out); (try have q3 := HFB.out); (try have q4 := HAT.out); simp [bareB, Vl.k, Vl.x, Vl.n, Vl.kids, Vl.frm, HKE.out, HFE.out, HXE.out, *]
      clear HRB HKE HFE HXE HFL HF
      go_enter Tryz.func54, Tryz.ntmps54
      go_wp2_with fail
      go_ret
      rw [HZ.out]
      exact ⟨rfl, HA.out⟩
  by_cases hk4 : rk = 4
  · subst hk4
    as_aux_lemma =>
      by_cases hfd0 : F = 0
      case neg =>
        have hfd : (0 : Int) < F := by omega
        have hfd2 : 0 < F := by omega
        have HZ : Hid (Z = false) := by rw [Hid, HRB.out]; (try have q1 := HK0.out); (try have q2 := HF0.out); (try have q3 := HFB.out); (try have q4 := HAT.out); simp [bareB, Vl.k, Vl.x, Vl.n, Vl.kids, Vl.frm, HKE.out, HFE.out, HXE.out, *]
        clear HRB HKE HFE HXE HFL HF
        go_enter Tryz.func54, Tryz.ntmps54
        go_wp2_with fail
        go_ret
        rw [HZ.out]
        exact ⟨rfl, HA.out⟩
      subst hfd0
      by_cases hnd : rn = 0
      case neg =>
        have HZ : Hid (Z = false) := by rw [Hid, HRB.out]; (try have q1 := HK0.out); (try have q2 := HF0.out); (try have q3 := HFB.out); (try have q4 := HAT.out); simp [bareB, Vl.k, Vl.x, Vl.n, Vl.kids, Vl.frm, HKE.out, HFE.out, HXE.out, *]
        clear HRB HKE HFE HXE HFL HF
        go_enter Tryz.func54, Tryz.ntmps54
        go_wp2_with fail
        go_ret
        rw [HZ.out]
        exact ⟨rfl, HA.out⟩
      subst hnd
      by_cases hx0 : rx = []
      case neg =>
        have g1 : ((str rx).toList == ([] : Bs)) = false := by rw [toL, beq_eq_false_iff_ne]; exact hx0
        have g2 : (str rx).toList.isEmpty = false := by rw [toL]; simpa using hx0
        have g3 : ¬ (str rx).toList = ([] : Bs) := by rw [toL]; exact hx0
        have HZ : Hid (Z = false) := by rw [Hid, HRB.out]; (try have q1 := HK0.out); (try have q2 := HF0.out); (try have q3 := HFB.out); (try have q4 := HAT.out); simp [bareB, Vl.k, Vl.x, Vl.n, Vl.kids, Vl.frm, HKE.out, HFE.out, HXE.out, hx0, *]
        clear HRB HKE HFE HXE HFL HF
        go_enter Tryz.func54, Tryz.ntmps54
        go_wp2_with fail
        go_ret
        rw [HZ.out]
        exact ⟨rfl, HA.out⟩
      subst hx0
      have g1 : (str ([] : Bs)).toList = ([] : Bs) := by rw [toL]
      have g2 : (str ([] : Bs)).toList.isEmpty = true := by rw [toL]; rfl
      by_cases hd30 : d < 30
      case neg =>
        have hd30' : ¬ (d : Int) < 30 := by omega
        have HZ : Hid (Z = false) := by rw [Hid, HRB.out]; (try have q1 := HK0.out); (try have q2 := HF0.out); (try have q3 := HFB.out); (try have q4 := HAT.out); simp [bareB, Vl.k, Vl.x, Vl.n, Vl.kids, Vl.frm, HKE.out, HFE.out, HXE.out, *]
        clear HRB HKE HFE HXE HFL HF
        go_enter Tryz.func54, Tryz.ntmps54
        go_wp2_with fail
        go_ret
        rw [HZ.out]
        exact ⟨rfl, HA.out⟩
      have hd30' : (d : Int) < 30 := by omega
      have CV2 := CV.out (by omega)
      have CV3 := hid CV2
      clear CV CV2
      generalize rightsB (d + 1) kids = Y at *
      have HZ : Hid (Z = Y) := by rw [Hid, HRB.out]; (try have q1 := HK0.out); (try have q2 := HF0.out); (try have q3 := HFB.out); (try have q4 := HAT.out); simp [bareB, Vl.k, Vl.x, Vl.n, Vl.kids, Vl.frm, HKE.out, HFE.out, HXE.out, *]
      clear HRB HKE HFE HXE HFL HF
      go_enter Tryz.func54, Tryz.ntmps54
      go_wp2_with fail
      refine (CV3.out _ HA.out).mono ?_
      rintro e w2 ⟨rfl, b2⟩
      have B2 := hid (HA.out.trans (b2.mono HA.out.size))
      clear b2
      go_wp2_with fail
      go_ret
      rw [HZ.out]
      exact ⟨rfl, B2.out⟩
  by_cases hk5 : rk = 5
  · subst hk5
    as_aux_lemma =>
      by_cases hnd : rn = 0
      case neg =>
        have HZ : Hid (Z = false) := by rw [Hid, HRB.out]; (try have q1 := HK0.out); (try have q2 := HF0.out); (try have q3 := HFB.out); (try have q4 := HAT.out); simp [bareB, Vl.k, Vl.x, Vl.n, Vl.kids, Vl.frm, HKE.out, HFE.out, HXE.out, *]
        clear HRB HKE HFE HXE HFL HF
        go_enter Tryz.func54, Tryz.ntmps54
        go_wp2_with fail
        go_ret
        rw [HZ.out]
        exact ⟨rfl, HA.out⟩
      subst hnd
      obtain ⟨at_, hat⟩ : ∃ q, atomB rx = q := ⟨_, rfl⟩
      have HAT := hid hat
      have CA2 := CA.out
      rw [hat] at CA2
      clear CA hat
      have CA := hid CA2
      clear CA2
      cases at_
      case false =>
        have HZ : Hid (Z = false) := by rw [Hid, HRB.out]; (try have q1 := HK0.out); (try have q2 := HF0.out); (try have q3 := HFB.out); (try have q4 := HAT.out); simp [bareB, Vl.k, Vl.x, Vl.n, Vl.kids, Vl.frm, HKE.out, HFE.out, HXE.out, *]
        clear HRB HKE HFE HXE HFL HF
        go_enter Tryz.func54, Tryz.ntmps54
        go_wp2_with fail
        refine (CA.out _).mono ?_
        rintro e w2 ⟨rfl, rfl⟩
        go_wp2_with fail
        go_ret
        rw [HZ.out]
        exact ⟨rfl, HA.out⟩
      by_cases hf0 : F = 0
      · subst hf0
        have HFB : Hid (frB frm = true) := by rw [Hid, HFL.out]; simp [*]
        by_cases hd30 : d < 30
        case neg =>
          have hd30' : ¬ (d : Int) < 30 := by omega
          have HZ : Hid (Z = false) := by rw [Hid, HRB.out]; (try have q1 := HK0.out); (try have q2 := HF0.out); (try have q3 := HFB.out); (try have q4 := HAT.out); simp [bareB, Vl.k, Vl.x, Vl.n, Vl.kids, Vl.frm, HKE.out, HFE.out, HXE.out, *]
          clear HRB HKE HFE HXE HFL HF
          go_enter Tryz.func54, Tryz.ntmps54
          go_wp2_with fail
          refine (CA.out _).mono ?_
          rintro e w2 ⟨rfl, rfl⟩
          go_wp2_with fail
          go_ret
          rw [HZ.out]
          exact ⟨rfl, HA.out⟩
        have hd30' : (d : Int) < 30 := by omega
        have CV2 := CV.out (by omega)
        have CV3 := hid CV2
        clear CV CV2
        generalize rightsB (d + 1) kids = Y at *
        have HZ : Hid (Z = Y) := by rw [Hid, HRB.out]; (try have q1 := HK0.out); (try have q2 := HF0.out); (try have q3 := HFB.out); (try have q4 := HAT.out); simp [bareB, Vl.k, Vl.x, Vl.n, Vl.kids, Vl.frm, HKE.out, HFE.out, HXE.out, *]
        clear HRB HKE HFE HXE HFL HF
        go_enter Tryz.func54, Tryz.ntmps54
        go_wp2_with fail
        refine (CA.out _).mono ?_
        rintro e w2 ⟨rfl, rfl⟩
        go_wp2_with fail
        refine (CV3.out _ HA.out).mono ?_
        rintro e w3 ⟨rfl, b2⟩
        have B2 := hid (HA.out.trans (b2.mono HA.out.size))
        clear b2
        go_wp2_with fail
        go_ret
        rw [HZ.out]
        exact ⟨rfl, B2.out⟩
      by_cases hf1 : F = 1
      case neg =>
        have hf2 : ¬ (F : Int) ≤ 1 := by omega
        have HFB : Hid (frB frm = false) := by rw [Hid, HFL.out]; simp [*]
        have HZ : Hid (Z = false) := by rw [Hid, HRB.out]; (try have q1 := HK0.out); (try have q2 := HF0.out); (try have q3 := HFB.out); (try have q4 := HAT.out); simp [bareB, Vl.k, Vl.x, Vl.n, Vl.kids, Vl.frm, HKE.out, HFE.out, HXE.out, *]
        clear HRB HKE HFE HXE HFL HF
        go_enter Tryz.func54, Tryz.ntmps54
        go_wp2_with fail
        refine (CA.out _).mono ?_
        rintro e w2 ⟨rfl, rfl⟩
        go_wp2_with fail
        go_ret
        rw [HZ.out]
        exact ⟨rfl, HA.out⟩
      obtain ⟨g, o, n0, hhd, hi64, rfl, hcell⟩ := HF.out hf1
      rw [hhd] at HFL
      subst hf1
      by_cases hn0 : (0 : Int) ≤ n0
      case neg =>
        have HFB : Hid (frB frm = false) := by rw [Hid, HFL.out]; simp [*]
        have HZ : Hid (Z = false) := by rw [Hid, HRB.out]; (try have q1 := HK0.out); (try have q2 := HF0.out); (try have q3 := HFB.out); (try have q4 := HAT.out); simp [bareB, Vl.k, Vl.x, Vl.n, Vl.kids, Vl.frm, HKE.out, HFE.out, HXE.out, *]
        clear HRB HKE HFE HXE HFL HF
        go_enter Tryz.func54, Tryz.ntmps54
        go_wp2_with fail
        refine (CA.out _).mono ?_
        rintro e w2 ⟨rfl, rfl⟩
        go_wp2_with fail
        go_ret
        rw [HZ.out]
        exact ⟨rfl, HA.out⟩
      have HFB : Hid (frB frm = true) := by rw [Hid, HFL.out]; simp [*]
      by_cases hd30 : d < 30
      case neg =>
        have hd30' : ¬ (d : Int) < 30 := by omega
        have HZ : Hid (Z = false) := by rw [Hid, HRB.out]; (try have q1 := HK0.out); (try have q2 := HF0.out); (try have q3 := HFB.out); (try have q4 := HAT.out); simp [bareB, Vl.k, Vl.x, Vl.n, Vl.kids, Vl.frm, HKE.out, HFE.out, HXE.out, *]
        clear HRB HKE HFE HXE HFL HF
        go_enter Tryz.func54, Tryz.ntmps54
        go_wp2_with fail
        refine (CA.out _).mono ?_
        rintro e w2 ⟨rfl, rfl⟩
        go_wp2_with fail
        go_ret
        rw [HZ.out]
        exact ⟨rfl, HA.out⟩
      have hd30' : (d : Int) < 30 := by omega
      have CV2 := CV.out (by omega)
      have CV3 := hid CV2
      clear CV CV2
      generalize rightsB (d + 1) kids = Y at *
      have HZ : Hid (Z = Y) := by rw [Hid, HRB.out]; (try have q1 := HK0.out); (try have q2 := HF0.out); (try have q3 := HFB.out); (try have q4 := HAT.out); simp [bareB, Vl.k, Vl.x, Vl.n, Vl.kids, Vl.frm, HKE.out, HFE.out, HXE.out, *]
      clear HRB HKE HFE HXE HFL HF
      go_enter Tryz.func54, Tryz.ntmps54
      go_wp2_with fail
      refine (CA.out _).mono ?_
      rintro e w2 ⟨rfl, rfl⟩
      go_wp2_with fail
      refine (CV3.out _ HA.out).mono ?_
      rintro e w3 ⟨rfl, b2⟩
      have B2 := hid (HA.out.trans (b2.mono HA.out.size))
      clear b2
      go_wp2_with fail
      go_ret
      rw [HZ.out]
      exact ⟨rfl, B2.out⟩
  by_cases hkd0 : K = 0
  case neg =>
    have hkd : (0 : Int) < K := by omega
    have hkd2 : 0 < K := by omega
    have HZ : Hid (Z = false) := by rw [Hid, HRB.out]; (try have q1 := HK0.out); (try have q2 := HF0.out); (try have q3 := HFB.out); (try have q4 := HAT.out); simp [*]
    clear HRB HKE HFE HXE HFL HF
    go_enter Tryz.func54, Tryz.ntmps54
    go_wp2_with fail
    all_goals
      go_ret
      rw [HZ.out]
      exact ⟨rfl, HA.out⟩
  subst hkd0
  by_cases hfd0 : F = 0
  case neg =>
    have hfd : (0 : Int) < F := by omega
    have hfd2 : 0 < F := by omega
    have HZ : Hid (Z = false) := by rw [Hid, HRB.out]; (try have q1 := HK0.out); (try have q2 := HF0.out); (try have q3 := HFB.out); (try have q4 := HAT.out); simp [*]
    clear HRB HKE HFE HXE HFL HF
    go_enter Tryz.func54, Tryz.ntmps54
    go_wp2_with fail
    all_goals
      go_ret
      rw [HZ.out]
      exact ⟨rfl, HA.out⟩
  subst hfd0
  by_cases hnd : rn = 0
  case neg =>
    have HZ : Hid (Z = false) := by rw [Hid, HRB.out]; (try have q1 := HK0.out); (try have q2 := HF0.out); (try have q3 := HFB.out); (try have q4 := HAT.out); simp [*]
    clear HRB HKE HFE HXE HFL HF
    go_enter Tryz.func54, Tryz.ntmps54
    go_wp2_with fail
    all_goals
      go_ret
      rw [HZ.out]
      exact ⟨rfl, HA.out⟩
  subst hnd
  have HZ : Hid (Z = false) := by rw [Hid, HRB.out]; (try have q1 := HK0.out); (try have q2 := HF0.out); (try have q3 := HFB.out); (try have q4 := HAT.out); simp [*]
  clear HRB HKE HFE HXE HFL HF
  go_enter Tryz.func54, Tryz.ntmps54
  go_wp2_with fail
  all_goals
    go_ret
    rw [HZ.out]
    exact ⟨rfl, HA.out⟩
end Go.Proofs.YtpjcpdnolcehcaaGreatDoor
