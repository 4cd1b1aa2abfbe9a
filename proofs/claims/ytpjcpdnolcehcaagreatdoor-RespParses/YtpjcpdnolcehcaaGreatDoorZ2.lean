/- What this text holds: the document's right values. · What this text holds: the document's right values, all of them. · What this text holds: the document's right lines. -/
import Derived.Test.YtpjcpdnolcehcaaGreatDoorM39
import Derived.Test.YtpjcpdnolcehcaaGreatDoorM35
import Derived.Deep.CutRange
namespace Go.Proofs.YtpjcpdnolcehcaaGreatDoor
open Go.RowKit
set_option linter.unusedVariables false
set_option linter.unusedSimpArgs false

def ROk (sz : Nat) : Prop := ∀ (w : World) (N : Nat → Prop) (d : Nat) (r : Rw) (v : Vl), VAt w N r v → NumV v → szV v ≤ sz → d ≤ 30 → Calls Tryz.prog 54 #[vV r, .int .i64 d] w (Bo (rightB d v) w)
def RsOk (sz : Nat) : Prop := ∀ (w : World) (N : Nat → Prop) (d : Nat) (u : Value) (ks : List Vl), VsAt w N u ks → NumL ks → szL ks ≤ sz → d ≤ 30 → ks.length ≤ 1000000000 → Calls Tryz.prog 37 #[u, .int .i64 d] w (Bo (rightsB d ks) w)
set_option maxRecDepth 100000 in
set_option maxHeartbeats 8000000 in
theorem value_r {sz : Nat} (hV : RsOk sz) : ROk (sz + 1) := by
  intro w N d r v hr hn hs hd
  obtain ⟨rk, rx, rn, ⟨ra, rb, rc⟩, ⟨rd, re, rf⟩⟩ := r
  obtain ⟨⟨ek, ex, en, hf⟩, hk⟩ := hr
  obtain ⟨k, x, n, kids, frm⟩ := v
  simp only [Vl.k, Vl.x, Vl.n, Vl.kids, Vl.frm, Sl.v] at ek ex en hf hk
  subst ek ex en
  obtain ⟨_, _, he, _⟩ := hf.slice
  simp only [Value.slice.injEq] at he
  obtain ⟨rfl, rfl, rfl⟩ := he
  obtain ⟨_, _, he, _⟩ := hk.slice
  simp only [Value.slice.injEq] at he
  obtain ⟨rfl, rfl, rfl⟩ := he
  obtain ⟨hn1, hn2, hn3, hn4, hn5, hn6⟩ := hn
  have hszk : szL kids ≤ sz := by simp only [szV] at hs; omega
  rw [vV_mk]
  have hA : Below w.heap.size w (w.alloc (.cells #[.int .i64 rk, .string (str rx), .int .i64 rn, .slice ra kids.length rc, .slice rd frm.length rf] 43)) := al _ _
  have HA := hid hA
  have v1 : V5 (w.alloc (.cells #[.int .i64 rk, .string (str rx), .int .i64 rn, .slice ra kids.length rc, .slice rd frm.length rf] 43)) w.heap.size ⟨rk, rx, rn, (ra, kids.length, rc), (rd, frm.length, rf)⟩ := V5.new w ⟨rk, rx, rn, (ra, kids.length, rc), (rd, frm.length, rf)⟩
  obtain ⟨x0, x1, x2, x3, x4⟩ := v1.cs
  simp only [Sl.v] at x3 x4
  have CA := hid (fun (w' : World) => atom_r rx w' hn2)
  have CV := hid (fun (hd30 : d + 1 ≤ 30) (w' : World) (hW : Below w.heap.size w w') => show Calls Tryz.prog 37 #[.slice ra kids.length rc, .int .i64 ((d : Int) + 1)] w' (Bo (rightsB (d + 1) kids) w') from by
    have := hV w' N (d + 1) _ kids (hk.later hW) hn4 hszk hd30 (by omega)
    rw [show ((d + 1 : Nat) : Int) = (d : Int) + 1 by omega] at this
    exact this)
  have HF : Hid (frm.length = 1 → ∃ g o n0, frm.headD 0 = n0 ∧ I64 n0 ∧ rd = some ⟨g, o, none⟩ ∧ (w.alloc (.cells #[.int .i64 rk, .string (str rx), .int .i64 rn, .slice ra kids.length rc, .slice rd frm.length rf] 43)).cell? ⟨g, o, none⟩ = some (.int .i64 n0)) := by
    intro h1
    match frm, h1 with
    | [n0], _ =>
      obtain ⟨g, o, c, e, _, h, _, _⟩ := (hf.kept (Kept.ofBelow hA []) (by simp)).at_ (by simp)
      simp only [Value.slice.injEq] at e
      exact ⟨g, o, n0, rfl, hn3 n0 (by simp), e.1, by have := h.i 0 n0 rfl; simpa using this⟩
  have hf0 := fun A => fld43k A 0 (by omega)
  have hf1 := fld43
  have hf2 := fun A => fld43k A 1 (by omega)
  have hf3 := fun A => fld43k A 2 (by omega)
  have hf4 := fun A => fld43k A 3 (by omega)
  have HRB : Hid (rightB d (.mk rk rx rn kids frm) = (bareB (.mk rk rx rn kids frm) && (if rk = 0 then true else if rk = 3 then true else if rk = 1 then decide (0 ≤ rn) else if rk = 2 then atomB rx else if rk = 4 then decide (d < 30) && rightsB (d + 1) kids else if rk = 5 then atomB rx && frB frm && (decide (d < 30) && rightsB (d + 1) kids) else false))) := by rw [Hid, rightB]
  have hkl : kids.length ≤ 100000000 := hn5
  have hfl : frm.length ≤ 100000000 := hn6
  have HKE : Hid (kids.isEmpty = decide (kids.length = 0)) := by cases kids <;> rfl
  have HFE : Hid (frm.isEmpty = decide (frm.length = 0)) := by cases frm <;> rfl
  have HFL : Hid (frB frm = (decide (frm.length = 0) || (decide (frm.length = 1) && decide (0 ≤ frm.headD 0)))) := by unfold Hid frB; cases frm <;> simp
  have HXE : Hid ((rx == []) = decide (rx = [])) := by cases rx <;> rfl
  generalize rightB d (.mk rk rx rn kids frm) = Z at *
  generalize kids.length = K at *
  generalize frm.length = F at *
  clear hV hf hk hn1 hn2 hn3 hn4 hn5 hn6 hszk hs v1 hA
  by_cases hk0 : rk = 0
  · subst hk0
    as_aux_lemma =>
      by_cases hkd0 : K = 0
      case neg =>
        have hkd : (0 : Int) < K := by omega
        have hkd2 : 0 < K := by omega
        have HZ : Hid (Z = false) := by rw [Hid, HRB.out]; (try have q1 := HK0.out); (try have q2 := HF0.out); (try have q3 := HFB.out); (try have q4 := HAT.out); simp [bareB, Vl.k, Vl.x, Vl.n, Vl.kids, Vl.frm, HKE.out, HFE.out, HXE.out, *]
        clear HRB HKE HFE HXE HFL HF
        go_enter Tryz.func54, Tryz.ntmps54
        go_wp2_with fail
        go_ret
        rw [HZ.out]
        exact ⟨rfl, HA.out⟩
      subst hkd0
      by_cases hfd0 : F = 0
      case neg =>
        have hfd : (0 : Int) < F := by omega
        have hfd2 : 0 < F := by omega
        have HZ : Hid (Z = false) := by rw [Hid, HRB.out]; (try have q1 := HK0.out); (try have q2 := HF0.out); (try have q3 := HFB.out); (try have q4 := HAT.out); simp [bareB, Vl.k, Vl.x, Vl.n, Vl.kids, Vl.frm, HKE.out, HFE.out, HXE.out, *]
        clear HRB HKE HFE HXE HFL HF
        go_enter Tryz.func54, Tryz.ntmps54
        go_wp2_with fail
        go_ret
        rw [HZ.out]
        exact ⟨rfl, HA.out⟩
      subst hfd0
      by_cases hnd : rn = 0
      case neg =>
        have HZ : Hid (Z = false) := by rw [Hid, HRB.out]; (try have q1 := HK0.out); (try have q2 := HF0.out); (try have q3 := HFB.out); (try have q4 := HAT.out); simp [bareB, Vl.k, Vl.x, Vl.n, Vl.kids, Vl.frm, HKE.out, HFE.out, HXE.out, *]
        clear HRB HKE HFE HXE HFL HF
        go_enter Tryz.func54, Tryz.ntmps54
        go_wp2_with fail
        go_ret
        rw [HZ.out]
        exact ⟨rfl, HA.out⟩
      subst hnd
      by_cases hx0 : rx = []
      case neg =>
        have g1 : ((str rx).toList == ([] : Bs)) = false := by rw [toL, beq_eq_false_iff_ne]; exact hx0
        have g2 : (str rx).toList.isEmpty = false := by rw [toL]; simpa using hx0
        have g3 : ¬ (str rx).toList = ([] : Bs) := by rw [toL]; exact hx0
        have HZ : Hid (Z = false) := by rw [Hid, HRB.out]; (try have q1 := HK0.out); (try have q2 := HF0.out); (try have q3 := HFB.out); (try have q4 := HAT.out); simp [bareB, Vl.k, Vl.x, Vl.n, Vl.kids, Vl.frm, HKE.out, HFE.out, HXE.out, hx0, *]
        clear HRB HKE HFE HXE HFL HF
        go_enter Tryz.func54, Tryz.ntmps54
        go_wp2_with fail
        go_ret
        rw [HZ.out]
        exact ⟨rfl, HA.out⟩
      subst hx0
      have g1 : (str ([] : Bs)).toList = ([] : Bs) := by rw [toL]
      have g2 : (str ([] : Bs)).toList.isEmpty = true := by rw [toL]; rfl
      have HZ : Hid (Z = true) := by rw [Hid, HRB.out]; (try have q1 := HK0.out); (try have q2 := HF0.out); (try have q3 := HFB.out); (try have q4 := HAT.out); simp [bareB, Vl.k, Vl.x, Vl.n, Vl.kids, Vl.frm, HKE.out, HFE.out, HXE.out, *]
      clear HRB HKE HFE HXE HFL HF
      go_enter Tryz.func54, Tryz.ntmps54
      go_wp2_with fail
      go_ret
      rw [HZ.out]
      exact ⟨rfl, HA.out⟩
  by_cases hk1 : rk = 1
  · subst hk1
    as_aux_lemma =>
      by_cases hkd0 : K = 0
      case neg =>
        have hkd : (0 : Int) < K := by omega
        have hkd2 : 0 < K := by omega
        have HZ : Hid (Z = false) := by rw [Hid, HRB.out]; (try have q1 := HK0.out); (try have q2 := HF0.out); (try have q3 := HFB.out); (try have q4 := HAT.out); simp [bareB, Vl.k, Vl.x, Vl.n, Vl.kids, Vl.frm, HKE.out, HFE.out, HXE.out, *]
        clear HRB HKE HFE HXE HFL HF
        go_enter Tryz.func54, Tryz.ntmps54
        go_wp2_with fail
        go_ret
        rw [HZ.out]
        exact ⟨rfl, HA.out⟩
      subst hkd0
      by_cases hfd0 : F = 0
      case neg =>
        have hfd : (0 : Int) < F := by omega
        have hfd2 : 0 < F := by omega
        have HZ : Hid (Z = false) := by rw [Hid, HRB.out]; (try have q1 := HK0.out); (try have q2 := HF0.out); (try have q3 := HFB.out); (try have q4 := HAT.out); simp [bareB, Vl.k, Vl.x, Vl.n, Vl.kids, Vl.frm, HKE.out, HFE.out, HXE.out, *]
        clear HRB HKE HFE HXE HFL HF
        go_enter Tryz.func54, Tryz.ntmps54
        go_wp2_with fail
        go_ret
        rw [HZ.out]
        exact ⟨rfl, HA.out⟩
      subst hfd0
      by_cases hx0 : rx = []
      case neg =>
        have g1 : ((str rx).toList == ([] : Bs)) = false := by rw [toL, beq_eq_false_iff_ne]; exact hx0
        have g2 : (str rx).toList.isEmpty = false := by rw [toL]; simpa using hx0
        have g3 : ¬ (str rx).toList = ([] : Bs) := by rw [toL]; exact hx0
        have HZ : Hid (Z = false) := by rw [Hid, HRB.out]; (try have q1 := HK0.out); (try have q2 := HF0.out); (try have q3 := HFB.out); (try have q4 := HAT.out); simp [bareB, Vl.k, Vl.x, Vl.n, Vl.kids, Vl.frm, HKE.out, HFE.out, HXE.out, hx0, *]
        clear HRB HKE HFE HXE HFL HF
        go_enter Tryz.func54, Tryz.ntmps54
        go_wp2_with fail
        go_ret
        rw [HZ.out]
        exact ⟨rfl, HA.out⟩
      subst hx0
      have g1 : (str ([] : Bs)).toList = ([] : Bs) := by rw [toL]
      have g2 : (str ([] : Bs)).toList.isEmpty = true := by rw [toL]; rfl
      by_cases hn0 : (0 : Int) ≤ rn
      case neg =>
        have HZ : Hid (Z = false) := by rw [Hid, HRB.out]; (try have q1 := HK0.out); (try have q2 := HF0.out); (try have q3 := HFB.out); (try have q4 := HAT.out); simp [bareB, Vl.k, Vl.x, Vl.n, Vl.kids, Vl.frm, HKE.out, HFE.out, HXE.out, *]
        clear HRB HKE HFE HXE HFL HF
        go_enter Tryz.func54, Tryz.ntmps54
        go_wp2_with fail
        go_ret
        rw [HZ.out]
        exact ⟨rfl, HA.out⟩
      have HZ : Hid (Z = true) := by rw [Hid, HRB.out]; (try have q1 := HK0.out); (try have q2 := HF0.out); (try have q3 := HFB.out); (try have q4 := HAT.out); simp [bareB, Vl.k, Vl.x, Vl.n, Vl.kids, Vl.frm, HKE.out, HFE.out, HXE.out, *]
      clear HRB HKE HFE HXE HFL HF
      go_enter Tryz.func54, Tryz.ntmps54
      go_wp2_with fail
      go_ret
      rw [HZ.out]
      exact ⟨rfl, HA.out⟩
  by_cases hk2 : rk = 2
  · subst hk2
    as_aux_lemma =>
      by_cases hkd0 : K = 0
      case neg =>
        have hkd : (0 : Int) < K := by omega
        have hkd2 : 0 < K := by omega
        have HZ : Hid (Z = false) := by rw [Hid, HRB.out]; (try have q1 := HK0.out); (try have q2 := HF0.out); (try have q3 := HFB.out); (try have q4 := HAT.out); simp [bareB, Vl.k, Vl.x, Vl.n, Vl.kids, Vl.frm, HKE.out, HFE.out, HXE.out, *]
        clear HRB HKE HFE HXE HFL HF
        go_enter Tryz.func54, Tryz.ntmps54
        go_wp2_with fail
        go_ret
        rw [HZ.out]
        exact ⟨rfl, HA.out⟩
      subst hkd0
      by_cases hfd0 : F = 0
      case neg =>
        have hfd : (0 : Int) < F := by omega
        have hfd2 : 0 < F := by omega
        have HZ : Hid (Z = false) := by rw [Hid, HRB.out]; (try have q1 := HK0.out); (try have q2 := HF0.out); (try have q3 := HFB.out); (try have q4 := HAT.out); simp [bareB, Vl.k, Vl.x, Vl.n, Vl.kids, Vl.frm, HKE.out, HFE.out, HXE.out, *]
        clear HRB HKE HFE HXE HFL HF
        go_enter Tryz.func54, Tryz.ntmps54
        go_wp2_with fail
        go_ret
        rw [HZ.out]
        exact ⟨rfl, HA.out⟩
      subst hfd0
      by_cases hnd : rn = 0
      case neg =>
        have HZ : Hid (Z = false) := by rw [Hid, HRB.out]; (try have q1 := HK0.out); (try have q2 := HF0.out); (try have q3 := HFB.out); (try have q4 := HAT.out); simp [bareB, Vl.k, Vl.x, Vl.n, Vl.kids, Vl.frm, HKE.out, HFE.out, HXE.out, *]
        clear HRB HKE HFE HXE HFL HF
        go_enter Tryz.func54, Tryz.ntmps54
        go_wp2_with fail
        go_ret
        rw [HZ.out]
        exact ⟨rfl, HA.out⟩
      subst hnd
      have HZ : Hid (Z = atomB rx) := by rw [Hid, HRB.out]; (try have q1 := HK0.out); (try have q2 := HF0.out); (try have q3 := HFB.out); (try have q4 := HAT.out); simp [bareB, Vl.k, Vl.x, Vl.n, Vl.kids, Vl.frm, HKE.out, HFE.out, HXE.out, *]
      clear HRB HKE HFE HXE HFL HF
      go_enter Tryz.func54, Tryz.ntmps54
      go_wp2_with fail
      refine (CA.out _).mono ?_
      rintro e w2 ⟨rfl, rfl⟩
      go_wp2_with fail
      go_ret
      rw [HZ.out]
      exact ⟨rfl, HA.out⟩
  by_cases hk3 : rk = 3
  · subst hk3
    as_aux_lemma =>
      by_cases hkd0 : K = 0
      case neg =>
        have hkd : (0 : Int) < K := by omega
        have hkd2 : 0 < K := by omega
        have HZ : Hid (Z = false) := by rw [Hid, HRB.out]; (try have q1 := HK0.out); (try have q2 := HF0.out); (try have q3 := HFB.out); (try have q4 := HAT.out); simp [bareB, Vl.k, Vl.x, Vl.n, Vl.kids, Vl.frm, HKE.out, HFE.out, HXE.out, *]
        clear HRB HKE HFE HXE HFL HF
        go_enter Tryz.func54, Tryz.ntmps54
        go_wp2_with fail
        go_ret
        rw [HZ.out]
        exact ⟨rfl, HA.out⟩
      subst hkd0
      by_cases hfd0 : F = 0
      case neg =>
        have hfd : (0 : Int) < F := by omega
        have hfd2 : 0 < F := by omega
        have HZ : Hid (Z = false) := by rw [Hid, HRB.out]; (try have q1 := HK0.out); (try have q2 := HF0.out); (try have q3 := HFB.out); (try have q4 := HAT.out); simp [bareB, Vl.k, Vl.x, Vl.n, Vl.kids, Vl.frm, HKE.out, HFE.out, HXE.out, *]
        clear HRB HKE HFE HXE HFL HF
        go_enter Tryz.func54, Tryz.ntmps54
        go_wp2_with fail
        go_ret
        rw [HZ.out]
        exact ⟨rfl, HA.out⟩
      subst hfd0
      by_cases hnd : rn = 0
      case neg =>
        have HZ : Hid (Z = false) := by rw [Hid, HRB.out]; (try have q1 := HK0.out); (try have q2 := HF0.out); (try have q3 := HFB.out); (try have q4 := HAT.out); simp [bareB, Vl.k, Vl.x, Vl.n, Vl.kids, Vl.frm, HKE.out, HFE.out, HXE.out, *]
        clear HRB HKE HFE HXE HFL HF
        go_enter Tryz.func54, Tryz.ntmps54
        go_wp2_with fail
        go_ret
        rw [HZ.out]
        exact ⟨rfl, HA.out⟩
      subst hnd
      have HZ : Hid (Z = true) := by rw [Hid, HRB.out]; (try have q1 := HK0.out); (try have q2 := HF0.out); (try have q3 := HFB.out); (try have q4 := HAT.out); simp [bareB, Vl.k, Vl.x, Vl.n, Vl.kids, Vl.frm, HKE.out, HFE.out, HXE.out, *]
      clear HRB HKE HFE HXE HFL HF
      go_enter Tryz.func54, Tryz.ntmps54
      go_wp2_with fail
      go_ret
      rw [HZ.out]
      exact ⟨rfl, HA.out⟩
  by_cases hk4 : rk = 4
  · subst hk4
    as_aux_lemma =>
      by_cases hfd0 : F = 0
      case neg =>
        have hfd : (0 : Int) < F := by omega
        have hfd2 : 0 < F := by omega
        have HZ : Hid (Z = false) := by rw [Hid, HRB.out]; (try have q1 := HK0.out); (try have q2 := HF0.out); (try have q3 := HFB.out); (try have q4 := HAT.out); simp [bareB, Vl.k, Vl.x, Vl.n, Vl.kids, Vl.frm, HKE.out, HFE.out, HXE.out, *]
        clear HRB HKE HFE HXE HFL HF
        go_enter Tryz.func54, Tryz.ntmps54
        go_wp2_with fail
        go_ret
        rw [HZ.out]
        exact ⟨rfl, HA.out⟩
      subst hfd0
      by_cases hnd : rn = 0
      case neg =>
        have HZ : Hid (Z = false) := by rw [Hid, HRB.out]; (try have q1 := HK0.out); (try have q2 := HF0.out); (try have q3 := HFB.out); (try have q4 := HAT.out); simp [bareB, Vl.k, Vl.x, Vl.n, Vl.kids, Vl.frm, HKE.out, HFE.out, HXE.out, *]
        clear HRB HKE HFE HXE HFL HF
        go_enter Tryz.func54, Tryz.ntmps54
        go_wp2_with fail
        go_ret
        rw [HZ.out]
        exact ⟨rfl, HA.out⟩
      subst hnd
      by_cases hx0 : rx = []
      case neg =>
        have g1 : ((str rx).toList == ([] : Bs)) = false := by rw [toL, beq_eq_false_iff_ne]; exact hx0
        have g2 : (str rx).toList.isEmpty = false := by rw [toL]; simpa using hx0
        have g3 : ¬ (str rx).toList = ([] : Bs) := by rw [toL]; exact hx0
        have HZ : Hid (Z = false) := by rw [Hid, HRB.out]; (try have q1 := HK0.out); (try have q2 := HF0.out); (try have q3 := HFB.out); (try have q4 := HAT.out); simp [bareB, Vl.k, Vl.x, Vl.n, Vl.kids, Vl.frm, HKE.out, HFE.out, HXE.out, hx0, *]
        clear HRB HKE HFE HXE HFL HF
        go_enter Tryz.func54, Tryz.ntmps54
        go_wp2_with fail
        go_ret
        rw [HZ.out]
        exact ⟨rfl, HA.out⟩
      subst hx0
      have g1 : (str ([] : Bs)).toList = ([] : Bs) := by rw [toL]
      have g2 : (str ([] : Bs)).toList.isEmpty = true := by rw [toL]; rfl
      by_cases hd30 : d < 30
      case neg =>
        have hd30' : ¬ (d : Int) < 30 := by omega
        have HZ : Hid (Z = false) := by rw [Hid, HRB.out]; (try have q1 := HK0.out); (try have q2 := HF0.out); (try have q3 := HFB.out); (try have q4 := HAT.out); simp [bareB, Vl.k, Vl.x, Vl.n, Vl.kids, Vl.frm, HKE.out, HFE.out, HXE.out, *]
        clear HRB HKE HFE HXE HFL HF
        go_enter Tryz.func54, Tryz.ntmps54
        go_wp2_with fail
        go_ret
        rw [HZ.out]
        exact ⟨rfl, HA.out⟩
      have hd30' : (d : Int) < 30 := by omega
      have CV2 := CV.out (by omega)
      have CV3 := hid CV2
      clear CV CV2
      generalize rightsB (d + 1) kids = Y at *
      have HZ : Hid (Z = Y) := by rw [Hid, HRB.out]; (try have q1 := HK0.out); (try have q2 := HF0.out); (try have q3 := HFB.out); (try have q4 := HAT.out); simp [bareB, Vl.k, Vl.x, Vl.n, Vl.kids, Vl.frm, HKE.out, HFE.out, HXE.out, *]
      clear HRB HKE HFE HXE HFL HF
      go_enter Tryz.func54, Tryz.ntmps54
      go_wp2_with fail
      refine (CV3.out _ HA.out).mono ?_
      rintro e w2 ⟨rfl, b2⟩
      have B2 := hid (HA.out.trans (b2.mono HA.out.size))
      clear b2
      go_wp2_with fail
      go_ret
      rw [HZ.out]
      exact ⟨rfl, B2.out⟩
  by_cases hk5 : rk = 5
  · subst hk5
    as_aux_lemma =>
      by_cases hnd : rn = 0
      case neg =>
        have HZ : Hid (Z = false) := by rw [Hid, HRB.out]; (try have q1 := HK0.out); (try have q2 := HF0.out); (try have q3 := HFB.out); (try have q4 := HAT.out); simp [bareB, Vl.k, Vl.x, Vl.n, Vl.kids, Vl.frm, HKE.out, HFE.out, HXE.out, *]
        clear HRB HKE HFE HXE HFL HF
        go_enter Tryz.func54, Tryz.ntmps54
        go_wp2_with fail
        go_ret
        rw [HZ.out]
        exact ⟨rfl, HA.out⟩
      subst hnd
      obtain ⟨at_, hat⟩ : ∃ q, atomB rx = q := ⟨_, rfl⟩
      have HAT := hid hat
      have CA2 := CA.out
      rw [hat] at CA2
      clear CA hat
      have CA := hid CA2
      clear CA2
      cases at_
      case false =>
        have HZ : Hid (Z = false) := by rw [Hid, HRB.out]; (try have q1 := HK0.out); (try have q2 := HF0.out); (try have q3 := HFB.out); (try have q4 := HAT.out); simp [bareB, Vl.k, Vl.x, Vl.n, Vl.kids, Vl.frm, HKE.out, HFE.out, HXE.out, *]
        clear HRB HKE HFE HXE HFL HF
        go_enter Tryz.func54, Tryz.ntmps54
        go_wp2_with fail
        refine (CA.out _).mono ?_
        rintro e w2 ⟨rfl, rfl⟩
        go_wp2_with fail
        go_ret
        rw [HZ.out]
        exact ⟨rfl, HA.out⟩
      by_cases hf0 : F = 0
      · subst hf0
        have HFB : Hid (frB frm = true) := by rw [Hid, HFL.out]; simp [*]
        by_cases hd30 : d < 30
        case neg =>
          have hd30' : ¬ (d : Int) < 30 := by omega
          have HZ : Hid (Z = false) := by rw [Hid, HRB.out]; (try have q1 := HK0.out); (try have q2 := HF0.out); (try have q3 := HFB.out); (try have q4 := HAT.out); simp [bareB, Vl.k, Vl.x, Vl.n, Vl.kids, Vl.frm, HKE.out, HFE.out, HXE.out, *]
          clear HRB HKE HFE HXE HFL HF
          go_enter Tryz.func54, Tryz.ntmps54
          go_wp2_with fail
          refine (CA.out _).mono ?_
          rintro e w2 ⟨rfl, rfl⟩
          go_wp2_with fail
          go_ret
          rw [HZ.out]
          exact ⟨rfl, HA.out⟩
        have hd30' : (d : Int) < 30 := by omega
        have CV2 := CV.out (by omega)
        have CV3 := hid CV2
        clear CV CV2
        generalize rightsB (d + 1) kids = Y at *
        have HZ : Hid (Z = Y) := by rw [Hid, HRB.out]; (try have q1 := HK0.out); (try have q2 := HF0.out); (try have q3 := HFB.out); (try have q4 := HAT.out); simp [bareB, Vl.k, Vl.x, Vl.n, Vl.kids, Vl.frm, HKE.out, HFE.out, HXE.out, *]
        clear HRB HKE HFE HXE HFL HF
        go_enter Tryz.func54, Tryz.ntmps54
        go_wp2_with fail
        refine (CA.out _).mono ?_
        rintro e w2 ⟨rfl, rfl⟩
        go_wp2_with fail
        refine (CV3.out _ HA.out).mono ?_
        rintro e w3 ⟨rfl, b2⟩
        have B2 := hid (HA.out.trans (b2.mono HA.out.size))
        clear b2
        go_wp2_with fail
        go_ret
        rw [HZ.out]
        exact ⟨rfl, B2.out⟩
      by_cases hf1 : F = 1
      case neg =>
        have hf2 : ¬ (F : Int) ≤ 1 := by omega
        have HFB : Hid (frB frm = false) := by rw [Hid, HFL.out]; simp [*]
        have HZ : Hid (Z = false) := by rw [Hid, HRB.out]; (try have q1 := HK0.out); (try have q2 := HF0.out); (try have q3 := HFB.out); (try have q4 := HAT.out); simp [bareB, Vl.k, Vl.x, Vl.n, Vl.kids, Vl.frm, HKE.out, HFE.out, HXE.out, *]
        clear HRB HKE HFE HXE HFL HF
        go_enter Tryz.func54, Tryz.ntmps54
        go_wp2_with fail
        refine (CA.out _).mono ?_
        rintro e w2 ⟨rfl, rfl⟩
        go_wp2_with fail
        go_ret
        rw [HZ.out]
        exact ⟨rfl, HA.out⟩
      obtain ⟨g, o, n0, hhd, hi64, rfl, hcell⟩ := HF.out hf1
      rw [hhd] at HFL
      subst hf1
      by_cases hn0 : (0 : Int) ≤ n0
      case neg =>
        have HFB : Hid (frB frm = false) := by rw [Hid, HFL.out]; simp [*]
        have HZ : Hid (Z = false) := by rw [Hid, HRB.out]; (try have q1 := HK0.out); (try have q2 := HF0.out); (try have q3 := HFB.out); (try have q4 := HAT.out); simp [bareB, Vl.k, Vl.x, Vl.n, Vl.kids, Vl.frm, HKE.out, HFE.out, HXE.out, *]
        clear HRB HKE HFE HXE HFL HF
        go_enter Tryz.func54, Tryz.ntmps54
        go_wp2_with fail
        refine (CA.out _).mono ?_
        rintro e w2 ⟨rfl, rfl⟩
        go_wp2_with fail
        go_ret
        rw [HZ.out]
        exact ⟨rfl, HA.out⟩
      have HFB : Hid (frB frm = true) := by rw [Hid, HFL.out]; simp [*]
      by_cases hd30 : d < 30
      case neg =>
        have hd30' : ¬ (d : Int) < 30 := by omega
        have HZ : Hid (Z = false) := by rw [Hid, HRB.out]; (try have q1 := HK0.out); (try have q2 := HF0.out); (try have q3 := HFB.out); (try have q4 := HAT.out); simp [bareB, Vl.k, Vl.x, Vl.n, Vl.kids, Vl.frm, HKE.out, HFE.out, HXE.out, *]
        clear HRB HKE HFE HXE HFL HF
        go_enter Tryz.func54, Tryz.ntmps54
        go_wp2_with fail
        refine (CA.out _).mono ?_
        rintro e w2 ⟨rfl, rfl⟩
        go_wp2_with fail
        go_ret
        rw [HZ.out]
        exact ⟨rfl, HA.out⟩
      have hd30' : (d : Int) < 30 := by omega
      have CV2 := CV.out (by omega)
      have CV3 := hid CV2
      clear CV CV2
      generalize rightsB (d + 1) kids = Y at *
      have HZ : Hid (Z = Y) := by rw [Hid, HRB.out]; (try have q1 := HK0.out); (try have q2 := HF0.out); (try have q3 := HFB.out); (try have q4 := HAT.out); simp [bareB, Vl.k, Vl.x, Vl.n, Vl.kids, Vl.frm, HKE.out, HFE.out, HXE.out, *]
      clear HRB HKE HFE HXE HFL HF
      go_enter Tryz.func54, Tryz.ntmps54
      go_wp2_with fail
      refine (CA.out _).mono ?_
      rintro e w2 ⟨rfl, rfl⟩
      go_wp2_with fail
      refine (CV3.out _ HA.out).mono ?_
      rintro e w3 ⟨rfl, b2⟩
      have B2 := hid (HA.out.trans (b2.mono HA.out.size))
      clear b2
      go_wp2_with fail
      go_ret
      rw [HZ.out]
      exact ⟨rfl, B2.out⟩
  by_cases hkd0 : K = 0
  case neg =>
    have hkd : (0 : Int) < K := by omega
    have hkd2 : 0 < K := by omega
    have HZ : Hid (Z = false) := by rw [Hid, HRB.out]; (try have q1 := HK0.out); (try have q2 := HF0.out); (try have q3 := HFB.out); (try have q4 := HAT.out); simp [*]
    clear HRB HKE HFE HXE HFL HF
    go_enter Tryz.func54, Tryz.ntmps54
    go_wp2_with fail
    all_goals
      go_ret
      rw [HZ.out]
      exact ⟨rfl, HA.out⟩
  subst hkd0
  by_cases hfd0 : F = 0
  case neg =>
    have hfd : (0 : Int) < F := by omega
    have hfd2 : 0 < F := by omega
    have HZ : Hid (Z = false) := by rw [Hid, HRB.out]; (try have q1 := HK0.out); (try have q2 := HF0.out); (try have q3 := HFB.out); (try have q4 := HAT.out); simp [*]
    clear HRB HKE HFE HXE HFL HF
    go_enter Tryz.func54, Tryz.ntmps54
    go_wp2_with fail
    all_goals
      go_ret
      rw [HZ.out]
      exact ⟨rfl, HA.out⟩
  subst hfd0
  by_cases hnd : rn = 0
  case neg =>
    have HZ : Hid (Z = false) := by rw [Hid, HRB.out]; (try have q1 := HK0.out); (try have q2 := HF0.out); (try have q3 := HFB.out); (try have q4 := HAT.out); simp [*]
    clear HRB HKE HFE HXE HFL HF
    go_enter Tryz.func54, Tryz.ntmps54
    go_wp2_with fail
    all_goals
      go_ret
      rw [HZ.out]
      exact ⟨rfl, HA.out⟩
  subst hnd
  have HZ : Hid (Z = false) := by rw [Hid, HRB.out]; (try have q1 := HK0.out); (try have q2 := HF0.out); (try have q3 := HFB.out); (try have q4 := HAT.out); simp [*]
  clear HRB HKE HFE HXE HFL HF
  go_enter Tryz.func54, Tryz.ntmps54
  go_wp2_with fail
  all_goals
    go_ret
    rw [HZ.out]
    exact ⟨rfl, HA.out⟩
end Go.Proofs.YtpjcpdnolcehcaaGreatDoor
namespace Go.Proofs.YtpjcpdnolcehcaaGreatDoor
open Go.RowKit
open Go.Lib (decDigits)
set_option linter.unusedVariables false
set_option linter.unusedSimpArgs false

set_option maxRecDepth 100000 in
set_option maxHeartbeats 4000000 in
theorem values_r {sz : Nat} (hV : ROk sz) : RsOk sz := by
  intro w N d u ks hu hnum hsz hd hkl
  obtain ⟨rows, hv, rfl, hrow⟩ := hu.open_
  obtain ⟨a, c, rfl, hc⟩ := hv.slice
  have HVs := hid hv
  have HRow := hid hrow
  have HNu := hid hnum
  have HSz := hid hsz
  clear hv hrow hu hnum hsz
  simp only [List.length_map] at hc hkl ⊢
  have HNo : Hid (∀ k (hk : k < rows.length), rightB d rows[k].2 = false → rightsB d (rows.map (·.2)) = false) := fun k hk h => rights_no (l := rows.map (·.2)) (k := k) (by simpa using hk) (by simpa using h)
  go_enter Tryz.func37, Tryz.ntmps37
  go_wp2_with fail
  go_loopw [5] (fun i wr => ∃ k : Nat, k ≤ rows.length ∧ i = .int .i64 k ∧ (∀ p ∈ rows.take k, rightB d p.2 = true) ∧ Below w.heap.size w wr) (fun i _ => rows.length - (intOf i).toNat)
  case atStart => exact ⟨0, by omega, rfl, by simp, Below.refl _ _⟩
  case round =>
    obtain ⟨k, hk, rfl, h1, h2⟩ := hrel
    have H1 := hid h1
    have H2 := hid h2
    clear h1 h2
    by_cases hlt : k < rows.length
    · have hlt' : (k : Int) < rows.length := by omega
      have hne : rows.map (·.1) ≠ [] := by intro e; have := congrArg List.length e; simp at this; subst this; simp at hlt
      have hvs := HVs.out.kept (Kept.ofBelow H2.out []) (by simp)
      obtain ⟨g, o, c', he, hc', hga, hN, hg⟩ := hvs.at_ hne
      simp only [Value.slice.injEq] at he
      obtain ⟨rfl, _, rfl⟩ := he
      obtain ⟨p, hpk⟩ : ∃ p, rows[k] = p := ⟨_, rfl⟩
      have hp := HRow.out rows[k] (List.getElem_mem hlt)
      have hc5 := hga.v k rows[k].1 (by rw [List.getElem?_map, List.getElem?_eq_getElem hlt]; rfl)
      have hno := HNo.out k hlt
      have hyes : rightB d rows[k].2 = true → ∀ p ∈ rows.take (k + 1), rightB d p.2 = true := by
        intro hh p hp
        rw [List.take_succ_eq_append_getElem hlt, List.mem_append] at hp
        rcases hp with hp | hp
        · exact H1.out p hp
        · simp at hp; rw [hp]; exact hh
      rw [hpk] at hp hc5 hno hyes
      have hxm : p.2 ∈ rows.map (·.2) := by rw [← hpk]; exact List.mem_map_of_mem (List.getElem_mem hlt)
      obtain ⟨⟨rk, rx, rn, ⟨ra, rb, rc⟩, ⟨rd, re, rf⟩⟩, x⟩ := p
      obtain ⟨c0, c1, c2, c3, c4⟩ := hc5
      simp only [Sl.v] at c3 c4 hxm hno hyes
      have D := hV wr N d ⟨rk, rx, rn, (ra, rb, rc), (rd, re, rf)⟩ x (hp.later H2.out) (HNu.out.mem x hxm) (Nat.le_trans (sz_mem hxm) HSz.out) hd
      rw [vV_mk] at D
      have HY := hid hyes
      have HN2 := hid hno
      clear hga hp hxm hpk hyes hno hvs hc'
      rcases hr : rightB d x with _ | _
      · rw [hr] at D
        have hX := hid (HN2.out hr)
        go_wp2_with fail
        refine D.mono ?_
        rintro e w2 ⟨rfl, k1⟩
        have K1 := hid (H2.out.trans (k1.mono H2.out.size))
        clear k1 D
        go_wp2_with fail
        go_ret
        rw [hX.out]
        exact ⟨rfl, K1.out⟩
      · rw [hr] at D
        have hX := hid (HY.out hr)
        go_wp2_with fail
        refine D.mono ?_
        rintro e w2 ⟨rfl, k1⟩
        have K1 := hid (H2.out.trans (k1.mono H2.out.size))
        clear k1 D
        go_wp2_with fail
        go_round
        case rel => exact ⟨k + 1, by omega, by go_num, hX.out, K1.out⟩
        case measure => simp [intOf]; omega
    · have hlt' : ¬ (k : Int) < rows.length := by omega
      have HX : Hid (rightsB d (rows.map (·.2)) = true) := by
        have h := H1.out
        rw [List.take_of_length_le (by omega)] at h
        have key : ∀ l : List (Rw × Vl), (∀ p ∈ l, rightB d p.2 = true) → rightsB d (l.map (·.2)) = true := by
          intro l
          induction l with
          | nil => intro _; rfl
          | cons q l ih => intro h; simp only [List.map_cons, rightsB, Bool.and_eq_true]; exact ⟨h q (by simp), ih (fun p hp => h p (by simp [hp]))⟩
        exact key rows h
      go_wp2_with fail
      go_ret
      rw [HX.out]
      exact ⟨rfl, H2.out⟩
theorem r_zero : ROk 0 := by
  intro w N d r v hr hn hs hd
  have := sz_kids v
  omega
theorem r_all : ∀ n, ROk n
  | 0 => r_zero
  | n + 1 => value_r (values_r (r_all n))
theorem rs_all (n : Nat) : RsOk n := values_r (r_all n)

/-- How far the digits of n0 are: m is what is left, t what was told. -/
def DecSt (n0 m : Nat) (t : Bs) : Prop := (t = [] ∧ m = n0) ∨ (t ≠ [] ∧ t.length ≤ 20 ∧ decDigits n0 = (if m = 0 then [] else decDigits m) ++ t ∧ m < n0 + 1)
theorem dec_next {n0 m : Nat} {t : Bs} (h : DecSt n0 m t) (hn : n0 < 10 ^ 19) (hg : 0 < m ∨ t = []) : DecSt n0 (m / 10) (UInt8.ofNat (48 + m % 10) :: t) := by
  right
  have key : decDigits n0 = (if m / 10 = 0 then [] else decDigits (m / 10)) ++ (UInt8.ofNat (48 + m % 10) :: t) := by
    have e : decDigits m = (if m / 10 = 0 then [] else decDigits (m / 10)) ++ [UInt8.ofNat (48 + m % 10)] := by
      by_cases h10 : m < 10
      · rw [dec_small h10, if_pos (by omega), show m % 10 = m by omega]; rfl
      · rw [dec_big h10, if_neg (by omega)]
    rcases h with ⟨rfl, rfl⟩ | ⟨h1, h2, h3, h4⟩
    · exact e
    · have hm : ¬ m = 0 := by rcases hg with hg | hg; omega; exact absurd hg h1
      rw [h3, if_neg hm, e]
      simp
  refine ⟨by simp, ?_, key, ?_⟩
  · have h1 := dec_len 18 n0 hn
    have := congrArg List.length key
    rw [List.length_append] at this
    omega
  · rcases h with ⟨_, rfl⟩ | ⟨_, _, _, h4⟩ <;> omega
theorem dec_end {n0 : Nat} {t : Bs} (h : DecSt n0 0 t) (ht : t ≠ []) : decDigits n0 = t := by
  rcases h with ⟨h1, _⟩ | ⟨_, _, h3, _⟩
  · exact absurd h1 ht
  · simpa using h3
theorem build58 (c : Int) (w : World) : (Instr.buildSlice 58 1 #[(0, .int .u8 c)]).run Tryz.prog w = .ok (.slice (some ⟨w.heap.size, 0, none⟩) 1 1) (w.alloc (.cells #[.int .u8 c] 5)) := by
  kernel_rfl
theorem conv1 (c : UInt8) (w : World) (k : Int) (hk : k = (c.toNat : Int)) : (convert 58 9 (.slice (some ⟨w.heap.size, 0, none⟩) 1 1)).run Tryz.prog (w.alloc (.cells #[.int .u8 k] 5)) = .ok (.string (str [c])) (w.alloc (.cells #[.int .u8 k] 5)) := by
  subst hk
  exact conv_gb ((go_made eB w [c] (by simp)).base (Nat.zero_le _))
set_option maxRecDepth 100000 in
set_option maxHeartbeats 1000000 in
theorem dec_r (n0 : Nat) (w : World) (hn : (n0 : Int) ≤ 9223372036854775807) : Calls Tryz.prog 77 #[.int .i64 n0] w fun e w' => e = .returned (.string (str (decP n0))) ∧ Below w.heap.size w w' := by
  have HD : Hid (decP (n0 : Int) = decDigits n0) := by rw [Hid, decP_nat (by omega)]; simp
  have hb := build58
  go_enter Tryz.func77, Tryz.ntmps77
  go_wp2_with fail
  go_loopw [0, 3] (fun n s wr => ∃ (m : Nat) (t : Bs), n = .int .i64 m ∧ s = .string (str t) ∧ DecSt n0 m t ∧ Below w.heap.size w wr) (fun n s _ => 2 * (intOf n).toNat + (match s with | .string b => if b.size = 0 then 1 else 0 | _ => 0))
  case atStart => exact ⟨n0, [], rfl, rfl, .inl ⟨rfl, rfl⟩, Below.refl _ _⟩
  case round =>
    obtain ⟨m, t, rfl, rfl, hst, h2⟩ := hrel
    have HS := hid hst
    have H2 := hid h2
    have hmn : m ≤ n0 := by rcases hst with ⟨_, rfl⟩ | ⟨_, _, _, h⟩ <;> omega
    have htl : t.length ≤ 20 := by
      rcases hst with ⟨rfl, _⟩ | ⟨_, h, _⟩
      · simp
      · exact h
    clear hst h2
    obtain ⟨c, hcd⟩ : ∃ c, UInt8.ofNat (48 + m % 10) = c := ⟨_, rfl⟩
    have hc : c.toNat = 48 + m % 10 := by rw [← hcd]; simp; omega
    have hszt := str_size t
    have hszc : (str [c]).size = 1 := by rw [str_size]; rfl
    have hcv := conv1 c wr (48 + (m : Int) % 10) (by rw [hc]; omega)
    have HApp : Hid (str [c] ++ str t = str (c :: t)) := by rw [Hid, app_str]; rfl
    have HB2 : Hid (Below w.heap.size w (wr.alloc (.cells #[.int .u8 (48 + (m : Int) % 10)] 5))) := H2.out.trans ((al _ _).mono H2.out.size)
    have HMe : Hid (∀ b : ByteArray, b = str (c :: t) → b.size ≠ 0) := fun b hb => by rw [hb, str_size]; simp
    by_cases hm : 0 < m
    · have hm' : (0 : Int) < m := by omega
      have HN := hid (dec_next HS.out (by omega) (.inl hm))
      rw [hcd] at HN
      clear hcd
      go_wp2_with fail
      go_round
      case rel => exact ⟨m / 10, c :: t, by go_num, by rw [HApp.out], HN.out, HB2.out⟩
      case measure =>
        rw [HApp.out]
        simp only [intOf]
        rw [if_neg (HMe.out _ rfl)]
        split <;> omega
    · have hm0 : m = 0 := by omega
      by_cases ht : t = []
      · subst hm0 ht
        have g1 : (str ([] : Bs)).toList = ([] : Bs) := by rw [toL]
        have g2 : (str ([] : Bs)).toList.isEmpty = true := by rw [toL]; rfl
        have HN := hid (dec_next HS.out (by omega) (.inr rfl))
        rw [hcd] at HN
        have hcv2 := conv1 c wr 48 (by omega)
        have HB3 : Hid (Below w.heap.size w (wr.alloc (.cells #[.int .u8 48] 5))) := H2.out.trans ((al _ _).mono H2.out.size)
        clear hcd hcv HB2
        go_wp2_with fail
        go_round
        case rel => exact ⟨0, c :: [], by go_num, by rw [HApp.out], HN.out, HB3.out⟩
        case measure =>
          rw [HApp.out]
          simp only [intOf]
          rw [if_neg (HMe.out _ rfl), if_pos (by rw [str_size]; rfl)]
          omega
      · subst hm0
        have g1 : ((str t).toList == ([] : Bs)) = false := by rw [toL, beq_eq_false_iff_ne]; exact ht
        have g2 : (str t).toList.isEmpty = false := by rw [toL]; simpa using ht
        have g3 : ¬ (str t).toList = ([] : Bs) := by rw [toL]; exact ht
        have HE := hid (dec_end HS.out ht)
        clear ht hcd
        go_wp2_with fail
        go_ret
        rw [HD.out, HE.out]
        exact ⟨rfl, H2.out⟩
end Go.Proofs.YtpjcpdnolcehcaaGreatDoor
namespace Go.Proofs.YtpjcpdnolcehcaaGreatDoor
open Go.RowKit
set_option linter.unusedVariables false
set_option linter.unusedSimpArgs false

def tgB (s : Bs) : Bool := (s.all letB && (s != [])) && !(hasB s 42) && !(hasB s 43)
theorem tag_is (s : Bs) (h1 : ¬ s = [42]) (h2 : ¬ s = [43]) : tagB s = tgB s := by
  have e : (s.any fun c => c == 42 || c == 43) = (hasB s 42 || hasB s 43) := by
    unfold hasB
    rw [Bool.eq_iff_iff]
    simp only [List.any_eq_true, Bool.or_eq_true, beq_iff_eq, List.contains_iff_mem]
    constructor
    · rintro ⟨c, hc, rfl | rfl⟩
      · exact .inl hc
      · exact .inr hc
    · rintro (h | h)
      · exact ⟨_, h, .inl rfl⟩
      · exact ⟨_, h, .inr rfl⟩
  unfold tagB tgB
  rw [beq_eq_false_iff_ne.2 h1, beq_eq_false_iff_ne.2 h2, e]
  cases s.all letB <;> cases (s != []) <;> cases hasB s 42 <;> cases hasB s 43 <;> rfl
set_option maxRecDepth 100000 in
set_option maxHeartbeats 8000000 in
theorem right_r (w : World) (N : Nat → Prop) (r : Lw) (n : Ln) (hr : LnAt w N r n) (hn : NumN n) : Calls Tryz.prog 12 #[lV r] w (Bo (lineB n) w) := by
  obtain ⟨rt, ⟨va, vb, vc⟩, rs, ⟨ca, cb, cc⟩, rx⟩ := r
  obtain ⟨et, es, ex, hv, hc⟩ := hr
  obtain ⟨tag, vals, st, code, x⟩ := n
  simp only [Sl.v] at et es ex hv hc
  subst et es ex
  obtain ⟨_, _, he, _⟩ := hv.slice
  simp only [Value.slice.injEq] at he
  obtain ⟨rfl, rfl, rfl⟩ := he
  obtain ⟨_, _, he, _⟩ := hc.slice
  simp only [Value.slice.injEq] at he
  obtain ⟨rfl, rfl, rfl⟩ := he
  obtain ⟨n1, n2, n3, n4, n5, n6, n7⟩ := hn
  simp only at n1 n2 n3 n4 n5 n6 n7
  rw [lV_mk]
  have hA : Below w.heap.size w (w.alloc (.cells #[.string (str rt), .slice va vals.length vc, .string (str rs), .slice ca code.length cc, .string (str rx)] 28)) := al _ _
  have HA := hid hA
  have v1 : L5 (w.alloc (.cells #[.string (str rt), .slice va vals.length vc, .string (str rs), .slice ca code.length cc, .string (str rx)] 28)) w.heap.size ⟨rt, (va, vals.length, vc), rs, (ca, code.length, cc), rx⟩ := L5.new w ⟨rt, (va, vals.length, vc), rs, (ca, code.length, cc), rx⟩
  obtain ⟨x0, x1, x2, x3, x4⟩ := v1.cs
  simp only [Sl.v] at x1 x3
  have C1 := hid (fun (w' : World) => letters_r rt w' n3)
  have C2 := hid (fun (w' : World) => has_r rt 42 w' n3)
  have C3 := hid (fun (w' : World) => has_r rt 43 w' n3)
  rw [show (((42 : UInt8).toNat : Int)) = 42 from rfl] at C2
  rw [show (((43 : UInt8).toNat : Int)) = 43 from rfl] at C3
  have C4 := hid (fun (w' : World) => graphic_r rx w' n5)
  have C5 := hid (fun (w' : World) => status_r rs w')
  have CC := hid (fun (w' : World) (hW : Below w.heap.size w w') => rs_all (szL code) w' N 0 _ code (hc.later hW) n2 (Nat.le_refl _) (by omega) n7)
  have CV := hid (fun (w' : World) (hW : Below w.heap.size w w') => rs_all (szL vals) w' N 0 _ vals (hv.later hW) n1 (Nat.le_refl _) (by omega) n6)
  rw [show ((0 : Nat) : Int) = 0 from rfl] at CC CV
  have HSo : Hid (vals = [] ∨ ∃ (g o : Nat) (v0 : Vl), va = some ⟨g, o, none⟩ ∧ g < (w.alloc (.cells #[.string (str rt), .slice va vals.length vc, .string (str rs), .slice ca code.length cc, .string (str rx)] 28)).heap.size ∧ someB vals = (!(v0.k == 2 && statB v0.x) && rightsB 0 vals) ∧
      (w.alloc (.cells #[.string (str rt), .slice va vals.length vc, .string (str rs), .slice ca code.length cc, .string (str rx)] 28)).cell? ⟨g, o, none⟩ = some (.int .i64 v0.k) ∧ (w.alloc (.cells #[.string (str rt), .slice va vals.length vc, .string (str rs), .slice ca code.length cc, .string (str rx)] 28)).cell? ⟨g, o + 1, none⟩ = some (.string (str v0.x))) := by
    rcases vals with _ | ⟨v0, vs⟩
    · exact .inl rfl
    · right
      obtain ⟨rows, h1, h2, h3⟩ := (hv.later hA).open_
      rcases rows with _ | ⟨p, rows⟩
      · simp at h2
      · simp only [List.map_cons, List.cons.injEq] at h2
        obtain ⟨g, o, c, e, _, h, _, hg⟩ := h1.at_ (by simp)
        simp only [Value.slice.injEq] at e
        have h5 := h.v 0 p.1 rfl
        simp only [Nat.zero_mul, Nat.add_zero] at h5
        have hp := (h3 p (by simp)).h
        refine ⟨g, o, v0, e.1, hg, by simp [someB], ?_, ?_⟩
        · rw [h2.1, ← hp.1]; exact h5.1
        · rw [h2.1, ← hp.2.1]; exact h5.2.1
  have HL : Hid (lineB ⟨rt, vals, rs, code, rx⟩ = (tagB rt && textB ⟨rt, vals, rs, code, rx⟩ && (if rt = [43] then (rs == []) && code.isEmpty && vals.isEmpty else if rs ≠ [] then statB rs && vals.isEmpty && rightsB 0 code else (rx == []) && code.isEmpty && someB vals))) := rfl
  have HTx : Hid (textB ⟨rt, vals, rs, code, rx⟩ = (rx.all plB && (!decide (code.length = 0) || !([91] : Bs).isPrefixOf rx))) := by
    unfold Hid textB
    cases code <;> simp
  have HCE : Hid (code.isEmpty = decide (code.length = 0)) := by cases code <;> rfl
  have HVE : Hid (vals.isEmpty = decide (vals.length = 0)) := by cases vals <;> rfl
  have HVN : Hid (vals = [] → vals.length = 0) := fun h => by rw [h]; rfl
  have HSN : Hid (vals.length = 0 → someB vals = false) := fun h => by rw [List.eq_nil_of_length_eq_zero h]; rfl
  have hl0 := fun A => fldL A 0 (by omega)
  have hl1 := fun A => fldL A 1 (by omega)
  have hl2 := fun A => fldL A 2 (by omega)
  have hl3 := fun A => fldL A 3 (by omega)
  have hl4 := fun A => fldL A 4 (by omega)
  have hsx := str_size rx
  obtain ⟨tb, htb⟩ : ∃ q, textB ⟨rt, vals, rs, code, rx⟩ = q := ⟨_, rfl⟩
  rw [htb] at HL HTx
  obtain ⟨tg, htg⟩ : ∃ q, tgB rt = q := ⟨_, rfl⟩
  have HTG : Hid (tgB rt = tg) := htg
  have HTD : Hid (tg = ((rt.all letB && (rt != [])) && !(hasB rt 42) && !(hasB rt 43))) := htg.symm
  have HTI : Hid (¬ rt = [42] → ¬ rt = [43] → tagB rt = tg) := fun h1 h2 => (tag_is rt h1 h2).trans htg
  generalize lineB ⟨rt, vals, rs, code, rx⟩ = Z at *
  generalize vals.length = V at *
  generalize code.length = K at *
  generalize rightsB 0 code = RC at *
  clear htb htg hv hc n1 n2 n3 n4 n5 n6 n7 v1 hA
  go_enter Tryz.func12, Tryz.ntmps12
  go_upto_region 1 with fail
  go_cut [3] from 5 to 19 (fun t wx => t = .bool tg ∧ wx = w.alloc (.cells #[.string (str rt), .slice va V vc, .string (str rs), .slice ca K cc, .string (str rx)] 28))
  case first =>
    generalize (rt.all letB && (rt != [])) = L at *
    generalize hasB rt 42 = S at *
    generalize hasB rt 43 = P at *
    go_wp2_with fail
    refine (C1.out _).mono ?_
    rintro e w2 ⟨rfl, rfl⟩
    cases L
    · go_wp2_with fail
      go_meet
      exact ⟨by rw [HTD.out]; rfl, rfl⟩
    · go_wp2_with fail
      refine (C2.out _).mono ?_
      rintro e w2 ⟨rfl, rfl⟩
      cases S
      · go_wp2_with fail
        refine (C3.out _).mono ?_
        rintro e w2 ⟨rfl, rfl⟩
        cases P
        · go_wp2_with fail
          go_meet
          exact ⟨by rw [HTD.out]; rfl, rfl⟩
        · go_wp2_with fail
          go_meet
          exact ⟨by rw [HTD.out]; rfl, rfl⟩
      · go_wp2_with fail
        go_meet
        exact ⟨by rw [HTD.out]; simp, rfl⟩
  case rest =>
    obtain ⟨rfl, rfl⟩ := hcut
    by_cases h43 : rt = [43]
    · subst h43
      have t1 : (str ([43] : Bs)).toList = ([43] : Bs) := by rw [toL]
      have t2 : ((str ([43] : Bs)).toList == ([42] : Bs)) = false := by rw [toL]; rfl
      have t3 : ¬ (str ([43] : Bs)).toList = ([42] : Bs) := by rw [toL]; decide
      have htg : tg = false := by rw [← HTG.out]; rfl
      have HTT : Hid (tagB [43] = true) := rfl
      subst htg
      go_upto_region 4 with fail
      go_cut [4] from 20 to 51 (fun t wx => t = .bool tb ∧ wx = w.alloc (.cells #[.string (str [43]), .slice va V vc, .string (str rs), .slice ca K cc, .string (str rx)] 28))
      case first =>
        obtain ⟨G, hG⟩ : ∃ q, rx.all plB = q := ⟨_, rfl⟩
        have HG := hid hG
        have C4' := C4.out
        rw [hG] at C4'
        have C6 := hid C4'
        clear hG C4' C4
        go_wp2_with fail
        refine (C6.out _).mono ?_
        rintro e w2 ⟨rfl, rfl⟩
        cases G
        · go_wp2_with fail
          go_meet
          exact ⟨by rw [HTx.out, HG.out]; rfl, rfl⟩
        · by_cases hK : K = 0
          · subst hK
            rcases rx with _ | ⟨c, rx⟩
            · have g1 : (str ([] : Bs)).toList = ([] : Bs) := by rw [toL]
              have g2 : (str ([] : Bs)).toList.isEmpty = true := by rw [toL]; rfl
              go_wp2_with fail
              go_meet
              exact ⟨by rw [HTx.out]; rfl, rfl⟩
            · have g1 : ((str (c :: rx)).toList == ([] : Bs)) = false := by rw [toL]; rfl
              have g2 : (str (c :: rx)).toList.isEmpty = false := by rw [toL]; rfl
              have g3 : ¬ (str (c :: rx)).toList = ([] : Bs) := by rw [toL]; simp
              have hs0 : 0 < (str (c :: rx)).size := by rw [str_size]; simp
              have g : ((str (c :: rx))[0]'hs0) = c := rfl
              have hsx2 : (0 : Int) < (str (c :: rx)).size := by omega
              by_cases hc91 : c = 91
              · have e1 : (c.toNat : Int) = 91 := by rw [hc91]; rfl
                have HT2 : Hid (tb = false) := by rw [Hid, HTx.out, HG.out, hc91]; simp
                clear hc91
                go_wp2_with fail
                go_meet
                exact ⟨by rw [HT2.out], rfl⟩
              · have e1 : ¬ (c.toNat : Int) = 91 := fun h => hc91 (UInt8.toNat_inj.1 (by have : (91 : UInt8).toNat = 91 := rfl; omega))
                have HT2 : Hid (tb = true) := by rw [Hid, HTx.out, HG.out, show ([91] : Bs).isPrefixOf (c :: rx) = ((91 : UInt8) == c) from by simp [List.isPrefixOf], beq_eq_false_iff_ne.2 (fun h => hc91 h.symm)]; rfl
                clear hc91
                go_wp2_with fail
                go_meet
                exact ⟨by rw [HT2.out]; first | rfl | exact congrArg Value.bool (by simpa using e1), rfl⟩
          · have hK1 : (0 : Int) < K := by omega
            have hK2 : 0 < K := by omega
            have HT2 : Hid (tb = true) := by rw [Hid, HTx.out, HG.out]; simp [hK]
            go_wp2_with fail
            go_meet
            exact ⟨by rw [HT2.out], rfl⟩
      case rest =>
        obtain ⟨rfl, rfl⟩ := hcut
        clear C4
        cases tb
        case false =>
          have HZ : Hid (Z = false) := by rw [Hid, HL.out]; simp [HCE.out, HVE.out, HTT.out, *]
          go_wp2_with fail
          go_ret
          rw [HZ.out]
          exact ⟨by first | rfl | (simp; done) | (simp [*]; done) | simp_all, HA.out⟩
        by_cases hrs : rs = []
        case neg =>
          have s1 : ((str rs).toList == ([] : Bs)) = false := by rw [toL, beq_eq_false_iff_ne]; exact hrs
          have s2 : (str rs).toList.isEmpty = false := by rw [toL]; simpa using hrs
          have s3 : ¬ (str rs).toList = ([] : Bs) := by rw [toL]; exact hrs
          have HZ : Hid (Z = false) := by rw [Hid, HL.out]; simp [HCE.out, HVE.out, HTT.out, *]
          go_wp2_with fail
          go_ret
          rw [HZ.out]
          exact ⟨by first | rfl | (simp; done) | (simp [*]; done) | simp_all, HA.out⟩
        subst hrs
        have s1 : (str ([] : Bs)).toList = ([] : Bs) := by rw [toL]
        have s2 : (str ([] : Bs)).toList.isEmpty = true := by rw [toL]; rfl
        by_cases hK : K = 0
        case neg =>
          have hK1 : ¬ (K : Int) = 0 := by omega
          have HZ : Hid (Z = false) := by rw [Hid, HL.out]; simp [HCE.out, HVE.out, HTT.out, *]
          go_wp2_with fail
          go_ret
          rw [HZ.out]
          exact ⟨by first | rfl | (simp; done) | (simp [*]; done) | simp_all, HA.out⟩
        subst hK
        by_cases hV : V = 0
        case neg =>
          have hV1 : ¬ (V : Int) = 0 := by omega
          have HZ : Hid (Z = false) := by rw [Hid, HL.out]; simp [HCE.out, HVE.out, HTT.out, *]
          go_wp2_with fail
          go_ret
          rw [HZ.out]
          exact ⟨by first | rfl | (simp; done) | (simp [*]; done) | simp_all, HA.out⟩
        subst hV
        have HZ : Hid (Z = true) := by rw [Hid, HL.out]; simp [HCE.out, HVE.out, HTT.out, *]
        go_wp2_with fail
        go_ret
        rw [HZ.out]
        exact ⟨by first | rfl | (simp; done) | (simp [*]; done) | simp_all, HA.out⟩
    · have u1 : ((str rt).toList == ([43] : Bs)) = false := by rw [toL, beq_eq_false_iff_ne]; exact h43
      have u2 : ¬ (str rt).toList = ([43] : Bs) := by rw [toL]; exact h43
      by_cases h42 : rt = [42]
      · subst h42
        have t1 : (str ([42] : Bs)).toList = ([42] : Bs) := by rw [toL]
        have htg : tg = false := by rw [← HTG.out]; rfl
        have HTT : Hid (tagB [42] = true) := rfl
        subst htg
        go_upto_region 4 with fail
        go_cut [4] from 20 to 51 (fun t wx => t = .bool tb ∧ wx = w.alloc (.cells #[.string (str [42]), .slice va V vc, .string (str rs), .slice ca K cc, .string (str rx)] 28))
        case first =>
          obtain ⟨G, hG⟩ : ∃ q, rx.all plB = q := ⟨_, rfl⟩
          have HG := hid hG
          have C4' := C4.out
          rw [hG] at C4'
          have C6 := hid C4'
          clear hG C4' C4
          go_wp2_with fail
          refine (C6.out _).mono ?_
          rintro e w2 ⟨rfl, rfl⟩
          cases G
          · go_wp2_with fail
            go_meet
            exact ⟨by rw [HTx.out, HG.out]; rfl, rfl⟩
          · by_cases hK : K = 0
            · subst hK
              rcases rx with _ | ⟨c, rx⟩
              · have g1 : (str ([] : Bs)).toList = ([] : Bs) := by rw [toL]
                have g2 : (str ([] : Bs)).toList.isEmpty = true := by rw [toL]; rfl
                go_wp2_with fail
                go_meet
                exact ⟨by rw [HTx.out]; rfl, rfl⟩
              · have g1 : ((str (c :: rx)).toList == ([] : Bs)) = false := by rw [toL]; rfl
                have g2 : (str (c :: rx)).toList.isEmpty = false := by rw [toL]; rfl
                have g3 : ¬ (str (c :: rx)).toList = ([] : Bs) := by rw [toL]; simp
                have hs0 : 0 < (str (c :: rx)).size := by rw [str_size]; simp
                have g : ((str (c :: rx))[0]'hs0) = c := rfl
                have hsx2 : (0 : Int) < (str (c :: rx)).size := by omega
                by_cases hc91 : c = 91
                · have e1 : (c.toNat : Int) = 91 := by rw [hc91]; rfl
                  have HT2 : Hid (tb = false) := by rw [Hid, HTx.out, HG.out, hc91]; simp
                  clear hc91
                  go_wp2_with fail
                  go_meet
                  exact ⟨by rw [HT2.out], rfl⟩
                · have e1 : ¬ (c.toNat : Int) = 91 := fun h => hc91 (UInt8.toNat_inj.1 (by have : (91 : UInt8).toNat = 91 := rfl; omega))
                  have HT2 : Hid (tb = true) := by rw [Hid, HTx.out, HG.out, show ([91] : Bs).isPrefixOf (c :: rx) = ((91 : UInt8) == c) from by simp [List.isPrefixOf], beq_eq_false_iff_ne.2 (fun h => hc91 h.symm)]; rfl
                  clear hc91
                  go_wp2_with fail
                  go_meet
                  exact ⟨by rw [HT2.out]; first | rfl | exact congrArg Value.bool (by simpa using e1), rfl⟩
            · have hK1 : (0 : Int) < K := by omega
              have hK2 : 0 < K := by omega
              have HT2 : Hid (tb = true) := by rw [Hid, HTx.out, HG.out]; simp [hK]
              go_wp2_with fail
              go_meet
              exact ⟨by rw [HT2.out], rfl⟩
        case rest =>
          obtain ⟨rfl, rfl⟩ := hcut
          clear C4
          by_cases hrs : rs = []
          case neg =>
            have s1 : ((str rs).toList == ([] : Bs)) = false := by rw [toL, beq_eq_false_iff_ne]; exact hrs
            have s2 : (str rs).toList.isEmpty = false := by rw [toL]; simpa using hrs
            have s3 : ¬ (str rs).toList = ([] : Bs) := by rw [toL]; exact hrs
            cases tb
            case false =>
              have HZ : Hid (Z = false) := by rw [Hid, HL.out]; simp [HCE.out, HVE.out, HTT.out, *]
              clear hrs
              go_wp2_with fail
              go_ret
              rw [HZ.out]
              exact ⟨by first | rfl | (simp; done) | (simp [*]; done) | simp_all, HA.out⟩
            obtain ⟨ST, hST⟩ : ∃ q, statB rs = q := ⟨_, rfl⟩
            have HST := hid hST
            have C5' := C5.out
            rw [hST] at C5'
            have C6 := hid C5'
            clear hST C5' C5
            cases ST
            case false =>
              have HZ : Hid (Z = false) := by rw [Hid, HL.out]; have := HST.out; simp [HCE.out, HVE.out, HTT.out, *]
              clear hrs
              go_wp2_with fail
              refine (C6.out _).mono ?_
              rintro e w2 ⟨rfl, rfl⟩
              go_wp2_with fail
              go_ret
              rw [HZ.out]
              exact ⟨by first | rfl | (simp; done) | (simp [*]; done) | simp_all, HA.out⟩
            by_cases hV : V = 0
            case neg =>
              have hV1 : ¬ (V : Int) = 0 := by omega
              have HZ : Hid (Z = false) := by rw [Hid, HL.out]; have := HST.out; simp [HCE.out, HVE.out, HTT.out, *]
              clear hrs
              go_wp2_with fail
              refine (C6.out _).mono ?_
              rintro e w2 ⟨rfl, rfl⟩
              go_wp2_with fail
              go_ret
              rw [HZ.out]
              exact ⟨by first | rfl | (simp; done) | (simp [*]; done) | simp_all, HA.out⟩
            subst hV
            have HZ : Hid (Z = RC) := by rw [Hid, HL.out]; have := HST.out; simp [HCE.out, HVE.out, HTT.out, *]
            clear hrs
            go_wp2_with fail
            refine (C6.out _).mono ?_
            rintro e w2 ⟨rfl, rfl⟩
            go_wp2_with fail
            refine (CC.out _ HA.out).mono ?_
            rintro e w3 ⟨rfl, b2⟩
            have B3 := hid (HA.out.trans (b2.mono HA.out.size))
            go_wp2_with fail
            go_ret
            rw [HZ.out]
            exact ⟨by first | rfl | (simp; done) | (simp [*]; done) | simp_all, B3.out⟩
          subst hrs
          have s1 : (str ([] : Bs)).toList = ([] : Bs) := by rw [toL]
          have s2 : (str ([] : Bs)).toList.isEmpty = true := by rw [toL]; rfl
          by_cases hrx : rx = []
          case neg =>
            have r1 : ((str rx).toList == ([] : Bs)) = false := by rw [toL, beq_eq_false_iff_ne]; exact hrx
            have r2 : (str rx).toList.isEmpty = false := by rw [toL]; simpa using hrx
            have r3 : ¬ (str rx).toList = ([] : Bs) := by rw [toL]; exact hrx
            have HZ : Hid (Z = false) := by rw [Hid, HL.out]; (have := hrx); simp [HCE.out, HVE.out, HTT.out, *]
            clear hrx
            go_wp2_with fail
            go_ret
            rw [HZ.out]
            exact ⟨by first | rfl | (simp; done) | (simp [*]; done) | simp_all, HA.out⟩
          subst hrx
          by_cases hK : K = 0
          case neg =>
            have hK1 : ¬ (K : Int) = 0 := by omega
            have HZ : Hid (Z = false) := by rw [Hid, HL.out]; simp [HCE.out, HVE.out, HTT.out, *]
            go_wp2_with fail
            go_ret
            rw [HZ.out]
            exact ⟨by first | rfl | (simp; done) | (simp [*]; done) | simp_all, HA.out⟩
          subst hK
          have HTB : Hid (tb = true) := by rw [Hid, HTx.out]; rfl
          by_cases hV : V = 0
          case neg =>
            have hV1 : (0 : Int) < V := by omega
            have hV2 : 0 < V := by omega
            have hso := HSo.out
            rcases hso with hso | ⟨g, o, v0, hva, hg, hsb, hc0, hc1⟩
            · exact absurd (HVN.out hso) hV
            · subst hva
              obtain ⟨RV, hRV⟩ : ∃ q, rightsB 0 vals = q := ⟨_, rfl⟩
              have CV' := CV.out
              rw [hRV] at CV' hsb
              have C7 := hid CV'
              have HSB := hid hsb
              clear CV' CV hRV hsb
              cases RV
              case false =>
                have HZ : Hid (Z = false) := by rw [Hid, HL.out]; have := HSB.out; have := HTB.out; simp [HCE.out, HVE.out, HTT.out, *]
                go_wp2_with fail
                refine (C7.out _ HA.out).mono ?_
                rintro e w3 ⟨rfl, b2⟩
                have B3 := hid (HA.out.trans (b2.mono HA.out.size))
                go_wp2_with fail
                go_ret
                rw [HZ.out]
                exact ⟨by first | rfl | (simp; done) | (simp [*]; done) | simp_all, B3.out⟩
              obtain ⟨k0, t0, m0, ks0, fr0⟩ := v0
              simp only [Vl.k, Vl.x] at hc0 hc1 HSB
              by_cases hk2 : k0 = 2
              case neg =>
                have HZ : Hid (Z = true) := by rw [Hid, HL.out]; have := HSB.out; have := HTB.out; simp [HCE.out, HVE.out, HTT.out, *]
                go_wp2_with fail
                refine (C7.out _ HA.out).mono ?_
                rintro e w3 ⟨rfl, b2⟩
                have B3 := hid (HA.out.trans (b2.mono HA.out.size))
                have hd0 := (b2.cell hg).trans hc0
                have hd1 := (b2.cell hg).trans hc1
                have hd2 := (b2.cell (p := ⟨w.heap.size, 1, none⟩) (by simp)).trans x1
                clear b2 hc0 hc1
                go_wp2_with fail
                go_ret
                rw [HZ.out]
                exact ⟨by first | rfl | (simp; done) | (simp [*]; done) | simp_all, B3.out⟩
              subst hk2
              obtain ⟨SS, hSS⟩ : ∃ q, statB t0 = q := ⟨_, rfl⟩
              have C8 := hid (fun (w' : World) => status_r t0 w')
              rw [hSS] at C8 HSB
              clear hSS
              have HZ : Hid (Z = (!SS)) := by rw [Hid, HL.out]; have := HSB.out; have := HTB.out; simp [HCE.out, HVE.out, HTT.out, *]
              go_wp2_with fail
              refine (C7.out _ HA.out).mono ?_
              rintro e w3 ⟨rfl, b2⟩
              have B3 := hid (HA.out.trans (b2.mono HA.out.size))
              have hd0 := (b2.cell hg).trans hc0
              have hd1 := (b2.cell hg).trans hc1
              have hd2 := (b2.cell (p := ⟨w.heap.size, 1, none⟩) (by simp)).trans x1
              clear b2 hc0 hc1
              go_wp2_with fail
              refine (C8.out _).mono ?_
              rintro e w4 ⟨rfl, rfl⟩
              go_wp2_with fail
              go_ret
              rw [HZ.out]
              exact ⟨by first | rfl | (simp; done) | (simp [*]; done) | simp_all, B3.out⟩
          subst hV
          have HZ : Hid (Z = false) := by rw [Hid, HL.out]; have := HSN.out rfl; simp [HCE.out, HVE.out, HTT.out, *]
          go_wp2_with fail
          go_ret
          rw [HZ.out]
          exact ⟨by first | rfl | (simp; done) | (simp [*]; done) | simp_all, HA.out⟩
      · have t1 : ((str rt).toList == ([42] : Bs)) = false := by rw [toL, beq_eq_false_iff_ne]; exact h42
        have t2 : ¬ (str rt).toList = ([42] : Bs) := by rw [toL]; exact h42
        have HTT : Hid (tagB rt = tg) := HTI.out h42 h43
        cases tg
        case false =>
          have HZ : Hid (Z = false) := by rw [Hid, HL.out]; simp [HTT.out]
          clear h42 h43
          go_wp2_with fail
          go_ret
          rw [HZ.out]
          exact ⟨by first | rfl | (simp; done) | (simp [*]; done) | simp_all, HA.out⟩
        go_upto_region 4 with fail
        go_cut [4] from 20 to 51 (fun t wx => t = .bool tb ∧ wx = w.alloc (.cells #[.string (str rt), .slice va V vc, .string (str rs), .slice ca K cc, .string (str rx)] 28))
        case first =>
          obtain ⟨G, hG⟩ : ∃ q, rx.all plB = q := ⟨_, rfl⟩
          have HG := hid hG
          have C4' := C4.out
          rw [hG] at C4'
          have C6 := hid C4'
          clear hG C4' C4
          go_wp2_with fail
          refine (C6.out _).mono ?_
          rintro e w2 ⟨rfl, rfl⟩
          cases G
          · go_wp2_with fail
            go_meet
            exact ⟨by rw [HTx.out, HG.out]; rfl, rfl⟩
          · by_cases hK : K = 0
            · subst hK
              rcases rx with _ | ⟨c, rx⟩
              · have g1 : (str ([] : Bs)).toList = ([] : Bs) := by rw [toL]
                have g2 : (str ([] : Bs)).toList.isEmpty = true := by rw [toL]; rfl
                go_wp2_with fail
                go_meet
                exact ⟨by rw [HTx.out]; rfl, rfl⟩
              · have g1 : ((str (c :: rx)).toList == ([] : Bs)) = false := by rw [toL]; rfl
                have g2 : (str (c :: rx)).toList.isEmpty = false := by rw [toL]; rfl
                have g3 : ¬ (str (c :: rx)).toList = ([] : Bs) := by rw [toL]; simp
                have hs0 : 0 < (str (c :: rx)).size := by rw [str_size]; simp
                have g : ((str (c :: rx))[0]'hs0) = c := rfl
                have hsx2 : (0 : Int) < (str (c :: rx)).size := by omega
                by_cases hc91 : c = 91
                · have e1 : (c.toNat : Int) = 91 := by rw [hc91]; rfl
                  have HT2 : Hid (tb = false) := by rw [Hid, HTx.out, HG.out, hc91]; simp
                  clear hc91
                  go_wp2_with fail
                  go_meet
                  exact ⟨by rw [HT2.out], rfl⟩
                · have e1 : ¬ (c.toNat : Int) = 91 := fun h => hc91 (UInt8.toNat_inj.1 (by have : (91 : UInt8).toNat = 91 := rfl; omega))
                  have HT2 : Hid (tb = true) := by rw [Hid, HTx.out, HG.out, show ([91] : Bs).isPrefixOf (c :: rx) = ((91 : UInt8) == c) from by simp [List.isPrefixOf], beq_eq_false_iff_ne.2 (fun h => hc91 h.symm)]; rfl
                  clear hc91
                  go_wp2_with fail
                  go_meet
                  exact ⟨by rw [HT2.out]; first | rfl | exact congrArg Value.bool (by simpa using e1), rfl⟩
            · have hK1 : (0 : Int) < K := by omega
              have hK2 : 0 < K := by omega
              have HT2 : Hid (tb = true) := by rw [Hid, HTx.out, HG.out]; simp [hK]
              go_wp2_with fail
              go_meet
              exact ⟨by rw [HT2.out], rfl⟩
        case rest =>
          obtain ⟨rfl, rfl⟩ := hcut
          clear C4
          by_cases hrs : rs = []
          case neg =>
            have s1 : ((str rs).toList == ([] : Bs)) = false := by rw [toL, beq_eq_false_iff_ne]; exact hrs
            have s2 : (str rs).toList.isEmpty = false := by rw [toL]; simpa using hrs
            have s3 : ¬ (str rs).toList = ([] : Bs) := by rw [toL]; exact hrs
            cases tb
            case false =>
              have HZ : Hid (Z = false) := by rw [Hid, HL.out]; simp [HCE.out, HVE.out, HTT.out, *]
              clear hrs
              go_wp2_with fail
              go_ret
              rw [HZ.out]
              exact ⟨by first | rfl | (simp; done) | (simp [*]; done) | simp_all, HA.out⟩
            obtain ⟨ST, hST⟩ : ∃ q, statB rs = q := ⟨_, rfl⟩
            have HST := hid hST
            have C5' := C5.out
            rw [hST] at C5'
            have C6 := hid C5'
            clear hST C5' C5
            cases ST
            case false =>
              have HZ : Hid (Z = false) := by rw [Hid, HL.out]; have := HST.out; simp [HCE.out, HVE.out, HTT.out, *]
              clear hrs
              go_wp2_with fail
              refine (C6.out _).mono ?_
              rintro e w2 ⟨rfl, rfl⟩
              go_wp2_with fail
              go_ret
              rw [HZ.out]
              exact ⟨by first | rfl | (simp; done) | (simp [*]; done) | simp_all, HA.out⟩
            by_cases hV : V = 0
            case neg =>
              have hV1 : ¬ (V : Int) = 0 := by omega
              have HZ : Hid (Z = false) := by rw [Hid, HL.out]; have := HST.out; simp [HCE.out, HVE.out, HTT.out, *]
              clear hrs
              go_wp2_with fail
              refine (C6.out _).mono ?_
              rintro e w2 ⟨rfl, rfl⟩
              go_wp2_with fail
              go_ret
              rw [HZ.out]
              exact ⟨by first | rfl | (simp; done) | (simp [*]; done) | simp_all, HA.out⟩
            subst hV
            have HZ : Hid (Z = RC) := by rw [Hid, HL.out]; have := HST.out; simp [HCE.out, HVE.out, HTT.out, *]
            clear hrs
            go_wp2_with fail
            refine (C6.out _).mono ?_
            rintro e w2 ⟨rfl, rfl⟩
            go_wp2_with fail
            refine (CC.out _ HA.out).mono ?_
            rintro e w3 ⟨rfl, b2⟩
            have B3 := hid (HA.out.trans (b2.mono HA.out.size))
            go_wp2_with fail
            go_ret
            rw [HZ.out]
            exact ⟨by first | rfl | (simp; done) | (simp [*]; done) | simp_all, B3.out⟩
          subst hrs
          have s1 : (str ([] : Bs)).toList = ([] : Bs) := by rw [toL]
          have s2 : (str ([] : Bs)).toList.isEmpty = true := by rw [toL]; rfl
          by_cases hrx : rx = []
          case neg =>
            have r1 : ((str rx).toList == ([] : Bs)) = false := by rw [toL, beq_eq_false_iff_ne]; exact hrx
            have r2 : (str rx).toList.isEmpty = false := by rw [toL]; simpa using hrx
            have r3 : ¬ (str rx).toList = ([] : Bs) := by rw [toL]; exact hrx
            have HZ : Hid (Z = false) := by rw [Hid, HL.out]; (have := hrx); simp [HCE.out, HVE.out, HTT.out, *]
            clear hrx
            go_wp2_with fail
            go_ret
            rw [HZ.out]
            exact ⟨by first | rfl | (simp; done) | (simp [*]; done) | simp_all, HA.out⟩
          subst hrx
          by_cases hK : K = 0
          case neg =>
            have hK1 : ¬ (K : Int) = 0 := by omega
            have HZ : Hid (Z = false) := by rw [Hid, HL.out]; simp [HCE.out, HVE.out, HTT.out, *]
            go_wp2_with fail
            go_ret
            rw [HZ.out]
            exact ⟨by first | rfl | (simp; done) | (simp [*]; done) | simp_all, HA.out⟩
          subst hK
          have HTB : Hid (tb = true) := by rw [Hid, HTx.out]; rfl
          by_cases hV : V = 0
          case neg =>
            have hV1 : (0 : Int) < V := by omega
            have hV2 : 0 < V := by omega
            have hso := HSo.out
            rcases hso with hso | ⟨g, o, v0, hva, hg, hsb, hc0, hc1⟩
            · exact absurd (HVN.out hso) hV
            · subst hva
              obtain ⟨RV, hRV⟩ : ∃ q, rightsB 0 vals = q := ⟨_, rfl⟩
              have CV' := CV.out
              rw [hRV] at CV' hsb
              have C7 := hid CV'
              have HSB := hid hsb
              clear CV' CV hRV hsb
              cases RV
              case false =>
                have HZ : Hid (Z = false) := by rw [Hid, HL.out]; have := HSB.out; have := HTB.out; simp [HCE.out, HVE.out, HTT.out, *]
                go_wp2_with fail
                refine (C7.out _ HA.out).mono ?_
                rintro e w3 ⟨rfl, b2⟩
                have B3 := hid (HA.out.trans (b2.mono HA.out.size))
                go_wp2_with fail
                go_ret
                rw [HZ.out]
                exact ⟨by first | rfl | (simp; done) | (simp [*]; done) | simp_all, B3.out⟩
              obtain ⟨k0, t0, m0, ks0, fr0⟩ := v0
              simp only [Vl.k, Vl.x] at hc0 hc1 HSB
              by_cases hk2 : k0 = 2
              case neg =>
                have HZ : Hid (Z = true) := by rw [Hid, HL.out]; have := HSB.out; have := HTB.out; simp [HCE.out, HVE.out, HTT.out, *]
                go_wp2_with fail
                refine (C7.out _ HA.out).mono ?_
                rintro e w3 ⟨rfl, b2⟩
                have B3 := hid (HA.out.trans (b2.mono HA.out.size))
                have hd0 := (b2.cell hg).trans hc0
                have hd1 := (b2.cell hg).trans hc1
                have hd2 := (b2.cell (p := ⟨w.heap.size, 1, none⟩) (by simp)).trans x1
                clear b2 hc0 hc1
                go_wp2_with fail
                go_ret
                rw [HZ.out]
                exact ⟨by first | rfl | (simp; done) | (simp [*]; done) | simp_all, B3.out⟩
              subst hk2
              obtain ⟨SS, hSS⟩ : ∃ q, statB t0 = q := ⟨_, rfl⟩
              have C8 := hid (fun (w' : World) => status_r t0 w')
              rw [hSS] at C8 HSB
              clear hSS
              have HZ : Hid (Z = (!SS)) := by rw [Hid, HL.out]; have := HSB.out; have := HTB.out; simp [HCE.out, HVE.out, HTT.out, *]
              go_wp2_with fail
              refine (C7.out _ HA.out).mono ?_
              rintro e w3 ⟨rfl, b2⟩
              have B3 := hid (HA.out.trans (b2.mono HA.out.size))
              have hd0 := (b2.cell hg).trans hc0
              have hd1 := (b2.cell hg).trans hc1
              have hd2 := (b2.cell (p := ⟨w.heap.size, 1, none⟩) (by simp)).trans x1
              clear b2 hc0 hc1
              go_wp2_with fail
              refine (C8.out _).mono ?_
              rintro e w4 ⟨rfl, rfl⟩
              go_wp2_with fail
              go_ret
              rw [HZ.out]
              exact ⟨by first | rfl | (simp; done) | (simp [*]; done) | simp_all, B3.out⟩
          subst hV
          have HZ : Hid (Z = false) := by rw [Hid, HL.out]; have := HSN.out rfl; simp [HCE.out, HVE.out, HTT.out, *]
          go_wp2_with fail
          go_ret
          rw [HZ.out]
          exact ⟨by first | rfl | (simp; done) | (simp [*]; done) | simp_all, HA.out⟩
end Go.Proofs.YtpjcpdnolcehcaaGreatDoor
