/- What this text holds: which values are right. -/
import Derived.Test.YtpjcpdnolcehcaaGreatDoorM24
namespace Go.Proofs.YtpjcpdnolcehcaaGreatDoor
open Go.RowKit
set_option linter.unusedVariables false
set_option linter.unusedSimpArgs false

def Bo (q : Bool) (w : World) (e : Ending) (w' : World) : Prop := e = .returned (.bool q) ∧ Below w.heap.size w w'
def RVal (sz : Nat) : Prop := ∀ (w : World) (N : Nat → Prop) (d : Nat) (r : Rw) (v : Vl), VAt w N r v → NumV v → szV v ≤ sz → d ≤ 30 → Calls Tryz.prog 52 #[.int .i64 d, vV r] w (Bo (rightB d v) w)
def RVals (sz : Nat) : Prop := ∀ (w : World) (N : Nat → Prop) (d : Nat) (u : Value) (ks : List Vl), VsAt w N u ks → NumL ks → szL ks ≤ sz → d ≤ 30 → ks.length ≤ 1000000000 → Calls Tryz.prog 31 #[.int .i64 d, u] w (Bo (rightsB d ks) w)
theorem rights_take (d : Nat) (l : List Vl) (k : Nat) (hk : k < l.length) : rightsB d (l.take (k + 1)) = (rightsB d (l.take k) && rightB d l[k]) := by
  rw [List.take_succ_eq_append_getElem hk, rightsB_app]
  simp [rightsB]
theorem rights_no {d : Nat} {l : List Vl} {k : Nat} (hk : k < l.length) (h : rightB d l[k] = false) : rightsB d l = false := by
  rcases hr : rightsB d l with _ | _
  · rfl
  · have := rights_mem hr l[k] (List.getElem_mem hk)
    rw [h] at this
    cases this
set_option maxRecDepth 100000 in
set_option maxHeartbeats 4000000 in
theorem rvals_any {sz : Nat} (hV : RVal sz) : RVals sz := by
  intro w N d u ks hu hnum hsz hd hkl
  obtain ⟨rows, hv, rfl, hrow⟩ := hu.open_
  obtain ⟨a, c, rfl, hc⟩ := hv.slice
  have HVs := hid hv
  have HRow := hid hrow
  have HNu := hid hnum
  have HSz := hid hsz
  clear hv hrow hu hnum hsz
  simp only [List.length_map] at hc hkl ⊢
  have HNo : Hid (∀ k (hk : k < rows.length), rightB d rows[k].2 = false → rightsB d (rows.map (·.2)) = false) := fun k hk h => rights_no (l := rows.map (·.2)) (k := k) (by simpa using hk) (by simpa using h)
  go_enter Tryz.func31, Tryz.ntmps31
  go_wp2_with fail
  go_loopw [9] (fun i wr => ∃ k : Nat, k ≤ rows.length ∧ i = .int .i64 k ∧ (∀ p ∈ rows.take k, rightB d p.2 = true) ∧ Below w.heap.size w wr) (fun i _ => rows.length - (intOf i).toNat)
  case atStart => exact ⟨0, by omega, rfl, by simp, Below.refl _ _⟩
  case round =>
    obtain ⟨k, hk, rfl, h1, h2⟩ := hrel
    have H1 := hid h1
    have H2 := hid h2
    clear h1 h2
    by_cases hlt : k < rows.length
    · have hlt' : (k : Int) < rows.length := by omega
      have hne : rows.map (·.1) ≠ [] := by intro e; have := congrArg List.length e; simp at this; subst this; simp at hlt
      have hvs := HVs.out.kept (Kept.ofBelow H2.out []) (by simp)
      obtain ⟨g, o, c', he, hc', hga, hN, hg⟩ := hvs.at_ hne
      simp only [Value.slice.injEq] at he
      obtain ⟨rfl, _, rfl⟩ := he
      obtain ⟨p, hpk⟩ : ∃ p, rows[k] = p := ⟨_, rfl⟩
      have hp := HRow.out rows[k] (List.getElem_mem hlt)
      have hc5 := hga.v k rows[k].1 (by rw [List.getElem?_map, List.getElem?_eq_getElem hlt]; rfl)
      have hno := HNo.out k hlt
      have hyes : rightB d rows[k].2 = true → ∀ p ∈ rows.take (k + 1), rightB d p.2 = true := by
        intro hh p hp
        rw [List.take_succ_eq_append_getElem hlt, List.mem_append] at hp
        rcases hp with hp | hp
        · exact H1.out p hp
        · simp at hp; rw [hp]; exact hh
      rw [hpk] at hp hc5 hno hyes
      have hxm : p.2 ∈ rows.map (·.2) := by rw [← hpk]; exact List.mem_map_of_mem (List.getElem_mem hlt)
      obtain ⟨⟨rk, rx, rn, ⟨ra, rb, rc⟩, ⟨rd, re, rf⟩⟩, x⟩ := p
      obtain ⟨c0, c1, c2, c3, c4⟩ := hc5
      simp only [Sl.v] at c3 c4 hxm hno hyes
      have HA : Hid (Below wr.heap.size wr (wr.alloc (.cells #[.int .i64 rk, .string (str rx), .int .i64 rn, .slice ra rb rc, .slice rd re rf] 43))) := (Below.refl _ _).alloc (Nat.le_refl _) _
      have hv5 : V5 (wr.alloc (.cells #[.int .i64 rk, .string (str rx), .int .i64 rn, .slice ra rb rc, .slice rd re rf] 43)) wr.heap.size ⟨rk, rx, rn, (ra, rb, rc), (rd, re, rf)⟩ := V5.new wr ⟨rk, rx, rn, (ra, rb, rc), (rd, re, rf)⟩
      have HVA := hp.kept (Kept.ofBelow (H2.out.trans (HA.out.mono H2.out.size)) []) (by simp)
      have D := hV _ N d ⟨rk, rx, rn, (ra, rb, rc), (rd, re, rf)⟩ x HVA (HNu.out.mem x hxm) (Nat.le_trans (sz_mem hxm) HSz.out) hd
      rw [vV_mk] at D
      obtain ⟨x0, x1, x2, x3, x4⟩ := hv5.cs
      simp only [Sl.v] at x3 x4
      have HY := hid hyes
      have HN2 := hid hno
      clear hga hp hxm hpk hyes hno HVA hv5 hvs
      rcases hr : rightB d x with _ | _
      · rw [hr] at D
        have hX := hid (HN2.out hr)
        go_wp2_with fail
        refine D.mono ?_
        rintro e w2 ⟨rfl, k1⟩
        have K1 := hid (H2.out.trans ((HA.out.mono H2.out.size).trans (k1.mono (by have := HA.out.size; have := H2.out.size; omega))))
        clear k1 D x0 x1 x2 x3 x4
        go_wp2_with fail
        go_ret
        rw [hX.out]
        exact ⟨rfl, K1.out⟩
      · rw [hr] at D
        have hX := hid (HY.out hr)
        go_wp2_with fail
        refine D.mono ?_
        rintro e w2 ⟨rfl, k1⟩
        have K1 := hid (H2.out.trans ((HA.out.mono H2.out.size).trans (k1.mono (by have := HA.out.size; have := H2.out.size; omega))))
        clear k1 D x0 x1 x2 x3 x4
        go_wp2_with fail
        go_round
        case rel => exact ⟨k + 1, by omega, by go_num, hX.out, K1.out⟩
        case measure => simp [intOf]; omega
    · have hlt' : ¬ (k : Int) < rows.length := by omega
      have HX : Hid (rightsB d (rows.map (·.2)) = true) := by
        have h := H1.out
        rw [List.take_of_length_le (by omega)] at h
        have key : ∀ l : List (Rw × Vl), (∀ p ∈ l, rightB d p.2 = true) → rightsB d (l.map (·.2)) = true := by
          intro l
          induction l with
          | nil => intro _; rfl
          | cons q l ih => intro h; simp only [List.map_cons, rightsB, Bool.and_eq_true]; exact ⟨h q (by simp), ih (fun p hp => h p (by simp [hp]))⟩
        exact key rows h
      go_wp2_with fail
      go_ret
      rw [HX.out]
      exact ⟨rfl, H2.out⟩
set_option maxRecDepth 100000 in
set_option maxHeartbeats 4000000 in
theorem rkids_any {sz : Nat} (hV : RVals sz) (w : World) (N : Nat → Prop) (d : Nat) (r : Rw) (v : Vl) (hr : VAt w N r v) (hn : NumV v) (hs : szL v.kids ≤ sz) (hd : d ≤ 30) :
    Calls Tryz.prog 72 #[.int .i64 d, vV r] w (Bo (decide (d < 30) && rightsB (d + 1) v.kids) w) := by
  obtain ⟨rk, rx, rn, ⟨ra, rb, rc⟩, ⟨rd, re, rf⟩⟩ := r
  have HA : Hid (Below w.heap.size w (w.alloc (.cells #[.int .i64 rk, .string (str rx), .int .i64 rn, .slice ra rb rc, .slice rd re rf] 43))) := (Below.refl _ _).alloc (Nat.le_refl _) _
  have hv5 : V5 (w.alloc (.cells #[.int .i64 rk, .string (str rx), .int .i64 rn, .slice ra rb rc, .slice rd re rf] 43)) w.heap.size ⟨rk, rx, rn, (ra, rb, rc), (rd, re, rf)⟩ := V5.new w ⟨rk, rx, rn, (ra, rb, rc), (rd, re, rf)⟩
  obtain ⟨x0, x1, x2, x3, x4⟩ := hv5.cs
  simp only [Sl.v] at x3 x4
  have hf4 := fun A => fld43k A 3 (by omega)
  have hks := hr.k.later HA.out
  have hnk := (num_kids hn).1
  have hkl : v.kids.length ≤ 1000000000 := by cases v; exact Nat.le_trans hn.2.2.2.2.1 (by decide)
  clear hr hn hv5
  rw [vV_mk]
  by_cases h : d < 30
  · have h' : (d : Int) < 30 := by omega
    have D := hV _ N (d + 1) _ v.kids hks hnk hs (by omega) hkl
    have hcast : ((d + 1 : Nat) : Int) = (d : Int) + 1 := by omega
    rw [hcast] at D
    simp only [Sl.v] at D
    have HX : Hid ((decide (d < 30) && rightsB (d + 1) v.kids) = rightsB (d + 1) v.kids) := by rw [Hid, decide_eq_true h]; simp
    clear hks hnk hkl hcast
    generalize rightsB (d + 1) v.kids = q at *
    generalize (decide (d < 30) && q) = z at *
    go_enter Tryz.func72, Tryz.ntmps72
    go_wp2_with fail
    refine D.mono ?_
    rintro e w2 ⟨rfl, k1⟩
    have K1 := hid (HA.out.trans (k1.mono HA.out.size))
    clear k1 D x0 x1 x2 x3 x4
    go_wp2_with fail
    go_ret
    rw [HX.out]
    exact ⟨rfl, K1.out⟩
  · have h' : ¬ (d : Int) < 30 := by omega
    have HX : Hid ((decide (d < 30) && rightsB (d + 1) v.kids) = false) := by rw [Hid, decide_eq_false h]; simp
    clear hks hnk hkl
    generalize (decide (d < 30) && rightsB (d + 1) v.kids) = z at *
    go_enter Tryz.func72, Tryz.ntmps72
    go_wp2_with fail
    go_ret
    rw [HX.out]
    exact ⟨rfl, HA.out⟩
end Go.Proofs.YtpjcpdnolcehcaaGreatDoor
