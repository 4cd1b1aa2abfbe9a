/- What this text holds: which values are right, by their kinds. -/
import Derived.Test.YtpjcpdnolcehcaaGreatDoorM25
namespace Go.Proofs.YtpjcpdnolcehcaaGreatDoor
open Go.RowKit
set_option linter.unusedVariables false
set_option linter.unusedSimpArgs false

theorem LAt.later {α : Type} {E : En α} {w w' : World} {N : Nat → Prop} {v : Value} {l : List α} (h : LAt E w N v l) (hb : Below w.heap.size w w') : LAt E w' N v l := h.kept (Kept.ofBelow hb []) (by simp)
theorem rightB_is (d : Nat) (v : Vl) : rightB d v = (bareB v && (if v.k = 0 then true else if v.k = 3 then true else if v.k = 1 then decide (0 ≤ v.n) else if v.k = 2 then atomB v.x
    else if v.k = 4 then (decide (d < 30) && rightsB (d + 1) v.kids) else if v.k = 5 then atomB v.x && frB v.frm && (decide (d < 30) && rightsB (d + 1) v.kids) else false)) := by cases v; rw [rightB]; rfl
set_option maxRecDepth 100000 in
set_option maxHeartbeats 8000000 in
theorem rval_any {sz : Nat} (hV : RVals sz) : RVal (sz + 1) := by
  intro w N d r v hr hn hs hd
  have hszk : szL v.kids ≤ sz := by have := sz_kids v; omega
  obtain ⟨_, _, nx, _⟩ := num_kids hn
  obtain ⟨rk, rx, rn, ⟨ra, rb, rc⟩, ⟨rd, re, rf⟩⟩ := r
  obtain ⟨ek, ex, en, hfr⟩ := hr.h
  simp only at ek ex en
  subst ek ex en
  obtain ⟨fa, fc, hfe, _⟩ := hfr.slice
  obtain ⟨ga, gc, hge, _⟩ := hr.k.slice
  simp only [Sl.v, Value.slice.injEq] at hfe hge
  obtain ⟨rfl, rfl, rfl⟩ := hfe
  obtain ⟨rfl, rfl, rfl⟩ := hge
  have HA : Hid (Below w.heap.size w (w.alloc (.cells #[.int .i64 v.k, .string (str v.x), .int .i64 v.n, .slice ra v.kids.length rc, .slice rd v.frm.length rf] 43))) := (Below.refl _ _).alloc (Nat.le_refl _) _
  have hv5 : Hid (V5 (w.alloc (.cells #[.int .i64 v.k, .string (str v.x), .int .i64 v.n, .slice ra v.kids.length rc, .slice rd v.frm.length rf] 43)) w.heap.size ⟨v.k, v.x, v.n, (ra, v.kids.length, rc), (rd, v.frm.length, rf)⟩) := V5.new w ⟨v.k, v.x, v.n, (ra, v.kids.length, rc), (rd, v.frm.length, rf)⟩
  have HR := hid (hr.later HA.out)
  have HFr := hid (hfr.later HA.out)
  have C := bare_any v.k v.x v.n ra v.kids.length rc rd v.frm.length rf (w.alloc (.cells #[.int .i64 v.k, .string (str v.x), .int .i64 v.n, .slice ra v.kids.length rc, .slice rd v.frm.length rf] 43))
  rw [← bareB_is] at C
  have HD := hid (fun (w' : World) (h : VAt w' N ⟨v.k, v.x, v.n, (ra, v.kids.length, rc), (rd, v.frm.length, rf)⟩ v) => rkids_any hV w' N d ⟨v.k, v.x, v.n, (ra, v.kids.length, rc), (rd, v.frm.length, rf)⟩ v h hn hszk hd)
  have HX := hid (rightB_is d v)
  obtain ⟨x0, x1, x2, x3, x4⟩ := hv5.out.cs
  simp only [Sl.v] at x3 x4
  have hf0 := fun A => fld43k A 0 (by omega)
  have hf1 := fld43
  have hf2 := fun A => fld43k A 1 (by omega)
  have hf3 := fun A => fld43k A 2 (by omega)
  have hf4 := fun A => fld43k A 3 (by omega)
  clear hr hn hs hszk hfr
  rw [vV_mk]
  generalize rightB d v = Z at *
  rcases hb : bareB v with _ | _
  · rw [hb] at C
    have hX : Hid (Z = false) := by rw [Hid, HX.out, hb]; simp
    clear HX hb
    go_enter Tryz.func52, Tryz.ntmps52
    go_wp2_with fail
    refine C.mono ?_
    rintro e w2 ⟨rfl, k1⟩
    have K1 := hid (HA.out.trans (k1.mono HA.out.size))
    clear k1 C
    go_wp2_with fail
    go_ret
    rw [hX.out]
    exact ⟨rfl, K1.out⟩
  · rw [hb] at C HX
    simp only [Bool.true_and] at HX
    clear hb
    generalize hvk : v.k = vk at *
    by_cases h0 : vk = 0
    · subst h0
      have hX : Hid (Z = true) := by rw [Hid, HX.out]; simp
      clear HX
      go_enter Tryz.func52, Tryz.ntmps52
      go_wp2_with fail
      refine C.mono ?_
      rintro e w2 ⟨rfl, k1⟩
      have K1 := hid (HA.out.trans (k1.mono HA.out.size))
      have hv2 := hid (hv5.out.kept (Kept.ofBelow k1 []) (by simp))
      have HR2 := hid (HR.out.later k1)
      have HFr2 := hid (HFr.out.later k1)
      clear k1 C x0 x1 x2 x3 x4
      obtain ⟨y0, y1, y2, y3, y4⟩ := hv2.out.cs
      simp only [Sl.v] at y3 y4
      go_wp2_with fail
      go_ret
      rw [hX.out]
      exact ⟨rfl, K1.out⟩
    · by_cases h3 : vk = 3
      · subst h3
        have hX : Hid (Z = true) := by rw [Hid, HX.out]; simp
        clear HX
        go_enter Tryz.func52, Tryz.ntmps52
        go_wp2_with fail
        refine C.mono ?_
        rintro e w2 ⟨rfl, k1⟩
        have K1 := hid (HA.out.trans (k1.mono HA.out.size))
        have hv2 := hid (hv5.out.kept (Kept.ofBelow k1 []) (by simp))
        have HR2 := hid (HR.out.later k1)
        have HFr2 := hid (HFr.out.later k1)
        clear k1 C x0 x1 x2 x3 x4
        obtain ⟨y0, y1, y2, y3, y4⟩ := hv2.out.cs
        simp only [Sl.v] at y3 y4
        go_wp2_with fail
        go_ret
        rw [hX.out]
        exact ⟨rfl, K1.out⟩
      · by_cases h1 : vk = 1
        · subst h1
          have hX : Hid (Z = decide (0 ≤ v.n)) := by rw [Hid, HX.out]; simp
          clear HX
          go_enter Tryz.func52, Tryz.ntmps52
          go_wp2_with fail
          refine C.mono ?_
          rintro e w2 ⟨rfl, k1⟩
          have K1 := hid (HA.out.trans (k1.mono HA.out.size))
          have hv2 := hid (hv5.out.kept (Kept.ofBelow k1 []) (by simp))
          have HR2 := hid (HR.out.later k1)
          have HFr2 := hid (HFr.out.later k1)
          clear k1 C x0 x1 x2 x3 x4
          obtain ⟨y0, y1, y2, y3, y4⟩ := hv2.out.cs
          simp only [Sl.v] at y3 y4
          go_wp2_with fail
          all_goals
            go_ret
            rw [hX.out]
            exact ⟨rfl, K1.out⟩
        · by_cases h2 : vk = 2
          · subst h2
            have hX : Hid (Z = atomB v.x) := by rw [Hid, HX.out]; simp
            clear HX
            go_enter Tryz.func52, Tryz.ntmps52
            go_wp2_with fail
            refine C.mono ?_
            rintro e w2 ⟨rfl, k1⟩
            have K1 := hid (HA.out.trans (k1.mono HA.out.size))
            have hv2 := hid (hv5.out.kept (Kept.ofBelow k1 []) (by simp))
            have HR2 := hid (HR.out.later k1)
            have HFr2 := hid (HFr.out.later k1)
            clear k1 C x0 x1 x2 x3 x4
            obtain ⟨y0, y1, y2, y3, y4⟩ := hv2.out.cs
            simp only [Sl.v] at y3 y4
            go_wp2_with fail
            refine (atom_any v.x nx _).mono ?_
            rintro e w3 ⟨rfl, k1⟩
            have K2 := hid (K1.out.trans (k1.mono K1.out.size))
            clear k1 y0 y1 y2 y3 y4
            go_wp2_with fail
            go_ret
            rw [hX.out]
            exact ⟨rfl, K2.out⟩
          · by_cases h4 : vk = 4
            · subst h4
              have hX : Hid (Z = (decide (d < 30) && rightsB (d + 1) v.kids)) := by rw [Hid, HX.out]; simp
              generalize (decide (d < 30) && rightsB (d + 1) v.kids) = q at *
              clear HX
              go_enter Tryz.func52, Tryz.ntmps52
              go_wp2_with fail
              refine C.mono ?_
              rintro e w2 ⟨rfl, k1⟩
              have K1 := hid (HA.out.trans (k1.mono HA.out.size))
              have hv2 := hid (hv5.out.kept (Kept.ofBelow k1 []) (by simp))
              have HR2 := hid (HR.out.later k1)
              have HFr2 := hid (HFr.out.later k1)
              clear k1 C x0 x1 x2 x3 x4
              obtain ⟨y0, y1, y2, y3, y4⟩ := hv2.out.cs
              simp only [Sl.v] at y3 y4
              go_wp2_with fail
              have D := HD.out w2 HR2.out
              rw [vV_mk] at D
              clear y0 y1 y2 y3 y4
              refine D.mono ?_
              rintro e w3 ⟨rfl, k1⟩
              have K2 := hid (K1.out.trans (k1.mono K1.out.size))
              clear k1 D
              go_wp2_with fail
              go_ret
              rw [hX.out]
              exact ⟨rfl, K2.out⟩
            · by_cases h5 : vk = 5
              · subst h5
                have hX : Hid (Z = (atomB v.x && frB v.frm && (decide (d < 30) && rightsB (d + 1) v.kids))) := by rw [Hid, HX.out]; simp
                generalize (decide (d < 30) && rightsB (d + 1) v.kids) = q at *
                have CA := fun w => atom_any v.x nx w
                generalize atomB v.x = p at *
                have CF := fun w' (h : LAt eI w' N (.slice rd v.frm.length rf) v.frm) => rfrom_any w' N _ v.frm h
                generalize frB v.frm = f at *
                clear HX
                go_enter Tryz.func52, Tryz.ntmps52
                go_wp2_with fail
                refine C.mono ?_
                rintro e w2 ⟨rfl, k1⟩
                have K1 := hid (HA.out.trans (k1.mono HA.out.size))
                have hv2 := hid (hv5.out.kept (Kept.ofBelow k1 []) (by simp))
                have HR2 := hid (HR.out.later k1)
                have HFr2 := hid (HFr.out.later k1)
                clear k1 C x0 x1 x2 x3 x4
                obtain ⟨y0, y1, y2, y3, y4⟩ := hv2.out.cs
                simp only [Sl.v] at y3 y4
                go_wp2_with fail
                refine (CA _).mono ?_
                rintro e w3 ⟨rfl, k1⟩
                have K2 := hid (K1.out.trans (k1.mono K1.out.size))
                have hv3 := hv2.out.kept (Kept.ofBelow k1 []) (by simp)
                have HFr3 := hid (HFr2.out.later k1)
                have HR3 := hid (HR2.out.later k1)
                clear k1 y0 y1 y2 y3 y4 CA
                obtain ⟨y0, y1, y2, y3, y4⟩ := hv3.cs
                simp only [Sl.v] at y3 y4
                clear hv3
                cases p
                · go_wp2_with fail
                  go_ret
                  rw [hX.out]
                  exact ⟨rfl, K2.out⟩
                · have CF2 := CF _ HFr3.out
                  go_wp2_with fail
                  refine CF2.mono ?_
                  rintro e w4 ⟨rfl, rfl⟩
                  clear CF2 CF
                  cases f
                  · go_wp2_with fail
                    go_ret
                    rw [hX.out]
                    exact ⟨rfl, K2.out⟩
                  · have D := HD.out _ HR3.out
                    rw [vV_mk] at D
                    go_wp2_with fail
                    refine D.mono ?_
                    rintro e w5 ⟨rfl, k1⟩
                    have K3 := hid (K2.out.trans (k1.mono K2.out.size))
                    clear k1 D y0 y1 y2 y3 y4
                    go_wp2_with fail
                    go_ret
                    rw [hX.out]
                    refine ⟨?_, K3.out⟩
                    simp
              · have hX : Hid (Z = false) := by rw [Hid, HX.out]; simp [h0, h1, h2, h3, h4, h5]
                have g5 : (vk == 5) = false := beq_eq_false_iff_ne.2 h5
                have g4 : (vk == 4) = false := beq_eq_false_iff_ne.2 h4
                have g3 : (vk == 3) = false := beq_eq_false_iff_ne.2 h3
                have g2 : (vk == 2) = false := beq_eq_false_iff_ne.2 h2
                have g1 : (vk == 1) = false := beq_eq_false_iff_ne.2 h1
                have g0 : (vk == 0) = false := beq_eq_false_iff_ne.2 h0
                clear h5 h4 h3 h2 h1 h0
                clear HX
                go_enter Tryz.func52, Tryz.ntmps52
                go_wp2_with fail
                refine C.mono ?_
                rintro e w2 ⟨rfl, k1⟩
                have K1 := hid (HA.out.trans (k1.mono HA.out.size))
                have hv2 := hid (hv5.out.kept (Kept.ofBelow k1 []) (by simp))
                have HR2 := hid (HR.out.later k1)
                have HFr2 := hid (HFr.out.later k1)
                clear k1 C x0 x1 x2 x3 x4
                obtain ⟨y0, y1, y2, y3, y4⟩ := hv2.out.cs
                simp only [Sl.v] at y3 y4
                go_wp2_with fail
                go_ret
                rw [hX.out]
                exact ⟨rfl, K1.out⟩
theorem rval_zero : RVal 0 := by
  intro w N d r v hr hn hs hd
  have := sz_kids v
  omega
theorem rval_all : ∀ n, RVal n
  | 0 => rval_zero
  | n + 1 => rval_any (rvals_any (rval_all n))
theorem rvals_all (n : Nat) : RVals n := rvals_any (rval_all n)
end Go.Proofs.YtpjcpdnolcehcaaGreatDoor
