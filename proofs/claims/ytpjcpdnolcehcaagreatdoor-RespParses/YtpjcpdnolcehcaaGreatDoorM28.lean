/- What this text holds: right lines, told by the program. -/
import Derived.Test.YtpjcpdnolcehcaaGreatDoorM27
namespace Go.Proofs.YtpjcpdnolcehcaaGreatDoor
open Go.RowKit
set_option linter.unusedVariables false
set_option linter.unusedSimpArgs false

theorem empty_int {α : Type} (l : List α) : l.isEmpty = (((l.length : Nat) : Int) == 0) := by
  cases l with
  | nil => rfl
  | cons a l => simp; omega
set_option maxRecDepth 100000 in
set_option maxHeartbeats 2000000 in
theorem right_any (w : World) (N : Nat → Prop) (r : Lw) (n : Ln) (hr : LnAt w N r n) (hn : NumN n) : Calls Tryz.prog 11 #[lV r] w (Bo (lineB n) w) := by
  obtain ⟨nv, nc, nt, ns, nx, lv, lc⟩ := hn
  obtain ⟨et, es, ex, hv, hc⟩ := hr
  obtain ⟨rt, ⟨va, vb, vc⟩, rs, ⟨ca, cb, cc⟩, rx⟩ := r
  simp only at et es ex
  subst et es ex
  obtain ⟨_, _, he, _⟩ := hv.slice
  simp only [Sl.v, Value.slice.injEq] at he
  obtain ⟨rfl, rfl, rfl⟩ := he
  obtain ⟨_, _, he, _⟩ := hc.slice
  simp only [Sl.v, Value.slice.injEq] at he
  obtain ⟨rfl, rfl, rfl⟩ := he
  have HA : Hid (Below w.heap.size w (w.alloc (.cells #[.string (str n.tag), .slice va n.vals.length vc, .string (str n.st), .slice ca n.code.length cc, .string (str n.x)] 28))) := (Below.refl _ _).alloc (Nat.le_refl _) _
  have hv5 : Hid (L5 (w.alloc (.cells #[.string (str n.tag), .slice va n.vals.length vc, .string (str n.st), .slice ca n.code.length cc, .string (str n.x)] 28)) w.heap.size ⟨n.tag, (va, n.vals.length, vc), n.st, (ca, n.code.length, cc), n.x⟩) := L5.new w ⟨n.tag, (va, n.vals.length, vc), n.st, (ca, n.code.length, cc), n.x⟩
  have C := rtag_any n.tag nt (w.alloc (.cells #[.string (str n.tag), .slice va n.vals.length vc, .string (str n.st), .slice ca n.code.length cc, .string (str n.x)] 28))
  have D := hid (fun w' => rtext_any ⟨n.tag, (va, n.vals.length, vc), n.st, (ca, n.code.length, cc), n.x⟩ n rfl ⟨_, _, rfl⟩ nx w')
  have HVs := hid (hv.later HA.out)
  have HCs := hid (hc.later HA.out)
  have CSt := hid (fun w => status_any n.st w)
  have CVs := hid (fun w' (h : VsAt w' N (.slice ca n.code.length cc) n.code) => rvals_all (szL n.code) w' N 0 _ n.code h nc (Nat.le_refl _) (by omega) lc)
  have CSo := hid (fun w' (h : VsAt w' N (.slice va n.vals.length vc) n.vals) => rsome_any w' N _ n.vals h nv lv)
  have HX : Hid (lineB n = (tagB n.tag && textB n && (if n.tag = [43] then (n.st == []) && ((n.code.length : Int) == 0) && ((n.vals.length : Int) == 0)
    else if n.st ≠ [] then statB n.st && ((n.vals.length : Int) == 0) && rightsB 0 n.code
    else (n.x == []) && ((n.code.length : Int) == 0) && someB n.vals))) := by
    rw [Hid, ← empty_int, ← empty_int]; rfl
  have hf0 := fun A => fldL A 0 (by omega)
  have hf1 := fun A => fldL A 1 (by omega)
  have hf2 := fun A => fldL A 2 (by omega)
  have hf3 := fun A => fldL A 3 (by omega)
  have hf4 := fun A => fldL A 4 (by omega)
  clear nv nc nt ns nx lv lc hv hc
  generalize n.code.length = mc at *
  generalize n.vals.length = mv at *
  generalize tagB n.tag = T at *
  generalize textB n = X at *
  generalize statB n.st = S at *
  generalize rightsB 0 n.code = Q at *
  generalize someB n.vals = O at *
  generalize lineB n = Z at *
  obtain ⟨x0, x1, x2, x3, x4⟩ := hv5.out.cs
  simp only [Sl.v] at x1 x3
  rw [lV_mk]
  cases T
  · have hX : Hid (Z = false) := by rw [Hid, HX.out]; simp
    clear HX
    go_enter Tryz.func11, Tryz.ntmps11
    go_wp2_with fail
    refine C.mono ?_
    rintro e w2 ⟨rfl, k1⟩
    have K1 := hid (HA.out.trans (k1.mono HA.out.size))
    clear k1 C
    go_wp2_with fail
    go_ret
    rw [hX.out]
    exact ⟨rfl, K1.out⟩
  · cases X
    · have hX : Hid (Z = false) := by rw [Hid, HX.out]; simp
      clear HX
      go_enter Tryz.func11, Tryz.ntmps11
      go_wp2_with fail
      refine C.mono ?_
      rintro e w2 ⟨rfl, k1⟩
      have K0 := hid (HA.out.trans (k1.mono HA.out.size))
      have hv2 := hv5.out.later k1
      have HVs2 := hid (HVs.out.later k1)
      have HCs2 := hid (HCs.out.later k1)
      have D2 := D.out w2
      rw [lV_mk] at D2
      have hv22 := hid hv2
      clear k1 C x0 x1 x2 x3 x4
      obtain ⟨x0, x1, x2, x3, x4⟩ := hv2.cs
      simp only [Sl.v] at x1 x3
      clear hv2
      go_wp2_with fail
      refine D2.mono ?_
      rintro e w3 ⟨rfl, k1⟩
      have K1 := hid (K0.out.trans (k1.mono K0.out.size))
      have hv3 := hv22.out.later k1
      have HVs3 := hid (HVs2.out.later k1)
      have HCs3 := hid (HCs2.out.later k1)
      clear k1 D2 x0 x1 x2 x3 x4
      obtain ⟨x0, x1, x2, x3, x4⟩ := hv3.cs
      simp only [Sl.v] at x1 x3
      clear hv3
      go_wp2_with fail
      go_ret
      rw [hX.out]
      exact ⟨rfl, K1.out⟩
    · simp only [Bool.true_and] at HX
      by_cases ht : n.tag = [43]
      · have g1 : (str n.tag).toList = ([43] : Bs) := by rw [toL]; exact ht
        have hX : Hid (Z = ((n.st == []) && ((mc : Int) == 0) && ((mv : Int) == 0))) := by rw [Hid, HX.out, if_pos ht]
        clear HX ht
        have hs : ((str n.st).toList = ([] : Bs)) ↔ n.st = [] := by rw [toL]
        have HS := hid hs
        clear hs
        go_enter Tryz.func11, Tryz.ntmps11
        go_wp2_with fail
        refine C.mono ?_
        rintro e w2 ⟨rfl, k1⟩
        have K0 := hid (HA.out.trans (k1.mono HA.out.size))
        have hv2 := hv5.out.later k1
        have HVs2 := hid (HVs.out.later k1)
        have HCs2 := hid (HCs.out.later k1)
        have D2 := D.out w2
        rw [lV_mk] at D2
        have hv22 := hid hv2
        clear k1 C x0 x1 x2 x3 x4
        obtain ⟨x0, x1, x2, x3, x4⟩ := hv2.cs
        simp only [Sl.v] at x1 x3
        clear hv2
        go_wp2_with fail
        refine D2.mono ?_
        rintro e w3 ⟨rfl, k1⟩
        have K1 := hid (K0.out.trans (k1.mono K0.out.size))
        have hv3 := hv22.out.later k1
        have HVs3 := hid (HVs2.out.later k1)
        have HCs3 := hid (HCs2.out.later k1)
        clear k1 D2 x0 x1 x2 x3 x4
        obtain ⟨x0, x1, x2, x3, x4⟩ := hv3.cs
        simp only [Sl.v] at x1 x3
        clear hv3
        go_wp2_with fail
        all_goals
          go_ret
          refine ⟨congrArg (fun b => Ending.returned (Value.bool b)) ?_, K1.out⟩
          rw [hX.out]
          have hs := HS.out
          simp_all
      · have g1 : ((str n.tag).toList == ([43] : Bs)) = false := by rw [toL, beq_eq_false_iff_ne]; exact ht
        rw [Hid, if_neg ht] at HX
        clear ht
        by_cases hst : n.st = []
        · have g2 : (str n.st).toList.isEmpty = true := by rw [toL, hst]; rfl
          have hX : Hid (Z = ((n.x == []) && ((mc : Int) == 0) && O)) := by rw [Hid, HX, if_neg (by simpa using hst)]
          clear HX hst
          by_cases hx : n.x = []
          · have g3 : (str n.x).toList.isEmpty = true := by rw [toL, hx]; rfl
            have hx2 : (n.x == []) = true := by rw [hx]; rfl
            rw [hx2, Bool.true_and] at hX
            clear hx hx2
            by_cases hm : mc = 0
            · subst hm
              have hX2 : Hid (Z = O) := by rw [Hid, hX.out]; simp
              clear hX
              go_enter Tryz.func11, Tryz.ntmps11
              go_wp2_with fail
              refine C.mono ?_
              rintro e w2 ⟨rfl, k1⟩
              have K0 := hid (HA.out.trans (k1.mono HA.out.size))
              have hv2 := hv5.out.later k1
              have HVs2 := hid (HVs.out.later k1)
              have HCs2 := hid (HCs.out.later k1)
              have D2 := D.out w2
              rw [lV_mk] at D2
              have hv22 := hid hv2
              clear k1 C x0 x1 x2 x3 x4
              obtain ⟨x0, x1, x2, x3, x4⟩ := hv2.cs
              simp only [Sl.v] at x1 x3
              clear hv2
              go_wp2_with fail
              refine D2.mono ?_
              rintro e w3 ⟨rfl, k1⟩
              have K1 := hid (K0.out.trans (k1.mono K0.out.size))
              have hv3 := hv22.out.later k1
              have HVs3 := hid (HVs2.out.later k1)
              have HCs3 := hid (HCs2.out.later k1)
              clear k1 D2 x0 x1 x2 x3 x4
              obtain ⟨x0, x1, x2, x3, x4⟩ := hv3.cs
              simp only [Sl.v] at x1 x3
              clear hv3
              go_wp2_with fail
              refine (CSo.out w3 HVs3.out).mono ?_
              rintro e w4 ⟨rfl, k1⟩
              have K2 := hid (K1.out.trans (k1.mono K1.out.size))
              clear k1 x0 x1 x2 x3 x4
              go_wp2_with fail
              go_ret
              rw [hX2.out]
              exact ⟨rfl, K2.out⟩
            · have gm : ((mc : Int) == 0) = false := by rw [beq_eq_false_iff_ne]; omega
              have hX2 : Hid (Z = false) := by rw [Hid, hX.out, gm]; simp
              clear hX hm
              go_enter Tryz.func11, Tryz.ntmps11
              go_wp2_with fail
              refine C.mono ?_
              rintro e w2 ⟨rfl, k1⟩
              have K0 := hid (HA.out.trans (k1.mono HA.out.size))
              have hv2 := hv5.out.later k1
              have HVs2 := hid (HVs.out.later k1)
              have HCs2 := hid (HCs.out.later k1)
              have D2 := D.out w2
              rw [lV_mk] at D2
              have hv22 := hid hv2
              clear k1 C x0 x1 x2 x3 x4
              obtain ⟨x0, x1, x2, x3, x4⟩ := hv2.cs
              simp only [Sl.v] at x1 x3
              clear hv2
              go_wp2_with fail
              refine D2.mono ?_
              rintro e w3 ⟨rfl, k1⟩
              have K1 := hid (K0.out.trans (k1.mono K0.out.size))
              have hv3 := hv22.out.later k1
              have HVs3 := hid (HVs2.out.later k1)
              have HCs3 := hid (HCs2.out.later k1)
              clear k1 D2 x0 x1 x2 x3 x4
              obtain ⟨x0, x1, x2, x3, x4⟩ := hv3.cs
              simp only [Sl.v] at x1 x3
              clear hv3
              go_wp2_with fail
              go_ret
              rw [hX2.out]
              exact ⟨rfl, K1.out⟩
          · have g3 : (str n.x).toList.isEmpty = false := by rw [toL, List.isEmpty_eq_false_iff]; exact hx
            have hx2 : (n.x == []) = false := by rw [beq_eq_false_iff_ne]; exact hx
            have hX2 : Hid (Z = false) := by rw [Hid, hX.out, hx2]; simp
            clear hX hx hx2
            go_enter Tryz.func11, Tryz.ntmps11
            go_wp2_with fail
            refine C.mono ?_
            rintro e w2 ⟨rfl, k1⟩
            have K0 := hid (HA.out.trans (k1.mono HA.out.size))
            have hv2 := hv5.out.later k1
            have HVs2 := hid (HVs.out.later k1)
            have HCs2 := hid (HCs.out.later k1)
            have D2 := D.out w2
            rw [lV_mk] at D2
            have hv22 := hid hv2
            clear k1 C x0 x1 x2 x3 x4
            obtain ⟨x0, x1, x2, x3, x4⟩ := hv2.cs
            simp only [Sl.v] at x1 x3
            clear hv2
            go_wp2_with fail
            refine D2.mono ?_
            rintro e w3 ⟨rfl, k1⟩
            have K1 := hid (K0.out.trans (k1.mono K0.out.size))
            have hv3 := hv22.out.later k1
            have HVs3 := hid (HVs2.out.later k1)
            have HCs3 := hid (HCs2.out.later k1)
            clear k1 D2 x0 x1 x2 x3 x4
            obtain ⟨x0, x1, x2, x3, x4⟩ := hv3.cs
            simp only [Sl.v] at x1 x3
            clear hv3
            go_wp2_with fail
            go_ret
            rw [hX2.out]
            exact ⟨rfl, K1.out⟩
        · have g2 : (str n.st).toList.isEmpty = false := by rw [toL, List.isEmpty_eq_false_iff]; exact hst
          have hX : Hid (Z = (S && ((mv : Int) == 0) && Q)) := by rw [Hid, HX, if_pos hst]
          clear HX hst
          go_enter Tryz.func11, Tryz.ntmps11
          go_wp2_with fail
          refine C.mono ?_
          rintro e w2 ⟨rfl, k1⟩
          have K0 := hid (HA.out.trans (k1.mono HA.out.size))
          have hv2 := hv5.out.later k1
          have HVs2 := hid (HVs.out.later k1)
          have HCs2 := hid (HCs.out.later k1)
          have D2 := D.out w2
          rw [lV_mk] at D2
          have hv22 := hid hv2
          clear k1 C x0 x1 x2 x3 x4
          obtain ⟨x0, x1, x2, x3, x4⟩ := hv2.cs
          simp only [Sl.v] at x1 x3
          clear hv2
          go_wp2_with fail
          refine D2.mono ?_
          rintro e w3 ⟨rfl, k1⟩
          have K1 := hid (K0.out.trans (k1.mono K0.out.size))
          have hv3 := hv22.out.later k1
          have HVs3 := hid (HVs2.out.later k1)
          have HCs3 := hid (HCs2.out.later k1)
          clear k1 D2 x0 x1 x2 x3 x4
          obtain ⟨x0, x1, x2, x3, x4⟩ := hv3.cs
          simp only [Sl.v] at x1 x3
          clear hv3
          go_wp2_with fail
          refine (CSt.out w3).mono ?_
          rintro e w4 ⟨rfl, rfl⟩
          cases S
          · go_wp2_with fail
            go_ret
            rw [hX.out]
            exact ⟨rfl, K1.out⟩
          · by_cases hm : mv = 0
            · subst hm
              have hX2 : Hid (Z = Q) := by rw [Hid, hX.out]; simp
              have CV := CVs.out _ HCs3.out
              rw [show ((0 : Nat) : Int) = 0 from rfl] at CV
              clear hX
              go_wp2_with fail
              refine CV.mono ?_
              rintro e w5 ⟨rfl, k1⟩
              have K2 := hid (K1.out.trans (k1.mono K1.out.size))
              clear k1 x0 x1 x2 x3 x4 CV
              go_wp2_with fail
              go_ret
              rw [hX2.out]
              exact ⟨rfl, K2.out⟩
            · have gm : ((mv : Int) == 0) = false := by rw [beq_eq_false_iff_ne]; omega
              have hX2 : Hid (Z = false) := by rw [Hid, hX.out, gm]; simp
              clear hX hm
              go_wp2_with fail
              go_ret
              rw [hX2.out]
              exact ⟨rfl, K1.out⟩
end Go.Proofs.YtpjcpdnolcehcaaGreatDoor
