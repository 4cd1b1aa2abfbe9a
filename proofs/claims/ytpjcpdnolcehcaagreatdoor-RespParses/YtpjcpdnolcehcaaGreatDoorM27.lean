/- What this text holds: which lines are right. -/
import Derived.Test.YtpjcpdnolcehcaaGreatDoorM26
namespace Go.Proofs.YtpjcpdnolcehcaaGreatDoor
open Go.RowKit
set_option linter.unusedVariables false
set_option linter.unusedSimpArgs false

theorem fldV (A o : Nat) (w : World) : (Instr.fieldAt 43 (.pointer (some ⟨A, o, none⟩)) 0).run Tryz.prog w = .ok (.pointer (some ⟨A, o, none⟩)) w := by kernel_rfl
theorem fldV1 (A o : Nat) (w : World) : (Instr.fieldAt 43 (.pointer (some ⟨A, o, none⟩)) 1).run Tryz.prog w = .ok (.pointer (some ⟨A, o + 1, none⟩)) w := by kernel_rfl
set_option maxRecDepth 100000 in
set_option maxHeartbeats 2000000 in
theorem rtext_any (r : Lw) (n : Ln) (hx : r.x = n.x) (hc : ∃ a c, Sl.v r.code = .slice a n.code.length c) (hl : n.x.length ≤ 1000000000) (w : World) : Calls Tryz.prog 29 #[lV r] w (Bo (textB n) w) := by
  obtain ⟨rt, ⟨va, vb, vc⟩, rs, ⟨ca, cb, cc⟩, rx⟩ := r
  obtain ⟨_, _, he⟩ := hc
  simp only [Sl.v, Value.slice.injEq] at he hx
  obtain ⟨rfl, rfl, rfl⟩ := he
  subst hx
  have HA : Hid (Below w.heap.size w (w.alloc (.cells #[.string (str rt), .slice va vb vc, .string (str rs), .slice ca n.code.length cc, .string (str n.x)] 28))) := (Below.refl _ _).alloc (Nat.le_refl _) _
  have hv5 : Hid (L5 (w.alloc (.cells #[.string (str rt), .slice va vb vc, .string (str rs), .slice ca n.code.length cc, .string (str n.x)] 28)) w.heap.size ⟨rt, (va, vb, vc), rs, (ca, n.code.length, cc), n.x⟩) := L5.new w ⟨rt, (va, vb, vc), rs, (ca, n.code.length, cc), n.x⟩
  have C := only_plain n.x hl (w.alloc (.cells #[.string (str rt), .slice va vb vc, .string (str rs), .slice ca n.code.length cc, .string (str n.x)] 28))
  have D := fun w => Tryz.strings_HasPrefix (str n.x) (str [91]) w
  have hp : Go.Lib.hasPrefix (str n.x).data.toList (str [91]).data.toList = ([91] : Bs).isPrefixOf n.x := rfl
  rw [hp] at D
  have hf3 := fun A => fldL A 3 (by decide)
  have hf4 := fun A => fldL A 4 (by decide)
  have HX : Hid (textB n = (n.x.all plB && (!n.code.isEmpty || !([91] : Bs).isPrefixOf n.x))) := rfl
  obtain ⟨x0, x1, x2, x3, x4⟩ := hv5.out.cs
  simp only [Sl.v] at x1 x3
  rw [lV_mk]
  clear hp
  generalize n.x.all plB = p at *
  generalize ([91] : Bs).isPrefixOf n.x = q at *
  generalize textB n = z at *
  have hcode : n.code.isEmpty = decide (n.code.length = 0) := by cases n.code <;> simp
  rw [hcode] at HX
  clear hcode
  generalize n.code.length = m at *
  by_cases h0 : m = 0
  · have hX : Hid (z = (p && !q)) := by rw [Hid, HX.out]; simp [h0]
    have g : ¬ (0 : Int) < m := by omega
    clear h0 HX
    go_enter Tryz.func29, Tryz.ntmps29
    go_wp2_with fail
    refine C.mono ?_
    rintro e w2 ⟨rfl, k1⟩
    have K1 := hid (HA.out.trans (k1.mono HA.out.size))
    have hv2 := hv5.out.later k1
    clear x0 x1 x2 x3 x4 k1 C
    obtain ⟨x0, x1, x2, x3, x4⟩ := hv2.cs
    simp only [Sl.v] at x1 x3
    clear hv2
    cases p
    · go_wp2_with fail
      go_ret
      rw [hX.out]
      exact ⟨rfl, K1.out⟩
    · go_wp2_with fail
      refine (D _).mono ?_
      rintro e w3 ⟨rfl, rfl⟩
      go_wp2_with fail
      go_ret
      rw [hX.out]
      refine ⟨?_, K1.out⟩
      simp
  · have hX : Hid (z = p) := by rw [Hid, HX.out]; simp [h0]
    have g : (0 : Int) < m := by omega
    clear h0 HX
    go_enter Tryz.func29, Tryz.ntmps29
    go_wp2_with fail
    refine C.mono ?_
    rintro e w2 ⟨rfl, k1⟩
    have K1 := hid (HA.out.trans (k1.mono HA.out.size))
    have hv2 := hv5.out.later k1
    clear x0 x1 x2 x3 x4 k1 C
    obtain ⟨x0, x1, x2, x3, x4⟩ := hv2.cs
    simp only [Sl.v] at x1 x3
    clear hv2
    cases p
    · go_wp2_with fail
      go_ret
      rw [hX.out]
      exact ⟨rfl, K1.out⟩
    · go_wp2_with fail
      go_ret
      rw [hX.out]
      exact ⟨rfl, K1.out⟩
set_option maxRecDepth 100000 in
set_option maxHeartbeats 1000000 in
theorem rsome_any (w : World) (N : Nat → Prop) (u : Value) (ks : List Vl) (hu : VsAt w N u ks) (hn : NumL ks) (hl : ks.length ≤ 1000000000) : Calls Tryz.prog 32 #[u] w (Bo (someB ks) w) := by
  have CR := hid (fun w' (h : VsAt w' N u ks) => rvals_all (szL ks) w' N 0 u ks h hn (Nat.le_refl _) (by omega) hl)
  obtain ⟨rows, hv, he, hrow⟩ := hu.open_
  have HU := hid hu
  obtain ⟨a, c, rfl, hc⟩ := hu.slice
  clear hu
  rcases rows with _ | ⟨⟨⟨rk, rx, rn, rks, rfs⟩, x⟩, rows⟩
  · have hk : ks = [] := by simpa using he
    subst hk
    have HX : Hid (someB [] = false) := rfl
    clear hv hrow he
    go_enter Tryz.func32, Tryz.ntmps32
    go_wp2_with fail
    go_ret
    rw [HX.out]
    exact ⟨rfl, Below.refl _ _⟩
  · have hk : ks = x :: rows.map (·.2) := by simpa using he
    obtain ⟨g, o, c', hs, hc', hga, _, _⟩ := hv.at_ (by simp)
    simp only [Value.slice.injEq] at hs
    obtain ⟨rfl, hlen, rfl⟩ := hs
    clear hlen
    obtain ⟨c0, c1, c2, c3, c4⟩ := hga.v 0 _ rfl
    obtain ⟨ek, ex, _, _⟩ := (hrow _ (List.mem_cons_self ..)).h
    simp only at ek ex
    subst ek ex
    simp only [Nat.zero_mul, Nat.add_zero] at c0 c1
    have hpos : (0 : Int) < ks.length := by rw [hk]; simp
    have HX : Hid (someB ks = (!(x.k == 2 && statB x.x) && rightsB 0 ks)) := by rw [Hid, hk]; rfl
    have CS := fun w => status_any x.x w
    have hf0 := fun A o w => fldV A o w
    clear hga hrow hv he hk c2 c3 c4
    generalize someB ks = z at *
    generalize rightsB 0 ks = q at *
    generalize statB x.x = p at *
    have hf1 := fldV1
    generalize ks.length = m at *
    by_cases h2 : x.k = 2
    · have g2 : (x.k == 2) = true := by simpa using h2
      rw [g2] at HX
      cases p
      · have hX : Hid (z = q) := by rw [Hid, HX.out]; simp
        have CS2 := CS w
        have CR2 := CR.out w HU.out
        rw [show ((0 : Nat) : Int) = 0 from rfl] at CR2
        clear h2 HX CS
        go_enter Tryz.func32, Tryz.ntmps32
        go_wp2_with fail
        refine CS2.mono ?_
        rintro e w2 ⟨rfl, rfl⟩
        clear CS2
        go_wp2_with fail
        refine CR2.mono ?_
        rintro e w3 ⟨rfl, k1⟩
        have K1 := hid k1
        clear CR2 k1
        go_wp2_with fail
        go_ret
        rw [hX.out]
        exact ⟨rfl, K1.out⟩
      · have hX : Hid (z = false) := by rw [Hid, HX.out]; simp
        have CS2 := CS w
        clear h2 HX CS
        go_enter Tryz.func32, Tryz.ntmps32
        go_wp2_with fail
        refine CS2.mono ?_
        rintro e w2 ⟨rfl, rfl⟩
        clear CS2
        go_wp2_with fail
        go_ret
        rw [hX.out]
        exact ⟨rfl, Below.refl _ _⟩
    · have g2 : (x.k == 2) = false := by simpa using h2
      rw [g2] at HX
      have hX : Hid (z = q) := by rw [Hid, HX.out]; simp
      have CR2 := CR.out w HU.out
      rw [show ((0 : Nat) : Int) = 0 from rfl] at CR2
      clear h2 HX CS
      go_enter Tryz.func32, Tryz.ntmps32
      go_wp2_with fail
      refine CR2.mono ?_
      rintro e w3 ⟨rfl, k1⟩
      have K1 := hid k1
      clear CR2 k1
      go_wp2_with fail
      go_ret
      rw [hX.out]
      exact ⟨rfl, K1.out⟩
end Go.Proofs.YtpjcpdnolcehcaaGreatDoor
