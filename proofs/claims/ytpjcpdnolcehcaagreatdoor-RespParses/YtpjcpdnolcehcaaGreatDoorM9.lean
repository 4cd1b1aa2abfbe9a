/- What this text holds: what a reading of a value, of values answers; kids are read. -/
import Derived.Test.YtpjcpdnolcehcaaGreatDoorM8
import Derived.Test.YtpjcpdnolcehcaaGreatDoorP2
namespace Go.Proofs.YtpjcpdnolcehcaaGreatDoor
open Go.RowKit
set_option linter.unusedVariables false
set_option linter.unusedSimpArgs false

def RdV (b o : Nat) (w : World) (x : Option (Vl × Bs)) (e : Ending) (w' : World) : Prop := match x with
  | some (v, r) => ∃ row, e = .returned (vV row) ∧ VAt w' (w.heap.size ≤ ·) row v ∧ RAt w' b r o ∧ Kept [b] w w'
  | none => e = .panicked faultC ∧ Kept [b] w w'
def RdL (b o : Nat) (w : World) (x : Option (List Vl × Bs)) (e : Ending) (w' : World) : Prop := match x with
  | some (l, r) => ∃ u, e = .returned u ∧ VsAt w' (w.heap.size ≤ ·) u l ∧ RAt w' b r o ∧ Kept [b] w w'
  | none => e = .panicked faultC ∧ Kept [b] w w'
def ptr (b : Nat) : Value := .pointer (some ⟨b, 0, none⟩)
def KidOk (d : Nat) : Prop := ∀ (w : World) (b o : Nat) (s : Bs) (c : UInt8), Env w → 11 ≤ b → RAt w b s o → o + d = 30 → s.length ≤ 100000000 → Calls Tryz.prog 120 #[.pointer (some ⟨b, 0, none⟩), .string (str [c])] w (RdL b o w (kidP d c s))
def ValOk (d : Nat) : Prop := ∀ (w : World) (b o : Nat) (s : Bs), Env w → 11 ≤ b → RAt w b s o → o + d = 30 → s.length ≤ 100000000 → Calls Tryz.prog 112 #[.pointer (some ⟨b, 0, none⟩)] w (RdV b o w (valueP d s))
def ValsOk (d : Nat) : Prop := ∀ (w : World) (b o : Nat) (s : Bs), Env w → 11 ≤ b → RAt w b s o → o + d = 30 → s.length ≤ 100000000 → Calls Tryz.prog 97 #[.pointer (some ⟨b, 0, none⟩)] w (RdL b o w (valsP d s))
theorem fld1 (b : Nat) (w : World) : (Instr.fieldAt 73 (.pointer (some ⟨b, 0, none⟩)) 1).run Tryz.prog w = .ok (.pointer (some ⟨b, 1, none⟩)) w := by kernel_rfl
theorem fld43 (b : Nat) (w : World) : (Instr.fieldAt 43 (.pointer (some ⟨b, 0, none⟩)) 4).run Tryz.prog w = .ok (.pointer (some ⟨b, 4, none⟩)) w := by kernel_rfl
theorem RAt.up {w : World} {b : Nat} {s : Bs} {o : Nat} (h : RAt w b s o) : RAt (w.setCell ⟨b, 1, none⟩ (.int .i64 ((o : Int) + 1))) b s (o + 1) := h.set1 (o + 1)
theorem RAt.down {w : World} {b : Nat} {s : Bs} {o : Nat} (h : RAt w b s (o + 1)) : RAt (w.setCell ⟨b, 1, none⟩ (.int .i64 (o : Int))) b s o := h.set1 o
theorem kept_fresh {b : Nat} {w : World} (hb : b < w.heap.size) : ∀ i ∈ [b], ¬ (w.heap.size ≤ i) := by
  intro i hi
  simp at hi
  omega
set_option maxRecDepth 100000 in
set_option maxHeartbeats 1000000 in
theorem kid_zero : KidOk 0 := by
  intro w b o s c hE hb h ho hl
  obtain rfl : o = 30 := by omega
  have hf := fld1 b
  have c1 := h.c1
  have f1 := h.fz 1
  have H := hid h
  have HX : Hid (kidP 0 c s = none) := rfl
  have U := hid h.up
  have u1 := h.up.c1
  clear h
  go_enter Tryz.func120, Tryz.ntmps120
  go_wp2_with fail
  refine (must_no _).mono ?_
  rintro e w1 ⟨rfl, rfl⟩
  rw [HX.out]
  exact ⟨rfl, rfl, Kept.set1 _ _ _ _⟩
set_option maxRecDepth 100000 in
set_option maxHeartbeats 2000000 in
theorem kid_succ {d : Nat} (hV : ValsOk d) : KidOk (d + 1) := by
  intro w b o s c hE hb h ho hl
  have hf1 := fld1 b
  have hf0 := fld0 b
  have c1 := h.c1
  have f1 := h.fz 1
  have hbl := h.lt
  have ho' : (o : Int) ≤ 29 := by omega
  have hoo : o ≤ 29 := by omega
  have U := h.up
  have u1 : (w.setCell ⟨b, 1, none⟩ (.int .i64 ((o : Int) + 1))).cell? ⟨b, 1, none⟩ = some (.int .i64 ((o : Int) + 1)) := U.c1
  have HU := hid U
  have HK : Hid (Kept [b] w (w.setCell ⟨b, 1, none⟩ (.int .i64 ((o : Int) + 1)))) := Kept.set1 _ _ _ _
  have HE : Hid (Env (w.setCell ⟨b, 1, none⟩ (.int .i64 ((o : Int) + 1)))) := hE.kept HK.out (by simpa using hb)
  have HH := hid (show o + 1 + d = 30 by omega)
  have HS : Hid ((w.setCell ⟨b, 1, none⟩ (.int .i64 ((o : Int) + 1))).heap.size = w.heap.size) := by simp [Hid, World.setCell]
  have hle : ((o : Int) + 1 ≤ 30) := by omega
  clear h U ho hE
  generalize hW : w.setCell ⟨b, 1, none⟩ (.int .i64 ((o : Int) + 1)) = W at *
  have hW' := hid hW
  have fin : ∀ (u : Value) (l : List Vl) (r : Bs) (w2 : World), VsAt w2 (w.heap.size ≤ ·) u l → RAt w2 b r (o + 1) → Kept [b] W w2 → kidP (d + 1) c s = some (l, r) →
      RdL b o w (kidP (d + 1) c s) (.returned u) (w2.setCell ⟨b, 1, none⟩ (.int .i64 (o : Int))) := by
    intro u l r w2 k1 k2 k3 k4
    rw [k4]
    have k5 := Kept.set1 w2 b 1 (.int .i64 (o : Int))
    refine ⟨u, rfl, ?_, k2.down, (HK.out.trans1 k3).trans1 k5⟩
    exact k1.kept k5 (kept_fresh hbl)
  have HF := hid fin
  have HB := hid hbl
  clear fin
  rcases hx : needP [c] s with _ | r
  · rcases hv : valsP d s with _ | ⟨l, r⟩
    · have HX : Hid (kidP (d + 1) c s = none) := by rw [Hid, kidP_succ]; unfold kidF; rw [hx, hv]
      have C := takes_no HU.out [c] hx
      clear hW hx
      go_enter Tryz.func120, Tryz.ntmps120
      go_wp2_with fail
      rw [hW'.out]
      go_wp2_with fail
      refine (must_yes _).mono ?_
      rintro e w1 ⟨rfl, rfl⟩
      go_wp2_with fail
      refine C.mono ?_
      rintro e w1 ⟨rfl, k1, k2⟩
      have D := hV w1 b (o + 1) s (HE.out.kept k2 (by simpa using hb)) hb k1 HH.out hl
      rw [hv] at D
      have K2 := hid k2
      clear k1 k2 C hv
      go_wp2_with fail
      refine D.mono ?_
      rintro e w2 ⟨rfl, k2⟩
      rw [HX.out]
      exact ⟨rfl, rfl, HK.out.trans1 (K2.out.trans1 k2)⟩
    · have C := takes_no HU.out [c] hx
      have hr := shr_vals d _ _ _ hv
      rcases hy : needP [c] r with _ | r2
      · have HX : Hid (kidP (d + 1) c s = none) := by rw [Hid, kidP_succ]; unfold kidF; rw [hx, hv]; simp only; rw [hy]; rfl
        clear hW hx
        go_enter Tryz.func120, Tryz.ntmps120
        go_wp2_with fail
        rw [hW'.out]
        go_wp2_with fail
        refine (must_yes _).mono ?_
        rintro e w1 ⟨rfl, rfl⟩
        go_wp2_with fail
        refine C.mono ?_
        rintro e w1 ⟨rfl, k1, k2⟩
        have D := hV w1 b (o + 1) s (HE.out.kept k2 (by simpa using hb)) hb k1 HH.out hl
        rw [hv] at D
        have K2 := hid k2
        clear k1 k2 C hv
        go_wp2_with fail
        refine D.mono ?_
        rintro e w2 ⟨u, rfl, k1, k2, k3⟩
        have N := need_no k2 [c] hy
        have K3 := hid (K2.out.trans1 k3)
        obtain ⟨ua, uc, rfl, _⟩ := k1.slice
        clear k1 k2 k3 D hy
        go_wp2_with fail
        refine N.mono ?_
        rintro e w2 ⟨rfl, k2⟩
        rw [HX.out]
        exact ⟨rfl, rfl, HK.out.trans1 (K3.out.trans1 k2)⟩
      · have HX : Hid (kidP (d + 1) c s = some (l, r2)) := by rw [Hid, kidP_succ]; unfold kidF; rw [hx, hv]; simp only; rw [hy]; rfl
        clear hW hx
        go_enter Tryz.func120, Tryz.ntmps120
        go_wp2_with fail
        rw [hW'.out]
        go_wp2_with fail
        refine (must_yes _).mono ?_
        rintro e w1 ⟨rfl, rfl⟩
        go_wp2_with fail
        refine C.mono ?_
        rintro e w1 ⟨rfl, k1, k2⟩
        have D := hV w1 b (o + 1) s (HE.out.kept k2 (by simpa using hb)) hb k1 HH.out hl
        rw [hv] at D
        have K2 := hid k2
        clear k1 k2 C hv
        go_wp2_with fail
        refine D.mono ?_
        rintro e w2 ⟨u, rfl, k1, k2, k3⟩
        have N := need_yes k2 [c] hy
        have K3 := hid (K2.out.trans1 k3)
        have K1 := hid (k1.mono (N' := (w.heap.size ≤ ·)) (fun q _ hq => Nat.le_trans (HK.out.trans1 K2.out).size hq))
        obtain ⟨ua, uc, rfl, _⟩ := k1.slice
        clear k1 k2 k3 D hy
        go_wp2_with fail
        refine N.mono ?_
        rintro e w3 ⟨rfl, k2, k3⟩
        have c2 := k2.c1
        have f2 := k2.fz 1
        have hcast : ((o + 1 : Nat) : Int) = (o : Int) + 1 := by omega
        rw [hcast] at c2
        have K4 := hid (HF.out _ l r2 w3 (K1.out.kept k3 (kept_fresh HB.out)) k2 (K3.out.trans1 k3) HX.out)
        clear k2 k3 N hcast
        go_wp2_with fail
        go_ret
        exact K4.out
  · have HX : Hid (kidP (d + 1) c s = some ([], r)) := by rw [Hid, kidP_succ]; unfold kidF; rw [hx]
    have C := takes_yes HU.out [c] hx
    clear hW hx
    go_enter Tryz.func120, Tryz.ntmps120
    go_wp2_with fail
    rw [hW'.out]
    go_wp2_with fail
    refine (must_yes _).mono ?_
    rintro e w1 ⟨rfl, rfl⟩
    go_wp2_with fail
    refine C.mono ?_
    rintro e w3 ⟨rfl, k2, k3⟩
    have c2 := k2.c1
    have f2 := k2.fz 1
    have hcast : ((o + 1 : Nat) : Int) = (o : Int) + 1 := by omega
    rw [hcast] at c2
    have K4 := hid (HF.out nilV [] r w3 (VsAt.nil _ _) k2 k3 HX.out)
    clear k2 k3 C hcast
    go_wp2_with fail
    go_ret
    exact K4.out
end Go.Proofs.YtpjcpdnolcehcaaGreatDoor
