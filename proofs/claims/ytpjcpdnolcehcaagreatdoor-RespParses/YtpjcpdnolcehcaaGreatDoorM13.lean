/- What this text holds: several values are read. -/
import Derived.Test.YtpjcpdnolcehcaaGreatDoorM12
namespace Go.Proofs.YtpjcpdnolcehcaaGreatDoor
open Go.RowKit
set_option linter.unusedVariables false
set_option linter.unusedSimpArgs false

def contP (rd : Bs → Option (Vl × Bs)) (f : Nat) (l : List Vl) (r : Bs) : Option (List Vl × Bs) := match needP [32] r with
  | none => some (l, r)
  | some r => (valuesP rd f r).map fun p => (l ++ p.1, p.2)
theorem values_start (rd : Bs → Option (Vl × Bs)) (f : Nat) (s : Bs) : valuesP rd (f + 1) s = match rd s with
    | none => none
    | some (v, r) => contP rd f [v] r := by
  unfold valuesP
  rcases rd s with _ | ⟨v, r⟩
  · rfl
  · simp only [contP]
    rcases needP [32] r with _ | r'
    · rfl
    · rfl
theorem cont_end {rd : Bs → Option (Vl × Bs)} {f : Nat} {l : List Vl} {r : Bs} (h : needP [32] r = none) : contP rd f l r = some (l, r) := by unfold contP; rw [h]
theorem cont_step {rd : Bs → Option (Vl × Bs)} {f : Nat} {l : List Vl} {r r' : Bs} (h : needP [32] r = some r') : contP rd (f + 1) l r = match rd r' with
    | none => none
    | some (v, r2) => contP rd f (l ++ [v]) r2 := by
  unfold contP
  rw [h]
  simp only [values_start]
  rcases rd r' with _ | ⟨v, r2⟩
  · rfl
  · simp only [contP]
    rcases needP [32] r2 with _ | r3
    · rfl
    · simp [Function.comp_def]
theorem go_made {α : Type} (E : En α) (w : World) (l : List α) (hl : l.length ≤ 1000000000) : GO E (w.alloc (.cells (E.cs l).toArray E.T)) w.heap.size (.slice (some ⟨w.heap.size, 0, none⟩) l.length l.length) l := by
  refine ⟨E.cs_len l, .inr ⟨w.heap.size, l.length, (E.cs l).toArray, rfl, Nat.le_refl _, heap_alloc_new _ _, Nat.le_refl _, by unfold maxLen; omega, ?_, ?_⟩⟩
  · simp [E.cs_len]
  · rw [← E.cs_len]; simp
theorem slice26 (r : Rw) (w : World) : (Instr.buildSlice 26 1 #[(0, vV r)]).run Tryz.prog w = .ok (.slice (some ⟨w.heap.size, 0, none⟩) 1 1) (w.alloc (.cells r.c.toArray 43)) := by
  obtain ⟨k, x, n, ⟨a, b, c⟩, ⟨d, e, f⟩⟩ := r
  kernel_rfl
theorem vV_mk (k : Int) (x : Bs) (n : Int) (a : Option Addr) (b c : Nat) (d : Option Addr) (e f : Nat) : vV ⟨k, x, n, (a, b, c), (d, e, f)⟩ = .agg #[.int .i64 k, .string (str x), .int .i64 n, .slice a b c, .slice d e f] := rfl
theorem VO.first {w : World} {B : Nat} {r : Rw} {x : Vl} (h : VAt w (B ≤ ·) r x) (hB : B ≤ w.heap.size) : VO (w.alloc (.cells r.c.toArray 43)) B (.slice (some ⟨w.heap.size, 0, none⟩) 1 1) [(r, x)] := by
  refine ⟨?_, ?_⟩
  · have := go_made eV w [r] (by simp)
    rw [show eV.cs [r] = r.c by simp [En.cs, eV]] at this
    exact this.base hB
  · intro p hp
    simp at hp
    subst hp
    exact (h.mono (N' := fun q => B ≤ q ∧ Value.ownBlock (.slice (some ⟨w.heap.size, 0, none⟩) 1 1) ≠ some q) (fun q hq hN => ⟨hN, by simp [Value.ownBlock]; omega⟩)).later ((Below.refl _ _).alloc (Nat.le_refl _) _)
/-- Where the reading of values stands. -/
structure LSt (w0 w : World) (b o d : Nat) (s : Bs) (f : Nat) (v : Value) (rows : List (Rw × Vl)) (r : Bs) : Prop where
  q : valsP d s = contP (valueP d) f (rows.map (·.2)) r
  at_ : RAt w b r o
  g : VO w w0.heap.size v rows
  k : Kept [b] w0 w
  l : r.length ≤ f
  m : rows.length + f ≤ s.length + 1
set_option maxRecDepth 100000 in
set_option maxHeartbeats 4000000 in
theorem values_any {d : Nat} (hV : ValOk d) : ValsOk d := by
  intro w b o s hE hb h ho hl
  have hf := fld0 b
  have HO := hid ho
  have HB := hid h.lt
  have HE := hid hE
  have C := hV w b o s hE hb h ho hl
  have HQ : Hid (valsP d s = match valueP d s with
    | none => none
    | some (v, r) => contP (valueP d) s.length [v] r) := values_start _ _ _
  have HSh := hid (shr_value d)
  clear h ho hE
  rcases hv : valueP d s with _ | ⟨v, r⟩
  · rw [hv] at C HQ
    go_enter Tryz.func97, Tryz.ntmps97
    go_wp2_with fail
    refine C.mono ?_
    rintro e w1 ⟨rfl, k1⟩
    rw [HQ.out]
    exact ⟨rfl, rfl, k1⟩
  · rw [hv] at C HQ
    have hr := HSh.out _ _ _ hv
    go_enter Tryz.func97, Tryz.ntmps97
    go_wp2_with fail
    refine C.mono ?_
    rintro e w1 ⟨⟨rk, rx, rn, ⟨ra, rb, rc⟩, ⟨rd, re, rf⟩⟩, rfl, k1, k2, k3⟩
    rw [vV_mk]
    have ha : Below w1.heap.size w1 (w1.alloc (.cells #[.int .i64 rk, .string (str rx), .int .i64 rn, .slice ra rb rc, .slice rd re rf] 43)) := (Below.refl _ _).alloc (Nat.le_refl _) _
    have hne : s.length ≥ 1 := by
      rcases s with _ | ⟨c, s⟩
      · exfalso
        rw [valueP_is] at hv
        unfold bodyP at hv
        simp [needP, wordP, numP, Go.Lib.atoiAll] at hv
      · simp
    have H0 : Hid (LSt w (w1.alloc (.cells #[.int .i64 rk, .string (str rx), .int .i64 rn, .slice ra rb rc, .slice rd re rf] 43)) b o d s s.length (.slice (some ⟨w1.heap.size, 0, none⟩) 1 1) [(⟨rk, rx, rn, (ra, rb, rc), (rd, re, rf)⟩, v)] r) :=
      ⟨HQ.out, k2.later ha, VO.first k1 k3.size, k3.trans1 (Kept.ofBelow ha [b]), hr, by simp; omega⟩
    clear k1 k2 k3 C hv HQ ha hr
    go_wp2_with fail
    go_loopg [3] s.length (fun g v wr => ∃ rows r, LSt w wr b o d s g v rows r)
    case atStart => exact ⟨_, _, H0.out⟩
    case round =>
      obtain ⟨rows, r, hst⟩ := hrel
      have HS := hid hst
      obtain ⟨a, c, rfl⟩ := hst.g.slice
      clear hst
      rcases h32 : needP [32] r with _ | r'
      · have D := takes_no HS.out.at_ [32] h32
        have HX := hid (HS.out.q.trans (cont_end h32))
        clear h32
        go_wp2_with fail
        refine D.mono ?_
        rintro e w2 ⟨rfl, k1, k2⟩
        have K1 := hid k1
        have K2 := hid k2
        clear k1 k2 D
        go_wp2_with fail
        go_ret
        rw [HX.out]
        refine ⟨_, rfl, ?_, K1.out, HS.out.k.trans1 K2.out⟩
        exact HS.out.g.vs.kept K2.out (kept_fresh HB.out)
      · have D := takes_yes HS.out.at_ [32] h32
        have hrl := (needP_some h32).2.2
        simp only [List.length_cons, List.length_nil] at hrl
        obtain ⟨f, rfl⟩ : ∃ f, gk = f + 1 := ⟨gk - 1, by have := HS.out.l; omega⟩
        have HX := hid (HS.out.q.trans (cont_step h32))
        have hl' : r'.length ≤ 100000000 := by have := HS.out.l; have := HS.out.m; omega
        have hfl : Hid (r'.length ≤ f) := by have := HS.out.l; unfold Hid; omega
        clear h32 hrl
        go_wp2_with fail
        refine D.mono ?_
        rintro e w2 ⟨rfl, k1, k2⟩
        have K2 := hid (HS.out.k.trans1 k2)
        have E2 := HE.out.kept K2.out (by simpa using hb)
        have C := hV w2 b o r' E2 hb k1 HO.out hl'
        have G2 : Hid (VO w2 w.heap.size (.slice a rows.length c) rows) := HS.out.g.kept k2 (by simpa using HB.out)
        have HM := hid HS.out.m
        clear k1 k2 D E2 HS
        rcases hv : valueP d r' with _ | ⟨x, r2⟩
        · rw [hv] at C HX
          go_wp2_with fail
          refine C.mono ?_
          rintro e w3 ⟨rfl, k1⟩
          rw [HX.out]
          exact ⟨rfl, rfl, K2.out.trans1 k1⟩
        · rw [hv] at C HX
          have hr2 := hid (HSh.out _ _ _ hv)
          clear hv
          go_wp2_with fail
          refine C.mono ?_
          rintro e w3 ⟨⟨rk, rx, rn, ⟨ra, rb, rc⟩, ⟨rd, re, rf⟩⟩, rfl, k1, k2, k3⟩
          rw [vV_mk]
          have K3 := K2.out.trans1 k3
          have G3 := G2.out.kept k3 (by simpa using HB.out)
          have hx := k1.mono (N' := fun q => w.heap.size ≤ q ∧ Value.ownBlock (.slice a rows.length c) ≠ some q) (fun q hq hN => ⟨Nat.le_trans K2.out.size hN, fun e => by
            have := (World.ownsRow.lt G2.out.o q e).2
            omega⟩)
          obtain ⟨v', W, hrun, hvo, hbl, _⟩ := G3.more K3.size ⟨rk, rx, rn, (ra, rb, rc), (rd, re, rf)⟩ x hx (by have := HM.out; omega) w3.heap.size rfl
          have S3 : Hid (LSt w W b o d s f v' (rows ++ [(⟨rk, rx, rn, (ra, rb, rc), (rd, re, rf)⟩, x)]) r2) := ⟨by rw [List.map_append]; exact HX.out, k2.low hbl HB.out, hvo, kept_lo K3 hbl, by have := hr2.out; have := hfl.out; omega, by have := HM.out; simp; omega⟩
          clear k1 k2 k3 K3 G3 hx hvo hbl C
          have hrun' : (Builtin.append_ #[26, 26] 26 #[.slice a rows.length c, .slice (some ⟨w3.heap.size, 0, none⟩) 1 1]).run Tryz.prog (w3.alloc (.cells #[.int .i64 rk, .string (str rx), .int .i64 rn, .slice ra rb rc, .slice rd re rf] 43)) = .ok v' W := hrun
          clear hrun
          go_wp2_with (at_builtin; refine wpList_append_run rfl rfl hrun' ?_)
          go_roundg f
          case measure => omega
          case rel => exact ⟨_, _, S3.out⟩
end Go.Proofs.YtpjcpdnolcehcaaGreatDoor
