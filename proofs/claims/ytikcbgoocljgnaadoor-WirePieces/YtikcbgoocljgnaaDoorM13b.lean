/- What this text holds: whether the lines so far have too many bytes. -/
import Derived.Test.YtikcbgoocljgnaaDoorM13
namespace Go.Proofs.YtikcbgoocljgnaaDoor
open Go.RowKit
set_option linter.unusedVariables false
set_option linter.unusedSimpArgs false

theorem bytesOf_ints (l : Bs) : Go.Lib.bytesOf (l.map fun b => (b.toNat : Int)) = l := by
  unfold Go.Lib.bytesOf
  rw [List.map_map]
  have : ((fun n : Int => UInt8.ofNat n.toNat) ∘ fun b : UInt8 => (b.toNat : Int)) = id := by funext x; simp
  rw [this, List.map_id]
theorem trim13_any {w : World} {a : Option Addr} {n c q : Nat} {l : Bs} (h : GO eB w 0 (.slice a n c) l) (hne : l ≠ []) (hq : w.heap[q]? = some (.cells #[.int .u8 13] 5 (0, 0))) (hl : l.length ≤ 1000000) :
    Calls Tryd.prog 40 #[.slice a n c, .slice (some ⟨q, 0, none⟩) 1 1] w fun e w' => e = .returned (.slice a (sufT l 13).length c) ∧ w' = w := by
  rcases id h.2 with ⟨e, h0⟩ | ⟨g, cap, cur, e, _, hg, hcap, _, _, hx⟩
  · exact absurd (List.eq_nil_of_length_eq_zero h0) hne
  · simp only [Value.slice.injEq] at e
    obtain ⟨rfl, rfl, rfl⟩ := e
    have hc := World.ownsRow.cells h rfl
    have C := Tryd.bytes_TrimSuffix g 0 l.length c q 0 1 1 (l.map fun b => (b.toNat : Int)) [13] w (by simp) rfl hcap (by omega) (fun i hi => by
      have := hc i (.int .u8 (l[i].toNat)) (by
        have := eB.cs_at l i 0 l[i] (.int .u8 (l[i].toNat)) (List.getElem?_eq_getElem hi) rfl
        simpa [eB] using this)
      rw [Addr.add_mid] at this
      rw [this]
      simp [List.getD, hi]) (fun i hi => by
      have : i = 0 := by omega
      subst this
      simp [World.cell?, hq])
    refine C.mono ?_
    rintro e w' ⟨rfl, rfl⟩
    refine ⟨?_, rfl⟩
    unfold Go.Lib.bytesTrimSuffix sufT Go.Lib.trimSuffix
    rw [bytesOf_ints, show Go.Lib.bytesOf [13] = [13] by rfl]
    split
    · simp [Go.Lib.sliceTo, List.length_take]
    · rfl
set_option maxRecDepth 100000 in
set_option maxHeartbeats 1000000 in
theorem long_any {w : World} {b : Nat} {own : List Nat} {F : Fd} (h : FAt w b own F) (hne : F.under ≠ []) (h1 : F.under.length ≤ 1000000) (h2 : F.size ≤ 100000000) :
    Calls Tryd.prog 29 #[.pointer (some ⟨b, 0, none⟩)] w fun e w' => e = .returned (.bool (decide (4000 < F.size + (sufT F.under 13).length))) ∧ Below w.heap.size w w' := by
  obtain ⟨vt, vl, vu, f, rfl⟩ := h
  have c2 : w.cell? ⟨b, 2, none⟩ = some (.int .i64 F.size) := f.r4.cell 2 rfl
  have c3 : w.cell? ⟨b, 3, none⟩ = some vu := f.r4.cell 3 rfl
  obtain ⟨a0, k0, hv0⟩ := f.u.slice (n := F.under.length) rfl
  subst hv0
  have hb1 : Below w.heap.size w (w.drew.alloc (.cells #[.int .u8 13] 5)) := (show Below w.heap.size w w.drew from drewN_below w 1 _).alloc (Nat.le_refl _) _
  have HC := hid (trim13_any (q := w.heap.size) (f.u.later hb1) hne (heap_alloc_new w.drew _) h1)
  have HB := hid hb1
  have hs := sufT_len F.under 13
  clear f hb1
  generalize F.size = sz at *
  generalize (sufT F.under 13).length = n at *
  generalize F.under.length = m at *
  have hw : IntKind.i64.wrap ((sz : Int) + (n : Int)) = (sz : Int) + n := by unfold IntKind.wrap; simp [IntKind.signed, IntKind.bits]; omega
  have hdec : decide (4000 < sz + n) = decide ((4000 : Int) < (sz : Int) + n) := by rw [Bool.eq_iff_iff]; simp only [decide_eq_true_eq]; omega
  rw [hdec]
  go_enter Tryd.func29, Tryd.ntmps29
  go_wp2_with fail
  go_region_held3 (fun w' => w'.cell? ⟨b, 2, none⟩ = some (.int .i64 sz) ∧ w'.cell? ⟨b, 3, none⟩ = some (.slice a0 m k0)) (first | exact ⟨c2, c3⟩ | go_keep) ((go_at_call 40; refine HC.out.mono ?_; rintro e w5 ⟨rfl, rfl⟩))
  all_goals
    go_wp2_with fail
    go_ret
    exact ⟨rfl, HB.out⟩
end Go.Proofs.YtikcbgoocljgnaaDoor
