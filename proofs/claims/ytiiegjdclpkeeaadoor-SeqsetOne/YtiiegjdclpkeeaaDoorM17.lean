/- What this text holds: a span is read, and kept. -/
import Derived.Test.YtiiegjdclpkeeaaDoorM16
namespace Go.Proofs.YtiiegjdclpkeeaaDoor
open Go.RowKit
set_option linter.unusedVariables false
set_option linter.unusedSimpArgs false

/-- What span answers. -/
def SpanIs (l : Bs) (w : World) (B b U : Nat) (S : List Sp) (fr mn : Bool) (e : Ending) (w' : World) : Prop :=
  match spanP l with
  | none => (∃ x y : Int, e = .returned (.tuple #[.agg #[.int .i64 x, .int .i64 y], .bool false])) ∧ (∃ l' fr', RdAt w' B b U l' S fr' mn) ∧ Kept [b] w w'
  | some (s, r) => e = .returned (.tuple #[.agg #[.int .i64 s.1, .int .i64 s.2], .bool true]) ∧ RdAt w' B b U r S (fr || farB s) mn ∧ Kept [b] w w'
theorem kept_cells {w w' : World} {b g : Nat} {X : Array Value} {t : TypeId} (h : Kept [b] w w') (hg : w.heap[g]? = some (.cells X t (0, 0))) (hne : g ≠ b) : w'.heap[g]? = some (.cells X t (0, 0)) :=
  (h.block g (lt_of_some hg) (by simpa using hne)).trans hg
theorem far_one (x : Int) : farB (x, x) = decide (mx < x) := by simp [farB]
theorem far_two (fr : Bool) (x y : Int) : ((fr || decide (mx < x)) || decide (mx < y)) = (fr || farB (x, y)) := by simp [farB, Bool.or_assoc]
set_option maxRecDepth 100000 in
set_option maxHeartbeats 4000000 in
theorem span_any {w : World} {B b U : Nat} {l : Bs} {S : List Sp} {fr mn : Bool} (h0 : RdAt w B b U l S fr mn) (hl : l.length ≤ 10000000) : Calls Tryd.prog 28 #[.pointer (some ⟨b, 0, none⟩)] w (SpanIs l w B b w.heap.size S fr mn) := by
  have h := h0.top
  have hBz := h0.le
  clear h0
  have hba : Below w.heap.size w (w.alloc (.cells #[.int .i64 0, .int .i64 0] 26)) := (Below.refl _ _).alloc (Nat.le_refl _) _
  have hbl : b < w.heap.size := by obtain ⟨⟨v, hc, _⟩, _⟩ := h; exact lt_of_some hc
  have HR0 := hid (h.later hba)
  have HK0 : Hid (Kept [b] w (w.alloc (.cells #[.int .i64 0, .int .i64 0] 26))) := Kept.ofBelow hba _
  have HZ0 : Hid ((w.alloc (.cells #[.int .i64 0, .int .i64 0] 26)).heap[w.heap.size]? = some (.cells #[.int .i64 0, .int .i64 0] 26 (0, 0))) := heap_alloc_new _ _
  clear h hba
  have C := end_any HR0.out hl
  have hne : w.heap.size ≠ b := by omega
  unfold EndIs at C
  rcases h1 : endP l with _ | ⟨x, r⟩
  · rw [h1] at C
    have HX : Hid (∀ e w', SpanIs l w B b w.heap.size S fr mn e w' = ((∃ x y : Int, e = .returned (.tuple #[.agg #[.int .i64 x, .int .i64 y], .bool false])) ∧ (∃ l' fr', RdAt w' B b w.heap.size l' S fr' mn) ∧ Kept [b] w w')) := by
      intro e w'; unfold SpanIs spanP; rw [h1]
    clear h1
    go_enter Tryd.func28, Tryd.ntmps28
    go_wp2_with fail
    refine C.mono ?_
    clear C
    rintro e w1 ⟨rfl, ⟨l1, hr⟩, hk⟩
    have HR1 := hid hr
    have HK1 := hid (HK0.out.trans hk (fun _ _ h => h))
    have HZ1 := hid (kept_cells hk HZ0.out hne)
    clear hr hk
    have z0 : w1.cell? ⟨w.heap.size, 0, none⟩ = some (.int .i64 0) := by simp [World.cell?, HZ1.out]
    have z1 : w1.cell? ⟨w.heap.size, 1, none⟩ = some (.int .i64 0) := by simp [World.cell?, HZ1.out]
    have f0 : w1.frozen? ⟨w.heap.size, 0, none⟩ = false := by simp [World.frozen?, HZ1.out]
    have f1 : w1.frozen? ⟨w.heap.size, 1, none⟩ = false := by simp [World.frozen?, HZ1.out]
    have HRz := hid ((HR1.out.other (Nat.le_refl _) hne hBz 0 (.int .i64 0)).other (Nat.le_refl _) hne hBz 1 (.int .i64 0))
    have HKz : Hid (Kept [b] w ((w1.setCell ⟨w.heap.size, 0, none⟩ (.int .i64 0)).setCell ⟨w.heap.size, 1, none⟩ (.int .i64 0))) := (HK1.out.trans (Kept.setCell [w.heap.size] _ _ _ (by simp)) (fun i hi h => by simp at h; omega)).trans (Kept.setCell [w.heap.size] _ _ _ (by simp)) (fun i hi h => by simp at h; omega)
    go_wp2_with fail
    refine bodyPost_ret (v := .tuple #[.agg #[.int .i64 0, .int .i64 0], .bool false]) (by simp [results, Tryd.results28, go_sem, z0, z1]) rfl ?_
    rw [HX.out]
    exact ⟨⟨0, 0, rfl⟩, ⟨_, _, HRz.out⟩, HKz.out⟩
  · rw [h1] at C
    have hrl : r.length ≤ l.length := by obtain ⟨d, hd, _⟩ := endP_suf h1; rw [hd, List.length_append]; omega
    by_cases h58 : r.head? = some 58
    · rcases h2 : endP (r.drop 1) with _ | ⟨y, r2⟩
      · have hdr : (r.drop 1).length ≤ 10000000 := by rw [List.length_drop]; omega
        have HX : Hid (∀ e w', SpanIs l w B b w.heap.size S fr mn e w' = ((∃ x y : Int, e = .returned (.tuple #[.agg #[.int .i64 x, .int .i64 y], .bool false])) ∧ (∃ l' fr', RdAt w' B b w.heap.size l' S fr' mn) ∧ Kept [b] w w')) := by
          intro e w'; unfold SpanIs spanP; rw [h1]; simp only; rw [if_pos h58, h2]
        clear h1
        go_enter Tryd.func28, Tryd.ntmps28
        go_wp2_with fail
        refine C.mono ?_
        clear C
        rintro e w1 ⟨rfl, hr, hk⟩
        have HR1 := hid hr
        have HK1 := hid (HK0.out.trans hk (fun _ _ h => h))
        have HZ1 := hid (kept_cells hk HZ0.out hne)
        clear hr hk
        have C2 := takes_any HR1.out.c0.1 HR1.out.c0.2 58
        rw [tk_yes h58, show decide (r.head? = some 58) = true by simpa using h58] at C2
        obtain ⟨hr2, hk2⟩ := HR1.out.set0 (r.drop 1)
        have HR2 := hid hr2
        have HK2 := hid (HK1.out.trans hk2 (fun _ _ h => h))
        have HZ2 := hid (kept_cells hk2 HZ1.out hne)
        clear hr2 hk2 h58
        generalize r.drop 1 = q at *
        generalize w1.setCell ⟨b, 0, none⟩ (.string (str q)) = w2 at *
        have C3 := end_any HR2.out hdr
        unfold EndIs at C3
        rw [h2] at C3
        go_wp2_with fail
        refine C2.mono ?_
        clear C2
        rintro e w2' ⟨rfl, hw2⟩
        subst hw2
        go_wp2_with fail
        refine C3.mono ?_
        clear C3
        rintro e w3 ⟨rfl, ⟨l3, hr⟩, hk⟩
        have HR3 := hid hr
        have HK3 := hid (HK2.out.trans hk (fun _ _ h => h))
        have HZ3 := hid (kept_cells hk HZ2.out hne)
        clear hr hk
        have z0 : w3.cell? ⟨w.heap.size, 0, none⟩ = some (.int .i64 0) := by simp [World.cell?, HZ3.out]
        have z1 : w3.cell? ⟨w.heap.size, 1, none⟩ = some (.int .i64 0) := by simp [World.cell?, HZ3.out]
        have f0 : w3.frozen? ⟨w.heap.size, 0, none⟩ = false := by simp [World.frozen?, HZ3.out]
        have f1 : w3.frozen? ⟨w.heap.size, 1, none⟩ = false := by simp [World.frozen?, HZ3.out]
        have HRz := hid ((HR3.out.other (Nat.le_refl _) hne hBz 0 (.int .i64 x)).other (Nat.le_refl _) hne hBz 1 (.int .i64 0))
        have HKz : Hid (Kept [b] w ((w3.setCell ⟨w.heap.size, 0, none⟩ (.int .i64 x)).setCell ⟨w.heap.size, 1, none⟩ (.int .i64 0))) := (HK3.out.trans (Kept.setCell [w.heap.size] _ _ _ (by simp)) (fun i hi h => by simp at h; omega)).trans (Kept.setCell [w.heap.size] _ _ _ (by simp)) (fun i hi h => by simp at h; omega)
        go_wp2_with fail
        refine bodyPost_ret (v := .tuple #[.agg #[.int .i64 x, .int .i64 0], .bool false]) (by simp [results, Tryd.results28, go_sem, z0, z1]) rfl ?_
        rw [HX.out]
        exact ⟨⟨x, 0, rfl⟩, ⟨_, _, HRz.out⟩, HKz.out⟩
      · have hdr : (r.drop 1).length ≤ 10000000 := by rw [List.length_drop]; omega
        have HX : Hid (∀ e w', SpanIs l w B b w.heap.size S fr mn e w' = (e = .returned (.tuple #[.agg #[.int .i64 x, .int .i64 y], .bool true]) ∧ RdAt w' B b w.heap.size r2 S (fr || farB (x, y)) mn ∧ Kept [b] w w')) := by
          intro e w'; unfold SpanIs spanP; rw [h1]; simp only; rw [if_pos h58, h2]
        clear h1
        have HFar := hid (far_two fr x y)
        go_enter Tryd.func28, Tryd.ntmps28
        go_wp2_with fail
        refine C.mono ?_
        clear C
        rintro e w1 ⟨rfl, hr, hk⟩
        have HR1 := hid hr
        have HK1 := hid (HK0.out.trans hk (fun _ _ h => h))
        have HZ1 := hid (kept_cells hk HZ0.out hne)
        clear hr hk
        have C2 := takes_any HR1.out.c0.1 HR1.out.c0.2 58
        rw [tk_yes h58, show decide (r.head? = some 58) = true by simpa using h58] at C2
        obtain ⟨hr2, hk2⟩ := HR1.out.set0 (r.drop 1)
        have HR2 := hid hr2
        have HK2 := hid (HK1.out.trans hk2 (fun _ _ h => h))
        have HZ2 := hid (kept_cells hk2 HZ1.out hne)
        clear hr2 hk2 h58
        generalize r.drop 1 = q at *
        generalize w1.setCell ⟨b, 0, none⟩ (.string (str q)) = w2 at *
        have C3 := end_any HR2.out hdr
        unfold EndIs at C3
        rw [h2] at C3
        simp only at C3
        rw [HFar.out] at C3
        go_wp2_with fail
        refine C2.mono ?_
        clear C2
        rintro e w2' ⟨rfl, hw2⟩
        subst hw2
        go_wp2_with fail
        refine C3.mono ?_
        clear C3
        rintro e w3 ⟨rfl, hr, hk⟩
        have HR3 := hid hr
        have HK3 := hid (HK2.out.trans hk (fun _ _ h => h))
        have HZ3 := hid (kept_cells hk HZ2.out hne)
        clear hr hk
        have z0 : w3.cell? ⟨w.heap.size, 0, none⟩ = some (.int .i64 0) := by simp [World.cell?, HZ3.out]
        have z1 : w3.cell? ⟨w.heap.size, 1, none⟩ = some (.int .i64 0) := by simp [World.cell?, HZ3.out]
        have f0 : w3.frozen? ⟨w.heap.size, 0, none⟩ = false := by simp [World.frozen?, HZ3.out]
        have f1 : w3.frozen? ⟨w.heap.size, 1, none⟩ = false := by simp [World.frozen?, HZ3.out]
        have HRz := hid ((HR3.out.other (Nat.le_refl _) hne hBz 0 (.int .i64 x)).other (Nat.le_refl _) hne hBz 1 (.int .i64 y))
        have HKz : Hid (Kept [b] w ((w3.setCell ⟨w.heap.size, 0, none⟩ (.int .i64 x)).setCell ⟨w.heap.size, 1, none⟩ (.int .i64 y))) := (HK3.out.trans (Kept.setCell [w.heap.size] _ _ _ (by simp)) (fun i hi h => by simp at h; omega)).trans (Kept.setCell [w.heap.size] _ _ _ (by simp)) (fun i hi h => by simp at h; omega)
        go_wp2_with fail
        refine bodyPost_ret (v := .tuple #[.agg #[.int .i64 x, .int .i64 y], .bool true]) (by simp [results, Tryd.results28, go_sem, z0, z1]) rfl ?_
        rw [HX.out]
        exact ⟨rfl, HRz.out, HKz.out⟩
    · have HFar := hid (far_one x)
      have HX : Hid (∀ e w', SpanIs l w B b w.heap.size S fr mn e w' = (e = .returned (.tuple #[.agg #[.int .i64 x, .int .i64 x], .bool true]) ∧ RdAt w' B b w.heap.size r S (fr || farB (x, x)) mn ∧ Kept [b] w w')) := by
        intro e w'; unfold SpanIs spanP; rw [h1]; simp only; rw [if_neg h58]
      clear h1
      simp only at C
      rw [← HFar.out] at C
      go_enter Tryd.func28, Tryd.ntmps28
      go_wp2_with fail
      refine C.mono ?_
      clear C
      rintro e w1 ⟨rfl, hr, hk⟩
      have HR1 := hid hr
      have HK1 := hid (HK0.out.trans hk (fun _ _ h => h))
      have HZ1 := hid (kept_cells hk HZ0.out hne)
      clear hr hk
      have C2 := takes_any HR1.out.c0.1 HR1.out.c0.2 58
      rw [tk_no h58, show decide (r.head? = some 58) = false by simpa using h58] at C2
      obtain ⟨hr2, hk2⟩ := HR1.out.set0 r
      have HR2 := hid hr2
      have HK2 := hid (HK1.out.trans hk2 (fun _ _ h => h))
      have HZ2 := hid (kept_cells hk2 HZ1.out hne)
      clear hr2 hk2 h58
      generalize w1.setCell ⟨b, 0, none⟩ (.string (str r)) = w2 at *
      go_wp2_with fail
      refine C2.mono ?_
      clear C2
      rintro e w2' ⟨rfl, hw2⟩
      subst hw2
      have z0 : w2'.cell? ⟨w.heap.size, 0, none⟩ = some (.int .i64 0) := by simp [World.cell?, HZ2.out]
      have z1 : w2'.cell? ⟨w.heap.size, 1, none⟩ = some (.int .i64 0) := by simp [World.cell?, HZ2.out]
      have f0 : w2'.frozen? ⟨w.heap.size, 0, none⟩ = false := by simp [World.frozen?, HZ2.out]
      have f1 : w2'.frozen? ⟨w.heap.size, 1, none⟩ = false := by simp [World.frozen?, HZ2.out]
      have HRz := hid ((HR2.out.other (Nat.le_refl _) hne hBz 0 (.int .i64 x)).other (Nat.le_refl _) hne hBz 1 (.int .i64 x))
      have HKz : Hid (Kept [b] w ((w2'.setCell ⟨w.heap.size, 0, none⟩ (.int .i64 x)).setCell ⟨w.heap.size, 1, none⟩ (.int .i64 x))) := (HK2.out.trans (Kept.setCell [w.heap.size] _ _ _ (by simp)) (fun i hi h => by simp at h; omega)).trans (Kept.setCell [w.heap.size] _ _ _ (by simp)) (fun i hi h => by simp at h; omega)
      go_wp2_with fail
      refine bodyPost_ret (v := .tuple #[.agg #[.int .i64 x, .int .i64 x], .bool true]) (by simp [results, Tryd.results28, go_sem, z0, z1]) rfl ?_
      rw [HX.out]
      exact ⟨rfl, HRz.out, HKz.out⟩
end Go.Proofs.YtiiegjdclpkeeaaDoor
