/- What this text holds: all of a command is told, and nothing of it kept. -/
import Derived.Test.YtikcbgoocljgnaaDoorM7
namespace Go.Proofs.YtikcbgoocljgnaaDoor
open Go.RowKit
set_option linter.unusedVariables false
set_option linter.unusedSimpArgs false

theorem row41 {w : World} {R : Nat} {v0 v1 v2 : Value} (h : w.heap[R]? = some (.cells #[v0, v1, v2] 41 (0, 0))) :
    w.cell? ⟨R, 0, none⟩ = some v0 ∧ w.cell? ⟨R, 1, none⟩ = some v1 ∧ w.cell? ⟨R, 2, none⟩ = some v2 ∧ w.frozen? ⟨R, 0, none⟩ = false ∧ w.frozen? ⟨R, 1, none⟩ = false ∧ w.frozen? ⟨R, 2, none⟩ = false :=
  ⟨row_at h 0 rfl, row_at h 1 rfl, row_at h 2 rfl, by simp [World.frozen?, h], by simp [World.frozen?, h], by simp [World.frozen?, h]⟩
/-- An event is written into its block. -/
theorem put41 {w : World} {R : Nat} {Y : Array Value} (h : w.heap[R]? = some (.cells Y 41 (0, 0))) (hY : Y.size = 3) (v0 v1 v2 : Value) :
    (((w.setCell ⟨R, 0, none⟩ v0).setCell ⟨R, 1, none⟩ v1).setCell ⟨R, 2, none⟩ v2).heap[R]? = some (.cells #[v0, v1, v2] 41 (0, 0)) ∧ Kept [R] w (((w.setCell ⟨R, 0, none⟩ v0).setCell ⟨R, 1, none⟩ v1).setCell ⟨R, 2, none⟩ v2) := by
  constructor
  · rw [heap_setCell_same _ _ _ _ _ _ (heap_setCell_same _ _ _ _ _ _ (heap_setCell_same _ _ _ _ _ _ h))]
    match Y, hY with
    | ⟨[a, b, c]⟩, _ => rfl
  · exact ((kept1 w R 0 v0).trans (kept1 _ R 1 v1) (fun _ _ h => h)).trans (kept1 _ R 2 v2) (fun _ _ h => h)
theorem Kept.out {w w3 W : World} {b R : Nat} {own own3 : List Nat} {v' vl : Value} {T L : List Bs} {F : Fd} {Y : Array Value} (k : Kept [R] w3 W) (hR : w3.heap[R]? = some (.cells Y 41 (0, 0))) (gt : GO eS w3 0 v' T) (gl : GO eS w3 0 vl L) (hf : FAt w3 b own3 F) (gk : Kept own w w3) (hw : w.heap.size ≤ R) :
    GO eS W 0 v' T ∧ GO eS W 0 vl L ∧ FAt W b own3 F ∧ Kept own w W := by
  refine ⟨gt.kept k (fun g hg => ?_), gl.kept k (fun g hg => ?_), hf.kept k (fun g hg => ?_), gk.trans k (fun i hi hm => by rw [List.mem_singleton] at hm; omega)⟩
  · rw [List.mem_singleton]; rintro rfl; exact gt.ne (by decide) hR hg
  · rw [List.mem_singleton]; rintro rfl; exact gl.ne (by decide) hR hg
  · rw [List.mem_singleton]
    rintro rfl
    obtain ⟨vt, vl, vu, f, rfl⟩ := hf
    rcases own3_mem.1 hg with e | e | e | e
    · have := f.row
      rw [← e, hR] at this
      simp at this
    · exact f.t.ne (by decide) hR e
    · exact f.l.ne (by decide) hR e
    · exact f.u.ne (by decide) hR e
set_option maxRecDepth 100000 in
theorem results30_run {w : World} {A : Nat} {v0 v1 v2 : Value} (tmps : Array Value) (h2 : tmps[6]? = some (.pointer (some ⟨A, 0, none⟩))) (h : w.heap[A]? = some (.cells #[v0, v1, v2] 41 (0, 0))) :
    (results Tryd.f30 tmps).run Tryd.prog w = .ok (.agg #[v0, v1, v2]) w := by
  obtain ⟨x0, x1, x2, _⟩ := row41 h
  simp [results, Tryd.results30, go_sem, h2, x0, x1, x2]
set_option maxRecDepth 100000 in
set_option maxHeartbeats 4000000 in
theorem end_any {w : World} {b : Nat} {own : List Nat} {F : Fd} (h : FAt w b own F) (k : Int) (x : Bs) (h1 : F.texts.length ≤ 1000) :
    Calls Tryd.prog 30 #[.pointer (some ⟨b, 0, none⟩), .int .i64 k, .string (str x)] w fun e w' => EvIs k (F.texts ++ [x]) F.lits e w' ∧ FAt w' b [b] Fd.zero ∧ Kept own w w' := by
  obtain ⟨vt, vl, vu, f, rfl⟩ := h
  have HF := hid f
  have hal : Below w.heap.size w (w.alloc (.cells #[.int .i64 0, .slice none 0 0, .slice none 0 0] 41)) := (Below.refl _ _).alloc (Nat.le_refl _) _
  have c0 : (w.alloc (.cells #[.int .i64 0, .slice none 0 0, .slice none 0 0] 41)).cell? ⟨b, 0, none⟩ = some vt := (f.r4.later hal).cell 0 rfl
  have c1 : (w.alloc (.cells #[.int .i64 0, .slice none 0 0, .slice none 0 0] 41)).cell? ⟨b, 1, none⟩ = some vl := (f.r4.later hal).cell 1 rfl
  have HB := hid hal
  have HRR := hid (heap_alloc_new w (.cells #[.int .i64 0, .slice none 0 0, .slice none 0 0] 41))
  obtain ⟨a0, k0, hv0⟩ := f.t.slice (n := F.texts.length) rfl
  obtain ⟨a1, k1, hv1⟩ := f.l.slice (n := F.lits.length) rfl
  have hlt := f.lt
  subst hv0 hv1
  clear f hal
  have HA : Hid (((w.alloc (.cells #[.int .i64 0, .slice none 0 0, .slice none 0 0] 41)).alloc (.cells #[.string (str x)] 9)).heap[w.heap.size + 1]? = some (.cells #[.string (str x)] 9 (0, 0))) := by have := heap_alloc_new (w.alloc (.cells #[.int .i64 0, .slice none 0 0, .slice none 0 0] 41)) (.cells #[.string (str x)] 9); rw [World.size_alloc] at this; exact this
  have HA2 : Hid ((((w.alloc (.cells #[.int .i64 0, .slice none 0 0, .slice none 0 0] 41)).alloc (.cells #[.string (str x)] 9)).alloc (.cells #[.slice none 0 0, .slice none 0 0] 36)).heap[w.heap.size + 1]? = some (.cells #[.string (str x)] 9 (0, 0))) := by rw [Hid, heap_alloc_old _ _ (lt_of_some HA.out)]; exact HA.out
  have HQ2 : Hid ((((w.alloc (.cells #[.int .i64 0, .slice none 0 0, .slice none 0 0] 41)).alloc (.cells #[.string (str x)] 9)).alloc (.cells #[.slice none 0 0, .slice none 0 0] 36)).heap[w.heap.size + 2]? = some (.cells #[.slice none 0 0, .slice none 0 0] 36 (0, 0))) := by have := heap_alloc_new ((w.alloc (.cells #[.int .i64 0, .slice none 0 0, .slice none 0 0] 41)).alloc (.cells #[.string (str x)] 9)) (.cells #[.slice none 0 0, .slice none 0 0] 36); rw [World.size_alloc, World.size_alloc] at this; exact this
  have HQ1 : Hid (((w.alloc (.cells #[.int .i64 0, .slice none 0 0, .slice none 0 0] 41)).alloc (.cells #[.slice none 0 0, .slice none 0 0] 36)).heap[w.heap.size + 1]? = some (.cells #[.slice none 0 0, .slice none 0 0] 36 (0, 0))) := by have := heap_alloc_new (w.alloc (.cells #[.int .i64 0, .slice none 0 0, .slice none 0 0] 41)) (.cells #[.slice none 0 0, .slice none 0 0] 36); rw [World.size_alloc] at this; exact this
  have HQ3 : Hid ((((w.alloc (.cells #[.int .i64 0, .slice none 0 0, .slice none 0 0] 41)).alloc (.cells #[.slice none 0 0, .slice none 0 0] 36)).alloc (.cells #[.string (str x)] 9)).heap[w.heap.size + 1]? = some (.cells #[.slice none 0 0, .slice none 0 0] 36 (0, 0))) := by rw [Hid, heap_alloc_old _ _ (lt_of_some HQ1.out)]; exact HQ1.out
  have HA3 : Hid ((((w.alloc (.cells #[.int .i64 0, .slice none 0 0, .slice none 0 0] 41)).alloc (.cells #[.slice none 0 0, .slice none 0 0] 36)).alloc (.cells #[.string (str x)] 9)).heap[w.heap.size + 2]? = some (.cells #[.string (str x)] 9 (0, 0))) := by have := heap_alloc_new ((w.alloc (.cells #[.int .i64 0, .slice none 0 0, .slice none 0 0] 41)).alloc (.cells #[.slice none 0 0, .slice none 0 0] 36)) (.cells #[.string (str x)] 9); rw [World.size_alloc, World.size_alloc] at this; exact this
  have HR1 : Hid (((w.alloc (.cells #[.int .i64 0, .slice none 0 0, .slice none 0 0] 41)).alloc (.cells #[.string (str x)] 9)).heap[w.heap.size]? = some (.cells #[.int .i64 0, .slice none 0 0, .slice none 0 0] 41 (0, 0))) := by rw [Hid, heap_alloc_old _ _ (lt_of_some HRR.out)]; exact HRR.out
  have HR2 : Hid ((((w.alloc (.cells #[.int .i64 0, .slice none 0 0, .slice none 0 0] 41)).alloc (.cells #[.string (str x)] 9)).alloc (.cells #[.slice none 0 0, .slice none 0 0] 36)).heap[w.heap.size]? = some (.cells #[.int .i64 0, .slice none 0 0, .slice none 0 0] 41 (0, 0))) := by rw [Hid, heap_alloc_old _ _ (lt_of_some HR1.out)]; exact HR1.out
  have HR0 : Hid (((w.alloc (.cells #[.int .i64 0, .slice none 0 0, .slice none 0 0] 41)).alloc (.cells #[.slice none 0 0, .slice none 0 0] 36)).heap[w.heap.size]? = some (.cells #[.int .i64 0, .slice none 0 0, .slice none 0 0] 41 (0, 0))) := by rw [Hid, heap_alloc_old _ _ (lt_of_some HRR.out)]; exact HRR.out
  have HR3 : Hid ((((w.alloc (.cells #[.int .i64 0, .slice none 0 0, .slice none 0 0] 41)).alloc (.cells #[.slice none 0 0, .slice none 0 0] 36)).alloc (.cells #[.string (str x)] 9)).heap[w.heap.size]? = some (.cells #[.int .i64 0, .slice none 0 0, .slice none 0 0] 41 (0, 0))) := by rw [Hid, heap_alloc_old _ _ (lt_of_some HR0.out)]; exact HR0.out
  go_enter Tryd.func30, Tryd.ntmps30
  go_wp2_with fail
  go_region_held3 (fun w' => w'.cell? ⟨b, 0, none⟩ = some (.slice a0 F.texts.length k0) ∧ w'.cell? ⟨b, 1, none⟩ = some (.slice a1 F.lits.length k1)) (first | exact ⟨e6, e7⟩ | exact ⟨e0, e1⟩ | go_keep) ((refine step_more eS (S := F.texts) (m := [x]) (by rfl) (.tmp 12) (.tmp 14) (by rfl) (by rfl) (by rfl) (by rfl) (by exact HF.out.t.later (by repeat (first | exact HB.out | refine Below.alloc ?_ (by first | (simp; done) | (simp; omega)) _ | refine Below.drew ?_))) (by first | exact gl_text HA.out | exact gl_text HA2.out | exact gl_text HA3.out) (by omega) (by simp) (by simp) ?_; intro v' w' hgo hk hn; obtain ⟨a5, c5, rfl⟩ := hgo.slice (n := F.texts.length + 1) (by simp); first | (have tt := end_ahead (q := w.heap.size + 1) (R := w.heap.size) HF.out hk (by repeat (first | exact HB.out | refine Below.alloc ?_ (by first | (simp; done) | (simp; omega)) _ | refine Below.drew ?_)) HR3.out HQ3.out (by omega) (by omega) hgo; obtain ⟨⟨e0, e1, e2, e3, e4, e5, e6, e7⟩, em⟩ := tt) | (have tt := end_ahead (q := w.heap.size + 1 + 1) (R := w.heap.size) HF.out hk (by repeat (first | exact HB.out | refine Below.alloc ?_ (by first | (simp; done) | (simp; omega)) _ | refine Below.drew ?_)) HR2.out HQ2.out (by omega) (by omega) hgo; obtain ⟨⟨e0, e1, e2, e3, e4, e5, e6, e7⟩, em⟩ := tt) | (have tt := end_last (R := w.heap.size) HF.out hk (by repeat (first | exact HB.out | refine Below.alloc ?_ (by first | (simp; done) | (simp; omega)) _ | refine Below.drew ?_)) HR1.out hgo; obtain ⟨⟨e0, e1⟩, em⟩ := tt)))
  all_goals
    obtain ⟨X, hX, hrow⟩ := em.row
    have HC := hid (restart_row hX hrow)
    have EM := hid em
    have hRq : w.heap.size ≠ w'.heap.size := Nat.ne_of_lt (Nat.lt_of_lt_of_le (lt_of_some HRR.out) (Nat.le_trans (by simp) hk.size))
    clear em hrow hX hgo hn e0 e1
    go_wp2_with fail
    refine HC.out.mono ?_
    rintro e w3 ⟨rfl, hf3, hk3⟩
    have tt := end_fin EM.out (own3_mem.2 (.inl rfl)) (by first | omega | exact hRq) hk3 hf3
    obtain ⟨⟨g0, g1, gR, gt, gl⟩, gk⟩ := tt
    obtain ⟨r0, r1, r2, s0, s1, s2⟩ := row41 gR
    obtain ⟨u1, u2⟩ := put41 gR rfl (.int .i64 k) (.slice a5 (F.texts.length + 1) c5) (.slice a1 F.lits.length k1)
    have HG := hid (u2.out gR gt gl hf3 gk (Nat.le_refl _))
    have HU := hid u1
    clear gR gt gl gk hf3 hk3 u1 u2 EM HC hk
    go_wp2_with fail
    refine bodyPost_ret (results30_run _ rfl HU.out) rfl ?_
    exact ⟨⟨_, _, rfl, HG.out.1, HG.out.2.1⟩, HG.out.2.2.1, HG.out.2.2.2⟩
end Go.Proofs.YtikcbgoocljgnaaDoor
