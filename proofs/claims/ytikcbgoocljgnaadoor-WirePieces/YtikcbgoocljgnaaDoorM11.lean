/- What this text holds: a command is refused at a mark. -/
import Derived.Test.YtikcbgoocljgnaaDoorM10
namespace Go.Proofs.YtikcbgoocljgnaaDoor
open Go.RowKit
set_option linter.unusedVariables false
set_option linter.unusedSimpArgs false

theorem keep_blk {w w' : World} {S : List Nat} (k : Kept S w w') {q : Nat} {o : Obj} (h : w.heap[q]? = some o) (hq : q ∉ S) : w'.heap[q]? = some o := by
  rw [k.block q (lt_of_some h) hq]; exact h
/-- The answer is written: an event that was made ahead, and the feed behind it. -/
theorem ev_out {w w5 : World} {b R : Nat} {own own5 : List Nat} {F : Fd} {k : Int} {vT vL : Value} {T L : List Bs} {Y : Array Value} (hR : w5.heap[R]? = some (.cells Y 41 (0, 0))) (hY : Y.size = 3) (hRw : w.heap.size ≤ R) (gt : GO eS w5 0 vT T) (gl : GO eS w5 0 vL L) (hf : FAt w5 b own5 F) (gk : Kept own w w5) (ho : ∀ g ∈ own5, g ∈ own ∨ w.heap.size ≤ g) (n1 : ∀ g, vT.ownBlock = some g → g ∉ own5) (n2 : ∀ g, vL.ownBlock = some g → g ∉ own5) :
    (((w5.setCell ⟨R, 0, none⟩ (.int .i64 k)).setCell ⟨R, 1, none⟩ vT).setCell ⟨R, 2, none⟩ vL).heap[R]? = some (.cells #[.int .i64 k, vT, vL] 41 (0, 0)) ∧
    StepTo w b own F k T L (.returned (.agg #[.int .i64 k, vT, vL])) (((w5.setCell ⟨R, 0, none⟩ (.int .i64 k)).setCell ⟨R, 1, none⟩ vT).setCell ⟨R, 2, none⟩ vL) := by
  obtain ⟨u1, u2⟩ := put41 hR hY (.int .i64 k) vT vL
  obtain ⟨q1, q2, q3, q4⟩ := u2.out hR gt gl hf gk hRw
  exact ⟨u1, vT, vL, own5, rfl, q1, q2, q3, q4, ho, n1, n2⟩
set_option maxRecDepth 100000 in
theorem results37_run {w : World} {A : Nat} {v0 v1 v2 : Value} (tmps : Array Value) (h2 : tmps[6]? = some (.pointer (some ⟨A, 0, none⟩))) (h : w.heap[A]? = some (.cells #[v0, v1, v2] 41 (0, 0))) :
    (results Tryd.f37 tmps).run Tryd.prog w = .ok (.agg #[v0, v1, v2]) w := by
  obtain ⟨x0, x1, x2, _⟩ := row41 h
  simp [results, Tryd.results37, go_sem, h2, x0, x1, x2]
def refuseF (m : Nat) (p : Bool) : Fd := if p = true then letGoF Fd.zero m else Fd.zero
set_option maxRecDepth 100000 in
set_option maxHeartbeats 2000000 in
theorem refuse_any {w : World} {b : Nat} {own : List Nat} {F : Fd} (h : FAt w b own F) (t : Bs) (m : Nat) (p : Bool) (h1 : F.texts.length ≤ 1000) (hm : m ≤ 1000000) :
    Calls Tryd.prog 37 #[.pointer (some ⟨b, 0, none⟩), .string (str t), .agg #[.int .i64 m, .bool p]] w (StepTo w b own (refuseF m p) 3 (F.texts ++ [t]) F.lits) := by
  have hal : Below w.heap.size w ((w.alloc (.cells #[.int .i64 m, .bool p] 75)).alloc (.cells #[.int .i64 0, .slice none 0 0, .slice none 0 0] 41)) := ((Below.refl _ _).alloc (Nat.le_refl _) _).alloc (by simp) _
  have hA := h.below hal
  have HH := hid h
  have HC := hid (end_any hA 3 t h1)
  have hM : ((w.alloc (.cells #[.int .i64 m, .bool p] 75)).alloc (.cells #[.int .i64 0, .slice none 0 0, .slice none 0 0] 41)).heap[w.heap.size]? = some (.cells #[.int .i64 m, .bool p] 75 (0, 0)) := by
    rw [heap_alloc_old _ _ (by simp)]; exact heap_alloc_new _ _
  have hR : ((w.alloc (.cells #[.int .i64 m, .bool p] 75)).alloc (.cells #[.int .i64 0, .slice none 0 0, .slice none 0 0] 41)).heap[w.heap.size + 1]? = some (.cells #[.int .i64 0, .slice none 0 0, .slice none 0 0] 41 (0, 0)) := by
    have := heap_alloc_new (w.alloc (.cells #[.int .i64 m, .bool p] 75)) (.cells #[.int .i64 0, .slice none 0 0, .slice none 0 0] 41)
    rw [World.size_alloc] at this
    exact this
  have nM : w.heap.size ∉ own := h.nR
  have nR : w.heap.size + 1 ∉ own := fun e => by have := h.lt _ e; omega
  have HM := hid hM
  have HR := hid hR
  have HKa := hid (Kept.ofBelow hal own)
  have hbl := h.lt b h.mem
  clear h hal hA hM hR
  go_enter Tryd.func37, Tryd.ntmps37
  go_wp2_with fail
  refine HC.out.mono ?_
  rintro e w3 ⟨⟨vT, vL, rfl, gt, gl⟩, hf, hk⟩
  have hM3 := keep_blk hk HM.out nM
  have hR3 := keep_blk hk HR.out nR
  have hal4 : Below w3.heap.size w3 (w3.alloc (.cells #[.int .i64 3, vT, vL] 41)) := (Below.refl _ _).alloc (Nat.le_refl _) _
  have hM4 : (w3.alloc (.cells #[.int .i64 3, vT, vL] 41)).heap[w.heap.size]? = some (.cells #[.int .i64 m, .bool p] 75 (0, 0)) := by rw [heap_alloc_old _ _ (lt_of_some hM3)]; exact hM3
  have hR4 : (w3.alloc (.cells #[.int .i64 3, vT, vL] 41)).heap[w.heap.size + 1]? = some (.cells #[.int .i64 0, .slice none 0 0, .slice none 0 0] 41 (0, 0)) := by rw [heap_alloc_old _ _ (lt_of_some hR3)]; exact hR3
  have hT4 : (w3.alloc (.cells #[.int .i64 3, vT, vL] 41)).heap[w3.heap.size]? = some (.cells #[.int .i64 3, vT, vL] 41 (0, 0)) := heap_alloc_new _ _
  have m0 := row_at hM4 0 (v := .int .i64 m) rfl
  have m1 := row_at hM4 1 (v := .bool p) rfl
  obtain ⟨aT, kT, hvT⟩ := gt.slice (n := F.texts.length + 1) (by simp)
  obtain ⟨aL, kL, hvL⟩ := gl.slice (n := F.lits.length) rfl
  have hf4 := hf.below hal4
  have gt4 := gt.later hal4
  have gl4 := gl.later hal4
  have gk4 : Kept own w (w3.alloc (.cells #[.int .i64 3, vT, vL] 41)) := (HKa.out.trans hk (fun _ _ h => h)).trans (Kept.alloc _ _ _) (fun _ _ h => h)
  have n1 : ∀ g, vT.ownBlock = some g → g ≠ b := fun g hg e => by
    obtain ⟨x1, x2, x3, f, _⟩ := hf
    subst e
    exact gt.ne (by decide) f.row hg
  have n2 : ∀ g, vL.ownBlock = some g → g ≠ b := fun g hg e => by
    obtain ⟨x1, x2, x3, f, _⟩ := hf
    subst e
    exact gl.ne (by decide) f.row hg
  subst hvT hvL
  cases p with
  | true =>
    have HL := hid (letGo_any hf4 m hm)
    have HT4 := hid hT4
    have HR4 := hid hR4
    have HG := hid (And.intro gt4 (And.intro gl4 gk4))
    have HN := hid (And.intro n1 n2)
    have hb3 : w3.heap.size ≠ b := fun e => by have := HKa.out.size; have := hk.size; simp at *; omega
    clear hf gt gl hk hM3 hR3 hal4 hM4 hR4 hT4 hf4 gt4 gl4 gk4 n1 n2 HC
    go_wp2_with fail
    refine HL.out.mono ?_
    rintro e w5 ⟨rfl, own5, hf5, hk5, ho5⟩
    have hR5 := keep_blk hk5 HR4.out (by rw [List.mem_singleton]; omega)
    have hT5 := keep_blk hk5 HT4.out (by rw [List.mem_singleton]; exact hb3)
    obtain ⟨t0, t1, t2, _⟩ := row41 hT5
    obtain ⟨r0, r1, r2, s0, s1, s2⟩ := row41 hR5
    have z4 : w3.heap.size < (w3.alloc (.cells #[.int .i64 3, .slice aT (F.texts.length + 1) kT, .slice aL F.lits.length kL] 41)).heap.size := by simp
    have q := ev_out (w := w) (own := own) (k := 3) hR5 rfl (by omega) (HG.out.1.kept hk5 (fun g hg => by rw [List.mem_singleton]; exact HN.out.1 g hg)) (HG.out.2.1.kept hk5 (fun g hg => by rw [List.mem_singleton]; exact HN.out.2 g hg)) hf5 (HG.out.2.2.trans hk5 (fun i _ hi => by rw [List.mem_singleton] at hi; rw [hi]; exact HH.out.mem))
      (fun g hg => by
        rcases ho5 g hg with e | e
        · rw [List.mem_singleton] at e; rw [e]; exact .inl HH.out.mem
        · right; have := HG.out.2.2.size; omega)
      (fun g hg hm => by
        rcases ho5 g hm with e | e
        · rw [List.mem_singleton] at e; exact HN.out.1 g hg e
        · have := HG.out.1.lt hg; omega)
      (fun g hg hm => by
        rcases ho5 g hm with e | e
        · rw [List.mem_singleton] at e; exact HN.out.2 g hg e
        · have := HG.out.2.1.lt hg; omega)
    have HU := hid q.1
    have HS := hid q.2
    clear hf5 hk5 ho5 hR5 hT5 q HL
    go_wp2_with fail
    exact bodyPost_ret (results37_run _ rfl HU.out) rfl HS.out
  | false =>
    obtain ⟨t0, t1, t2, _⟩ := row41 hT4
    obtain ⟨r0, r1, r2, s0, s1, s2⟩ := row41 hR4
    have q := ev_out (w := w) (own := own) (k := 3) hR4 rfl (by omega) gt4 gl4 hf4 gk4 (fun g hg => by rw [List.mem_singleton] at hg; rw [hg]; exact .inl HH.out.mem) (fun g hg => by rw [List.mem_singleton]; exact n1 g hg) (fun g hg => by rw [List.mem_singleton]; exact n2 g hg)
    have HU := hid q.1
    have HS := hid q.2
    clear hf gt gl hk hM3 hR3 hal4 hM4 hR4 hT4 hf4 gt4 gl4 gk4 n1 n2 HC q
    go_wp2_with fail
    exact bodyPost_ret (results37_run _ rfl HU.out) rfl HS.out
end Go.Proofs.YtikcbgoocljgnaaDoor
