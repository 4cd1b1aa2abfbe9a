/- What this text holds: a text ahead of a border: the program's call. -/
import Derived.Test.YtgolcmafbenjbaaGreatDoorN5
namespace Go.Proofs.YtgolcmafbenjbaaGreatDoor
open Go.RowKit
set_option linter.unusedVariables false
set_option linter.unusedSimpArgs false

/-- Two numbers in a block. -/
def I2 (w : World) (A : Nat) (x y : Int) : Prop := w.heap[A]? = some (.cells #[.int .i64 x, .int .i64 y] 62 (0, 0))
theorem I2.c0 {w : World} {A : Nat} {x y : Int} (h : I2 w A x y) : w.cell? ⟨A, 0, none⟩ = some (.int .i64 x) := by simp [World.cell?, show w.heap[A]? = _ from h]
theorem I2.c1 {w : World} {A : Nat} {x y : Int} (h : I2 w A x y) : w.cell? ⟨A, 1, none⟩ = some (.int .i64 y) := by simp [World.cell?, show w.heap[A]? = _ from h]
theorem I2.fz {w : World} {A : Nat} {x y : Int} (h : I2 w A x y) : ∀ k, w.frozen? ⟨A, k, none⟩ = false := fun k => by simp [World.frozen?, show w.heap[A]? = _ from h]
theorem I2.lt {w : World} {A : Nat} {x y : Int} (h : I2 w A x y) : A < w.heap.size := lt_of_some h
theorem I2.kept {S : List Nat} {w w' : World} {A : Nat} {x y : Int} (h : I2 w A x y) (k : Kept S w w') (hn : A ∉ S) : I2 w' A x y := (k.block A (lt_of_some h) hn).trans h
theorem I2.later {w w' : World} {A : Nat} {x y : Int} (h : I2 w A x y) (hb : Below w.heap.size w w') : I2 w' A x y := (hb.block A (lt_of_some h)).trans h
theorem I2.below {B : Nat} {w w' : World} {A : Nat} {x y : Int} (h : I2 w A x y) (hb : Below B w w') (hA : A < B) : I2 w' A x y := (hb.block A hA).trans h
theorem I2.drew {w : World} {A : Nat} {x y : Int} (h : I2 w A x y) : I2 w.drew A x y := h
theorem i2_new (w : World) (x y : Int) : I2 (w.alloc (.cells #[.int .i64 x, .int .i64 y] 62)) w.heap.size x y := heap_alloc_new _ _
def puti (w : World) (A : Nat) (x y : Int) : World := (w.setCell ⟨A, 0, none⟩ (.int .i64 x)).setCell ⟨A, 1, none⟩ (.int .i64 y)
theorem puti_is {w : World} {A : Nat} {x y : Int} (h : I2 w A x y) (x' y' : Int) : I2 (puti w A x' y') A x' y' := by
  unfold puti I2
  rw [heap_setCell_same _ _ _ _ _ _ (heap_setCell_same _ _ _ _ _ _ h)]
  rfl
theorem puti_self (w : World) (A : Nat) (x y : Int) : Kept [A] w (puti w A x y) := (Kept.setCell [A] w ⟨A, 0, none⟩ _ (by simp)).trans (Kept.setCell [A] _ ⟨A, 1, none⟩ _ (by simp)) (fun i _ hi => hi)
theorem puti_kept {S : List Nat} {w w' : World} (A : Nat) (x y : Int) (k : Kept S w w') (hA : w.heap.size ≤ A) : Kept S w (puti w' A x y) :=
  k.trans (puti_self w' A x y) (fun i hi hm => by simp at hm; omega)
theorem puti_below {w w' : World} {B : Nat} (A : Nat) (x y : Int) (h : Below B w w') (hA : B ≤ A) (hB : B ≤ w'.heap.size) : Below B w (puti w' A x y) := below_kept h (puti_self w' A x y) (by simp; exact hA) hB
/-- One string in a block: a message. -/
def G1 (w : World) (A : Nat) (m : Bs) : Prop := w.heap[A]? = some (.cells #[.string (str m)] 55 (0, 0))
theorem G1.c0 {w : World} {A : Nat} {m : Bs} (h : G1 w A m) : w.cell? ⟨A, 0, none⟩ = some (.string (str m)) := by simp [World.cell?, show w.heap[A]? = _ from h]
theorem G1.lt {w : World} {A : Nat} {m : Bs} (h : G1 w A m) : A < w.heap.size := lt_of_some h
theorem G1.later {w w' : World} {A : Nat} {m : Bs} (h : G1 w A m) (hb : Below w.heap.size w w') : G1 w' A m := (hb.block A (lt_of_some h)).trans h
theorem G1.kept {S : List Nat} {w w' : World} {A : Nat} {m : Bs} (h : G1 w A m) (k : Kept S w w') (hn : A ∉ S) : G1 w' A m := (k.block A (lt_of_some h) hn).trans h
theorem g1_new (w : World) (m : Bs) : G1 (w.alloc (.cells #[.string (str m)] 55)) w.heap.size m := heap_alloc_new _ _

set_option maxRecDepth 100000 in
theorem results88_run {w : World} {A : Nat} {x y : Int} (tmps : Array Value) (h2 : tmps[4]? = some (.pointer (some ⟨A, 0, none⟩))) (hA : I2 w A x y) :
    (results Tryz.f88 tmps).run Tryz.prog w = .ok (.agg #[.int .i64 x, .int .i64 y]) w := by
  have c0 := hA.c0
  have c1 := hA.c1
  simp [results, Tryz.results88, go_sem, h2, c0, c1]

set_option maxRecDepth 100000 in
set_option maxHeartbeats 4000000 in
theorem without_any (m : Bs) (a b : Nat) (w : World) (h1 : a ≤ b) (h2 : b ≤ m.length) (hm : m.length ≤ 1000000) :
    Calls Tryz.prog 88 #[msgV m, spV a b] w fun e w' => e = .returned (spV a (a + (bare (inn m a b)).length)) ∧ Below w.heap.size w w' := by
  have hbl := bare_len (inn m a b)
  have hil := inn_le m a b
  have HC := hid (fun W => in_any m a b W h1 h2 hm)
  unfold msgV spV at *
  have HE := hid (fun W => endl_any (inn m a b) W (by omega))
  generalize inn m a b = t at *
  have hsz := str_size (bare t)
  generalize bare t = u at *
  have hwr : IntKind.i64.wrap ((a : Int) + u.length) = a + u.length := by rw [IntKind.wrap_i64]; omega
  go_enter Tryz.func88, Tryz.ntmps88
  go_wp2_with fail
  have hg : G1 (((w.alloc (.cells #[.string (str m)] 55)).alloc (.cells #[.int .i64 a, .int .i64 b] 62)).alloc (.cells #[.int .i64 0, .int .i64 0] 62)) w.heap.size m := by
    have := ((g1_new w m).later ((Below.refl _ _).alloc (Nat.le_refl _) (.cells #[.int .i64 a, .int .i64 b] 62))).later ((Below.refl _ _).alloc (Nat.le_refl _) (.cells #[.int .i64 0, .int .i64 0] 62))
    exact this
  have hi : I2 (((w.alloc (.cells #[.string (str m)] 55)).alloc (.cells #[.int .i64 a, .int .i64 b] 62)).alloc (.cells #[.int .i64 0, .int .i64 0] 62)) (w.heap.size + 1) a b := by
    have := (i2_new (w.alloc (.cells #[.string (str m)] 55)) a b).later ((Below.refl _ _).alloc (Nat.le_refl _) (.cells #[.int .i64 0, .int .i64 0] 62))
    simpa using this
  have hr : I2 (((w.alloc (.cells #[.string (str m)] 55)).alloc (.cells #[.int .i64 a, .int .i64 b] 62)).alloc (.cells #[.int .i64 0, .int .i64 0] 62)) (w.heap.size + 1 + 1) 0 0 := by
    have := i2_new ((w.alloc (.cells #[.string (str m)] 55)).alloc (.cells #[.int .i64 a, .int .i64 b] 62)) 0 0
    simpa using this
  have HB : Hid (Below w.heap.size w (((w.alloc (.cells #[.string (str m)] 55)).alloc (.cells #[.int .i64 a, .int .i64 b] 62)).alloc (.cells #[.int .i64 0, .int .i64 0] 62))) := (below2 w _ _).alloc (by simp; omega) _
  generalize (((w.alloc (.cells #[.string (str m)] 55)).alloc (.cells #[.int .i64 a, .int .i64 b] 62)).alloc (.cells #[.int .i64 0, .int .i64 0] 62)) = W at *
  have hQR : ¬ w.heap.size + 1 = w.heap.size + 1 + 1 := by omega
  have hPR : ¬ w.heap.size = w.heap.size + 1 + 1 := by omega
  have HRB : Hid (w.heap.size ≤ w.heap.size + 1 + 1) := by rw [Hid]; omega
  generalize w.heap.size + 1 + 1 = R at *
  generalize w.heap.size + 1 = Q at *
  have hQR' : ¬ R = Q := fun e => hQR e.symm
  have hPR' : ¬ R = w.heap.size := fun e => hPR e.symm
  have HG : Hid (G1 W.drew w.heap.size m) := hg
  have HI : Hid (I2 W.drew Q a b) := hi
  have HR : Hid (I2 W.drew R 0 0) := hr
  have HBd : Hid (Below w.heap.size w W.drew) := HB.out.drew
  have g0 := hg.c0
  have i0 := hi.c0
  have i1 := hi.c1
  clear hg hi hr h1 h2 hbl hil
  go_region_held3 (fun w' => w'.cell? ⟨w.heap.size, 0, none⟩ = some (.string (str m)) ∧ w'.cell? ⟨Q, 0, none⟩ = some (.int .i64 a) ∧ w'.cell? ⟨Q, 1, none⟩ = some (.int .i64 b)) (first | exact ⟨k0, k1, k2⟩ | exact ⟨g0, i0, i1⟩ | go_keep) (first | (go_at_call 49; refine (HC.out _).mono ?_; rintro e w1 ⟨rfl, hb1⟩; have k0 := (HG.out.later hb1).c0; have k1 := (HI.out.later hb1).c0; have k2 := (HI.out.later hb1).c1; have hr1 := HR.out.later hb1; have q0 := hr1.c0; have q1 := hr1.c1; have qf := hr1.fz; have HR1 := hid hr1; have HB1 := hid (HBd.out.trans (hb1.mono HBd.out.size)); clear hr1 hb1) | (go_at_call 105; refine (HE.out _).mono ?_; rintro e w1 ⟨rfl, rfl⟩))
  all_goals
    go_wp2_with fail
    have p1 := puti_is HR1.out a (a + u.length)
    refine bodyPost_ret (w := puti w1 R a (a + u.length)) (results88_run _ rfl p1) rfl ?_
    exact ⟨by simp, puti_below _ _ _ HB1.out HRB.out HB1.out.size⟩
end Go.Proofs.YtgolcmafbenjbaaGreatDoor
