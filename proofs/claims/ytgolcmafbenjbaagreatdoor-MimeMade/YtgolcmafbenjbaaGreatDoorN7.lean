/- What this text holds: lines one by one, by a closure: the program's calls. -/
import Derived.Test.YtgolcmafbenjbaaGreatDoorN6
namespace Go.Proofs.YtgolcmafbenjbaaGreatDoor
open Go.RowKit
set_option linter.unusedVariables false
set_option linter.unusedSimpArgs false

set_option maxRecDepth 100000 in
theorem results102_run {w : World} {A : Nat} {x y : Int} {v : Value} (tmps : Array Value) (h2 : tmps[2]? = some (.pointer (some ⟨A, 0, none⟩))) (h3 : tmps[3]? = some v) (hA : I2 w A x y) :
    (results Tryz.f102 tmps).run Tryz.prog w = .ok (.tuple #[.agg #[.int .i64 x, .int .i64 y], v]) w := by
  have c0 := hA.c0
  have c1 := hA.c1
  simp [results, Tryz.results102, go_sem, h2, h3, c0, c1]
theorem set_kept {S : List Nat} {w w' : World} {A o : Nat} {v : Value} (k : Kept S w w') (h : A ∈ S ∨ w.heap.size ≤ A) : Kept S w (w'.setCell ⟨A, o, none⟩ v) :=
  k.trans (Kept.setCell [A] w' ⟨A, o, none⟩ v (by simp)) (fun i hi hm => by
    rw [List.mem_singleton] at hm
    rcases h with h | h
    · rw [hm]; exact h
    · omega)
theorem I2.set0 {w : World} {A : Nat} {x y : Int} (h : I2 w A x y) (x' : Int) : I2 (w.setCell ⟨A, 0, none⟩ (.int .i64 x')) A x' y := by
  unfold I2; rw [heap_setCell_same _ _ _ _ _ _ h]; rfl
theorem I2.set1 {w : World} {A : Nat} {x y : Int} (h : I2 w A x y) (y' : Int) : I2 (w.setCell ⟨A, 1, none⟩ (.int .i64 y')) A x y' := by
  unfold I2; rw [heap_setCell_same _ _ _ _ _ _ h]; rfl
theorem I2.other {w : World} {A C o : Nat} {x y : Int} (h : I2 w A x y) (v : Value) (hn : C ≠ A) : I2 (w.setCell ⟨C, o, none⟩ v) A x y := by
  unfold I2; rw [Below.heap_setCell _ _ _ _ (fun e => hn e.symm)]; exact h
theorem G1.other {w : World} {A C o : Nat} {m : Bs} (h : G1 w A m) (v : Value) (hn : C ≠ A) : G1 (w.setCell ⟨C, o, none⟩ v) A m := by
  unfold G1; rw [Below.heap_setCell _ _ _ _ (fun e => hn e.symm)]; exact h
theorem eol_none {m : Bs} {a b : Nat} (h2 : b ≤ m.length) (h1 : a ≤ b) (h : Go.Lib.indexByte (inn m a b) 10 = -1) : eol m a b = b := by
  unfold eol
  rw [ln_none _ h, inn_len _ _ _ h2]
  omega
theorem eol_some {m : Bs} {a b k : Nat} (h : Go.Lib.indexByte (inn m a b) 10 = (k : Int)) : eol m a b = a + k + 1 := by
  unfold eol
  rw [ln_some _ k h]
  omega

set_option maxRecDepth 100000 in
set_option maxHeartbeats 4000000 in
theorem next_any {w : World} {L M a b : Nat} {m : Bs} (hL : I2 w L a b) (hM : G1 w M m) (h1 : a ≤ b) (h2 : b ≤ m.length) (hm : m.length ≤ 1000000) :
    Calls Tryz.prog 102 #[.pointer (some ⟨L, 0, none⟩), .pointer (some ⟨M, 0, none⟩)] w fun e w' => e = .returned (.tuple #[spV a (eol m a b), .bool (decide (a < eol m a b))]) ∧ I2 w' L (eol m a b) b ∧ Kept [L] w w' := by
  have l0 := hL.c0
  have l1 := hL.c1
  have m0 := hM.c0
  have HC := hid (fun W => in_any m a b W h1 h2 hm)
  have HIx := hid (fun W => Tryz.strings_IndexByte (str (inn m a b)) 10 W)
  have e10 : (10 : Int).toNat.toUInt8 = 10 := rfl
  rw [e10, str_data] at HIx
  have hge := Go.Lib.indexByte_ge (inn m a b) 10
  have hel := eol_le m a b h2 h1
  have hLlt := hL.lt
  have hMlt := hM.lt
  have hQL : ¬ w.heap.size + 1 = L := by omega
  have hRL : ¬ w.heap.size = L := by omega
  have hQR : ¬ w.heap.size + 1 = w.heap.size := by omega
  have HQB : Hid (w.heap.size ≤ w.heap.size + 1) := by rw [Hid]; omega
  have hQ : I2 ((w.alloc (.cells #[.int .i64 0, .int .i64 0] 62)).alloc (.cells #[.int .i64 a, .int .i64 b] 62)) (w.heap.size + 1) a b := by
    have := i2_new (w.alloc (.cells #[.int .i64 0, .int .i64 0] 62)) a b
    simpa using this
  have hR : I2 ((w.alloc (.cells #[.int .i64 0, .int .i64 0] 62)).alloc (.cells #[.int .i64 a, .int .i64 b] 62)) w.heap.size 0 0 := (i2_new w 0 0).later ((Below.refl _ _).alloc (Nat.le_refl _) _)
  have hB := below2 w (.cells #[.int .i64 0, .int .i64 0] 62) (.cells #[.int .i64 a, .int .i64 b] 62)
  have HL := hid (hL.below hB hLlt)
  have HM := hid (hM.later hB)
  have HQ := hid hQ
  have HR := hid hR
  have HB := hid hB
  unfold spV msgV at *
  clear hL hM hQ hR hB
  go_enter Tryz.func102, Tryz.ntmps102
  go_wp2_with fail
  generalize ((w.alloc (.cells #[.int .i64 0, .int .i64 0] 62)).alloc (.cells #[.int .i64 a, .int .i64 b] 62)) = W at *
  refine (HC.out W).mono ?_
  rintro e w1 ⟨rfl, hb1⟩
  have hl1 := HL.out.later hb1
  have hq1 := HQ.out.later hb1
  have hr1 := HR.out.later hb1
  have p0 := hl1.c0
  have p1 := hl1.c1
  have pf := hl1.fz
  have q0 := hq1.c0
  have q1 := hq1.c1
  have qf := hq1.fz
  have r0 := hr1.c0
  have r1 := hr1.c1
  have rf := hr1.fz
  have HL1 := hid hl1
  have HQ1 := hid hq1
  have HR1 := hid hr1
  have HK1 := hid (Kept.ofBelow ((HB.out.trans (hb1.mono HB.out.size))) [L])
  clear hl1 hq1 hr1 hb1
  go_wp2_with fail
  refine (HIx.out w1).mono ?_
  rintro e w2 ⟨rfl, rfl⟩
  by_cases h0 : Go.Lib.indexByte (inn m a b) 10 = -1
  · have HE := hid (eol_none h2 h1 h0)
    rw [h0]
    go_wp2_with fail
    have hvL : I2 (w2.setCell ⟨L, 0, none⟩ (.int .i64 b)) L (b : Nat) b := HL1.out.set0 _
    have hvQ : I2 (w2.setCell ⟨L, 0, none⟩ (.int .i64 b)) (w.heap.size + 1) a (b : Nat) := HQ1.out.other _ (fun e => hQL e.symm)
    have hvR : I2 (w2.setCell ⟨L, 0, none⟩ (.int .i64 b)) w.heap.size 0 0 := HR1.out.other _ (fun e => hRL e.symm)
    have HKv : Hid (Kept [L] w (w2.setCell ⟨L, 0, none⟩ (.int .i64 b))) := set_kept HK1.out (.inl (by simp))
    generalize w2.setCell ⟨L, 0, none⟩ (.int .i64 b) = X at *
    have HVL := hid hvL
    have HVR := hid hvR
    have x0 := hvQ.c0
    have x1 := hvQ.c1
    have y0 := hvR.c0
    have y1 := hvR.c1
    have yf := hvR.fz
    clear hvL hvQ hvR p0 p1 pf q0 q1 qf r0 r1 rf
    go_region
    all_goals
      go_wp2_with fail
      have z1 := puti_is (show I2 X.drew w.heap.size 0 0 from HVR.out) a (b : Nat)
      refine bodyPost_ret (w := puti X.drew w.heap.size a (b : Nat)) (results102_run _ rfl rfl z1) rfl ?_
      rw [HE.out]
      refine ⟨?_, (show I2 X.drew L (b : Nat) b from HVL.out).kept (puti_self _ _ _ _) ?_, puti_kept _ _ _ (HKv.out.trans (Kept.drew [L] X) (fun i _ hi => hi)) (Nat.le_refl _)⟩
      · have hd : decide ((a : Int) < ((b : Nat) : Int)) = decide (a < b) := by rw [Bool.eq_iff_iff]; simp only [decide_eq_true_eq]; omega
        rw [← hd]
        rfl
      · rw [List.mem_singleton]; exact fun e => hRL e.symm
  · obtain ⟨k, hk⟩ : ∃ k : Nat, Go.Lib.indexByte (inn m a b) 10 = (k : Int) := ⟨(Go.Lib.indexByte (inn m a b) 10).toNat, by omega⟩
    have HE := hid (eol_some hk)
    have hkb : (a : Int) + k + 1 ≤ 1000000 := by have := HE.out; omega
    rw [hk]
    go_wp2_with fail
    have hvL : I2 ((w2.setCell ⟨w.heap.size + 1, 1, none⟩ (.int .i64 ((a : Int) + k + 1))).setCell ⟨L, 0, none⟩ (.int .i64 ((a : Int) + k + 1))) L (a + k + 1 : Nat) b := (HL1.out.other _ hQL).set0 _
    have hvQ : I2 ((w2.setCell ⟨w.heap.size + 1, 1, none⟩ (.int .i64 ((a : Int) + k + 1))).setCell ⟨L, 0, none⟩ (.int .i64 ((a : Int) + k + 1))) (w.heap.size + 1) a (a + k + 1 : Nat) := (HQ1.out.set1 _).other _ (fun e => hQL e.symm)
    have hvR : I2 ((w2.setCell ⟨w.heap.size + 1, 1, none⟩ (.int .i64 ((a : Int) + k + 1))).setCell ⟨L, 0, none⟩ (.int .i64 ((a : Int) + k + 1))) w.heap.size 0 0 := (HR1.out.other _ hQR).other _ (fun e => hRL e.symm)
    have HKv : Hid (Kept [L] w ((w2.setCell ⟨w.heap.size + 1, 1, none⟩ (.int .i64 ((a : Int) + k + 1))).setCell ⟨L, 0, none⟩ (.int .i64 ((a : Int) + k + 1)))) := set_kept (set_kept HK1.out (.inr (by omega))) (.inl (by simp))
    generalize (w2.setCell ⟨w.heap.size + 1, 1, none⟩ (.int .i64 ((a : Int) + k + 1))).setCell ⟨L, 0, none⟩ (.int .i64 ((a : Int) + k + 1)) = X at *
    have HVL := hid hvL
    have HVR := hid hvR
    have x0 := hvQ.c0
    have x1 := hvQ.c1
    have y0 := hvR.c0
    have y1 := hvR.c1
    have yf := hvR.fz
    clear hvL hvQ hvR p0 p1 pf q0 q1 qf r0 r1 rf
    go_region
    all_goals
      go_wp2_with fail
      have z1 := puti_is (show I2 X.drew w.heap.size 0 0 from HVR.out) a (a + k + 1 : Nat)
      refine bodyPost_ret (w := puti X.drew w.heap.size a (a + k + 1 : Nat)) (results102_run _ rfl rfl z1) rfl ?_
      rw [HE.out]
      refine ⟨?_, (show I2 X.drew L (a + k + 1 : Nat) b from HVL.out).kept (puti_self _ _ _ _) ?_, puti_kept _ _ _ (HKv.out.trans (Kept.drew [L] X) (fun i _ hi => hi)) (Nat.le_refl _)⟩
      · have hd : decide ((a : Int) < ((a + k + 1 : Nat) : Int)) = decide (a < a + k + 1) := by rw [Bool.eq_iff_iff]; simp only [decide_eq_true_eq]; omega
        rw [← hd]
        rfl
      · rw [List.mem_singleton]; exact fun e => hRL e.symm
end Go.Proofs.YtgolcmafbenjbaaGreatDoor
