/- What this text holds: the texts between borders: the program's call. -/
import Derived.Test.YtgolcmafbenjbaaGreatDoorN8
namespace Go.Proofs.YtgolcmafbenjbaaGreatDoor
open Go.RowKit
set_option linter.unusedVariables false
set_option linter.unusedSimpArgs false

def nextV (L M : Nat) : Value := .func (.func 102) #[] #[.pointer (some ⟨L, 0, none⟩), .pointer (some ⟨M, 0, none⟩)]
set_option maxRecDepth 100000 in
set_option maxHeartbeats 1000000 in
theorem lines_any (m : Bs) (a b : Nat) (w : World) :
    Calls Tryz.prog 86 #[msgV m, spV a b] w fun e w' => (∃ L M, e = .returned (nextV L M) ∧ I2 w' L a b ∧ G1 w' M m ∧ w.heap.size ≤ L ∧ w.heap.size ≤ M) ∧ Below w.heap.size w w' := by
  have HB := hid (below2 w (.cells #[.string (str m)] 55) (.cells #[.int .i64 a, .int .i64 b] 62))
  have HG : Hid (G1 ((w.alloc (.cells #[.string (str m)] 55)).alloc (.cells #[.int .i64 a, .int .i64 b] 62)) w.heap.size m) := (g1_new w m).later ((Below.refl _ _).alloc (Nat.le_refl _) _)
  have HI : Hid (I2 ((w.alloc (.cells #[.string (str m)] 55)).alloc (.cells #[.int .i64 a, .int .i64 b] 62)) (w.heap.size + 1) a b) := by
    rw [Hid]
    have := i2_new (w.alloc (.cells #[.string (str m)] 55)) a b
    simpa using this
  unfold msgV spV
  go_enter Tryz.func86, Tryz.ntmps86
  go_wp2_with fail
  go_ret
  exact ⟨⟨w.heap.size + 1, w.heap.size, rfl, HI.out, HG.out, by omega, Nat.le_refl _⟩, HB.out⟩

theorem call102 (args : Array Value) (w : World) : (callFunc 102 args).run Tryz.prog w = .ok (.enter 102 args) w := by simp [go_sem]
def leftI (L b : Nat) (w : World) : Nat := match w.cell? ⟨L, 0, none⟩ with
  | some (.int _ x) => b - x.toNat
  | _ => 0
theorem leftI_is {L b : Nat} {w : World} {x y : Nat} (h : I2 w L x y) : leftI L b w = b - x := by
  unfold leftI
  rw [h.c0]
  simp
def isOpen : Option Nat → Bool
  | some _ => true
  | none => false
set_option maxRecDepth 100000 in
set_option maxHeartbeats 8000000 in
theorem between_any (m beg : Bs) (a b : Nat) (w : World) (h1 : a ≤ b) (h2 : b ≤ m.length) (hm : m.length ≤ 1000000) :
    Calls Tryz.prog 73 #[msgV m, spV a b, .string (str beg)] w fun e w' => (∃ v, e = .returned v ∧ SpL w' v (betM m beg a b)) ∧ Below w.heap.size w w' := by
  have HLi := hid (fun W => lines_any m a b W)
  have HBr := hid (fun x y W => border_any (inn m x y) beg W (by have := inn_le m x y; omega))
  have HIn := hid (fun x y W (hx : x ≤ y) (hy : y ≤ m.length) => in_any m x y W hx hy hm)
  have HWo := hid (fun x y W (hx : x ≤ y) (hy : y ≤ m.length) => without_any m x y W hx hy hm)
  have HNx := hid (fun W L M (x : Nat) (hL : I2 W L x b) (hM : G1 W M m) (hx : x ≤ b) => next_any hL hM hx h2 hm)
  have hc102 := call102
  have HP0 : Hid (G1 (((w.alloc (.cells #[.string (str m)] 55)).alloc (.cells #[.int .i64 a, .int .i64 b] 62)).alloc (.cells #[.int .i64 a, .int .i64 b] 62)) w.heap.size m) := ((g1_new w m).later ((Below.refl _ _).alloc (Nat.le_refl _) _)).later ((Below.refl _ _).alloc (Nat.le_refl _) _)
  have HR0 : Hid (I2 (((w.alloc (.cells #[.string (str m)] 55)).alloc (.cells #[.int .i64 a, .int .i64 b] 62)).alloc (.cells #[.int .i64 a, .int .i64 b] 62)) (w.heap.size + 1 + 1) a b) := by
    rw [Hid]
    have := i2_new ((w.alloc (.cells #[.string (str m)] 55)).alloc (.cells #[.int .i64 a, .int .i64 b] 62)) a b
    simpa using this
  have HB0 : Hid (Below w.heap.size w (((w.alloc (.cells #[.string (str m)] 55)).alloc (.cells #[.int .i64 a, .int .i64 b] 62)).alloc (.cells #[.int .i64 a, .int .i64 b] 62))) := (below2 w _ _).alloc (by simp; omega) _
  unfold msgV spV at *
  go_enter Tryz.func73, Tryz.ntmps73
  go_wp2_with fail
  generalize (((w.alloc (.cells #[.string (str m)] 55)).alloc (.cells #[.int .i64 a, .int .i64 b] 62)).alloc (.cells #[.int .i64 a, .int .i64 b] 62)) = W0 at *
  refine (HLi.out W0).mono ?_
  rintro e w1 ⟨⟨L, M, rfl, hl, hg, hL, hM⟩, hb1⟩
  have HL1 := hid hl
  have HM1 := hid hg
  have HR1 := hid (HR0.out.later hb1)
  have HP1 := hid (HP0.out.later hb1)
  have HB1 := hid (HB0.out.trans (hb1.mono HB0.out.size))
  have HRlt := hid HR0.out.lt
  have HPlt := hid HP0.out.lt
  have HNc := hid (HNx.out w1 L M a hl hg h1)
  have HLg := hid hL
  have HMg := hid hM
  have HRB : Hid (w.heap.size ≤ w.heap.size + 1 + 1) := by rw [Hid]; omega
  have HRP : Hid (w.heap.size + 1 + 1 ≠ w.heap.size) := by rw [Hid]; omega
  generalize w.heap.size + 1 + 1 = R at *
  unfold nextV
  clear hl hg hL hM hb1
  go_wp2_with fail
  refine HNc.out.mono ?_
  rintro e w2 ⟨rfl, hl, hk⟩
  have HI : Hid (BtAt w (w2.alloc (.cells #[.int .i64 a, .int .i64 (eol m a b)] 62)) w.heap.size R L M w2.heap.size (.slice none 0 0) m a b a (eol m a b) []) := by
    have bA : Below w2.heap.size w2 (w2.alloc (.cells #[.int .i64 a, .int .i64 (eol m a b)] 62)) := (Below.refl _ _).alloc (Nat.le_refl _) _
    have e1 := HRlt.out
    have e2 := HPlt.out
    have e3 := HLg.out
    have e4 := HMg.out
    have e5 := hk.size
    have e6 := HB0.out.size
    have e7 := HB1.out.size
    have e8 := HL1.out.lt
    have e9 := HRB.out
    have eM : M ≠ L := by
      intro e
      subst e
      have x1 := HM1.out
      have x2 := HL1.out
      unfold G1 at x1
      unfold I2 at x2
      rw [x1] at x2
      simp at x2
    have eRL : R ≠ L := by omega
    have ePL : w.heap.size ≠ L := by omega
    have bk := below_kept HB1.out hk (by simp; omega) e7
    have e10 := HR1.out.lt
    have e11 := HM1.out.lt
    refine ⟨SpO.nil _ _, (HR1.out.kept hk (by simpa using eRL)).later bA, i2_new _ _ _, hl.later bA, (HP1.out.kept hk (by simpa using ePL)).later bA, (HM1.out.kept hk (by simpa using eM)).later bA, bk.alloc bk.size _, by simp [Value.ownBlock], ⟨by omega, by omega, by omega⟩, ⟨eRL, ePL, eM, by omega, by omega, HRP.out, by omega⟩⟩
  clear hl hk HL1 HM1 HR1 HP1 HB1 HR0 HP0 HB0 HRlt HPlt HLg HMg HNc HRB HRP
  go_wp2_with fail
  go_loopw [7, 9, 11, 12] (fun v o ab is wr => ∃ (done : List (Nat × Nat)) (op : Option Nat) (A p : Nat), o = .bool (isOpen op) ∧ ab = .pointer (some ⟨A, 0, none⟩) ∧ is = .bool (decide (p < eol m p b)) ∧ BtAt w wr w.heap.size R L M A v m (op.getD a) b p (eol m p b) done ∧ betM m beg a b = done ++ betR m beg b p op ∧ a ≤ p ∧ p ≤ b ∧ (∀ f, op = some f → a ≤ f ∧ f ≤ p) ∧ done.length ≤ p - a) (fun _ _ _ is wr => leftI L b wr + boolN is)
  case atStart => exact ⟨[], none, w2.heap.size, a, rfl, rfl, by simp, HI.out, rfl, Nat.le_refl _, h1, by simp, by simp⟩
  case round =>
    obtain ⟨done, op, A, p, rfl, rfl, rfl, hbt, hbe, hap, hpb, hop, hdl⟩ := hrel
    have HI2 := hid hbt
    have HBe := hid hbe
    have HOp := hid hop
    have HDl := hid hdl
    have HAp := hid hap
    have HLI : Hid (leftI L b wr = b - eol m p b) := leftI_is hbt.l
    clear hbt hbe hop hdl HI
    by_cases hlt : p < b
    · have HEg := hid (eol_lt m p b h2 hlt)
      have HEl := hid (eol_le m p b h2 hpb)
      have hde : decide (p < eol m p b) = true := by simp [HEg.out]
      rw [hde]
      have HMe : Hid (leftI L b wr + boolN (.bool (decide (p < eol m p b))) = b - eol m p b + 1) := by rw [Hid, HLI.out, hde]; rfl
      rw [hde] at HMe
      have HSt := hid (betR_step m beg b p op h2 hlt)
      have HC1 := hid (HIn.out p (eol m p b) wr (by have := HEg.out; omega) (by have := HEl.out; omega))
      have HC2 := hid (fun W => HBr.out p (eol m p b) W)
      have hg0 := HI2.out.g.c0
      have ha0 := HI2.out.a.c0
      have ha1 := HI2.out.a.c1
      have hr0 := HI2.out.r.c0
      have hr1 := HI2.out.r.c1
      have hrf := HI2.out.r.fz
      generalize (borderM (inn m p (eol m p b)) beg).1 = bd at *
      generalize (borderM (inn m p (eol m p b)) beg).2 = la at *
      clear hde
      go_wp2_with fail
      refine HC1.out.mono ?_
      rintro e w3 ⟨rfl, hb3⟩
      have HI3 := hid (HI2.out.later hb3)
      clear hb3 HC1
      go_wp2_with fail
      refine (HC2.out w3).mono ?_
      rintro e w4 ⟨rfl, hb4⟩
      have HI4 := hid (HI3.out.later hb4)
      clear hb4 HC2 HI3 HI2 hg0 ha0 ha1 hr0 hr1 hrf
      have hg0 := HI4.out.g.c0
      have ha0 := HI4.out.a.c0
      have ha1 := HI4.out.a.c1
      have hr0 := HI4.out.r.c0
      have hr1 := HI4.out.r.c1
      have hrf := HI4.out.r.fz
      cases la with
      | true =>
        have HS2 : Hid (betR m beg b p op = bits m op p) := by rw [Hid, HSt.out]; simp
        cases bd with
        | false =>
          cases op with
          | none =>
            go_wp2_with fail
            go_ret
            have e := HBe.out
            rw [HS2.out, show bits m none p = [] from rfl, List.append_nil] at e
            rw [e]
            exact ⟨⟨_, rfl, HI4.out.o.spl⟩, HI4.out.below⟩
          | some f =>
            have HC3 := hid (HWo.out f p w4 (HOp.out f rfl).2 (by omega))
            clear hg0 ha0 ha1 hr0 hr1 hrf
            have hg0 := HI4.out.g.c0
            have ha0 := HI4.out.a.c0
            have ha1 := HI4.out.a.c1
            have hr0 : w4.cell? ⟨R, 0, none⟩ = some (.int .i64 (f : Nat)) := HI4.out.r.c0
            go_wp2_with fail
            refine HC3.out.mono ?_
            rintro e w6 ⟨rfl, hb6⟩
            have HI6 := hid (HI4.out.later hb6)
            obtain ⟨v', W', hr', hbt'⟩ := HI6.out.more (f, f + (bare (inn m f p)).length) (by have := HDl.out; omega) w6.heap.size rfl
            have HR' := hid hr'
            have HI7 := hid hbt'
            obtain ⟨sa, scc, hv0⟩ := HI6.out.o.sliceN (n := done.length) rfl
            obtain ⟨sb, sd, hv1⟩ := HI7.out.o.sliceN (n := done.length + 1) (by simp)
            subst hv0 hv1
            clear hb6 hr' hbt' HC3 HI4 hg0 ha0 ha1 hr0
            go_wp2_with (at_builtin; refine wpList_append_run rfl rfl HR'.out ?_)
            go_ret
            have e := HBe.out
            rw [HS2.out, show bits m (some f) p = [(f, f + (bare (inn m f p)).length)] from rfl] at e
            rw [e]
            exact ⟨⟨_, rfl, HI7.out.o.spl⟩, HI7.out.below⟩
        | true =>
          cases op with
          | none =>
            go_wp2_with fail
            go_ret
            have e := HBe.out
            rw [HS2.out, show bits m none p = [] from rfl, List.append_nil] at e
            rw [e]
            exact ⟨⟨_, rfl, HI4.out.o.spl⟩, HI4.out.below⟩
          | some f =>
            have HC3 := hid (HWo.out f p w4 (HOp.out f rfl).2 (by omega))
            clear hg0 ha0 ha1 hr0 hr1 hrf
            have hg0 := HI4.out.g.c0
            have ha0 := HI4.out.a.c0
            have ha1 := HI4.out.a.c1
            have hr0 : w4.cell? ⟨R, 0, none⟩ = some (.int .i64 (f : Nat)) := HI4.out.r.c0
            go_wp2_with fail
            refine HC3.out.mono ?_
            rintro e w6 ⟨rfl, hb6⟩
            have HI6 := hid (HI4.out.later hb6)
            obtain ⟨v', W', hr', hbt'⟩ := HI6.out.more (f, f + (bare (inn m f p)).length) (by have := HDl.out; omega) w6.heap.size rfl
            have HR' := hid hr'
            have HI7 := hid hbt'
            obtain ⟨sa, scc, hv0⟩ := HI6.out.o.sliceN (n := done.length) rfl
            obtain ⟨sb, sd, hv1⟩ := HI7.out.o.sliceN (n := done.length + 1) (by simp)
            subst hv0 hv1
            clear hb6 hr' hbt' HC3 HI4 hg0 ha0 ha1 hr0
            go_wp2_with (at_builtin; refine wpList_append_run rfl rfl HR'.out ?_)
            go_ret
            have e := HBe.out
            rw [HS2.out, show bits m (some f) p = [(f, f + (bare (inn m f p)).length)] from rfl] at e
            rw [e]
            exact ⟨⟨_, rfl, HI7.out.o.spl⟩, HI7.out.below⟩
      | false =>
        cases bd with
        | false =>
          have HS2 : Hid (betR m beg b p op = betR m beg b (eol m p b) op) := by rw [Hid, HSt.out]; simp
          have hLa := (HI4.out.later ((Below.refl _ w4).alloc (Nat.le_refl _) (.cells #[.int .i64 p, .int .i64 (eol m p b)] 62))).l
          have hMa := (HI4.out.later ((Below.refl _ w4).alloc (Nat.le_refl _) (.cells #[.int .i64 p, .int .i64 (eol m p b)] 62))).h
          have HC5 := hid (HNx.out _ L M (eol m p b) hLa hMa HEl.out)
          clear hLa hMa
          go_wp2_with fail
          refine HC5.out.mono ?_
          rintro e w5 ⟨rfl, hl5, hk5⟩
          have HS5 := hid (HI4.out.step hk5 hl5)
          have hn5 := (i2_new w4 p (eol m p b)).kept hk5 (by rw [List.mem_singleton]; have := HI4.out.l.lt; omega)
          have n0 := hn5.c0
          have n1 := hn5.c1
          have nf := hn5.fz
          have HM5 : Hid (leftI L b (puti w5 w4.heap.size (eol m p b) (eol m (eol m p b) b)) = b - eol m (eol m p b) b) := leftI_is HS5.out.l
          clear hl5 hk5 hn5 HC5 hg0 ha0 ha1 hr0 hr1 hrf
          go_wp2_with fail
          go_roundw
          case rel =>
            refine ⟨done, op, w4.heap.size, eol m p b, rfl, rfl, ?_, HS5.out, by rw [HBe.out, HS2.out], by have := HEg.out; omega, HEl.out, ?_, by have := HEg.out; have := HDl.out; simp; omega⟩
            · have hd : decide ((((eol m p b : Nat)) : Int) < ((eol m (eol m p b) b : Nat) : Int)) = decide (eol m p b < eol m (eol m p b) b) := by rw [Bool.eq_iff_iff]; simp only [decide_eq_true_eq]; omega
              first | rfl | (rw [← hd]; rfl) | simp
            · intro f hf
              have h1' := HEg.out
              first
              | (have h2' := HOp.out f hf; omega)
              | (cases hf; omega)
              | (simp at hf; omega)
          case measure =>
            have e1 := HM5.out
            have e2 := HMe.out
            unfold puti at e1
            rw [e1, e2]
            have e3 := HEg.out
            have e4 := HEl.out
            by_cases he : eol m p b = b
            · have h5 := eol_le m (eol m p b) b h2 e4
              have h6 : eol m (eol m p b) b = b := by unfold eol at *; omega
              rw [he] at *
              simp [boolN, h6]
            · have h5 := eol_lt m (eol m p b) b h2 (by omega)
              rw [show decide (eol m p b < eol m (eol m p b) b) = true by simp [h5]]
              show b - _ + 1 < b - _ + 1
              omega
        | true =>
          have HS2 : Hid (betR m beg b p op = bits m op p ++ betR m beg b (eol m p b) (some (eol m p b))) := by rw [Hid, HSt.out]; simp
          cases op with
          | none =>
            have HI8 := hid (HI4.out.from (eol m p b))
            have hnA := HI4.out.ne.2.2.2.1
            have hnA' := hnA.symm
            have hLa := (HI8.out.later ((Below.refl _ (w4.setCell ⟨R, 0, none⟩ (.int .i64 (eol m p b)))).alloc (Nat.le_refl _) (.cells #[.int .i64 p, .int .i64 (eol m p b)] 62))).l
            have hMa := (HI8.out.later ((Below.refl _ (w4.setCell ⟨R, 0, none⟩ (.int .i64 (eol m p b)))).alloc (Nat.le_refl _) (.cells #[.int .i64 p, .int .i64 (eol m p b)] 62))).h
            have HC5 := hid (HNx.out _ L M (eol m p b) hLa hMa HEl.out)
            clear hLa hMa
            go_wp2_with fail
            refine HC5.out.mono ?_
            rintro e w5 ⟨rfl, hl5, hk5⟩
            have HS5 := hid (HI8.out.step hk5 hl5)
            have hn5 := (i2_new (w4.setCell ⟨R, 0, none⟩ (.int .i64 (eol m p b))) p (eol m p b)).kept hk5 (by rw [List.mem_singleton]; have := HI8.out.l.lt; omega)
            have n0 := hn5.c0
            have n1 := hn5.c1
            have nf := hn5.fz
            have HM5 : Hid (leftI L b (puti w5 (w4.setCell ⟨R, 0, none⟩ (.int .i64 (eol m p b))).heap.size (eol m p b) (eol m (eol m p b) b)) = b - eol m (eol m p b) b) := leftI_is HS5.out.l
            have hzz : (w4.setCell ⟨R, 0, none⟩ (.int .i64 (eol m p b))).heap.size = w4.heap.size := by simp [World.setCell]
            rw [hzz] at HS5 n0 n1 HM5
            simp only [hzz] at nf
            clear hl5 hk5 hn5 HC5 hg0 ha0 ha1 hr0 hr1 hrf
            go_wp2_with fail
            go_roundw
            case rel =>
              refine ⟨done, some (eol m p b), w4.heap.size, eol m p b, rfl, rfl, ?_, HS5.out, by rw [HBe.out, HS2.out]; rfl, by have := HEg.out; omega, HEl.out, ?_, by have := HEg.out; have := HDl.out; simp; omega⟩
              · have hd : decide ((((eol m p b : Nat)) : Int) < ((eol m (eol m p b) b : Nat) : Int)) = decide (eol m p b < eol m (eol m p b) b) := by rw [Bool.eq_iff_iff]; simp only [decide_eq_true_eq]; omega
                first | rfl | (rw [← hd]; rfl) | simp
              · intro f hf
                have h1' := HEg.out
                first
                | (have h2' := HOp.out f hf; omega)
                | (cases hf; omega)
                | (simp at hf; omega)
            case measure =>
              have e1 := HM5.out
              have e2 := HMe.out
              unfold puti at e1
              rw [e1, e2]
              have e3 := HEg.out
              have e4 := HEl.out
              by_cases he : eol m p b = b
              · have h5 := eol_le m (eol m p b) b h2 e4
                have h6 : eol m (eol m p b) b = b := by unfold eol at *; omega
                rw [he] at *
                simp [boolN, h6]
              · have h5 := eol_lt m (eol m p b) b h2 (by omega)
                rw [show decide (eol m p b < eol m (eol m p b) b) = true by simp [h5]]
                show b - _ + 1 < b - _ + 1
                omega
          | some f =>
            have HC3 := hid (HWo.out f p w4 (HOp.out f rfl).2 (by omega))
            clear hg0 ha0 ha1 hr0 hr1 hrf
            have hg0 := HI4.out.g.c0
            have ha0 := HI4.out.a.c0
            have ha1 := HI4.out.a.c1
            have hr0 : w4.cell? ⟨R, 0, none⟩ = some (.int .i64 (f : Nat)) := HI4.out.r.c0
            go_wp2_with fail
            refine HC3.out.mono ?_
            rintro e w6 ⟨rfl, hb6⟩
            have HI6 := hid (HI4.out.later hb6)
            obtain ⟨v', W', hr', hbt'⟩ := HI6.out.more (f, f + (bare (inn m f p)).length) (by have := HDl.out; omega) w6.heap.size rfl
            have HR' := hid hr'
            have HI7 := hid hbt'
            obtain ⟨sa, scc, hv0⟩ := HI6.out.o.sliceN (n := done.length) rfl
            obtain ⟨sb, sd, hv1⟩ := HI7.out.o.sliceN (n := done.length + 1) (by simp)
            subst hv0 hv1
            clear hb6 hr' hbt' HC3 HI4 hg0 ha0 ha1 hr0
            have HI8 := hid (HI7.out.from (eol m p b))
            have ha0 := HI7.out.a.c0
            have ha1 := HI7.out.a.c1
            have hr0 := HI7.out.r.c0
            have hr1 := HI7.out.r.c1
            have hrf := HI7.out.r.fz
            have hnA := HI7.out.ne.2.2.2.1
            have hnA' := hnA.symm
            have hLa := (HI8.out.later ((Below.refl _ (W'.setCell ⟨R, 0, none⟩ (.int .i64 (eol m p b)))).alloc (Nat.le_refl _) (.cells #[.int .i64 p, .int .i64 (eol m p b)] 62))).l
            have hMa := (HI8.out.later ((Below.refl _ (W'.setCell ⟨R, 0, none⟩ (.int .i64 (eol m p b)))).alloc (Nat.le_refl _) (.cells #[.int .i64 p, .int .i64 (eol m p b)] 62))).h
            have HC5 := hid (HNx.out _ L M (eol m p b) hLa hMa HEl.out)
            clear hLa hMa
            go_wp2_with (at_builtin; refine wpList_append_run rfl rfl HR'.out ?_)
            refine HC5.out.mono ?_
            rintro e w5 ⟨rfl, hl5, hk5⟩
            have HS5 := hid (HI8.out.step hk5 hl5)
            have hn5 := (i2_new (W'.setCell ⟨R, 0, none⟩ (.int .i64 (eol m p b))) p (eol m p b)).kept hk5 (by rw [List.mem_singleton]; have := HI8.out.l.lt; omega)
            have n0 := hn5.c0
            have n1 := hn5.c1
            have nf := hn5.fz
            have HM5 : Hid (leftI L b (puti w5 (W'.setCell ⟨R, 0, none⟩ (.int .i64 (eol m p b))).heap.size (eol m p b) (eol m (eol m p b) b)) = b - eol m (eol m p b) b) := leftI_is HS5.out.l
            have hzz : (W'.setCell ⟨R, 0, none⟩ (.int .i64 (eol m p b))).heap.size = W'.heap.size := by simp [World.setCell]
            rw [hzz] at HS5 n0 n1 HM5
            simp only [hzz] at nf
            clear hl5 hk5 hn5 HC5 ha0 ha1 hr0 hr1 hrf
            go_wp2_with fail
            go_roundw
            case rel =>
              refine ⟨done ++ [(f, f + (bare (inn m f p)).length)], some (eol m p b), W'.heap.size, eol m p b, rfl, rfl, ?_, HS5.out, by rw [HBe.out, HS2.out]; simp [bits], by have := HEg.out; omega, HEl.out, ?_, by have := HEg.out; have := HDl.out; simp; omega⟩
              · have hd : decide ((((eol m p b : Nat)) : Int) < ((eol m (eol m p b) b : Nat) : Int)) = decide (eol m p b < eol m (eol m p b) b) := by rw [Bool.eq_iff_iff]; simp only [decide_eq_true_eq]; omega
                first | rfl | (rw [← hd]; rfl) | simp
              · intro f hf
                have h1' := HEg.out
                first
                | (have h2' := HOp.out f hf; omega)
                | (cases hf; omega)
                | (simp at hf; omega)
            case measure =>
              have e1 := HM5.out
              have e2 := HMe.out
              unfold puti at e1
              rw [e1, e2]
              have e3 := HEg.out
              have e4 := HEl.out
              by_cases he : eol m p b = b
              · have h5 := eol_le m (eol m p b) b h2 e4
                have h6 : eol m (eol m p b) b = b := by unfold eol at *; omega
                rw [he] at *
                simp [boolN, h6]
              · have h5 := eol_lt m (eol m p b) b h2 (by omega)
                rw [show decide (eol m p b < eol m (eol m p b) b) = true by simp [h5]]
                show b - _ + 1 < b - _ + 1
                omega
    · have hpe : p = b := by omega
      subst hpe
      have hee : eol m p p = p := by
        have := eol_le m p p h2 (Nat.le_refl _)
        unfold eol at *
        omega
      have hde : decide (p < eol m p p) = false := by simp [hee]
      rw [hde]
      have HEd := hid (betR_end m beg p p op (Nat.le_refl _))
      clear hde hee
      cases op with
      | none =>
        go_wp2_with fail
        go_ret
        have e := HBe.out
        rw [HEd.out, show lastB p none = [] from rfl, List.append_nil] at e
        rw [e]
        exact ⟨⟨_, rfl, HI2.out.o.spl⟩, HI2.out.below⟩
      | some f =>
        have hr0 : wr.cell? ⟨R, 0, none⟩ = some (.int .i64 (f : Nat)) := HI2.out.r.c0
        have hr1 := HI2.out.r.c1
        obtain ⟨v', W', hr', hbt'⟩ := HI2.out.more (f, p) (by have := HDl.out; omega) wr.heap.size rfl
        have HR' := hid hr'
        have HI7 := hid hbt'
        obtain ⟨sa, scc, hv0⟩ := HI2.out.o.sliceN (n := done.length) rfl
        obtain ⟨sb, sd, hv1⟩ := HI7.out.o.sliceN (n := done.length + 1) (by simp)
        subst hv0 hv1
        clear hr' hbt'
        go_wp2_with (at_builtin; refine wpList_append_run rfl rfl HR'.out ?_)
        go_ret
        have e := HBe.out
        rw [HEd.out, show lastB p (some f) = [(f, p)] from rfl] at e
        rw [e]
        exact ⟨⟨_, rfl, HI7.out.o.spl⟩, HI7.out.below⟩
end Go.Proofs.YtgolcmafbenjbaaGreatDoor
