/- What this text holds: Commit of the document's own pager. -/
import Derived.Test.YtambgimfbdecpaaQ24
import Derived.Deep.RegionHeld3
namespace Go.Proofs.Ytambgimfbdecpaa
open Go.RowKit
set_option linter.unusedVariables false

def coF (x : Int) : Int := if x = 2 then 1 else if x = 3 then 4 else x
def foF (is : List Int) (g : Int) (i : Nat) (f : Int) : Int := if is.getD i 0 = 3 then g else f
def RS.fin (R : RS) (D : DS) (s : ByteArray) : RS := ({ R with D := D, gen := R.gen + 1, root := s, is := R.is.mapIdx fun _ x => coF x, fo := R.fo.mapIdx (foF R.is (R.gen + 1)) } : RS).settle
def RS.commitTo (R : RS) (X : List Int) (s : ByteArray) : Int × RS :=
  if (R.D.layRoot (R.gen + 1) X).1 = 0 then (0, R.fin (R.D.layRoot (R.gen + 1) X).2 s)
  else ((R.D.layRoot (R.gen + 1) X).1, RS.hear { R with D := (R.D.layRoot (R.gen + 1) X).2 } (R.D.layRoot (R.gen + 1) X).1)
def RS.commit (R : RS) (s : ByteArray) : Int × RS :=
  if R.dead = true then (9, R) else if rootE (R.gen + 1) s.size ≠ 0 then (rootE (R.gen + 1) s.size, R) else R.commitTo (rootL (R.gen + 1) (bOf s)) s

theorem exec_addG {a : Act} {x : Operand} {c : Int} {w : World} {d : Option Tmp} {ty : Nat} {pos : String} {af : Array Edge} {g : Option (Nat × Bool)} (hx : a.eval x = .int .i64 c) (h0 : 0 ≤ c) (h1 : c ≤ 4611686018427387904) :
    (execOp a.eval ⟨d, .binOp .add 3 x (.const (.int .i64 1)) 3, ty, pos, af, g⟩).run Try.prog w = .ok (.value (.int .i64 (c + 1))) w := by
  have hw := wrap_i64 (c + 1) (by omega) (by omega)
  have h2 : a.eval (.const (.int .i64 1)) = .int .i64 1 := rfl
  simp only [execOp, hx, h2]
  simp [go_sem]
  omega
theorem exec_rem2 {a : Act} {x : Operand} {c : Int} {w : World} {d : Option Tmp} {ty : Nat} {pos : String} {af : Array Edge} {g : Option (Nat × Bool)} (hx : a.eval x = .int .i64 c) (h0 : 0 ≤ c) :
    (execOp a.eval ⟨d, .binOp .rem 3 x (.const (.int .i64 2)) 3, ty, pos, af, g⟩).run Try.prog w = .ok (.value (.int .i64 (c % 2))) w := by
  have h2 : a.eval (.const (.int .i64 2)) = .int .i64 2 := rfl
  simp only [execOp, hx, h2]
  have e : c.tmod 2 = c % 2 := Int.tmod_eq_emod_of_nonneg h0
  simp [go_sem, e]
theorem field53a (b : Nat) (w : World) : (Instr.fieldAt 53 (.pointer (some ⟨b, 0, none⟩)) 0).run Try.prog w = .ok (.pointer (some ⟨b, 0, none⟩)) w := by kernel_rfl
theorem field53b (b : Nat) (w : World) : (Instr.fieldAt 53 (.pointer (some ⟨b, 0, none⟩)) 1).run Try.prog w = .ok (.pointer (some ⟨b, 1, none⟩)) w := by kernel_rfl
theorem load27 {b k : Nat} {v : Value} {w : World} (h : w.cell? ⟨b, k, none⟩ = some v) : (Instr.loadAt 27 (.pointer (some ⟨b, k, none⟩))).run Try.prog w = .ok v w := by
  simp [Instr.loadAt, Instr.sureAddr, loadVar, isAgg, run_underlying Try.underlying27, h]
theorem load3k {b k : Nat} {v : Value} {w : World} (h : w.cell? ⟨b, k, none⟩ = some v) : (Instr.loadAt 3 (.pointer (some ⟨b, k, none⟩))).run Try.prog w = .ok v w := by
  simp [Instr.loadAt, Instr.sureAddr, loadVar, isAgg, run_underlying Try.underlying3, h]
theorem exec_call22 {a : Act} {x y z : Operand} {u v s : Value} {w : World} {d : Option Tmp} {ty : Nat} {ts : Array Nat} {pos : String} {af : Array Edge} {g : Option (Nat × Bool)} (hx : a.eval x = u) (hy : a.eval y = v) (hz : a.eval z = s) :
    (execOp a.eval ⟨d, .call { callee := .value (.func 22), args := #[x, y, z], argTypes := ts }, ty, pos, af, g⟩).run Try.prog w = .ok (.enter 22 #[u, v, s]) w := by
  simp only [execOp, resolve, List.map_toArray, List.map_cons, List.map_nil, hx, hy, hz]
  kernel_rfl
theorem exec_call82 {a : Act} {x y : Operand} {u v : Value} {w : World} {d : Option Tmp} {ty : Nat} {ts : Array Nat} {pos : String} {af : Array Edge} {g : Option (Nat × Bool)} (hx : a.eval x = u) (hy : a.eval y = v) :
    (execOp a.eval ⟨d, .call { callee := .value (.func 82), args := #[x, y], argTypes := ts }, ty, pos, af, g⟩).run Try.prog w = .ok (.enter 82 #[u, v]) w := by
  simp only [execOp, resolve, List.map_toArray, List.map_cons, List.map_nil, hx, hy]
  kernel_rfl

section
variable {w w0 w' : World} {B b c gi gf : Nat} {pv : Value} {own : List Nat} {R : RS}

theorem commitTo_flush {D1 : DS} {X : List Int} {s : ByteArray} (h1 : R.D.flush = (9, D1)) : R.commitTo X s = (9, { R with D := D1, dead := true }) := by
  have e : R.D.layRoot (R.gen + 1) X = (9, D1) := by unfold DS.layRoot; rw [h1]; rfl
  unfold RS.commitTo; rw [e]; rfl
theorem commitTo_write {D1 D2 : DS} {X : List Int} {s : ByteArray} (h1 : R.D.flush = (0, D1)) (h2 : D1.write ((R.gen + 1) % 2) X = (9, D2)) : R.commitTo X s = (9, { R with D := D2, dead := true }) := by
  have e : R.D.layRoot (R.gen + 1) X = (9, D2) := by unfold DS.layRoot; rw [h1]; simp only [if_pos]; rw [h2]; rfl
  unfold RS.commitTo; rw [e]; rfl
theorem commitTo_last {D1 D2 D3 : DS} {X : List Int} {s : ByteArray} (h1 : R.D.flush = (0, D1)) (h2 : D1.write ((R.gen + 1) % 2) X = (0, D2)) (h3 : D2.flush = (9, D3)) : R.commitTo X s = (9, { R with D := D3, dead := true }) := by
  have e : R.D.layRoot (R.gen + 1) X = (9, D3) := by unfold DS.layRoot; rw [h1]; simp only [if_pos]; rw [h2]; simp only [if_pos]; exact h3
  unfold RS.commitTo; rw [e]; rfl
theorem commitTo_yes {D1 D2 D3 : DS} {X : List Int} {s : ByteArray} (h1 : R.D.flush = (0, D1)) (h2 : D1.write ((R.gen + 1) % 2) X = (0, D2)) (h3 : D2.flush = (0, D3)) : R.commitTo X s = (0, R.fin D3 s) := by
  have e : R.D.layRoot (R.gen + 1) X = (0, D3) := by unfold DS.layRoot; rw [h1]; simp only [if_pos]; rw [h2]; simp only [if_pos]; exact h3
  unfold RS.commitTo; rw [e]; rfl

/-- A chain of calls to the disk, each of which turns its own blocks. -/
structure Chain (w w' : World) (own own' : List Nat) : Prop where
  k : Kept own w w'
  n : ∀ k ∈ own', k ∈ own ∨ w.heap.size ≤ k
theorem Chain.below {w w1 w2 : World} {own own' : List Nat} (hb : Below w.heap.size w w1) (h : Chain w1 w2 own own') : Chain w w2 own own' :=
  ⟨(Kept.ofBelow hb own).trans h.k (fun _ _ h => h), fun k hk => (h.n k hk).imp id (fun h => by have := hb.size; omega)⟩
theorem Chain.trans {w w1 w2 : World} {own own1 own2 : List Nat} (h1 : Chain w w1 own own1) (h2 : Chain w1 w2 own1 own2) : Chain w w2 own own2 := by
  refine ⟨h1.k.trans h2.k (fun k hk hm => ?_), fun k hk => ?_⟩
  · rcases h1.n k hm with h | h
    · exact h
    · omega
  · rcases h2.n k hk with h | h
    · exact h1.n k h
    · right; have := h1.k.size; omega
theorem DidR.ch {w w1 w2 : World} {own' : List Nat} {R' : RS} {v : Value} (hc : Chain w w1 own own') (hk2 : Kept [b, gi, gf] w1 w2) (h : RAt w2 B b c gi gf pv own' R') :
    DidR w B b c (rall b gi gf pv own) v R' (.returned v) w2 := DidR.d (Below.refl _ _) hc.k hc.n hk2 h

set_option maxRecDepth 100000 in
set_option maxHeartbeats 4000000 in
theorem rcommit_at (h : RAt w0 B b c gi gf pv own R) (hs : R.D.steps + 3 ≤ 1000) (s : ByteArray) (hm : s.size ≤ maxLen) :
    Calls Try.prog 54 #[.pointer (some ⟨b, 0, none⟩), .string s] w0 (DidR w0 B b c (rall b gi gf pv own) (.int .i64 (R.commit s).1) (R.commit s).2) := by
  obtain ⟨c0, c1, c2, c3, c4, c5, c6⟩ := h.cells
  have HH := hid h
  have hg0 := h.g0
  have hg1 := h.g1
  have hmx := h.max
  have hn4 := h.n
  have HM := hid hm
  have HHS := hid hs
  clear hm hs
  unfold RS.commit
  by_cases hd : R.dead = true
  · rw [if_pos hd]
    rw [hd] at c6
    clear h
    go_enter Try.func54, Try.ntmps54
    go_wp2
    go_ret
    exact DidR.same HH.out
  · rw [if_neg hd]
    have hd' : R.dead = false := by simpa using hd
    rw [hd'] at c6
    have HSA := hid (fun w => rroot_all (R.gen + 1) s w HM.out)
    by_cases he : rootE (R.gen + 1) s.size ≠ 0
    · rw [if_pos he]
      have he' : (rootE (R.gen + 1) s.size != 0) = true := by rw [bne_iff_ne]; exact he
      have he2 : (rootE (R.gen + 1) s.size == 0) = false := by rw [beq_eq_false_iff_ne]; exact he
      clear h he hd hd'
      generalize rootE (R.gen + 1) s.size = E1 at he' he2 HSA ⊢
      go_enter Try.func54, Try.ntmps54
      go_wp2_with fail
      refine (HSA.out _).mono ?_
      rintro e w1 ⟨rfl, hb1⟩
      have HB := hid hb1
      clear hb1
      go_wp2_with fail
      go_ret
      exact DidR.at (HH.out.later HB.out) (Kept.ofBelow HB.out _)
    · rw [if_neg he]
      have he0 : rootE (R.gen + 1) s.size = 0 := by simpa using he
      have hrz : okGen (R.gen + 1) ∧ s.size ≤ 490 := by
        by_cases a1 : okGen (R.gen + 1)
        · by_cases a2 : s.size ≤ 490
          · exact ⟨a1, a2⟩
          · simp [rootE, a1, a2] at he0
        · simp [rootE, a1] at he0
      have hgm : R.gen + 1 ≤ 4611686018427387904 := hrz.1.2
      have hln := rootL_length (R.gen + 1) (bOf s) (by rw [bOf_length]; have := hrz.2; omega)
      have hby := byt_root (R.gen + 1) (bOf s) (bOf_range s)
      have hss : rootS (R.gen + 1) (bOf s) = rootL (R.gen + 1) (bOf s) := by unfold rootS; rw [bOf_length, he0, if_pos rfl]
      rw [hss, he0] at HSA
      generalize rootL (R.gen + 1) (bOf s) = X at HSA hln hby ⊢
      have HLn := hid hln
      have HBy := hid hby
      have HGM := hid hgm
      clear h he he0 hrz hln hby hss hd hd' hgm
      go_enter Try.func54, Try.ntmps54
      go_wp2_with fail
      refine (HSA.out _).mono ?_
      rintro e w1 ⟨rfl, hb1⟩
      have HB := hid hb1
      clear hb1
      have H1 := hid (HH.out.later HB.out)
      obtain ⟨d0, d1, d2, d3, d4, d5, d6⟩ := H1.out.cells
      have hF := flush_grow R.D
      have hFe := flush_err R.D
      have hFb := H1.out.byt.flush
      have HF := hid (rflush_all H1.out.disk (by have := HHS.out; omega))
      obtain ⟨F, hFF⟩ : ∃ F, F = R.D.flush := ⟨_, rfl⟩
      rw [← hFF] at hF hFe hFb HF
      obtain ⟨f, D1⟩ := F
      simp only at hF hFe hFb HF
      have HFF := hid hFF
      have HFG := hid hF
      have HFb := hid hFb
      clear hFF hF hFb
      go_wp2_with fail
      refine HF.out.mono ?_
      rintro e w2 ⟨rfl, own2, hd2, hk2, hn2⟩
      have H2 := hid (H1.out.setDisk hd2 hk2 hn2 HFG.out.1 HFb.out)
      have HC2 := hid (Chain.below HB.out ⟨hk2, hn2⟩)
      clear hd2 hk2 hn2
      rcases hFe with rfl | rfl
      · have HW0 : Hid (D1.waits.length < 200) := by show D1.waits.length < 200; rw [HFG.out.2.2.2 rfl]; decide
        have HT := hid (rtold_no b w2 0 (by decide))
        obtain ⟨e0, e1, e2, e3, e4, e5, e6⟩ := H2.out.cells
        simp only at e1
        go_wp2_with (go_at_call 82; refine HT.out.mono ?_; rintro e w2 ⟨rfl, rfl⟩)
        obtain ⟨cap, w3, hrun, hsrc, hb3, hsz⟩ := conv_made w2.drew X HBy.out
        rw [HLn.out] at hrun
        have HK23 := hid ((Kept.drew [] w2).trans (Kept.ofBelow hb3 []) (fun _ _ h => h))
        have H3 := hid (H2.out.keep HK23.out (by simp))
        obtain ⟨f0, f1, f2, f3, f4, f5, f6⟩ := H3.out.cells
        simp only at f1
        have hg2 := tmod2 (R.gen + 1) (by omega)
        have hDn : D1.n = R.D.n := HFG.out.1
        have hWg := (write_grow D1 ((R.gen + 1) % 2) X)
        have hWe := write_err D1 ((R.gen + 1) % 2) X HLn.out ⟨hg2.1, by omega⟩
        have HWb := hid (H2.out.byt.write ((R.gen + 1) % 2) X HBy.out)
        have HWA := hid (rwrite_all H3.out.disk (by have := HFG.out.2.1; have := HHS.out; simp only; omega) HW0.out ((R.gen + 1) % 2) ⟨w2.drew.heap.size, 0, none⟩ 512 cap X (by unfold maxLen; omega) HLn.out hsrc (fun hm => by have := (H2.out.disk.lt _ hm).2; simp only at this; have e : w2.drew.heap.size = w2.heap.size := rfl; omega))
        obtain ⟨W, hWW⟩ : ∃ W, W = D1.write ((R.gen + 1) % 2) X := ⟨_, rfl⟩
        simp only at HWA HWb
        rw [← hWW] at hWg hWe HWb HWA
        obtain ⟨r, D2⟩ := W
        simp only at hWg hWe HWb HWA
        have HWW := hid hWW
        have HWG := hid hWg
        have HDn := hid hDn
        clear hWW hWg hsrc hb3 hsz hg2 hDn
        rcases hWe with rfl | rfl
        · have HX0 : Hid True := trivial
          refine wp_region_held_drew (S := (fun w' => w'.cell? ⟨b, 0, none⟩ = some (.pointer (some ⟨c, 0, none⟩)) ∧ w'.cell? ⟨b, 1, none⟩ = some (.int .i64 R.gen))) (by kernel_rfl) ⟨e0, e1⟩ ?_
          intro hS
          refine anyH_take 0 ⟨some 33, .move (.tmp 0), _, _, _, none⟩ (.pointer (some ⟨b, 0, none⟩)) rfl rfl (by kernel_rfl) (by kernel_rfl) (by kernel_rfl) (fun _ _ _ h => h) (fun _ _ => rfl) hS ?_
          simp only [Act.put, List.setIfInBounds_toArray, List.set_cons_zero, List.set_cons_succ]
          refine anyH_take 1 ⟨some 34, .move (.tmp 0), _, _, _, none⟩ (.pointer (some ⟨b, 0, none⟩)) rfl rfl (by kernel_rfl) (by kernel_rfl) (by kernel_rfl) (fun _ _ _ h => h) (fun _ _ => rfl) hS ?_
          simp only [Act.put, List.setIfInBounds_toArray, List.set_cons_zero, List.set_cons_succ]
          refine anyH_take 2 ⟨some 35, .nilCheck (.tmp 34), _, _, _, none⟩ (.pointer (some ⟨b, 0, none⟩)) rfl rfl (by kernel_rfl) (by kernel_rfl) (by kernel_rfl) (fun _ _ _ h => h) (fun _ _ => rfl) hS ?_
          simp only [Act.put, List.setIfInBounds_toArray, List.set_cons_zero, List.set_cons_succ]
          refine anyH_take 3 ⟨some 36, .fieldAddr 53 (.tmp 35) 0, _, _, _, none⟩ (.pointer (some ⟨b, 0, none⟩)) rfl rfl (by kernel_rfl) (by kernel_rfl) (by kernel_rfl) (fun _ _ _ h => h) (fun w _ => exec_v (field53a b w)) hS ?_
          simp only [Act.put, List.setIfInBounds_toArray, List.set_cons_zero, List.set_cons_succ]
          refine anyH_take 4 ⟨some 37, .load 27 (.tmp 36), _, _, _, none⟩ (.pointer (some ⟨c, 0, none⟩)) rfl rfl (by kernel_rfl) (by kernel_rfl) (by kernel_rfl) (fun _ _ _ h => h) (fun w h => exec_v (load27 h.1)) hS ?_
          simp only [Act.put, List.setIfInBounds_toArray, List.set_cons_zero, List.set_cons_succ]
          refine anyH_take 5 ⟨some 38, .move (.tmp 0), _, _, _, none⟩ (.pointer (some ⟨b, 0, none⟩)) rfl rfl (by kernel_rfl) (by kernel_rfl) (by kernel_rfl) (fun _ _ _ h => h) (fun _ _ => rfl) hS ?_
          simp only [Act.put, List.setIfInBounds_toArray, List.set_cons_zero, List.set_cons_succ]
          refine anyH_take 6 ⟨some 39, .nilCheck (.tmp 38), _, _, _, none⟩ (.pointer (some ⟨b, 0, none⟩)) rfl rfl (by kernel_rfl) (by kernel_rfl) (by kernel_rfl) (fun _ _ _ h => h) (fun _ _ => rfl) hS ?_
          simp only [Act.put, List.setIfInBounds_toArray, List.set_cons_zero, List.set_cons_succ]
          refine anyH_take 7 ⟨some 40, .fieldAddr 53 (.tmp 39) 1, _, _, _, none⟩ (.pointer (some ⟨b, 1, none⟩)) rfl rfl (by kernel_rfl) (by kernel_rfl) (by kernel_rfl) (fun _ _ _ h => h) (fun w _ => exec_v (field53b b w)) hS ?_
          simp only [Act.put, List.setIfInBounds_toArray, List.set_cons_zero, List.set_cons_succ]
          refine anyH_take 8 ⟨some 41, .load 3 (.tmp 40), _, _, _, none⟩ (.int .i64 R.gen) rfl rfl (by kernel_rfl) (by kernel_rfl) (by kernel_rfl) (fun _ _ _ h => h) (fun w h => exec_v (load3k h.2)) hS ?_
          simp only [Act.put, List.setIfInBounds_toArray, List.set_cons_zero, List.set_cons_succ]
          refine anyH_take 9 ⟨some 42, .binOp .add 3 (.tmp 41) (.const (.int .i64 1)) 3, _, _, _, none⟩ (.int .i64 (R.gen + 1)) rfl rfl (by kernel_rfl) (by kernel_rfl) (by kernel_rfl) (fun _ _ _ h => h) (fun w _ => exec_addG rfl hg0 hg1) hS ?_
          simp only [Act.put, List.setIfInBounds_toArray, List.set_cons_zero, List.set_cons_succ]
          refine anyH_take 10 ⟨some 43, .binOp .rem 3 (.tmp 42) (.const (.int .i64 2)) 3, _, _, _, none⟩ (.int .i64 ((R.gen + 1) % 2)) rfl rfl (by kernel_rfl) (by kernel_rfl) (by kernel_rfl) (fun _ _ _ h => h) (fun w _ => exec_rem2 rfl (by omega)) hS ?_
          simp only [Act.put, List.setIfInBounds_toArray, List.set_cons_zero, List.set_cons_succ]
          refine anyH_take 11 ⟨some 44, .move (.tmp 5), _, _, _, none⟩ (.string (strOf X)) rfl rfl (by kernel_rfl) (by kernel_rfl) (by kernel_rfl) (fun _ _ _ h => h) (fun _ _ => rfl) hS ?_
          simp only [Act.put, List.setIfInBounds_toArray, List.set_cons_zero, List.set_cons_succ]
          refine anyH_one 12 ⟨some 45, .convert 9 46 (.tmp 44), _, _, _, none⟩ (.slice (some ⟨w2.drew.heap.size, 0, none⟩) 512 cap) w3 (by kernel_rfl) rfl rfl (exec_v hrun) ⟨f0, f1⟩ ?_
          simp only [Act.put, List.setIfInBounds_toArray, List.set_cons_zero, List.set_cons_succ]
          refine anyH_callW 13 ⟨some 46, .call { callee := .value (.func 22), args := #[.tmp 37, .tmp 43, .tmp 45], argTypes := #[27, 3, 46] }, _, _, _, none⟩ 22 _ (by kernel_rfl) rfl rfl (exec_call22 (u := .pointer (some ⟨c, 0, none⟩)) (v := .int .i64 ((R.gen + 1) % 2)) (s := .slice (some ⟨w2.drew.heap.size, 0, none⟩) 512 cap) rfl rfl rfl) ?_
          refine HWA.out.mono ?_
          rintro e w4 ⟨rfl, own4, hd4, hk4, hn4'⟩
          have H4 := hid (H3.out.setDisk hd4 hk4 hn4' HWG.out.1 HWb.out)
          have HC4 := hid (HC2.out.trans (⟨(HK23.out.mono (T := own2) (by simp)).trans hk4 (fun _ _ h => h), fun k hk => (hn4' k hk).imp id (fun h => by have := HK23.out.size; omega)⟩ : Chain w2 w4 own2 own4))
          obtain ⟨p0, p1, p2, p3, p4, p5, p6⟩ := H4.out.cells
          simp only at p1
          clear hd4 hk4 hn4'
          refine ⟨_, rfl, ⟨p0, p1⟩, ?_⟩
          simp only [Act.put, List.setIfInBounds_toArray, List.set_cons_zero, List.set_cons_succ]
          refine anyH_callW 14 ⟨some 47, .call { callee := .value (.func 82), args := #[.tmp 33, .tmp 46], argTypes := #[37, 3] }, _, _, _, none⟩ 82 _ (by kernel_rfl) rfl rfl (exec_call82 (u := .pointer (some ⟨b, 0, none⟩)) (v := .int .i64 0) rfl rfl) ?_
          refine (rtold_no b w4 0 (by decide)).mono ?_
          rintro e w4 ⟨rfl, rfl⟩
          refine ⟨_, rfl, ⟨p0, p1⟩, ?_⟩
          simp only [Act.put, List.setIfInBounds_toArray, List.set_cons_zero, List.set_cons_succ]
          refine anyH_one 15 ⟨some 6, .assign (.tmp 47), _, _, _, none⟩ (.int .i64 0) w4 (by kernel_rfl) rfl rfl rfl ⟨p0, p1⟩ ?_
          simp only [Act.put, List.setIfInBounds_toArray, List.set_cons_zero, List.set_cons_succ]
          refine wpAnyH_done (by kernel_rfl) ?_ _
          have hF6 := flush_grow D2
          have hFe6 := flush_err D2
          have HFb6 := hid H4.out.byt.flush
          have HF6 := hid (rflush_all H4.out.disk (by have := HWG.out.2.1; have := HFG.out.2.1; have := HHS.out; simp only; omega))
          simp only at HFb6 HF6
          obtain ⟨F6, hFF6⟩ : ∃ F, F = D2.flush := ⟨_, rfl⟩
          rw [← hFF6] at hF6 hFe6 HFb6 HF6
          obtain ⟨f6, D3⟩ := F6
          simp only at hF6 hFe6 HFb6 HF6
          have HFF6 := hid hFF6
          have HFG6 := hid hF6.1
          clear hFF6 hF6
          go_wp2_with fail
          refine HF6.out.mono ?_
          rintro e w6 ⟨rfl, own6, hd6, hk6, hn6⟩
          have H6 := hid (H4.out.setDisk hd6 hk6 hn6 HFG6.out HFb6.out)
          have HC6 := hid (HC4.out.trans (⟨hk6, hn6⟩ : Chain w4 w6 own4 own6))
          clear hd6 hk6 hn6
          obtain ⟨q0, q1, q2, q3, q4, q5, q6⟩ := H6.out.cells
          simp only at q1 q2 q3
          have hz1 := H6.out.free 1
          have hz2 := H6.out.free 2
          rcases hFe6 with rfl | rfl
          · have HE := hid (commitTo_yes (X := X) (s := s) HFF.out.symm HWW.out.symm HFF6.out.symm)
            have HT6 := hid (rtold_no b w6 0 (by decide))
            have H7 := hid (H6.out.setRoot (R.gen + 1) s (by omega) HGM.out)
            have HDn3 : Hid (D3.n = R.D.n) := by show D3.n = R.D.n; have a1 := HFG6.out; have a2 := HWG.out.1; have a3 := HDn.out; omega
            go_wp2_with (go_at_call 82; refine HT6.out.mono ?_; rintro e w6 ⟨rfl, rfl⟩)
            obtain ⟨w7, hw7⟩ : ∃ w7, w7 = (w6.setCell ⟨b, 1, none⟩ (.int .i64 (R.gen + 1))).setCell ⟨b, 2, none⟩ (.string s) := ⟨_, rfl⟩
            have HK67 : Hid (Kept [b, gi, gf] w6 w7) := by
              show Kept _ _ _
              rw [hw7]
              exact ((Kept.setCell [b] w6 ⟨b, 1, none⟩ _ (by simp)).trans (Kept.setCell [b] _ ⟨b, 2, none⟩ _ (by simp)) (fun _ _ h => h)).mono (fun i _ hi => by simp only [List.mem_singleton] at hi; simp [hi])
            rw [← hw7] at H7 ⊢
            clear hw7
            go_loopw [7] (fun q wr => ∃ k : Nat, k ≤ R.D.n ∧ q = .int .i64 k ∧ RAt wr B b c gi gf pv own6 { R with D := D3, gen := R.gen + 1, root := s, is := mapI (fun _ x => coF x) R.is k, fo := mapI (foF R.is (R.gen + 1)) R.fo k } ∧ Kept [b, gi, gf] w7 wr) (fun q _ => R.D.n - (intOf q).toNat)
            case atStart => exact ⟨0, Nat.zero_le _, rfl, by rw [mapI_zero, mapI_zero]; exact H7.out, Kept.refl _ _⟩
            case round =>
              obtain ⟨k, hkn, rfl, hr, hkp⟩ := hrel
              obtain ⟨t0, t1, t2, t3, t4, t5, t6⟩ := hr.cells
              simp only at t1 t3 t4
              rw [HDn3.out] at t3 t4
              by_cases hlt : k < R.D.n
              · have hlt' : (k : Int) < R.D.n := by omega
                have hl : k < R.is.length := by rw [HH.out.li]; exact hlt
                have hlf : k < R.fo.length := by rw [HH.out.lf]; exact hlt
                have hs := hr.isAt k (by simp only; rw [HDn3.out]; exact hlt)
                have hso := hr.foAt k (by simp only; rw [HDn3.out]; exact hlt)
                simp only at hs hso
                rw [mapI_get] at hs hso
                have hfi := hr.freeI k
                have hff := hr.freeF k
                have HR := hid hr
                have HKp := hid hkp
                have HN1 := hid hr.n1
                have HN3 := hid hr.n3
                obtain ⟨x, hx⟩ : ∃ x, x = R.is.getD k 0 := ⟨_, rfl⟩
                rw [← hx] at hs
                have HX := hid hx
                clear hr hkp hx
                by_cases h0 : x = 2
                · subst h0
                  have HEi : Hid (mapI (fun _ x => coF x) R.is (k + 1) = (mapI (fun _ x => coF x) R.is k).set k 1) := by
                    rw [mapI_succ _ _ _ hl, ← HX.out]; rfl
                  have HEf : Hid (mapI (foF R.is (R.gen + 1)) R.fo (k + 1) = mapI (foF R.is (R.gen + 1)) R.fo k) := by
                    exact mapI_same _ _ _ hlf (by unfold foF; rw [← HX.out]; rfl)
                  have hs2 : (wr.setCell ⟨gi, k, none⟩ (.int .i64 1)).cell? ⟨gi, k, none⟩ = some (.int .i64 1) := by
                    have := (HR.out.setIs k 1).isAt k (by simp only; rw [HDn3.out]; exact hlt)
                    rw [this]
                    simp [List.getD, mapI_length, hl]
                  have hne : Kept [gi] wr (wr.setCell ⟨gi, k, none⟩ (.int .i64 1)) := Kept.setCell [gi] wr _ _ (by simp)
                  have t3' := hne.cell t3 (by simpa using fun e => HN1.out e.symm)
                  have HNe := hid hne
                  clear hne
                  go_wp2
                  go_roundw
                  case rel => exact ⟨k + 1, by omega, by go_num, by rw [HEi.out, HEf.out]; exact HR.out.setIs k 1, HKp.out.trans (HNe.out.mono (T := [b, gi, gf]) (fun i _ hi => by simp only [List.mem_singleton] at hi; simp [hi])) (fun _ _ h => h)⟩
                  case measure => simp [intOf]; omega
                · have h0' : (x == 2) = false := by rw [beq_eq_false_iff_ne]; exact h0
                  by_cases h1 : x = 3
                  · subst h1
                    have HEi : Hid (mapI (fun _ x => coF x) R.is (k + 1) = (mapI (fun _ x => coF x) R.is k).set k 4) := by
                      rw [mapI_succ _ _ _ hl, ← HX.out]; rfl
                    have HEf : Hid (mapI (foF R.is (R.gen + 1)) R.fo (k + 1) = (mapI (foF R.is (R.gen + 1)) R.fo k).set k (R.gen + 1)) := by
                      have e : foF R.is (R.gen + 1) k (R.fo.getD k 0) = R.gen + 1 := by unfold foF; rw [← HX.out, if_pos rfl]
                      rw [mapI_succ _ _ _ hlf, e]; rfl
                    clear h0
                    have hne : Kept [gi] wr (wr.setCell ⟨gi, k, none⟩ (.int .i64 4)) := Kept.setCell [gi] wr _ _ (by simp)
                    have t4' := hne.cell t4 (by simpa using fun e => HN1.out e.symm)
                    have t1' := hne.cell t1 (by simpa using fun e => HN1.out e.symm)
                    have H8 := hid (HR.out.setIs k 4)
                    have hso' := hne.cell hso (by simpa using fun e => HN3.out e.symm)
                    have hff' := H8.out.freeF k
                    have HNe := hid hne
                    obtain ⟨w8, hw8⟩ : ∃ w8, w8 = wr.setCell ⟨gi, k, none⟩ (.int .i64 4) := ⟨_, rfl⟩
                    clear hne
                    go_wp2
                    rw [← hw8] at H8 HNe t4' t1' hso' hff' ⊢
                    clear hw8
                    obtain ⟨y0, y1, y2, y3, y4, y5, y6⟩ := (H8.out.setFo k (R.gen + 1)).cells
                    simp only at y1 y4
                    rw [HDn3.out] at y4
                    go_region_held3 (fun w' => w'.cell? ⟨b, 4, none⟩ = some (.slice (some ⟨gf, 0, none⟩) R.D.n R.D.n) ∧ w'.cell? ⟨b, 1, none⟩ = some (.int .i64 (R.gen + 1))) (first | exact ⟨y4, y1⟩ | exact ⟨by assumption, by assumption⟩ | go_keep) (fail)
                    go_wp2
                    go_roundw
                    case rel => exact ⟨k + 1, by omega, by go_num, by rw [HEi.out, HEf.out]; exact (H8.out.setFo k (R.gen + 1)).keep (Kept.drew [] _) (by simp), (HKp.out.trans (HNe.out.mono (T := [b, gi, gf]) (fun i _ hi => by simp only [List.mem_singleton] at hi; simp [hi])) (fun _ _ h => h)).trans ((Kept.setCell [gf] _ _ _ (by simp)).trans (Kept.drew [gf] _) (fun _ _ h => h)) (fun i _ hi => by simp only [List.mem_singleton] at hi; simp [hi])⟩
                    case measure => simp [intOf]; omega
                  · have h1' : (x == 3) = false := by rw [beq_eq_false_iff_ne]; exact h1
                    have HEi : Hid (mapI (fun _ x => coF x) R.is (k + 1) = mapI (fun _ x => coF x) R.is k) := by
                      exact mapI_same _ _ _ hl (by rw [← HX.out]; simp [coF, h0, h1])
                    have HEf : Hid (mapI (foF R.is (R.gen + 1)) R.fo (k + 1) = mapI (foF R.is (R.gen + 1)) R.fo k) := by
                      exact mapI_same _ _ _ hlf (by unfold foF; rw [← HX.out, if_neg h1])
                    clear h0 h1
                    go_wp2
                    go_roundw
                    case rel => exact ⟨k + 1, by omega, by go_num, by rw [HEi.out, HEf.out]; exact HR.out, HKp.out⟩
                    case measure => simp [intOf]; omega
              · have hlt' : ¬ (k : Int) < R.D.n := by omega
                rw [mapI_all _ _ _ (by rw [HH.out.li]; omega), mapI_all _ _ _ (by rw [HH.out.lf]; omega)] at hr
                have HSet := hid (rsettle_at hr)
                have HKp := hid hkp
                clear hr hkp
                go_wp2_with (go_at_call 85; refine HSet.out.mono ?_; rintro e w9 ⟨rfl, h9, hk9⟩; have H9 := hid h9; have HK9 := hid hk9; clear h9 hk9)
                go_ret
                rw [HE.out]
                exact DidR.ch HC6.out ((HK67.out.trans HKp.out (fun _ _ h => h)).trans HK9.out (fun i _ hi => by simp only [List.mem_singleton] at hi; simp [hi])) H9.out
          · have HE := hid (commitTo_last (X := X) (s := s) HFF.out.symm HWW.out.symm HFF6.out.symm)
            have HT6 := hid (rtold_yes H6.out)
            go_wp2_with (go_at_call 82; refine HT6.out.mono ?_; rintro e w ⟨rfl, rfl⟩)
            go_ret
            rw [HE.out]
            exact DidR.ch HC6.out ((Kept.setCell [b] _ _ _ (by simp)).mono (fun i _ hi => by simp only [List.mem_singleton] at hi; simp [hi])) H6.out.setDead
        · have HE := hid (commitTo_write (X := X) (s := s) HFF.out.symm HWW.out.symm)
          refine wp_region_held_drew (S := (fun w' => w'.cell? ⟨b, 0, none⟩ = some (.pointer (some ⟨c, 0, none⟩)) ∧ w'.cell? ⟨b, 1, none⟩ = some (.int .i64 R.gen))) (by kernel_rfl) ⟨e0, e1⟩ ?_
          intro hS
          refine anyH_take 0 ⟨some 33, .move (.tmp 0), _, _, _, none⟩ (.pointer (some ⟨b, 0, none⟩)) rfl rfl (by kernel_rfl) (by kernel_rfl) (by kernel_rfl) (fun _ _ _ h => h) (fun _ _ => rfl) hS ?_
          simp only [Act.put, List.setIfInBounds_toArray, List.set_cons_zero, List.set_cons_succ]
          refine anyH_take 1 ⟨some 34, .move (.tmp 0), _, _, _, none⟩ (.pointer (some ⟨b, 0, none⟩)) rfl rfl (by kernel_rfl) (by kernel_rfl) (by kernel_rfl) (fun _ _ _ h => h) (fun _ _ => rfl) hS ?_
          simp only [Act.put, List.setIfInBounds_toArray, List.set_cons_zero, List.set_cons_succ]
          refine anyH_take 2 ⟨some 35, .nilCheck (.tmp 34), _, _, _, none⟩ (.pointer (some ⟨b, 0, none⟩)) rfl rfl (by kernel_rfl) (by kernel_rfl) (by kernel_rfl) (fun _ _ _ h => h) (fun _ _ => rfl) hS ?_
          simp only [Act.put, List.setIfInBounds_toArray, List.set_cons_zero, List.set_cons_succ]
          refine anyH_take 3 ⟨some 36, .fieldAddr 53 (.tmp 35) 0, _, _, _, none⟩ (.pointer (some ⟨b, 0, none⟩)) rfl rfl (by kernel_rfl) (by kernel_rfl) (by kernel_rfl) (fun _ _ _ h => h) (fun w _ => exec_v (field53a b w)) hS ?_
          simp only [Act.put, List.setIfInBounds_toArray, List.set_cons_zero, List.set_cons_succ]
          refine anyH_take 4 ⟨some 37, .load 27 (.tmp 36), _, _, _, none⟩ (.pointer (some ⟨c, 0, none⟩)) rfl rfl (by kernel_rfl) (by kernel_rfl) (by kernel_rfl) (fun _ _ _ h => h) (fun w h => exec_v (load27 h.1)) hS ?_
          simp only [Act.put, List.setIfInBounds_toArray, List.set_cons_zero, List.set_cons_succ]
          refine anyH_take 5 ⟨some 38, .move (.tmp 0), _, _, _, none⟩ (.pointer (some ⟨b, 0, none⟩)) rfl rfl (by kernel_rfl) (by kernel_rfl) (by kernel_rfl) (fun _ _ _ h => h) (fun _ _ => rfl) hS ?_
          simp only [Act.put, List.setIfInBounds_toArray, List.set_cons_zero, List.set_cons_succ]
          refine anyH_take 6 ⟨some 39, .nilCheck (.tmp 38), _, _, _, none⟩ (.pointer (some ⟨b, 0, none⟩)) rfl rfl (by kernel_rfl) (by kernel_rfl) (by kernel_rfl) (fun _ _ _ h => h) (fun _ _ => rfl) hS ?_
          simp only [Act.put, List.setIfInBounds_toArray, List.set_cons_zero, List.set_cons_succ]
          refine anyH_take 7 ⟨some 40, .fieldAddr 53 (.tmp 39) 1, _, _, _, none⟩ (.pointer (some ⟨b, 1, none⟩)) rfl rfl (by kernel_rfl) (by kernel_rfl) (by kernel_rfl) (fun _ _ _ h => h) (fun w _ => exec_v (field53b b w)) hS ?_
          simp only [Act.put, List.setIfInBounds_toArray, List.set_cons_zero, List.set_cons_succ]
          refine anyH_take 8 ⟨some 41, .load 3 (.tmp 40), _, _, _, none⟩ (.int .i64 R.gen) rfl rfl (by kernel_rfl) (by kernel_rfl) (by kernel_rfl) (fun _ _ _ h => h) (fun w h => exec_v (load3k h.2)) hS ?_
          simp only [Act.put, List.setIfInBounds_toArray, List.set_cons_zero, List.set_cons_succ]
          refine anyH_take 9 ⟨some 42, .binOp .add 3 (.tmp 41) (.const (.int .i64 1)) 3, _, _, _, none⟩ (.int .i64 (R.gen + 1)) rfl rfl (by kernel_rfl) (by kernel_rfl) (by kernel_rfl) (fun _ _ _ h => h) (fun w _ => exec_addG rfl hg0 hg1) hS ?_
          simp only [Act.put, List.setIfInBounds_toArray, List.set_cons_zero, List.set_cons_succ]
          refine anyH_take 10 ⟨some 43, .binOp .rem 3 (.tmp 42) (.const (.int .i64 2)) 3, _, _, _, none⟩ (.int .i64 ((R.gen + 1) % 2)) rfl rfl (by kernel_rfl) (by kernel_rfl) (by kernel_rfl) (fun _ _ _ h => h) (fun w _ => exec_rem2 rfl (by omega)) hS ?_
          simp only [Act.put, List.setIfInBounds_toArray, List.set_cons_zero, List.set_cons_succ]
          refine anyH_take 11 ⟨some 44, .move (.tmp 5), _, _, _, none⟩ (.string (strOf X)) rfl rfl (by kernel_rfl) (by kernel_rfl) (by kernel_rfl) (fun _ _ _ h => h) (fun _ _ => rfl) hS ?_
          simp only [Act.put, List.setIfInBounds_toArray, List.set_cons_zero, List.set_cons_succ]
          refine anyH_one 12 ⟨some 45, .convert 9 46 (.tmp 44), _, _, _, none⟩ (.slice (some ⟨w2.drew.heap.size, 0, none⟩) 512 cap) w3 (by kernel_rfl) rfl rfl (exec_v hrun) ⟨f0, f1⟩ ?_
          simp only [Act.put, List.setIfInBounds_toArray, List.set_cons_zero, List.set_cons_succ]
          refine anyH_callW 13 ⟨some 46, .call { callee := .value (.func 22), args := #[.tmp 37, .tmp 43, .tmp 45], argTypes := #[27, 3, 46] }, _, _, _, none⟩ 22 _ (by kernel_rfl) rfl rfl (exec_call22 (u := .pointer (some ⟨c, 0, none⟩)) (v := .int .i64 ((R.gen + 1) % 2)) (s := .slice (some ⟨w2.drew.heap.size, 0, none⟩) 512 cap) rfl rfl rfl) ?_
          refine HWA.out.mono ?_
          rintro e w4 ⟨rfl, own4, hd4, hk4, hn4'⟩
          have H4 := hid (H3.out.setDisk hd4 hk4 hn4' HWG.out.1 HWb.out)
          have HC4 := hid (HC2.out.trans (⟨(HK23.out.mono (T := own2) (by simp)).trans hk4 (fun _ _ h => h), fun k hk => (hn4' k hk).imp id (fun h => by have := HK23.out.size; omega)⟩ : Chain w2 w4 own2 own4))
          obtain ⟨p0, p1, p2, p3, p4, p5, p6⟩ := H4.out.cells
          simp only at p1
          clear hd4 hk4 hn4'
          refine ⟨_, rfl, ⟨p0, p1⟩, ?_⟩
          simp only [Act.put, List.setIfInBounds_toArray, List.set_cons_zero, List.set_cons_succ]
          refine anyH_callW 14 ⟨some 47, .call { callee := .value (.func 82), args := #[.tmp 33, .tmp 46], argTypes := #[37, 3] }, _, _, _, none⟩ 82 _ (by kernel_rfl) rfl rfl (exec_call82 (u := .pointer (some ⟨b, 0, none⟩)) (v := .int .i64 9) rfl rfl) ?_
          refine (rtold_yes H4.out).mono ?_
          rintro e w5 ⟨rfl, rfl⟩
          have H5 := hid H4.out.setDead
          obtain ⟨q0, q1, q2, q3, q4, q5, q6⟩ := H5.out.cells
          simp only at q1
          refine ⟨_, rfl, ⟨q0, q1⟩, ?_⟩
          simp only [Act.put, List.setIfInBounds_toArray, List.set_cons_zero, List.set_cons_succ]
          refine anyH_one 15 ⟨some 6, .assign (.tmp 47), _, _, _, none⟩ (.int .i64 9) _ (by kernel_rfl) rfl rfl rfl ⟨q0, q1⟩ ?_
          simp only [Act.put, List.setIfInBounds_toArray, List.set_cons_zero, List.set_cons_succ]
          refine wpAnyH_done (by kernel_rfl) ?_ _
          go_wp2_with fail
          go_ret
          rw [HE.out]
          exact DidR.ch HC4.out ((Kept.setCell [b] _ _ _ (by simp)).mono (fun i _ hi => by simp only [List.mem_singleton] at hi; simp [hi])) H5.out
      · have HT := hid (rtold_yes H2.out)
        have HE := hid (commitTo_flush (X := X) (s := s) HFF.out.symm)
        go_wp2_with (go_at_call 82; refine HT.out.mono ?_; rintro e w ⟨rfl, rfl⟩)
        go_ret
        rw [HE.out]
        exact DidR.ch HC2.out ((Kept.setCell [b] _ _ _ (by simp)).mono (fun i _ hi => by simp only [List.mem_singleton] at hi; simp [hi])) H2.out.setDead
end
end Go.Proofs.Ytambgimfbdecpaa
