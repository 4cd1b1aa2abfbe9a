/- What this text holds: the law's own look at places (within). -/
import Derived.Test.YtgolcmafbenjbaaGreatDoorQ2
import Derived.Test.YtgolcmafbenjbaaGreatDoorN27
namespace Go.Proofs.YtgolcmafbenjbaaGreatDoor
open Go.RowKit
set_option linter.unusedVariables false
set_option linter.unusedSimpArgs false

theorem row_at {w : World} {g t : Nat} {X : Array Value} {fr : Nat × Nat} (h : w.heap[g]? = some (.cells X t fr)) (i : Nat) {v : Value} (hv : X[i]? = some v) : w.cell? ⟨g, i, none⟩ = some v := by
  simp only [World.cell?, h]
  exact hv
def WithinOk (n : Nat) : Prop := ∀ (w : World) (N : Nat → Prop) (p : Pt) (vp vi vd vk : Value) (a b : Nat), PtAt w N n p vp vi vd vk → Wi n a b p → b ≤ 1000000 →
  Calls Tryz.prog 16 #[ptV p.d vp vi vd vk, .int .i64 a, .int .i64 b] w fun e w' => e = .returned (.bool true) ∧ Below w.heap.size w w'
set_option maxRecDepth 100000 in
set_option maxHeartbeats 4000000 in
theorem within_nil (d : Pd) (vp vi vd : Value) (ka : Option Addr) (kc : Nat) (a b : Nat) (w : World) (h1 : a ≤ d.hd) (h2 : d.hd ≤ d.fr) (h3 : d.fr ≤ d.to) (h4 : d.to ≤ b) (hb : b ≤ 1000000) : Calls Tryz.prog 16 #[ptV d vp vi vd (.slice ka 0 kc), .int .i64 a, .int .i64 b] w fun e w' => e = .returned (.bool true) ∧ Below w.heap.size w w' := by
  have HB := hid (below1 w (.cells (ptC d vp vi vd (.slice ka 0 kc)) 33))
  have q1 : ¬ ((d.hd : Int) < (a : Int)) := by omega
  have q2 : ¬ ((d.fr : Int) < (d.hd : Int)) := by omega
  have q3 : ¬ ((d.to : Int) < (d.fr : Int)) := by omega
  have q4 : ¬ ((b : Int) < (d.to : Int)) := by omega
  clear h1 h2 h3 h4 hb
  unfold ptV ptC at *
  go_enter Tryz.func16, Tryz.ntmps16
  go_wp2_with fail
  generalize (w.alloc (.cells #[.string (str d.ty), .string (str d.sub), vp, vi, vd, .string (str d.enc), .int .i64 d.hd, .int .i64 d.fr, .int .i64 d.to, .int .i64 d.lns, .slice ka 0 kc] 33)) = W at *
  go_loopw [7, 9, 45] (fun c q i wr => c = .int .i64 d.fr ∧ i = .int .i64 0 ∧ wr = W) (fun _ _ _ _ => 0)
  case atStart => exact ⟨rfl, rfl, rfl⟩
  case round =>
    obtain ⟨rfl, rfl, hw⟩ := hrel
    subst hw
    go_wp2_with fail
    go_ret
    exact ⟨rfl, HB.out⟩
set_option maxRecDepth 100000 in
set_option maxHeartbeats 8000000 in
theorem within_ok : ∀ n, WithinOk n := by
  intro n
  induction n with
  | zero =>
    intro w N p vp vi vd vk a b hp hw hb
    obtain ⟨h1, rfl⟩ := hp.k
    obtain ⟨⟨q1, q2, q3, q4⟩, _⟩ := hw
    exact within_nil p.d vp vi vd none 0 a b w q1 q2 q3 q4 hb
  | succ n ih =>
    intro w N p vp vi vd vk a b hp hw hb
    obtain ⟨⟨h1, h2, h3, h4⟩, hkl, hwl⟩ := hw
    have hb0 := below1 w (.cells (ptC p.d vp vi vd vk) 33)
    have hk1 := KsAt.kept (Kept.ofBelow hb0 []) (by simp) hp.k
    obtain ⟨ka, kc, rfl, hkc, hks⟩ := hk1
    rcases hks with hks | ⟨g, o, rfl, hg, hN, hks⟩
    · rw [show p.kids.length = 0 by simp [hks]]
      exact within_nil p.d vp vi vd ka kc a b w h1 h2 h3 h4 hb
    · have HB := hid hb0
      have HKs := hid hks
      have HIH := hid ih
      have HWl := hid hwl
      have HTo := hid (Nat.le_trans h4 hb)
      have q1 : ¬ ((p.d.hd : Int) < (a : Int)) := by omega
      have q2 : ¬ ((p.d.fr : Int) < (p.d.hd : Int)) := by omega
      have q3 : ¬ ((p.d.to : Int) < (p.d.fr : Int)) := by omega
      have q4 : ¬ ((b : Int) < (p.d.to : Int)) := by omega
      have q5 : ¬ ((60 : Int) < (p.kids.length : Int)) := by omega
      clear hb0 hks ih hp hwl h1 h2 h3 h4 hb hkl
      unfold ptV ptC at *
      go_enter Tryz.func16, Tryz.ntmps16
      go_wp2_with fail
      have R8 := heap_alloc_new w (.cells #[.string (str p.d.ty), .string (str p.d.sub), vp, vi, vd, .string (str p.d.enc), .int .i64 p.d.hd, .int .i64 p.d.fr, .int .i64 p.d.to, .int .i64 p.d.lns, .slice (some ⟨g, o, none⟩) p.kids.length kc] 33)
      have x8 := row_at R8 8 (v := .int .i64 p.d.to) rfl
      have hlw : w.heap.size < (w.alloc (.cells #[.string (str p.d.ty), .string (str p.d.sub), vp, vi, vd, .string (str p.d.enc), .int .i64 p.d.hd, .int .i64 p.d.fr, .int .i64 p.d.to, .int .i64 p.d.lns, .slice (some ⟨g, o, none⟩) p.kids.length kc] 33)).heap.size := lt_of_some R8
      clear R8
      generalize (w.alloc (.cells #[.string (str p.d.ty), .string (str p.d.sub), vp, vi, vd, .string (str p.d.enc), .int .i64 p.d.hd, .int .i64 p.d.fr, .int .i64 p.d.to, .int .i64 p.d.lns, .slice (some ⟨g, o, none⟩) p.kids.length kc] 33)) = W at *
      go_loopw [7, 9, 45] (fun c q i wr => ∃ j x : Nat, j ≤ p.kids.length ∧ i = .int .i64 j ∧ c = .int .i64 x ∧ WiL (Wi n) p.d.to x (p.kids.drop j) ∧ Below W.heap.size W wr) (fun _ _ i _ => p.kids.length - (intOf i).toNat)
      case atStart => exact ⟨0, p.d.fr, by omega, rfl, rfl, by simpa using HWl.out, Below.refl _ _⟩
      case round =>
        obtain ⟨j, x, hj, rfl, rfl, hwx, hbj⟩ := hrel
        have HBj := hid hbj
        have HWx := hid hwx
        have y8 := (World.cell?_of_block (hbj.block _ hlw)).trans x8
        clear hbj hwx
        by_cases hlt : j < p.kids.length
        · have hlt' : (j : Int) < p.kids.length := by omega
          obtain ⟨wp, wi, wd, wk, hcs, hpd, hkk⟩ := HKs.out j p.kids[j] (List.getElem?_eq_getElem hlt)
          have hbk : Kept [] W wr := Kept.ofBelow HBj.out []
          obtain ⟨c0, c1, c2, c3, c4, c5, c6, c7, c8, c9, c10⟩ := kid_cells (w := wr) (g := g) (b := o + j * 11) (fun i x hx => hbk.cell (hcs i x hx) (by simp))
          have hpk : PtAt wr N n p.kids[j] wp wi wd wk := ⟨hpd.kept hbk (by simp), KsAt.kept hbk (by simp) hkk⟩
          obtain ⟨pa, pn, pc, ia, n1, cc1, da, n2, cc2, qa, qn, qc, rfl, rfl, rfl, rfl⟩ := hpk.slices
          have hwx := HWx.out
          rw [List.drop_eq_getElem_cons hlt] at hwx
          obtain ⟨hw1, hw2⟩ := hwx
          have hA := below1 wr (.cells (ptC p.kids[j].d (.slice pa pn pc) (.slice ia n1 cc1) (.slice da n2 cc2) (.slice qa qn qc)) 33)
          have y9 := (World.cell?_of_block (hA.block _ (World.block_lt_of_cell? _ _ y8))).trans y8
          have HCa := hid (HIH.out _ N p.kids[j] _ _ _ _ x p.d.to (hpk.later hA) hw1 HTo.out)
          have HBA := hid (HBj.out.trans (hA.mono HBj.out.size))
          have HW2 := hid hw2
          have hnew := heap_alloc_new wr (.cells (ptC p.kids[j].d (.slice pa pn pc) (.slice ia n1 cc1) (.slice da n2 cc2) (.slice qa qn qc)) 33)
          have z8 := row_at hnew 8 (v := .int .i64 p.kids[j].d.to) rfl
          have hlz := lt_of_some hnew
          generalize p.kids[j].d = kd at *
          clear hcs hpd hkk hbk hpk hA hw1 hw2 HWx hnew
          unfold ptV ptC at *
          go_wp2_with fail
          refine HCa.out.mono ?_
          rintro e w3 ⟨rfl, hb3⟩
          have HB3 := hid (HBA.out.trans (hb3.mono HBA.out.size))
          have z88 := (World.cell?_of_block (hb3.block _ hlz)).trans z8
          clear hb3 HCa
          go_wp2_with fail
          go_roundw
          case rel => exact ⟨j + 1, kd.to, by omega, by go_num, rfl, HW2.out, HB3.out⟩
          case measure => simp [intOf]; omega
        · have hlt' : ¬ (j : Int) < p.kids.length := by omega
          have HBz := hid (HB.out.trans (HBj.out.mono HB.out.size))
          go_wp2_with fail
          go_ret
          exact ⟨rfl, HBz.out⟩
end Go.Proofs.YtgolcmafbenjbaaGreatDoor
