/- What this text holds: Open of the document's own pager. -/
import Derived.Test.YtambgimfbdecpaaQ26
namespace Go.Proofs.Ytambgimfbdecpaa
open Go.RowKit
set_option linter.unusedVariables false

theorem made_ints (n : Nat) (hn : n ≤ 4096) (w : World) : (Instr.makeSlice 51 (.int .i64 n) (.int .i64 n)).run Try.prog w = .ok (.slice (some ⟨w.heap.size, 0, none⟩) n n) (w.alloc (.cells (ints (List.replicate n 0)).toArray 3)) := by
  obtain ⟨i, hi, hz0, hz1, hz2⟩ := info_parts Try.info3p
  have h := run_make (P := Try.prog) w 51 3 i _ Try.underlying51 hi hz0 .i64 .i64 n n (by omega) (by omega) (by rw [hz2]; omega) (by omega)
  rw [h, hz1, Int.toNat_natCast]
  have e : madeCells (Value.int .i64 0).cells (n * 1) = (ints (List.replicate n 0)).toArray := by
    apply Array.toList_inj.1
    apply List.ext_getElem?
    intro j
    by_cases hj : j < n
    · simp [madeCells, ints, Value.cells, hj, Nat.mod_one]
    · simp [madeCells, ints, Value.cells, hj]
  rw [e]

/-- The pager behind k sectors. -/
def RS.at (D : DS) (k : Nat) : RS := { D := D, is := List.replicate D.n 0, fo := List.replicate D.n 0, pins := [], gen := (D.roots k).1, root := (D.roots k).2, dead := false }
def ROpenP (w : World) (B c : Nat) (own : List Nat) (D : DS) (e : Ending) (w' : World) : Prop :=
  (∃ pv, e = .returned (.tuple #[pv, .int .i64 D.openE]) ∧ ((D.openE ≠ 0 ∧ pv = .pointer none) ∨ (D.openE = 0 ∧ ∃ b gi gf, pv = .pointer (some ⟨b, 0, none⟩) ∧ w.heap.size ≤ b ∧ w.heap.size ≤ gi ∧ w.heap.size ≤ gf ∧ RAt w' B b c gi gf (.slice none 0 0) own (RS.at D 2)))) ∧ Below w.heap.size w w'

set_option maxRecDepth 100000 in
set_option maxHeartbeats 1000000 in
theorem ropen_small {w : World} {B c : Nat} {own : List Nat} {D : DS} (h : RDisk w B c own D) (h4 : ¬ 4 ≤ D.n) : Calls Try.prog 45 #[.pointer (some ⟨c, 0, none⟩)] w (ROpenP w B c own D) := by
  obtain ⟨gl, lc, c0⟩ := h.len
  have hn := h.good.n2
  have h4' : (D.n : Int) < 4 := by omega
  have HE : Hid (D.openE = 2) := by show D.openE = 2; unfold DS.openE; rw [if_pos h4]
  clear h h4
  go_enter Try.func45, Try.ntmps45
  go_wp2
  go_ret2
  exact ⟨⟨.pointer none, by rw [HE.out]; rfl, .inl ⟨by rw [HE.out]; decide, rfl⟩⟩, Below.refl _ _⟩

/-- The world in which the pager is made. -/
def opW (w : World) (n c g1 g2 : Nat) : World := (((w.alloc (.cells (ints (List.replicate n 0)).toArray 3)).alloc (.cells (ints (List.replicate n 0)).toArray 3)).alloc (.cells #[.pointer (some ⟨c, 0, none⟩), .int .i64 0, .string ⟨#[]⟩, .slice (some ⟨g1, 0, none⟩) n n, .slice (some ⟨g2, 0, none⟩) n n, .slice none 0 0, .bool false] 53)).drew
theorem opW_below (w : World) (n c g1 g2 : Nat) : Below w.heap.size w (opW w n c g1 g2) :=
  ((((Below.refl _ w).alloc (Nat.le_refl _) _).alloc (by simp) _).alloc (by simp; omega) _).drew
theorem opW_at (w : World) (n c g1 g2 : Nat) : (opW w n c g1 g2).heap[w.heap.size]? = some (.cells (ints (List.replicate n 0)).toArray 3 (0, 0)) ∧ (opW w n c g1 g2).heap[w.heap.size + 1]? = some (.cells (ints (List.replicate n 0)).toArray 3 (0, 0)) ∧
    (opW w n c g1 g2).heap[w.heap.size + 1 + 1]? = some (.cells #[.pointer (some ⟨c, 0, none⟩), .int .i64 0, .string ⟨#[]⟩, .slice (some ⟨g1, 0, none⟩) n n, .slice (some ⟨g2, 0, none⟩) n n, .slice none 0 0, .bool false] 53 (0, 0)) := by
  unfold opW
  generalize hA : Obj.cells (ints (List.replicate n 0)).toArray 3 = A
  generalize hC : Obj.cells #[.pointer (some ⟨c, 0, none⟩), .int .i64 0, .string ⟨#[]⟩, .slice (some ⟨g1, 0, none⟩) n n, .slice (some ⟨g2, 0, none⟩) n n, .slice none 0 0, .bool false] 53 = C
  have s1 : (w.alloc A).heap.size = w.heap.size + 1 := by simp
  have s2 : ((w.alloc A).alloc A).heap.size = w.heap.size + 1 + 1 := by simp
  have b1 := heap_alloc_new w A
  have b2 := heap_alloc_new (w.alloc A) A
  have b3 := heap_alloc_new ((w.alloc A).alloc A) C
  rw [s1] at b2
  rw [s2] at b3
  have k2 := Kept.alloc [] (w.alloc A) A
  have k3 := Kept.alloc [] ((w.alloc A).alloc A) C
  refine ⟨?_, ?_, b3⟩
  · show ((((w.alloc A).alloc A).alloc C)).heap[w.heap.size]? = _
    rw [k3.block _ (by omega) (by simp), k2.block _ (by omega) (by simp)]; exact b1
  · show ((((w.alloc A).alloc A).alloc C)).heap[w.heap.size + 1]? = _
    rw [k3.block _ (by omega) (by simp)]; exact b2
theorem open_lay {w : World} {B c : Nat} {own : List Nat} {D : DS} (h : RDisk w B c own D) (hy : D.byt) (h4 : 4 ≤ D.n) {g1 g2 : Nat} (hg : (g1 = w.heap.size ∧ g2 = w.heap.size + 1) ∨ (g1 = w.heap.size + 1 ∧ g2 = w.heap.size)) :
    RAt (opW w D.n c g1 g2) B (w.heap.size + 1 + 1) c g1 g2 (.slice none 0 0) own (RS.at D 0) := by
  obtain ⟨a1, a2, a3⟩ := opW_at w D.n c g1 g2
  have hlt := fun k hk => (h.lt k hk).2
  have hB : B ≤ w.heap.size := by
    obtain ⟨gl, lc, wv, hd, rfl⟩ := h
    have := hd.lt c (by simp); omega
  have hd := h.keep (Kept.ofBelow (opW_below w D.n c g1 g2) []) (by simp)
  refine { blk := a3, is := ?_, fo := ?_, li := by simp [RS.at], lf := by simp [RS.at], pins := World.ownsRow_nil _ _ _ _, disk := hd, byt := hy, n1 := by omega, n2 := by omega, n3 := by omega, n4 := by simp [Value.ownBlock], n5 := by simp [Value.ownBlock], n6 := by simp [Value.ownBlock], m1 := fun hm => by have := hlt _ hm; omega, m2 := fun hm => by have := hlt _ hm; omega, m3 := fun hm => by have := hlt _ hm; omega, m4 := fun k hk => by simp [Value.ownBlock] at hk, hb := by omega, hgi := by omega, hgf := by omega, g0 := Int.le_refl _, g1 := by show (0 : Int) ≤ 4611686018427387904; omega, n := h4 }
  · rcases hg with ⟨rfl, rfl⟩ | ⟨rfl, rfl⟩
    · exact a1
    · exact a2
  · rcases hg with ⟨rfl, rfl⟩ | ⟨rfl, rfl⟩
    · exact a2
    · exact a1

set_option maxRecDepth 100000 in
set_option maxHeartbeats 2000000 in
theorem ropen_gone {w : World} {B c : Nat} {own : List Nat} {D : DS} (h : RDisk w B c own D) (hy : D.byt) (h4 : 4 ≤ D.n) (hg : D.gone = true) : Calls Try.prog 45 #[.pointer (some ⟨c, 0, none⟩)] w (ROpenP w B c own D) := by
  obtain ⟨gl, lc, c0⟩ := h.len
  have hn := h.good.n2
  have h4' : ¬ (D.n : Int) < 4 := by omega
  have HE : Hid (D.openE = 9) := by show D.openE = 9; unfold DS.openE; rw [if_neg (by simpa using h4), if_pos hg]
  have hmk := made_ints D.n hn
  have HH := hid h
  have HY := hid hy
  have HG := hid hg
  clear h hy hg
  go_enter Try.func45, Try.ntmps45
  go_wp2
  go_region_held3 (fun w' => w'.cell? ⟨c, 0, none⟩ = some (.slice (some ⟨gl, 0, none⟩) D.n lc)) (first | assumption | exact cell_alloc c0 _ | exact cell_alloc (cell_alloc c0 _) _ | exact cell_alloc (cell_alloc (cell_alloc c0 _) _) _ | go_keep) (fail)
  · have h1 := open_lay HH.out HY.out h4 (g1 := w.heap.size) (g2 := w.heap.size + 1) (.inl ⟨rfl, rfl⟩)
    have hb1 := opW_below w D.n c (w.heap.size) (w.heap.size + 1)
    obtain ⟨w1, hw1⟩ : ∃ w1, w1 = opW w D.n c (w.heap.size) (w.heap.size + 1) := ⟨_, rfl⟩
    rw [← hw1] at h1 hb1
    unfold opW at hw1
    rw [← hw1]
    clear hw1
    obtain ⟨b, hb⟩ : ∃ b, b = w.heap.size + 1 + 1 := ⟨_, rfl⟩
    rw [← hb] at h1 ⊢
    obtain ⟨gi, hgi⟩ : ∃ gi, gi = w.heap.size := ⟨_, rfl⟩
    obtain ⟨gf, hgf⟩ : ∃ gf, gf = w.heap.size + 1 := ⟨_, rfl⟩
    rw [← hgf, ← hgi] at h1
    have HBL : Hid (w.heap.size ≤ b ∧ w.heap.size ≤ gi ∧ w.heap.size ≤ gf) := ⟨by omega, by omega, by omega⟩
    have HB1 := hid hb1
    have HRd := hid (rread_all h1.disk 0)
    have e9 : (RS.at D 0).D.ans 0 = ([], 9) := by
      show DS.ans D 0 = _
      unfold DS.ans
      rw [if_pos ⟨by omega, by omega⟩, HG.out]; rfl
    rw [e9] at HRd
    clear h1 hb1 e9
    go_wp2_with fail
    refine wp_loop_rounds 1 ?_
    rw [rounds_succ]
    go_wp2_with (first | (go_at_call 78; refine HRd.out.mono ?_; rintro e wb ⟨rfl, rfl⟩))
    go_ret2
    exact ⟨⟨.pointer none, by rw [HE.out]; rfl, .inl ⟨by rw [HE.out]; decide, rfl⟩⟩, HB1.out⟩
  · have h1 := open_lay HH.out HY.out h4 (g1 := w.heap.size + 1) (g2 := w.heap.size) (.inr ⟨rfl, rfl⟩)
    have hb1 := opW_below w D.n c (w.heap.size + 1) (w.heap.size)
    obtain ⟨w1, hw1⟩ : ∃ w1, w1 = opW w D.n c (w.heap.size + 1) (w.heap.size) := ⟨_, rfl⟩
    rw [← hw1] at h1 hb1
    unfold opW at hw1
    rw [← hw1]
    clear hw1
    obtain ⟨b, hb⟩ : ∃ b, b = w.heap.size + 1 + 1 := ⟨_, rfl⟩
    rw [← hb] at h1 ⊢
    obtain ⟨gi, hgi⟩ : ∃ gi, gi = w.heap.size + 1 := ⟨_, rfl⟩
    obtain ⟨gf, hgf⟩ : ∃ gf, gf = w.heap.size := ⟨_, rfl⟩
    rw [← hgi, ← hgf] at h1
    have HBL : Hid (w.heap.size ≤ b ∧ w.heap.size ≤ gi ∧ w.heap.size ≤ gf) := ⟨by omega, by omega, by omega⟩
    have HB1 := hid hb1
    have HRd := hid (rread_all h1.disk 0)
    have e9 : (RS.at D 0).D.ans 0 = ([], 9) := by
      show DS.ans D 0 = _
      unfold DS.ans
      rw [if_pos ⟨by omega, by omega⟩, HG.out]; rfl
    rw [e9] at HRd
    clear h1 hb1 e9
    go_wp2_with fail
    refine wp_loop_rounds 1 ?_
    rw [rounds_succ]
    go_wp2_with (first | (go_at_call 78; refine HRd.out.mono ?_; rintro e wb ⟨rfl, rfl⟩))
    go_ret2
    exact ⟨⟨.pointer none, by rw [HE.out]; rfl, .inl ⟨by rw [HE.out]; decide, rfl⟩⟩, HB1.out⟩

set_option maxRecDepth 100000 in
set_option maxHeartbeats 4000000 in
theorem ropen_yes {w : World} {B c : Nat} {own : List Nat} {D : DS} (h : RDisk w B c own D) (hy : D.byt) (h4 : 4 ≤ D.n) (hg : D.gone = false) : Calls Try.prog 45 #[.pointer (some ⟨c, 0, none⟩)] w (ROpenP w B c own D) := by
  obtain ⟨gl, lc, c0⟩ := h.len
  have hn := h.good.n2
  have h4' : ¬ (D.n : Int) < 4 := by omega
  have HE : Hid (D.openE = if (D.roots 2).1 = 0 then 10 else 0) := by show D.openE = _; unfold DS.openE; rw [if_neg (by simpa using h4), if_neg (by simp [hg])]
  have hmk := made_ints D.n hn
  have HH := hid h
  have HY := hid hy
  have HG := hid hg
  clear h hy hg
  go_enter Try.func45, Try.ntmps45
  go_wp2
  go_region_held3 (fun w' => w'.cell? ⟨c, 0, none⟩ = some (.slice (some ⟨gl, 0, none⟩) D.n lc)) (first | assumption | exact cell_alloc c0 _ | exact cell_alloc (cell_alloc c0 _) _ | exact cell_alloc (cell_alloc (cell_alloc c0 _) _) _ | go_keep) (fail)
  · have h1 := open_lay HH.out HY.out h4 (g1 := w.heap.size) (g2 := w.heap.size + 1) (.inl ⟨rfl, rfl⟩)
    have hb1 := opW_below w D.n c (w.heap.size) (w.heap.size + 1)
    obtain ⟨w1, hw1⟩ : ∃ w1, w1 = opW w D.n c (w.heap.size) (w.heap.size + 1) := ⟨_, rfl⟩
    rw [← hw1] at h1 hb1
    unfold opW at hw1
    rw [← hw1]
    clear hw1
    obtain ⟨b, hb⟩ : ∃ b, b = w.heap.size + 1 + 1 := ⟨_, rfl⟩
    rw [← hb] at h1 ⊢
    obtain ⟨gi, hgi⟩ : ∃ gi, gi = w.heap.size := ⟨_, rfl⟩
    obtain ⟨gf, hgf⟩ : ∃ gf, gf = w.heap.size + 1 := ⟨_, rfl⟩
    rw [← hgf, ← hgi] at h1
    have HBL : Hid (w.heap.size ≤ b ∧ w.heap.size ≤ gi ∧ w.heap.size ≤ gf) := ⟨by omega, by omega, by omega⟩
    have HB1 := hid hb1
    have H1 := hid h1
    clear h1 hb1 hgi hgf hb
    go_wp2_with fail
    go_loopw [5] (fun q wr => ∃ k : Nat, k ≤ 2 ∧ q = .int .i64 k ∧ RAt wr B b c gi gf (.slice none 0 0) own (RS.at D k) ∧ Below w.heap.size w wr) (fun q _ => 2 - (intOf q).toNat)
    case atStart => exact ⟨0, by omega, rfl, H1.out, HB1.out⟩
    case round =>
      obtain ⟨k, hk2, rfl, hp, hbr⟩ := hrel
      by_cases hlt : k < 2
      · have hlt' : (k : Int) < 2 := by omega
        have HRd := hid (rread_all hp.disk k)
        have hln := hp.disk.good.read k (by simp only [RS.at]; omega)
        have hby := hp.byt.read k
        have hnx : D.roots (k + 1) = pickR (D.read k) k (D.roots k).1 (D.roots k).2 := rfl
        have eD : (RS.at D k).D = D := rfl
        rw [eD] at HRd hln hby
        have ea : D.ans k = (D.read k, 0) := by
          simp only [DS.ans, Int.toNat_natCast]; rw [if_pos ⟨by omega, by omega⟩, HG.out]; rfl
        rw [ea] at HRd
        obtain ⟨hr0, hr1⟩ := D.roots_range k
        have HP := hid hp
        have HBR := hid hbr
        clear hp hbr eD ea
        generalize hX : D.read k = X at *
        have HLn := hid hln
        have HBy := hid hby
        have HNX := hid hnx
        clear hX hln hby hnx
        have HRO := hid (fun w => rrdoc_any (strOf X) X (bOf_strOf _ HBy.out) w HLn.out)
        go_wp2_with (first | (go_at_call 78; refine HRd.out.mono ?_; rintro e wb ⟨rfl, rfl⟩))
        refine (HRO.out _).mono ?_
        by_cases hroot : isRoot X
        · rw [ropenV_yes hroot]
          rintro e w3 ⟨rfl, hb3⟩
          have H3 := hid (HP.out.later hb3)
          have HB3 := hid (HBR.out.trans (hb3.mono HBR.out.size))
          obtain ⟨d0, d1, d2, d3, d4, d5, d6⟩ := H3.out.cells
          have df1 := H3.out.free 1
          have df2 := H3.out.free 2
          have hG := hroot.2.1
          have HRoot := hid hroot
          have HSR := hid (H3.out.setRoot (rgenOf X) (strOf (rconOf X)) (by omega) (by omega))
          have eg : (RS.at D k).gen = (D.roots k).1 := rfl
          rw [eg] at d1
          clear hb3 hroot eg
          by_cases e1 : rgenOf X % 2 = k
          · have e1' : (rgenOf X % 2 == (k : Int)) = true := by rw [beq_iff_eq]; exact e1
            by_cases e2 : (D.roots k).1 < rgenOf X
            · have HPk : Hid (D.roots (k + 1) = (rgenOf X, strOf (rconOf X))) := by show D.roots (k + 1) = _; rw [HNX.out]; unfold pickR; rw [if_pos ⟨HRoot.out, e1, e2⟩]
              clear e1
              generalize rgenOf X = G at *
              generalize strOf (rconOf X) = C at *
              generalize (D.roots k).1 = g0 at *
              go_wp2_with fail
              go_roundw
              case rel =>
                refine ⟨k + 1, by omega, by go_num, ?_, ?_⟩
                · have := HSR.out
                  unfold RS.at
                  rw [HPk.out]
                  exact this
                · exact (HB3.out.setCell HBL.out.1 _).setCell HBL.out.1 _
              case measure => simp [intOf]; omega
            · have HPk : Hid (D.roots (k + 1) = D.roots k) := by show D.roots (k + 1) = _; rw [HNX.out]; unfold pickR; rw [if_neg (fun h => e2 h.2.2)]
              clear e1
              generalize rgenOf X = G at *
              generalize strOf (rconOf X) = C at *
              generalize hg0 : (D.roots k).1 = g0 at *
              have HG0 := hid hg0
              clear hg0
              go_wp2_with fail
              go_roundw
              case rel =>
                refine ⟨k + 1, by omega, by go_num, ?_, HB3.out⟩
                have := H3.out
                unfold RS.at at this ⊢
                rw [HPk.out]
                exact this
              case measure => simp [intOf]; omega
          · have e1' : (rgenOf X % 2 == (k : Int)) = false := by rw [beq_eq_false_iff_ne]; exact e1
            have HPk : Hid (D.roots (k + 1) = D.roots k) := by show D.roots (k + 1) = _; rw [HNX.out]; unfold pickR; rw [if_neg (fun h => e1 h.2.1)]
            clear e1
            generalize rgenOf X = G at *
            generalize strOf (rconOf X) = C at *
            go_wp2_with fail
            go_roundw
            case rel =>
              refine ⟨k + 1, by omega, by go_num, ?_, HB3.out⟩
              have := H3.out
              unfold RS.at at this ⊢
              rw [HPk.out]
              exact this
            case measure => simp [intOf]; omega
        · rw [ropenV_no hroot]
          rintro e w3 ⟨rfl, hb3⟩
          have H3 := hid (HP.out.later hb3)
          have HB3 := hid (HBR.out.trans (hb3.mono HBR.out.size))
          have HPk : Hid (D.roots (k + 1) = D.roots k) := by show D.roots (k + 1) = _; rw [HNX.out]; unfold pickR; rw [if_neg (fun h => hroot h.1)]
          clear hb3 hroot
          go_wp2_with fail
          go_roundw
          case rel =>
            refine ⟨k + 1, by omega, by go_num, ?_, HB3.out⟩
            have := H3.out
            unfold RS.at at this ⊢
            rw [HPk.out]
            exact this
          case measure => simp [intOf]; omega
      · have e : k = 2 := by omega
        subst e
        have hcell := hp.cells.2.1
        have eg : (RS.at D 2).gen = (D.roots 2).1 := rfl
        rw [eg] at hcell
        have HP := hid hp
        have HBR := hid hbr
        clear hp hbr eg
        by_cases h0 : (D.roots 2).1 = 0
        · rw [h0] at hcell
          have hE := HE.out
          rw [if_pos h0] at hE
          have HE2 := hid hE
          clear hE h0
          go_wp2_with fail
          go_ret2
          exact ⟨⟨.pointer none, by rw [HE2.out]; rfl, .inl ⟨by rw [HE2.out]; decide, rfl⟩⟩, HBR.out⟩
        · have h0' : ((D.roots 2).1 == 0) = false := by rw [beq_eq_false_iff_ne]; exact h0
          have hE := HE.out
          rw [if_neg h0] at hE
          have HE2 := hid hE
          clear hE h0
          generalize (D.roots 2).1 = g0 at *
          go_wp2_with fail
          go_ret2
          exact ⟨⟨.pointer (some ⟨b, 0, none⟩), by rw [HE2.out]; rfl, .inr ⟨HE2.out, b, gi, gf, rfl, HBL.out.1, HBL.out.2.1, HBL.out.2.2, HP.out⟩⟩, HBR.out⟩
  · have h1 := open_lay HH.out HY.out h4 (g1 := w.heap.size + 1) (g2 := w.heap.size) (.inr ⟨rfl, rfl⟩)
    have hb1 := opW_below w D.n c (w.heap.size + 1) (w.heap.size)
    obtain ⟨w1, hw1⟩ : ∃ w1, w1 = opW w D.n c (w.heap.size + 1) (w.heap.size) := ⟨_, rfl⟩
    rw [← hw1] at h1 hb1
    unfold opW at hw1
    rw [← hw1]
    clear hw1
    obtain ⟨b, hb⟩ : ∃ b, b = w.heap.size + 1 + 1 := ⟨_, rfl⟩
    rw [← hb] at h1 ⊢
    obtain ⟨gi, hgi⟩ : ∃ gi, gi = w.heap.size + 1 := ⟨_, rfl⟩
    obtain ⟨gf, hgf⟩ : ∃ gf, gf = w.heap.size := ⟨_, rfl⟩
    rw [← hgi, ← hgf] at h1
    have HBL : Hid (w.heap.size ≤ b ∧ w.heap.size ≤ gi ∧ w.heap.size ≤ gf) := ⟨by omega, by omega, by omega⟩
    have HB1 := hid hb1
    have H1 := hid h1
    clear h1 hb1 hgi hgf hb
    go_wp2_with fail
    go_loopw [5] (fun q wr => ∃ k : Nat, k ≤ 2 ∧ q = .int .i64 k ∧ RAt wr B b c gi gf (.slice none 0 0) own (RS.at D k) ∧ Below w.heap.size w wr) (fun q _ => 2 - (intOf q).toNat)
    case atStart => exact ⟨0, by omega, rfl, H1.out, HB1.out⟩
    case round =>
      obtain ⟨k, hk2, rfl, hp, hbr⟩ := hrel
      by_cases hlt : k < 2
      · have hlt' : (k : Int) < 2 := by omega
        have HRd := hid (rread_all hp.disk k)
        have hln := hp.disk.good.read k (by simp only [RS.at]; omega)
        have hby := hp.byt.read k
        have hnx : D.roots (k + 1) = pickR (D.read k) k (D.roots k).1 (D.roots k).2 := rfl
        have eD : (RS.at D k).D = D := rfl
        rw [eD] at HRd hln hby
        have ea : D.ans k = (D.read k, 0) := by
          simp only [DS.ans, Int.toNat_natCast]; rw [if_pos ⟨by omega, by omega⟩, HG.out]; rfl
        rw [ea] at HRd
        obtain ⟨hr0, hr1⟩ := D.roots_range k
        have HP := hid hp
        have HBR := hid hbr
        clear hp hbr eD ea
        generalize hX : D.read k = X at *
        have HLn := hid hln
        have HBy := hid hby
        have HNX := hid hnx
        clear hX hln hby hnx
        have HRO := hid (fun w => rrdoc_any (strOf X) X (bOf_strOf _ HBy.out) w HLn.out)
        go_wp2_with (first | (go_at_call 78; refine HRd.out.mono ?_; rintro e wb ⟨rfl, rfl⟩))
        refine (HRO.out _).mono ?_
        by_cases hroot : isRoot X
        · rw [ropenV_yes hroot]
          rintro e w3 ⟨rfl, hb3⟩
          have H3 := hid (HP.out.later hb3)
          have HB3 := hid (HBR.out.trans (hb3.mono HBR.out.size))
          obtain ⟨d0, d1, d2, d3, d4, d5, d6⟩ := H3.out.cells
          have df1 := H3.out.free 1
          have df2 := H3.out.free 2
          have hG := hroot.2.1
          have HRoot := hid hroot
          have HSR := hid (H3.out.setRoot (rgenOf X) (strOf (rconOf X)) (by omega) (by omega))
          have eg : (RS.at D k).gen = (D.roots k).1 := rfl
          rw [eg] at d1
          clear hb3 hroot eg
          by_cases e1 : rgenOf X % 2 = k
          · have e1' : (rgenOf X % 2 == (k : Int)) = true := by rw [beq_iff_eq]; exact e1
            by_cases e2 : (D.roots k).1 < rgenOf X
            · have HPk : Hid (D.roots (k + 1) = (rgenOf X, strOf (rconOf X))) := by show D.roots (k + 1) = _; rw [HNX.out]; unfold pickR; rw [if_pos ⟨HRoot.out, e1, e2⟩]
              clear e1
              generalize rgenOf X = G at *
              generalize strOf (rconOf X) = C at *
              generalize (D.roots k).1 = g0 at *
              go_wp2_with fail
              go_roundw
              case rel =>
                refine ⟨k + 1, by omega, by go_num, ?_, ?_⟩
                · have := HSR.out
                  unfold RS.at
                  rw [HPk.out]
                  exact this
                · exact (HB3.out.setCell HBL.out.1 _).setCell HBL.out.1 _
              case measure => simp [intOf]; omega
            · have HPk : Hid (D.roots (k + 1) = D.roots k) := by show D.roots (k + 1) = _; rw [HNX.out]; unfold pickR; rw [if_neg (fun h => e2 h.2.2)]
              clear e1
              generalize rgenOf X = G at *
              generalize strOf (rconOf X) = C at *
              generalize hg0 : (D.roots k).1 = g0 at *
              have HG0 := hid hg0
              clear hg0
              go_wp2_with fail
              go_roundw
              case rel =>
                refine ⟨k + 1, by omega, by go_num, ?_, HB3.out⟩
                have := H3.out
                unfold RS.at at this ⊢
                rw [HPk.out]
                exact this
              case measure => simp [intOf]; omega
          · have e1' : (rgenOf X % 2 == (k : Int)) = false := by rw [beq_eq_false_iff_ne]; exact e1
            have HPk : Hid (D.roots (k + 1) = D.roots k) := by show D.roots (k + 1) = _; rw [HNX.out]; unfold pickR; rw [if_neg (fun h => e1 h.2.1)]
            clear e1
            generalize rgenOf X = G at *
            generalize strOf (rconOf X) = C at *
            go_wp2_with fail
            go_roundw
            case rel =>
              refine ⟨k + 1, by omega, by go_num, ?_, HB3.out⟩
              have := H3.out
              unfold RS.at at this ⊢
              rw [HPk.out]
              exact this
            case measure => simp [intOf]; omega
        · rw [ropenV_no hroot]
          rintro e w3 ⟨rfl, hb3⟩
          have H3 := hid (HP.out.later hb3)
          have HB3 := hid (HBR.out.trans (hb3.mono HBR.out.size))
          have HPk : Hid (D.roots (k + 1) = D.roots k) := by show D.roots (k + 1) = _; rw [HNX.out]; unfold pickR; rw [if_neg (fun h => hroot h.1)]
          clear hb3 hroot
          go_wp2_with fail
          go_roundw
          case rel =>
            refine ⟨k + 1, by omega, by go_num, ?_, HB3.out⟩
            have := H3.out
            unfold RS.at at this ⊢
            rw [HPk.out]
            exact this
          case measure => simp [intOf]; omega
      · have e : k = 2 := by omega
        subst e
        have hcell := hp.cells.2.1
        have eg : (RS.at D 2).gen = (D.roots 2).1 := rfl
        rw [eg] at hcell
        have HP := hid hp
        have HBR := hid hbr
        clear hp hbr eg
        by_cases h0 : (D.roots 2).1 = 0
        · rw [h0] at hcell
          have hE := HE.out
          rw [if_pos h0] at hE
          have HE2 := hid hE
          clear hE h0
          go_wp2_with fail
          go_ret2
          exact ⟨⟨.pointer none, by rw [HE2.out]; rfl, .inl ⟨by rw [HE2.out]; decide, rfl⟩⟩, HBR.out⟩
        · have h0' : ((D.roots 2).1 == 0) = false := by rw [beq_eq_false_iff_ne]; exact h0
          have hE := HE.out
          rw [if_neg h0] at hE
          have HE2 := hid hE
          clear hE h0
          generalize (D.roots 2).1 = g0 at *
          go_wp2_with fail
          go_ret2
          exact ⟨⟨.pointer (some ⟨b, 0, none⟩), by rw [HE2.out]; rfl, .inr ⟨HE2.out, b, gi, gf, rfl, HBL.out.1, HBL.out.2.1, HBL.out.2.2, HP.out⟩⟩, HBR.out⟩

theorem ropen_at {w : World} {B c : Nat} {own : List Nat} {D : DS} (h : RDisk w B c own D) (hy : D.byt) : Calls Try.prog 45 #[.pointer (some ⟨c, 0, none⟩)] w (ROpenP w B c own D) := by
  by_cases h4 : 4 ≤ D.n
  · cases hg : D.gone with
    | true => exact ropen_gone h hy h4 hg
    | false => exact ropen_yes h hy h4 hg
  · exact ropen_small h h4
end Go.Proofs.Ytambgimfbdecpaa
