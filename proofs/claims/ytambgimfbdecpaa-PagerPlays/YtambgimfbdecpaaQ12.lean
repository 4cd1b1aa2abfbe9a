/- What this text holds: Format and Open of a pager. · What this text holds: Format of a pager. -/
import Derived.Test.YtambgimfbdecpaaQ11
namespace Go.Proofs.Ytambgimfbdecpaa
open Go.RowKit Go.Maps
set_option linter.unusedVariables false

theorem Try.info118 : (Try.prog.info? 118).map (fun i => (i.zero, i.size, i.bytes)) = some (some (.agg #[.int .i64 0, .int .i64 0]), 2, 16) := by kernel_rfl
theorem made_cells2 (n : Nat) : (madeCells #[Value.int .i64 0, .int .i64 0] (n * 2)).toList = shc (List.replicate n (0, 0)) := by
  apply List.ext_getElem?
  intro j
  have hl : (shc (List.replicate n ((0 : Int), (0 : Int)))).length = n * 2 := by rw [shc_length, List.length_replicate]
  by_cases hj : j < n * 2
  · have h1 : (madeCells #[Value.int .i64 0, .int .i64 0] (n * 2)).toList[j]? = some (.int .i64 0) := by
      rcases (by omega : j % 2 = 0 ∨ j % 2 = 1) with h | h <;> simp [madeCells, hj, h]
    rw [h1]
    have hi : j / 2 < (List.replicate n ((0 : Int), (0 : Int))).length := by rw [List.length_replicate]; omega
    obtain ⟨h2, h3⟩ := shc_at _ (j / 2) hi
    rw [List.getElem_replicate] at h2 h3
    rcases (by omega : j = j / 2 * 2 ∨ j = j / 2 * 2 + 1) with h | h
    · rw [h, h2]
    · rw [h, h3]
  · rw [List.getElem?_eq_none (by simp [madeCells]; omega), List.getElem?_eq_none (by omega)]
theorem made_sheets (n : Nat) (hn : n ≤ 4096) (w : World) : (Instr.makeSlice 109 (.int .i64 n) (.int .i64 n)).run Try.prog w = .ok (.slice (some ⟨w.heap.size, 0, none⟩) n n) (w.alloc (.cells (shc (List.replicate n (0, 0))).toArray 118)) := by
  obtain ⟨i, hi, hz0, hz1, hz2⟩ := info_parts Try.info118
  have h := run_make (P := Try.prog) w 109 118 i _ Try.underlying109 hi hz0 .i64 .i64 n n (by omega) (by omega) (by rw [hz2]; omega) (by omega)
  rw [h, hz1, Int.toNat_natCast]
  have e : madeCells (Value.agg #[.int .i64 0, .int .i64 0]).cells (n * 2) = (shc (List.replicate n (0, 0))).toArray := by
    apply Array.toList_inj.1
    exact made_cells2 n
  rw [e]

set_option maxRecDepth 100000 in
set_option maxHeartbeats 1000000 in
theorem allFree_any (n : Nat) (w : World) (hn : n ≤ 4096) :
    Calls Try.prog 75 #[.int .i64 n] w fun e w' => ∃ g, e = .returned (.agg #[.slice (some ⟨g, 0, none⟩) n n]) ∧ w.heap.size ≤ g ∧ w'.heap[g]? = some (.cells (shc (List.replicate n (0, 0))).toArray 118 (0, 0)) ∧ Below w.heap.size w w' := by
  have hmk := made_sheets n hn
  go_enter Try.func75, Try.ntmps75
  go_wp2
  refine bodyPost_ret (v := .agg #[.slice (some ⟨w.heap.size + 1, 0, none⟩) n n]) (by simp [results, Try.results75, go_sem]) rfl ⟨_, rfl, by omega, ?_, ?_⟩
  · exact heap_alloc2_new _ _ _
  · exact ((Below.refl _ _).alloc (Nat.le_refl _) _).alloc (by simp) _

/-- A pager ahead of its first root. -/
def PS.rootless (D : DS) : PS := { D := D, st := List.replicate D.n (0, 0), pins := [], pm := 0, gen := 0, root := ⟨#[]⟩, dead := false }

def MadeP (w : World) (B db : Nat) (own : List Nat) (P : PS) (e : Ending) (w' : World) : Prop :=
  ∃ b gs mb, e = .returned (.pointer (some ⟨b, 0, none⟩)) ∧ PAt w' B b db gs mb own P ∧ (w.heap.size ≤ b ∧ w.heap.size ≤ gs ∧ w.heap.size ≤ mb) ∧ Below w.heap.size w w'

set_option maxRecDepth 100000 in
set_option maxHeartbeats 1000000 in
theorem rootless_any {w : World} {B db : Nat} {own : List Nat} {D : DS} (h : Disk w B db own D) (hy : D.byt) (h4 : 4 ≤ D.n) :
    Calls Try.prog 42 #[.pointer (some ⟨db, 0, none⟩)] w (MadeP w B db own (PS.rootless D)) := by
  have HH := hid h
  have hn := h.good.n2
  have hBw : B ≤ w.heap.size := by
    obtain ⟨bs, sc, wv, hd, _⟩ := h
    exact Nat.le_trans hd.hB (Nat.le_of_lt (hd.lt db (by simp)).2)
  have HB := hid hBw
  have hmm := @run_makeMap Try.prog
  have HY := hid hy
  clear h hBw hy
  go_enter Try.func42, Try.ntmps42
  go_wp2_with (first | (go_at_call 74; refine (size_all HH.out).mono ?_; rintro e wa ⟨rfl, rfl⟩))
  refine (allFree_any D.n _ hn).mono ?_
  rintro e w1 ⟨g, rfl, hg, hh, hb⟩
  go_wp2_with fail
  go_ret
  have hgl : g < w1.heap.size := (Array.getElem?_eq_some_iff.1 hh).1
  have k1 := Kept.ofBelow hb []
  have k2 : Kept [] w1 ((w1.alloc (.map #[] 0)).alloc (.cells #[.pointer (some ⟨db, 0, none⟩), .slice (some ⟨g, 0, none⟩) D.n D.n, .map (some w1.heap.size), .int .i64 0, .string ⟨#[]⟩, .bool false] 114)) := (Kept.alloc [] w1 _).trans (Kept.alloc [] _ _) (fun _ _ h => h)
  have hsz : (w1.alloc (.map #[] 0)).heap.size = w1.heap.size + 1 := by simp
  have hws := hb.size
  have hl := HH.out.lt
  have hB := HB.out
  refine ⟨w1.heap.size + 1, g, w1.heap.size, rfl, ?_, ⟨by omega, by omega, by omega⟩, (hb.alloc hb.size _).alloc (by simp; omega) _⟩
  refine { blk := ?_, sh := ?_, len := by simp [PS.rootless], pins := ?_, disk := ?_, byt := HY.out, nb := fun h => by have := (hl _ h).2; omega, ngs := fun h => by have := (hl _ h).2; omega, nmb := fun h => by have := (hl _ h).2; omega, n1 := by omega, n2 := by omega, n3 := by omega, hb := by omega, hgs := by omega, hmb := by omega, g0 := by simp [PS.rootless], g1 := by simp [PS.rootless], n4 := h4 }
  · rw [← hsz]; exact heap_alloc_new _ _
  · rw [k2.block g hgl (by simp)]; exact hh
  · exact (PinsAt.new w1).keep (Kept.alloc [] _ _) (by simp)
  · exact (HH.out.keep k1 (by simp)).keep k2 (by simp)

set_option maxHeartbeats 400000 in
theorem fits_yes {w : World} {B db : Nat} {own : List Nat} {D : DS} (h : Disk w B db own D) (h4 : 4 ≤ D.n) : Calls Try.prog 41 #[.pointer (some ⟨db, 0, none⟩)] w fun e w' => e = .returned (.int .i64 0) ∧ w' = w := by
  have HH := hid h
  have h4' : ¬ (D.n : Int) < 4 := by omega
  clear h
  go_enter Try.func41, Try.ntmps41
  go_wp2_with (first | (go_at_call 74; refine (size_all HH.out).mono ?_; rintro e wa ⟨rfl, rfl⟩))
  go_ret
  exact ⟨rfl, rfl⟩
set_option maxHeartbeats 400000 in
theorem fits_no {w : World} {B db : Nat} {own : List Nat} {D : DS} (h : Disk w B db own D) (h4 : ¬ 4 ≤ D.n) : Calls Try.prog 41 #[.pointer (some ⟨db, 0, none⟩)] w fun e w' => e = .returned (.int .i64 2) ∧ w' = w := by
  have HH := hid h
  have h4' : (D.n : Int) < 4 := by omega
  clear h
  go_enter Try.func41, Try.ntmps41
  go_wp2_with (first | (go_at_call 74; refine (size_all HH.out).mono ?_; rintro e wa ⟨rfl, rfl⟩))
  go_ret
  exact ⟨rfl, rfl⟩
set_option maxHeartbeats 400000 in
theorem fits_nil (w : World) : Calls Try.prog 41 #[.pointer none] w fun e w' => e = .returned (.int .i64 1) ∧ w' = w := by
  go_enter Try.func41, Try.ntmps41
  go_wp2
  go_ret
  exact ⟨rfl, rfl⟩

/-- The root that sector i holds, if it is a better one. -/
def pickR (X : List Int) (i : Nat) (g : Int) (r : ByteArray) : Int × ByteArray :=
  if isRoot X ∧ rgenOf X % 2 = i ∧ g < rgenOf X then (rgenOf X, strOf (rconOf X)) else (g, r)
theorem pickR_range {X : List Int} {i : Nat} {g : Int} {r : ByteArray} (h0 : 0 ≤ g) (h1 : g ≤ 4611686018427387904) : 0 ≤ (pickR X i g r).1 ∧ (pickR X i g r).1 ≤ 4611686018427387904 := by
  unfold pickR
  split
  · rename_i h; have := h.1.2.1; exact ⟨by simp only; omega, this.2⟩
  · exact ⟨h0, h1⟩
/-- The gen and the content behind k sectors. -/
def DS.roots (D : DS) : Nat → Int × ByteArray
  | 0 => (0, ⟨#[]⟩)
  | k + 1 => pickR (D.read k) k (D.roots k).1 (D.roots k).2
theorem DS.roots_range (D : DS) : ∀ k, 0 ≤ (D.roots k).1 ∧ (D.roots k).1 ≤ 4611686018427387904
  | 0 => ⟨Int.le_refl _, by show (0 : Int) ≤ 4611686018427387904; omega⟩
  | k + 1 => pickR_range (D.roots_range k).1 (D.roots_range k).2
/-- The pager behind k sectors. -/
def PS.at (D : DS) (k : Nat) : PS := { PS.rootless D with gen := (D.roots k).1, root := (D.roots k).2 }

/-- Open's answer: an error, and a pager where there is none. -/
def DS.openE (D : DS) : Int := if ¬ 4 ≤ D.n then 2 else if D.gone = true then 9 else if (D.roots 2).1 = 0 then 10 else 0
def OpenP (w : World) (B db : Nat) (own : List Nat) (D : DS) (e : Ending) (w' : World) : Prop :=
  (∃ pv, e = .returned (.tuple #[pv, .int .i64 D.openE]) ∧ ((D.openE ≠ 0 ∧ pv = .pointer none) ∨ (D.openE = 0 ∧ ∃ b gs mb, pv = .pointer (some ⟨b, 0, none⟩) ∧ w.heap.size ≤ b ∧ w.heap.size ≤ gs ∧ w.heap.size ≤ mb ∧ PAt w' B b db gs mb own (PS.at D 2)))) ∧ Below w.heap.size w w'

set_option maxRecDepth 100000 in
set_option maxHeartbeats 2000000 in
theorem open_at {w : World} {B db : Nat} {own : List Nat} {D : DS} (h : Disk w B db own D) (hy : D.byt) :
    Calls Try.prog 33 #[.pointer (some ⟨db, 0, none⟩)] w (OpenP w B db own D) := by
  have HH := hid h
  have HY := hid hy
  by_cases h4 : 4 ≤ D.n
  · have HF := hid (fits_yes h h4)
    have HRL := hid (rootless_any h hy h4)
    by_cases hg : D.gone = true
    · have hE : D.openE = 9 := by unfold DS.openE; rw [if_neg (by simpa using h4), if_pos hg]
      have HE := hid hE
      have HG := hid hg
      clear h hy hE hg
      go_enter Try.func33, Try.ntmps33
      go_wp2_with (first | (go_at_call 41; refine HF.out.mono ?_; rintro e wa ⟨rfl, rfl⟩))
      refine HRL.out.mono ?_
      rintro e w1 ⟨b, gs, mb, rfl, h1, hbl, hb1⟩
      have HB := hid hb1
      have HRd := hid (read_nopower h1.disk 0 (by simp [PS.rootless]; omega) HG.out)
      clear h1 hb1 hbl
      go_wp2_with fail
      refine wp_loop_rounds 1 ?_
      rw [rounds_succ]
      go_wp2_with (first | (go_at_call 70; refine HRd.out.mono ?_; rintro e wb ⟨rfl, rfl⟩))
      go_ret2
      refine ⟨⟨.pointer none, by rw [HE.out]; rfl, .inl ⟨by rw [HE.out]; decide, rfl⟩⟩, HB.out⟩
    · have hg' : D.gone = false := by simpa using hg
      have hE : D.openE = if (D.roots 2).1 = 0 then 10 else 0 := by unfold DS.openE; rw [if_neg (by simpa using h4), if_neg hg]
      have HE := hid hE
      clear h hg hE
      go_enter Try.func33, Try.ntmps33
      go_wp2_with (first | (go_at_call 41; refine HF.out.mono ?_; rintro e wa ⟨rfl, rfl⟩))
      refine HRL.out.mono ?_
      rintro e w1 ⟨b, gs, mb, rfl, h1, hbl, hb1⟩
      have HB := hid hb1
      have H1 : Hid (PAt w1 B b db gs mb own (PS.at D 0)) := h1
      have HBL := hid hbl
      clear h1 hb1 hbl HRL HF
      go_wp2_with fail
      go_loopw [18] (fun q wr => ∃ k : Nat, k ≤ 2 ∧ q = .int .i64 k ∧ PAt wr B b db gs mb own (PS.at D k) ∧ Below wa.heap.size wa wr) (fun q _ => 2 - (intOf q).toNat)
      case atStart => exact ⟨0, by omega, rfl, H1.out, HB.out⟩
      case round =>
        obtain ⟨k, hk2, rfl, hp, hbr⟩ := hrel
        by_cases hlt : k < 2
        · have hlt' : (k : Int) < 2 := by omega
          have HRd := hid (read_ok hp.disk hp.byt k (by simp only [PS.at, PS.rootless]; omega) (by simpa [PS.at, PS.rootless] using hg'))
          have hln := hp.disk.good.read k (by simp only [PS.at, PS.rootless]; omega)
          have hby := hp.byt.read k
          have hnx : D.roots (k + 1) = pickR (D.read k) k (D.roots k).1 (D.roots k).2 := rfl
          have eD : (PS.at D k).D.read k = D.read k := rfl
          rw [eD] at HRd hln hby
          have hcell := hp.cells.2.2.2.1
          have eg : (PS.at D k).gen = (D.roots k).1 := rfl
          rw [eg] at hcell
          obtain ⟨hr0, hr1⟩ := D.roots_range k
          have HP := hid hp
          have HBR := hid hbr
          clear hp hbr eD eg hcell
          generalize hX : D.read k = X at *
          have HX := hid hX
          have HLn := hid hln
          have HBy := hid hby
          have HNX := hid hnx
          clear hX hln hby hnx
          have HST := hid (fun (w2 : World) (hb2 : Below wr.heap.size wr w2) => HP.out.later hb2)
          go_wp2_with fail
          refine HRd.out.mono ?_
          rintro e w2 ⟨g2, rfl, hg2, hba, hb2⟩
          have HBA := hid hba
          have HB2 := hid hb2
          clear hba hb2 hg2
          go_wp2_with fail
          refine (ropen_any HBA.out HLn.out HBy.out (Nat.le_refl _) (by unfold maxLen; omega)).mono ?_
          by_cases hroot : isRoot X
          · rw [ropenV_yes hroot]
            rintro e w3 ⟨rfl, hb3⟩
            have H3 := hid ((HST.out _ HB2.out).later hb3)
            have HB3 := hid ((HBR.out.trans (HB2.out.mono HBR.out.size)).trans (hb3.mono (Nat.le_trans HBR.out.size HB2.out.size)))
            obtain ⟨d0, d1, d2, d3, d4, d5⟩ := H3.out.cells
            have df3 := H3.out.free 3
            have df4 := H3.out.free 4
            have hG := hroot.2.1
            have HRoot := hid hroot
            have HSR := hid (H3.out.setRoot (rgenOf X) (strOf (rconOf X)) (by omega) (by omega))
            have eg : (PS.at D k).gen = (D.roots k).1 := rfl
            rw [eg] at d3
            clear hb3 hroot eg
            by_cases e1 : rgenOf X % 2 = k
            · have e1' : (rgenOf X % 2 == (k : Int)) = true := by rw [beq_iff_eq]; exact e1
              by_cases e2 : (D.roots k).1 < rgenOf X
              · have hpk : D.roots (k + 1) = (rgenOf X, strOf (rconOf X)) := by rw [HNX.out]; unfold pickR; rw [if_pos ⟨HRoot.out, e1, e2⟩]
                have HPk := hid hpk
                clear hpk e1
                generalize rgenOf X = G at *
                generalize strOf (rconOf X) = C at *
                generalize (D.roots k).1 = g0 at *
                go_wp2_with fail
                go_roundw
                case rel =>
                  refine ⟨k + 1, by omega, by go_num, ?_, ?_⟩
                  · have := HSR.out
                    unfold PS.at
                    rw [HPk.out]
                    exact this
                  · exact (HB3.out.setCell HBL.out.1 _).setCell HBL.out.1 _
                case measure => simp [intOf]; omega
              · have hpk : D.roots (k + 1) = D.roots k := by rw [HNX.out]; unfold pickR; rw [if_neg (fun h => e2 h.2.2)]
                have HPk := hid hpk
                clear hpk e1
                generalize rgenOf X = G at *
                generalize strOf (rconOf X) = C at *
                generalize hg0 : (D.roots k).1 = g0 at *
                have HG0 := hid hg0
                clear hg0
                go_wp2_with fail
                go_roundw
                case rel =>
                  refine ⟨k + 1, by omega, by go_num, ?_, HB3.out⟩
                  have := H3.out
                  unfold PS.at at this ⊢
                  rw [HPk.out]
                  exact this
                case measure => simp [intOf]; omega
            · have e1' : (rgenOf X % 2 == (k : Int)) = false := by rw [beq_eq_false_iff_ne]; exact e1
              have hpk : D.roots (k + 1) = D.roots k := by rw [HNX.out]; unfold pickR; rw [if_neg (fun h => e1 h.2.1)]
              have HPk := hid hpk
              clear hpk e1
              generalize rgenOf X = G at *
              generalize strOf (rconOf X) = C at *
              go_wp2_with fail
              go_roundw
              case rel =>
                refine ⟨k + 1, by omega, by go_num, ?_, HB3.out⟩
                have := H3.out
                unfold PS.at at this ⊢
                rw [HPk.out]
                exact this
              case measure => simp [intOf]; omega
          · rw [ropenV_no hroot]
            rintro e w3 ⟨rfl, hb3⟩
            have H3 := hid ((HST.out _ HB2.out).later hb3)
            have HB3 := hid ((HBR.out.trans (HB2.out.mono HBR.out.size)).trans (hb3.mono (Nat.le_trans HBR.out.size HB2.out.size)))
            have hpk : D.roots (k + 1) = D.roots k := by rw [HNX.out]; unfold pickR; rw [if_neg (fun h => hroot h.1)]
            have HPk := hid hpk
            clear hpk hb3 hroot
            go_wp2_with fail
            go_roundw
            case rel =>
              refine ⟨k + 1, by omega, by go_num, ?_, HB3.out⟩
              have := H3.out
              unfold PS.at at this ⊢
              rw [HPk.out]
              exact this
            case measure => simp [intOf]; omega
        · have e : k = 2 := by omega
          subst e
          have hcell := hp.cells.2.2.2.1
          have eg : (PS.at D 2).gen = (D.roots 2).1 := rfl
          rw [eg] at hcell
          have HP := hid hp
          have HBR := hid hbr
          clear hp hbr eg
          by_cases h0 : (D.roots 2).1 = 0
          · rw [h0] at hcell
            have hE := HE.out
            rw [if_pos h0] at hE
            have HE2 := hid hE
            clear hE h0
            go_wp2_with fail
            go_ret2
            exact ⟨⟨.pointer none, by rw [HE2.out]; rfl, .inl ⟨by rw [HE2.out]; decide, rfl⟩⟩, HBR.out⟩
          · have h0' : ((D.roots 2).1 == 0) = false := by rw [beq_eq_false_iff_ne]; exact h0
            have hE := HE.out
            rw [if_neg h0] at hE
            have HE2 := hid hE
            clear hE h0
            go_wp2_with fail
            go_ret2
            exact ⟨⟨.pointer (some ⟨b, 0, none⟩), by rw [HE2.out]; rfl, .inr ⟨HE2.out, b, gs, mb, rfl, HBL.out.1, HBL.out.2.1, HBL.out.2.2, HP.out⟩⟩, HBR.out⟩
  · have hE : D.openE = 2 := by unfold DS.openE; rw [if_pos h4]
    have HE := hid hE
    have HF := hid (fits_no h h4)
    clear h hy hE
    go_enter Try.func33, Try.ntmps33
    go_wp2_with (first | (go_at_call 41; refine HF.out.mono ?_; rintro e wa ⟨rfl, rfl⟩))
    go_ret2
    exact ⟨⟨.pointer none, by rw [HE.out]; rfl, .inl ⟨by rw [HE.out]; decide, rfl⟩⟩, Below.refl _ _⟩
end Go.Proofs.Ytambgimfbdecpaa
namespace Go.Proofs.Ytambgimfbdecpaa
open Go.RowKit Go.Maps
set_option linter.unusedVariables false

/-- Noughts. -/
def Z512 : List Int := rep 512 0
theorem Z512_length : Z512.length = 512 := rep_length _ _
theorem Z512_byt : Byt Z512 := byt_rep _
/-- What Format answers, and the disk behind it. -/
def DS.format (D : DS) : Int × DS :=
  if ¬ 4 ≤ D.n then (2, D) else if (D.write 0 Z512).1 ≠ 0 then D.write 0 Z512 else if ((D.write 0 Z512).2.write 1 Z512).1 ≠ 0 then (D.write 0 Z512).2.write 1 Z512
  else (((PS.rootless ((D.write 0 Z512).2.write 1 Z512).2).commit ⟨#[]⟩).1, ((PS.rootless ((D.write 0 Z512).2.write 1 Z512).2).commit ⟨#[]⟩).2.D)

theorem Did.trans {w w1 w2 : World} {B db : Nat} {own own1 : List Nat} {r : Int} {D' : DS} {e : Ending} (hk : Kept own w w1) (hn : ∀ k ∈ own1, k ∈ own ∨ w.heap.size ≤ k) (h : Did w1 B db own1 r D' e w2) : Did w B db own r D' e w2 := by
  obtain ⟨rfl, own2, h1, h2, h3⟩ := h
  refine ⟨rfl, own2, h1, hk.trans h2 (fun i hi hm => ?_), fun k hk' => ?_⟩
  · rcases hn i hm with h | h
    · exact h
    · omega
  · rcases h3 k hk' with h | h
    · exact hn k h
    · right; have := hk.size; omega
theorem nought_at (w : World) : BAt (w.alloc (.cells (bc (rep 512 0)).toArray 5)) (some ⟨w.heap.size, 0, none⟩) Z512 := by
  intro j x hx
  refine ⟨_, rfl, ?_⟩
  rw [Addr.add_mid, Nat.zero_add]
  have hh := heap_alloc_new w (.cells (bc (rep 512 0)).toArray 5)
  simp only [World.cell?, hh]
  have : (bc (rep 512 0))[j]? = some (.int .u8 x) := by
    unfold Z512 at hx
    rw [bc, List.getElem?_map, hx]; rfl
  simpa using this
/-- Noughts are written. -/
theorem write_nought {w : World} {B db : Nat} {own : List Nat} {D : DS} (h : Disk w B db own D) (hs : D.steps < 1000) (hw : D.waits.length < 200) (i : Int) :
    Calls Try.prog 21 #[.pointer (some ⟨db, 0, none⟩), .int .i64 i, .slice (some ⟨w.heap.size, 0, none⟩) 512 512] (w.alloc (.cells (bc (rep 512 0)).toArray 5)) (Did w B db own (D.write i Z512).1 (D.write i Z512).2) :=
  (write_all (h.keep (Kept.alloc [] w _) (by simp)) hs hw i (some ⟨w.heap.size, 0, none⟩) 512 512 Z512 (by unfold maxLen; omega) (bytesAt_of (nought_at w) Z512_length) (fun x hx => by cases hx; exact fun hm => by have := (h.lt _ hm).2; simp at this)).mono
    fun _ _ hd => Did.trans (Kept.alloc own w _) (fun k hk => .inl hk) hd
/-- The root is laid by a new pager. -/
theorem lay_first {w : World} {B db : Nat} {own : List Nat} {D : DS} (h : Disk w B db own D) (hy : D.byt) (h4 : 4 ≤ D.n) (hs : D.steps + 3 ≤ 1000) :
    Calls Try.prog 42 #[.pointer (some ⟨db, 0, none⟩)] w fun e w' => ∃ b, e = .returned (.pointer (some ⟨b, 0, none⟩)) ∧ Calls Try.prog 32 #[.pointer (some ⟨b, 0, none⟩), .string ⟨#[]⟩] w' (Did w B db own ((PS.rootless D).commit ⟨#[]⟩).1 ((PS.rootless D).commit ⟨#[]⟩).2.D) := by
  refine (rootless_any h hy h4).mono ?_
  rintro e w1 ⟨b, gs, mb, rfl, h1, ⟨hb1, hb2, hb3⟩, hb⟩
  refine ⟨b, rfl, (commit_at h1 hs ⟨#[]⟩ (by unfold maxLen; decide)).mono ?_⟩
  rintro e w2 ⟨rfl, all', ⟨gs', mb', own', h2, rfl⟩, hk, hn⟩
  refine ⟨rfl, own', h2.disk, ?_, ?_⟩
  · refine (Kept.ofBelow hb own).trans hk (fun i hi hm => ?_)
    simp only [List.mem_cons] at hm
    rcases hm with h | h | h | h
    · omega
    · omega
    · omega
    · exact h
  · intro k hk'
    rcases hn k (by simp [hk']) with h | h
    · simp only [List.mem_cons] at h
      rcases h with h | h | h | h
      · right; omega
      · right; omega
      · right; omega
      · exact .inl h
    · right; have := hb.size; omega

set_option maxRecDepth 100000 in
set_option maxHeartbeats 2000000 in
theorem format_all {w : World} {B db : Nat} {own : List Nat} {D : DS} (h : Disk w B db own D) (hy : D.byt) (hs : D.steps + 5 ≤ 1000) (hw : D.waits.length + 2 ≤ 200) :
    Calls Try.prog 14 #[.pointer (some ⟨db, 0, none⟩)] w (Did w B db own D.format.1 D.format.2) := by
  have HH := hid h
  have hmk := made_bytes
  unfold DS.format
  by_cases h4 : 4 ≤ D.n
  · have HF := hid (fits_yes h h4)
    rw [if_neg (by simpa using h4)]
    have HW0 := hid (write_nought h (by omega) (by omega) 0)
    have hg0 := write_grow D 0 Z512
    have hy0 := hy.write 0 Z512 Z512_byt
    have he0 := write_err D 0 Z512 Z512_length ⟨by omega, by omega⟩
    generalize D.write 0 Z512 = R0 at *
    obtain ⟨r0, D0⟩ := R0
    simp only at *
    rcases he0 with rfl | rfl
    · rw [if_neg (by simp)]
      have HW1 : Hid (∀ (w1 : World) (own1 : List Nat), Disk w1 B db own1 D0 → Kept own w w1 → (∀ k ∈ own1, k ∈ own ∨ w.heap.size ≤ k) → Calls Try.prog 21 #[.pointer (some ⟨db, 0, none⟩), .int .i64 1, .slice (some ⟨w1.heap.size, 0, none⟩) 512 512] (w1.alloc (.cells (bc (rep 512 0)).toArray 5)) (Did w B db own (D0.write 1 Z512).1 (D0.write 1 Z512).2)) :=
        fun w1 own1 h1 hk1 hn1 => (write_nought h1 (by omega) (by omega) 1).mono fun _ _ hd => Did.trans hk1 hn1 hd
      have hg1 := write_grow D0 1 Z512
      have hy1 := hy0.write 1 Z512 Z512_byt
      have he1 := write_err D0 1 Z512 Z512_length ⟨by omega, by omega⟩
      generalize D0.write 1 Z512 = R1 at *
      obtain ⟨r1, D1⟩ := R1
      simp only at *
      rcases he1 with rfl | rfl
      · rw [if_neg (by simp)]
        have HL : Hid (∀ (w1 : World) (own1 : List Nat), Disk w1 B db own1 D1 → Kept own w w1 → (∀ k ∈ own1, k ∈ own ∨ w.heap.size ≤ k) → Calls Try.prog 42 #[.pointer (some ⟨db, 0, none⟩)] w1 fun e w' => ∃ b, e = .returned (.pointer (some ⟨b, 0, none⟩)) ∧ Calls Try.prog 32 #[.pointer (some ⟨b, 0, none⟩), .string ⟨#[]⟩] w' (Did w B db own ((PS.rootless D1).commit ⟨#[]⟩).1 ((PS.rootless D1).commit ⟨#[]⟩).2.D)) := by
          intro w1 own1 h1 hk1 hn1
          refine (lay_first h1 hy1 (by omega) (by omega)).mono ?_
          rintro e w2 ⟨b, rfl, hc⟩
          exact ⟨b, rfl, hc.mono fun _ _ hd => Did.trans hk1 hn1 hd⟩
        generalize (PS.rootless D1).commit ⟨#[]⟩ = C at *
        obtain ⟨c, P1⟩ := C
        simp only at *
        clear h hy hy0 hy1 hg0 hg1 hs hw
        go_enter Try.func14, Try.ntmps14
        go_wp2_with (first | (go_at_call 41; refine HF.out.mono ?_; rintro e wa ⟨rfl, rfl⟩))
        refine wp_loop_rounds 3 ?_
        rw [rounds_succ]
        go_wp2_with fail
        refine HW0.out.mono ?_
        rintro e w1 ⟨rfl, own1, h1, hk1, hn1⟩
        have H1 := hid h1
        have HK1 := hid hk1
        have HN1 := hid hn1
        clear h1 hk1 hn1
        go_wp2_with fail
        rw [rounds_succ]
        go_wp2_with fail
        refine (HW1.out _ own1 H1.out HK1.out HN1.out).mono ?_
        rintro e w2 ⟨rfl, own2, h2, hk2, hn2⟩
        have H2 := hid h2
        have HK2 := hid hk2
        have HN2 := hid hn2
        clear h2 hk2 hn2
        go_wp2_with fail
        rw [rounds_succ]
        go_wp2_with fail
        refine (HL.out _ own2 H2.out HK2.out HN2.out).mono ?_
        rintro e w3 ⟨b, rfl, hc⟩
        have HC := hid hc
        clear hc
        go_wp2_with fail
        refine HC.out.mono ?_
        rintro e w4 ⟨rfl, rest⟩
        have HRest := hid rest
        clear rest
        go_wp2_with fail
        go_ret
        exact ⟨rfl, HRest.out⟩
      · rw [if_pos (by decide)]
        clear h hy hy0 hy1 hg0 hg1 hs hw
        go_enter Try.func14, Try.ntmps14
        go_wp2_with (first | (go_at_call 41; refine HF.out.mono ?_; rintro e wa ⟨rfl, rfl⟩))
        refine wp_loop_rounds 2 ?_
        rw [rounds_succ]
        go_wp2_with fail
        refine HW0.out.mono ?_
        rintro e w1 ⟨rfl, own1, h1, hk1, hn1⟩
        have H1 := hid h1
        have HK1 := hid hk1
        have HN1 := hid hn1
        clear h1 hk1 hn1
        go_wp2_with fail
        rw [rounds_succ]
        go_wp2_with fail
        refine (HW1.out _ own1 H1.out HK1.out HN1.out).mono ?_
        rintro e w2 ⟨rfl, rest⟩
        have HRest := hid rest
        clear rest
        go_wp2_with fail
        go_ret
        exact ⟨rfl, HRest.out⟩
    · rw [if_pos (by decide)]
      clear h hy hy0 hg0 hs hw
      go_enter Try.func14, Try.ntmps14
      go_wp2_with (first | (go_at_call 41; refine HF.out.mono ?_; rintro e wa ⟨rfl, rfl⟩))
      refine wp_loop_rounds 1 ?_
      rw [rounds_succ]
      go_wp2_with fail
      refine HW0.out.mono ?_
      rintro e w1 ⟨rfl, rest⟩
      have HRest := hid rest
      clear rest
      go_wp2_with fail
      go_ret
      exact ⟨rfl, HRest.out⟩
  · rw [if_pos h4]
    have HF := hid (fits_no h h4)
    clear h hy hs hw
    go_enter Try.func14, Try.ntmps14
    go_wp2_with (first | (go_at_call 41; refine HF.out.mono ?_; rintro e wa ⟨rfl, rfl⟩))
    go_ret
    exact ⟨rfl, own, HH.out, Kept.refl _ _, fun k hk => .inl hk⟩
end Go.Proofs.Ytambgimfbdecpaa
