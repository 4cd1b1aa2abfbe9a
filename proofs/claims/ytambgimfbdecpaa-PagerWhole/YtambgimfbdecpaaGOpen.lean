/- What this text holds: Format and Open of a pager. -/
import Derived.Test.YtambgimfbdecpaaGRead
namespace Go.Proofs.Ytambgimfbdecpaa
open Go.RowKit Go.Maps
set_option linter.unusedVariables false

theorem Try.info118 : (Try.prog.info? 118).map (fun i => (i.zero, i.size, i.bytes)) = some (some (.agg #[.int .i64 0, .int .i64 0]), 2, 16) := by kernel_rfl
theorem made_cells2 (n : Nat) : (madeCells #[Value.int .i64 0, .int .i64 0] (n * 2)).toList = shc (List.replicate n (0, 0)) := by
  apply List.ext_getElem?
  intro j
  have hl : (shc (List.replicate n ((0 : Int), (0 : Int)))).length = n * 2 := by rw [shc_length, List.length_replicate]
  by_cases hj : j < n * 2
  · have h1 : (madeCells #[Value.int .i64 0, .int .i64 0] (n * 2)).toList[j]? = some (.int .i64 0) := by
      rcases (by omega : j % 2 = 0 ∨ j % 2 = 1) with h | h <;> simp [madeCells, hj, h]
    rw [h1]
    have hi : j / 2 < (List.replicate n ((0 : Int), (0 : Int))).length := by rw [List.length_replicate]; omega
    obtain ⟨h2, h3⟩ := shc_at _ (j / 2) hi
    rw [List.getElem_replicate] at h2 h3
    rcases (by omega : j = j / 2 * 2 ∨ j = j / 2 * 2 + 1) with h | h
    · rw [h, h2]
    · rw [h, h3]
  · rw [List.getElem?_eq_none (by simp [madeCells]; omega), List.getElem?_eq_none (by omega)]
theorem made_sheets (n : Nat) (hn : n ≤ 4096) (w : World) : (Instr.makeSlice 109 (.int .i64 n) (.int .i64 n)).run Try.prog w = .ok (.slice (some ⟨w.heap.size, 0, none⟩) n n) (w.alloc (.cells (shc (List.replicate n (0, 0))).toArray 118)) := by
  obtain ⟨i, hi, hz0, hz1, hz2⟩ := info_parts Try.info118
  have h := run_make (P := Try.prog) w 109 118 i _ Try.underlying109 hi hz0 .i64 .i64 n n (by omega) (by omega) (by rw [hz2]; omega) (by omega)
  rw [h, hz1, Int.toNat_natCast]
  have e : madeCells (Value.agg #[.int .i64 0, .int .i64 0]).cells (n * 2) = (shc (List.replicate n (0, 0))).toArray := by
    apply Array.toList_inj.1
    exact made_cells2 n
  rw [e]

set_option maxRecDepth 100000 in
set_option maxHeartbeats 1000000 in
theorem allFree_any (n : Nat) (w : World) (hn : n ≤ 4096) :
    Calls Try.prog 75 #[.int .i64 n] w fun e w' => ∃ g, e = .returned (.agg #[.slice (some ⟨g, 0, none⟩) n n]) ∧ w.heap.size ≤ g ∧ w'.heap[g]? = some (.cells (shc (List.replicate n (0, 0))).toArray 118 (0, 0)) ∧ Below w.heap.size w w' := by
  have hmk := made_sheets n hn
  go_enter Try.func75, Try.ntmps75
  go_wp2
  refine bodyPost_ret (v := .agg #[.slice (some ⟨w.heap.size + 1, 0, none⟩) n n]) (by simp [results, Try.results75, go_sem]) rfl ⟨_, rfl, by omega, ?_, ?_⟩
  · exact heap_alloc2_new _ _ _
  · exact ((Below.refl _ _).alloc (Nat.le_refl _) _).alloc (by simp) _

/-- A pager ahead of its first root. -/
def PS.rootless (D : DS) : PS := { D := D, st := List.replicate D.n (0, 0), pins := [], pm := 0, gen := 0, root := ⟨#[]⟩, dead := false }

def MadeP (w : World) (B db : Nat) (own : List Nat) (P : PS) (e : Ending) (w' : World) : Prop :=
  ∃ b gs mb, e = .returned (.pointer (some ⟨b, 0, none⟩)) ∧ PAt w' B b db gs mb own P ∧ (w.heap.size ≤ b ∧ w.heap.size ≤ gs ∧ w.heap.size ≤ mb) ∧ Below w.heap.size w w'

set_option maxRecDepth 100000 in
set_option maxHeartbeats 1000000 in
theorem rootless_any {w : World} {B db : Nat} {own : List Nat} {D : DS} (h : Disk w B db own D) (hy : D.byt) (h4 : 4 ≤ D.n) :
    Calls Try.prog 42 #[.pointer (some ⟨db, 0, none⟩)] w (MadeP w B db own (PS.rootless D)) := by
  have HH := hid h
  have hn := h.good.n2
  have hBw : B ≤ w.heap.size := by
    obtain ⟨bs, sc, wv, hd, _⟩ := h
    exact Nat.le_trans hd.hB (Nat.le_of_lt (hd.lt db (by simp)).2)
  have HB := hid hBw
  have hmm := @run_makeMap Try.prog
  have HY := hid hy
  clear h hBw hy
  go_enter Try.func42, Try.ntmps42
  go_wp2_with (first | (go_at_call 74; refine (size_all HH.out).mono ?_; rintro e wa ⟨rfl, rfl⟩))
  refine (allFree_any D.n _ hn).mono ?_
  rintro e w1 ⟨g, rfl, hg, hh, hb⟩
  go_wp2_with fail
  go_ret
  have hgl : g < w1.heap.size := (Array.getElem?_eq_some_iff.1 hh).1
  have k1 := Kept.ofBelow hb []
  have k2 : Kept [] w1 ((w1.alloc (.map #[] 0)).alloc (.cells #[.pointer (some ⟨db, 0, none⟩), .slice (some ⟨g, 0, none⟩) D.n D.n, .map (some w1.heap.size), .int .i64 0, .string ⟨#[]⟩, .bool false] 114)) := (Kept.alloc [] w1 _).trans (Kept.alloc [] _ _) (fun _ _ h => h)
  have hsz : (w1.alloc (.map #[] 0)).heap.size = w1.heap.size + 1 := by simp
  have hws := hb.size
  have hl := HH.out.lt
  have hB := HB.out
  refine ⟨w1.heap.size + 1, g, w1.heap.size, rfl, ?_, ⟨by omega, by omega, by omega⟩, (hb.alloc hb.size _).alloc (by simp; omega) _⟩
  refine { blk := ?_, sh := ?_, len := by simp [PS.rootless], pins := ?_, disk := ?_, byt := HY.out, nb := fun h => by have := (hl _ h).2; omega, ngs := fun h => by have := (hl _ h).2; omega, nmb := fun h => by have := (hl _ h).2; omega, n1 := by omega, n2 := by omega, n3 := by omega, hb := by omega, hgs := by omega, hmb := by omega, g0 := by simp [PS.rootless], g1 := by simp [PS.rootless], n4 := h4 }
  · rw [← hsz]; exact heap_alloc_new _ _
  · rw [k2.block g hgl (by simp)]; exact hh
  · exact (PinsAt.new w1).keep (Kept.alloc [] _ _) (by simp)
  · exact (HH.out.keep k1 (by simp)).keep k2 (by simp)

set_option maxHeartbeats 400000 in
theorem fits_yes {w : World} {B db : Nat} {own : List Nat} {D : DS} (h : Disk w B db own D) (h4 : 4 ≤ D.n) : Calls Try.prog 41 #[.pointer (some ⟨db, 0, none⟩)] w fun e w' => e = .returned (.int .i64 0) ∧ w' = w := by
  have HH := hid h
  have h4' : ¬ (D.n : Int) < 4 := by omega
  clear h
  go_enter Try.func41, Try.ntmps41
  go_wp2_with (first | (go_at_call 74; refine (size_all HH.out).mono ?_; rintro e wa ⟨rfl, rfl⟩))
  go_ret
  exact ⟨rfl, rfl⟩
set_option maxHeartbeats 400000 in
theorem fits_no {w : World} {B db : Nat} {own : List Nat} {D : DS} (h : Disk w B db own D) (h4 : ¬ 4 ≤ D.n) : Calls Try.prog 41 #[.pointer (some ⟨db, 0, none⟩)] w fun e w' => e = .returned (.int .i64 2) ∧ w' = w := by
  have HH := hid h
  have h4' : (D.n : Int) < 4 := by omega
  clear h
  go_enter Try.func41, Try.ntmps41
  go_wp2_with (first | (go_at_call 74; refine (size_all HH.out).mono ?_; rintro e wa ⟨rfl, rfl⟩))
  go_ret
  exact ⟨rfl, rfl⟩
set_option maxHeartbeats 400000 in
theorem fits_nil (w : World) : Calls Try.prog 41 #[.pointer none] w fun e w' => e = .returned (.int .i64 1) ∧ w' = w := by
  go_enter Try.func41, Try.ntmps41
  go_wp2
  go_ret
  exact ⟨rfl, rfl⟩

/-- The root that sector i holds, if it is a better one. -/
def pickR (X : List Int) (i : Nat) (g : Int) (r : ByteArray) : Int × ByteArray :=
  if isRoot X ∧ rgenOf X % 2 = i ∧ g < rgenOf X then (rgenOf X, strOf (rconOf X)) else (g, r)
theorem pickR_range {X : List Int} {i : Nat} {g : Int} {r : ByteArray} (h0 : 0 ≤ g) (h1 : g ≤ 4611686018427387904) : 0 ≤ (pickR X i g r).1 ∧ (pickR X i g r).1 ≤ 4611686018427387904 := by
  unfold pickR
  split
  · rename_i h; have := h.1.2.1; exact ⟨by simp only; omega, this.2⟩
  · exact ⟨h0, h1⟩
/-- The gen and the content behind k sectors. -/
def DS.roots (D : DS) : Nat → Int × ByteArray
  | 0 => (0, ⟨#[]⟩)
  | k + 1 => pickR (D.read k) k (D.roots k).1 (D.roots k).2
theorem DS.roots_range (D : DS) : ∀ k, 0 ≤ (D.roots k).1 ∧ (D.roots k).1 ≤ 4611686018427387904
  | 0 => ⟨Int.le_refl _, by show (0 : Int) ≤ 4611686018427387904; omega⟩
  | k + 1 => pickR_range (D.roots_range k).1 (D.roots_range k).2
/-- The pager behind k sectors. -/
def PS.at (D : DS) (k : Nat) : PS := { PS.rootless D with gen := (D.roots k).1, root := (D.roots k).2 }

/-- Open's answer: an error, and a pager where there is none. -/
def DS.openE (D : DS) : Int := if ¬ 4 ≤ D.n then 2 else if D.gone = true then 9 else if (D.roots 2).1 = 0 then 10 else 0
def OpenP (w : World) (B db : Nat) (own : List Nat) (D : DS) (e : Ending) (w' : World) : Prop :=
  (∃ pv, e = .returned (.tuple #[pv, .int .i64 D.openE]) ∧ ((D.openE ≠ 0 ∧ pv = .pointer none) ∨ (D.openE = 0 ∧ ∃ b gs mb, pv = .pointer (some ⟨b, 0, none⟩) ∧ w.heap.size ≤ b ∧ w.heap.size ≤ gs ∧ w.heap.size ≤ mb ∧ PAt w' B b db gs mb own (PS.at D 2)))) ∧ Below w.heap.size w w'

set_option maxRecDepth 100000 in
set_option maxHeartbeats 2000000 in
theorem open_at {w : World} {B db : Nat} {own : List Nat} {D : DS} (h : Disk w B db own D) (hy : D.byt) :
    Calls Try.prog 33 #[.pointer (some ⟨db, 0, none⟩)] w (OpenP w B db own D) := by
  have HH := hid h
  have HY := hid hy
  by_cases h4 : 4 ≤ D.n
  · have HF := hid (fits_yes h h4)
    have HRL := hid (rootless_any h hy h4)
    by_cases hg : D.gone = true
    · have hE : D.openE = 9 := by unfold DS.openE; rw [if_neg (by simpa using h4), if_pos hg]
      have HE := hid hE
      have HG := hid hg
      clear h hy hE hg
      go_enter Try.func33, Try.ntmps33
      go_wp2_with (first | (go_at_call 41; refine HF.out.mono ?_; rintro e wa ⟨rfl, rfl⟩))
      refine HRL.out.mono ?_
      rintro e w1 ⟨b, gs, mb, rfl, h1, hbl, hb1⟩
      have HB := hid hb1
      have HRd := hid (read_nopower h1.disk 0 (by simp [PS.rootless]; omega) HG.out)
      clear h1 hb1 hbl
      go_wp2_with fail
      refine wp_loop_rounds 1 ?_
      rw [rounds_succ]
      go_wp2_with (first | (go_at_call 70; refine HRd.out.mono ?_; rintro e wb ⟨rfl, rfl⟩))
      go_ret2
      refine ⟨⟨.pointer none, by rw [HE.out]; rfl, .inl ⟨by rw [HE.out]; decide, rfl⟩⟩, HB.out⟩
    · have hg' : D.gone = false := by simpa using hg
      have hE : D.openE = if (D.roots 2).1 = 0 then 10 else 0 := by unfold DS.openE; rw [if_neg (by simpa using h4), if_neg hg]
      have HE := hid hE
      clear h hg hE
      go_enter Try.func33, Try.ntmps33
      go_wp2_with (first | (go_at_call 41; refine HF.out.mono ?_; rintro e wa ⟨rfl, rfl⟩))
      refine HRL.out.mono ?_
      rintro e w1 ⟨b, gs, mb, rfl, h1, hbl, hb1⟩
      have HB := hid hb1
      have H1 : Hid (PAt w1 B b db gs mb own (PS.at D 0)) := h1
      have HBL := hid hbl
      clear h1 hb1 hbl HRL HF
      go_wp2_with fail
      go_loopw [18] (fun q wr => ∃ k : Nat, k ≤ 2 ∧ q = .int .i64 k ∧ PAt wr B b db gs mb own (PS.at D k) ∧ Below wa.heap.size wa wr) (fun q _ => 2 - (intOf q).toNat)
      case atStart => exact ⟨0, by omega, rfl, H1.out, HB.out⟩
      case round =>
        obtain ⟨k, hk2, rfl, hp, hbr⟩ := hrel
        by_cases hlt : k < 2
        · have hlt' : (k : Int) < 2 := by omega
          have HRd := hid (read_ok hp.disk hp.byt k (by simp only [PS.at, PS.rootless]; omega) (by simpa [PS.at, PS.rootless] using hg'))
          have hln := hp.disk.good.read k (by simp only [PS.at, PS.rootless]; omega)
          have hby := hp.byt.read k
          have hnx : D.roots (k + 1) = pickR (D.read k) k (D.roots k).1 (D.roots k).2 := rfl
          have eD : (PS.at D k).D.read k = D.read k := rfl
          rw [eD] at HRd hln hby
          have hcell := hp.cells.2.2.2.1
          have eg : (PS.at D k).gen = (D.roots k).1 := rfl
          rw [eg] at hcell
          obtain ⟨hr0, hr1⟩ := D.roots_range k
          have HP := hid hp
          have HBR := hid hbr
          clear hp hbr eD eg hcell
          generalize hX : D.read k = X at *
          have HX := hid hX
          have HLn := hid hln
          have HBy := hid hby
          have HNX := hid hnx
          clear hX hln hby hnx
          have HST := hid (fun (w2 : World) (hb2 : Below wr.heap.size wr w2) => HP.out.later hb2)
          go_wp2_with fail
          refine HRd.out.mono ?_
          rintro e w2 ⟨g2, rfl, hg2, hba, hb2⟩
          have HBA := hid hba
          have HB2 := hid hb2
          clear hba hb2 hg2
          go_wp2_with fail
          refine (ropen_any HBA.out HLn.out HBy.out (Nat.le_refl _) (by unfold maxLen; omega)).mono ?_
          by_cases hroot : isRoot X
          · rw [ropenV_yes hroot]
            rintro e w3 ⟨rfl, hb3⟩
            have H3 := hid ((HST.out _ HB2.out).later hb3)
            have HB3 := hid ((HBR.out.trans (HB2.out.mono HBR.out.size)).trans (hb3.mono (Nat.le_trans HBR.out.size HB2.out.size)))
            obtain ⟨d0, d1, d2, d3, d4, d5⟩ := H3.out.cells
            have df3 := H3.out.free 3
            have df4 := H3.out.free 4
            have hG := hroot.2.1
            have HRoot := hid hroot
            have HSR := hid (H3.out.setRoot (rgenOf X) (strOf (rconOf X)) (by omega) (by omega))
            have eg : (PS.at D k).gen = (D.roots k).1 := rfl
            rw [eg] at d3
            clear hb3 hroot eg
            by_cases e1 : rgenOf X % 2 = k
            · have e1' : (rgenOf X % 2 == (k : Int)) = true := by rw [beq_iff_eq]; exact e1
              by_cases e2 : (D.roots k).1 < rgenOf X
              · have hpk : D.roots (k + 1) = (rgenOf X, strOf (rconOf X)) := by rw [HNX.out]; unfold pickR; rw [if_pos ⟨HRoot.out, e1, e2⟩]
                have HPk := hid hpk
                clear hpk e1
                generalize rgenOf X = G at *
                generalize strOf (rconOf X) = C at *
                generalize (D.roots k).1 = g0 at *
                go_wp2_with fail
                go_roundw
                case rel =>
                  refine ⟨k + 1, by omega, by go_num, ?_, ?_⟩
                  · have := HSR.out
                    unfold PS.at
                    rw [HPk.out]
                    exact this
                  · exact (HB3.out.setCell HBL.out.1 _).setCell HBL.out.1 _
                case measure => simp [intOf]; omega
              · have hpk : D.roots (k + 1) = D.roots k := by rw [HNX.out]; unfold pickR; rw [if_neg (fun h => e2 h.2.2)]
                have HPk := hid hpk
                clear hpk e1
                generalize rgenOf X = G at *
                generalize strOf (rconOf X) = C at *
                generalize hg0 : (D.roots k).1 = g0 at *
                have HG0 := hid hg0
                clear hg0
                go_wp2_with fail
                go_roundw
                case rel =>
                  refine ⟨k + 1, by omega, by go_num, ?_, HB3.out⟩
                  have := H3.out
                  unfold PS.at at this ⊢
                  rw [HPk.out]
                  exact this
                case measure => simp [intOf]; omega
            · have e1' : (rgenOf X % 2 == (k : Int)) = false := by rw [beq_eq_false_iff_ne]; exact e1
              have hpk : D.roots (k + 1) = D.roots k := by rw [HNX.out]; unfold pickR; rw [if_neg (fun h => e1 h.2.1)]
              have HPk := hid hpk
              clear hpk e1
              generalize rgenOf X = G at *
              generalize strOf (rconOf X) = C at *
              go_wp2_with fail
              go_roundw
              case rel =>
                refine ⟨k + 1, by omega, by go_num, ?_, HB3.out⟩
                have := H3.out
                unfold PS.at at this ⊢
                rw [HPk.out]
                exact this
              case measure => simp [intOf]; omega
          · rw [ropenV_no hroot]
            rintro e w3 ⟨rfl, hb3⟩
            have H3 := hid ((HST.out _ HB2.out).later hb3)
            have HB3 := hid ((HBR.out.trans (HB2.out.mono HBR.out.size)).trans (hb3.mono (Nat.le_trans HBR.out.size HB2.out.size)))
            have hpk : D.roots (k + 1) = D.roots k := by rw [HNX.out]; unfold pickR; rw [if_neg (fun h => hroot h.1)]
            have HPk := hid hpk
            clear hpk hb3 hroot
            go_wp2_with fail
            go_roundw
            case rel =>
              refine ⟨k + 1, by omega, by go_num, ?_, HB3.out⟩
              have := H3.out
              unfold PS.at at this ⊢
              rw [HPk.out]
              exact this
            case measure => simp [intOf]; omega
        · have e : k = 2 := by omega
          subst e
          have hcell := hp.cells.2.2.2.1
          have eg : (PS.at D 2).gen = (D.roots 2).1 := rfl
          rw [eg] at hcell
          have HP := hid hp
          have HBR := hid hbr
          clear hp hbr eg
          by_cases h0 : (D.roots 2).1 = 0
          · rw [h0] at hcell
            have hE := HE.out
            rw [if_pos h0] at hE
            have HE2 := hid hE
            clear hE h0
            go_wp2_with fail
            go_ret2
            exact ⟨⟨.pointer none, by rw [HE2.out]; rfl, .inl ⟨by rw [HE2.out]; decide, rfl⟩⟩, HBR.out⟩
          · have h0' : ((D.roots 2).1 == 0) = false := by rw [beq_eq_false_iff_ne]; exact h0
            have hE := HE.out
            rw [if_neg h0] at hE
            have HE2 := hid hE
            clear hE h0
            go_wp2_with fail
            go_ret2
            exact ⟨⟨.pointer (some ⟨b, 0, none⟩), by rw [HE2.out]; rfl, .inr ⟨HE2.out, b, gs, mb, rfl, HBL.out.1, HBL.out.2.1, HBL.out.2.2, HP.out⟩⟩, HBR.out⟩
  · have hE : D.openE = 2 := by unfold DS.openE; rw [if_pos h4]
    have HE := hid hE
    have HF := hid (fits_no h h4)
    clear h hy hE
    go_enter Try.func33, Try.ntmps33
    go_wp2_with (first | (go_at_call 41; refine HF.out.mono ?_; rintro e wa ⟨rfl, rfl⟩))
    go_ret2
    exact ⟨⟨.pointer none, by rw [HE.out]; rfl, .inl ⟨by rw [HE.out]; decide, rfl⟩⟩, Below.refl _ _⟩
end Go.Proofs.Ytambgimfbdecpaa
