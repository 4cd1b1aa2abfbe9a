/- Proved here: of three questions about a message's day one of two is right, and none of both about its length (SearchDays returns true for every input, and leaves its arguments as they were). No condition beyond what the card says: two tables of the library hold what its text lays. -/
import Derived.Test.YtaniljfjmbifnaaGreatDoorCards
import Derived.Test.YtaniljfjmbifnaaGreatDoorTie
import Derived.Test.YtaniljfjmbifnaaGreatDoorZF
import Derived.ProofKit
import Derived.OpenShut
import Derived.ShutString
import Derived.Below
namespace Go.Proofs.YtaniljfjmbifnaaGreatDoor.searchDays
open Go.Proofs.YtaniljfjmbifnaaGreatDoor.H
open Go.ChangeShapes Go.WideShapes Go.ChangeAt Go.RowKit
open Go.ChangeMaps (open_string shut_string)
set_option linter.unusedVariables false
set_option linter.unusedSimpArgs false

theorem cell_l {w w' : World} {b : Nat} {v : Value} {t : TypeId} (h : w.heap[b]? = some (.cells #[v] t (0, 0))) (hb : Below w.heap.size w w') : w'.cell? ⟨b, 0, none⟩ = some v := cell_of ((hb.block b (Array.getElem?_eq_some_iff.1 h).1).trans h) rfl
set_option maxRecDepth 100000 in
set_option maxHeartbeats 4000000 in
theorem walk {w : World} (m : Ml) (l : List Bs) (hm : MailOk w m.fa m.fn m.fc l m.text) (n : Int) (hE : Env w) (hn : -9223372036854775808 ≤ n ∧ n ≤ 9223372036854775807) :
    Calls Tryz.prog 6 #[m.v, .int .i64 n] w fun e w' => e = .returned (.bool true) ∧ Below w.heap.size w w' := by
  show Calls Tryz.prog 6 #[.agg #[.int .i64 m.uid, .slice m.fa m.fn m.fc, .int .i64 m.d1, .int .i64 m.d2, .int .i64 m.d3, .int .i64 m.d4, .int .i64 m.d5, .int .i64 m.d6, .int .i64 m.d7, .string (str m.text), .int .i64 m.size, .int .i64 m.id], .int .i64 n] w _
  obtain ⟨wa, hwa⟩ : ∃ wa, w.alloc (.cells #[.int .i64 m.uid, .slice m.fa m.fn m.fc, .int .i64 m.d1, .int .i64 m.d2, .int .i64 m.d3, .int .i64 m.d4, .int .i64 m.d5, .int .i64 m.d6, .int .i64 m.d7, .string (str m.text), .int .i64 m.size, .int .i64 m.id] 33) = wa := ⟨_, rfl⟩
  have ba : Below w.heap.size w wa := by rw [← hwa]; exact (Below.refl _ _).alloc (Nat.le_refl _) _
  have sa : wa.heap.size = w.heap.size + 1 := by rw [← hwa]; simp
  have hma : MlAt wa w.heap.size m := by rw [← hwa]; exact heap_alloc_new _ _
  obtain ⟨wb, hwb⟩ : ∃ wb, wa.alloc (.cells #[.int .i64 n] 3) = wb := ⟨_, rfl⟩
  have bb : Below wa.heap.size wa wb := by rw [← hwb]; exact (Below.refl _ _).alloc (Nat.le_refl _) _
  have hnb : wb.heap[wa.heap.size]? = some (.cells #[.int .i64 n] 3 (0, 0)) := by rw [← hwb]; exact heap_alloc_new _ _
  rw [sa] at hnb
  have hmb : MlAt wb w.heap.size m := hma.later bb
  have bw : Below w.heap.size w wb := ba.trans (bb.mono (by omega))
  have c1 : wb.cell? ⟨w.heap.size, 1, none⟩ = some (.slice m.fa m.fn m.fc) := cell_of hmb rfl
  have c9 : wb.cell? ⟨w.heap.size, 9, none⟩ = some (.string (str m.text)) := cell_of hmb rfl
  have htz := str_size m.text
  have htm := hm.2
  unfold maxLen at htm
  have HE := hid (hE.later bw)
  have HM := hid hmb
  have HN := hid hnb
  have HBW := hid bw
  have HSA := hid sa
  have CT := short_any (hm.1.later bw) 1000
  have CA := hid (fun (w0 : World) (h0 : Below wb.heap.size wb w0) => alive_any (HE.out.later h0) (HE.out.later h0).pos)
  clear hm hE hmb hnb ba bb hma bw
  by_cases h15 : m.text.length ≤ 1500
  · have h15' : ¬ (1500 : Int) < m.text.length := by omega
    have CB := hid (fun (w0 : World) (h0 : Below wb.heap.size wb w0) => (is_any (HE.out.later h0) (HM.out.later h0) n (cell_l HN.out h0) (by omega) opB (by unfold oneOf; decide) : Calls Tryz.prog 16 #[.string ⟨#[66, 69, 70, 79, 82, 69]⟩, .pointer (some ⟨w.heap.size + 1, 0, none⟩), .pointer (some ⟨w.heap.size, 0, none⟩)] w0 _))
    have CO := hid (fun (w0 : World) (h0 : Below wb.heap.size wb w0) => (is_any (HE.out.later h0) (HM.out.later h0) n (cell_l HN.out h0) (by omega) opO (by unfold oneOf; decide) : Calls Tryz.prog 16 #[.string ⟨#[79, 78]⟩, .pointer (some ⟨w.heap.size + 1, 0, none⟩), .pointer (some ⟨w.heap.size, 0, none⟩)] w0 _))
    have CS := hid (fun (w0 : World) (h0 : Below wb.heap.size wb w0) => (is_any (HE.out.later h0) (HM.out.later h0) n (cell_l HN.out h0) (by omega) opS (by unfold oneOf; decide) : Calls Tryz.prog 16 #[.string ⟨#[83, 73, 78, 67, 69]⟩, .pointer (some ⟨w.heap.size + 1, 0, none⟩), .pointer (some ⟨w.heap.size, 0, none⟩)] w0 _))
    have CsB := hid (fun (w0 : World) (h0 : Below wb.heap.size wb w0) => (is_any (HE.out.later h0) (HM.out.later h0) n (cell_l HN.out h0) (by omega) opsB (by unfold oneOf; decide) : Calls Tryz.prog 16 #[.string ⟨#[83, 69, 78, 84, 66, 69, 70, 79, 82, 69]⟩, .pointer (some ⟨w.heap.size + 1, 0, none⟩), .pointer (some ⟨w.heap.size, 0, none⟩)] w0 _))
    have CsO := hid (fun (w0 : World) (h0 : Below wb.heap.size wb w0) => (is_any (HE.out.later h0) (HM.out.later h0) n (cell_l HN.out h0) (by omega) opsO (by unfold oneOf; decide) : Calls Tryz.prog 16 #[.string ⟨#[83, 69, 78, 84, 79, 78]⟩, .pointer (some ⟨w.heap.size + 1, 0, none⟩), .pointer (some ⟨w.heap.size, 0, none⟩)] w0 _))
    have CsS := hid (fun (w0 : World) (h0 : Below wb.heap.size wb w0) => (is_any (HE.out.later h0) (HM.out.later h0) n (cell_l HN.out h0) (by omega) opsS (by unfold oneOf; decide) : Calls Tryz.prog 16 #[.string ⟨#[83, 69, 78, 84, 83, 73, 78, 67, 69]⟩, .pointer (some ⟨w.heap.size + 1, 0, none⟩), .pointer (some ⟨w.heap.size, 0, none⟩)] w0 _))
    have CL := fun (w0 : World) (h0 : Below wb.heap.size wb w0) => (asks_n (HE.out.later h0) m (by omega) (m.text.length : Int) opL (by unfold oneOf; decide) : Calls Tryz.prog 11 #[.agg #[.string ⟨#[76, 65, 82, 71, 69, 82]⟩, .string ⟨#[]⟩, .string ⟨#[]⟩, .int .i64 (m.text.length : Int), .slice none 0 0, .slice none 0 0], .agg #[.int .i64 m.uid, .slice m.fa m.fn m.fc, .int .i64 m.d1, .int .i64 m.d2, .int .i64 m.d3, .int .i64 m.d4, .int .i64 m.d5, .int .i64 m.d6, .int .i64 m.d7, .string (str m.text), .int .i64 m.size, .int .i64 m.id], .int .i64 1, .int .i64 1, .int .i64 1] w0 _)
    rw [larger_one] at CL
    have HCL := hid CL
    clear CL
    have CM := fun (w0 : World) (h0 : Below wb.heap.size wb w0) => (asks_n (HE.out.later h0) m (by omega) (m.text.length : Int) opM (by unfold oneOf; decide) : Calls Tryz.prog 11 #[.agg #[.string ⟨#[83, 77, 65, 76, 76, 69, 82]⟩, .string ⟨#[]⟩, .string ⟨#[]⟩, .int .i64 (m.text.length : Int), .slice none 0 0, .slice none 0 0], .agg #[.int .i64 m.uid, .slice m.fa m.fn m.fc, .int .i64 m.d1, .int .i64 m.d2, .int .i64 m.d3, .int .i64 m.d4, .int .i64 m.d5, .int .i64 m.d6, .int .i64 m.d7, .string (str m.text), .int .i64 m.size, .int .i64 m.id], .int .i64 1, .int .i64 1, .int .i64 1] w0 _)
    rw [smaller_one] at CM
    have HCM := hid CM
    clear CM
    have d1 := days_one m n
    have d2 := sent_one m n
    have iB := one_in (asksN m opB n)
    have iO := one_in (asksN m opO n)
    have iS := one_in (asksN m opS n)
    have isB := one_in (asksN m opsB n)
    have isO := one_in (asksN m opsO n)
    have isS := one_in (asksN m opsS n)
    generalize oneI (asksN m opB n) = zB at *
    generalize oneI (asksN m opO n) = zO at *
    generalize oneI (asksN m opS n) = zS at *
    generalize oneI (asksN m opsB n) = yB at *
    generalize oneI (asksN m opsO n) = yO at *
    generalize oneI (asksN m opsS n) = yS at *
    obtain ⟨d1, d3⟩ := d1
    obtain ⟨d2, d4⟩ := d2
    have d3' : ¬ zS < zO := by omega
    go_enter Tryz.func6, Tryz.ntmps6
    go_wp2_with fail
    refine CT.mono ?_
    rintro e w2 ⟨⟨z, rfl⟩, h2⟩
    have h2 := h2.symm
    subst h2
    clear CT
    have B0 := hid (Below.refl wb.heap.size wb)
    cases z
    · go_wp2_with fail
      refine (CA.out _ B0.out).mono ?_
      rintro e w3 ⟨rfl, b⟩
      have HBz := hid (HBW.out.trans (b.mono HBW.out.size))
      clear b
      go_wp2_with fail
      go_ret
      exact ⟨rfl, HBz.out⟩
    · go_wp2_with fail
      refine (CB.out _ B0.out).mono ?_
      rintro e w4 ⟨rfl, b⟩
      have B1 := hid (B0.out.trans (b.mono B0.out.size))
      clear b
      go_wp2_with fail
      refine (CS.out _ B1.out).mono ?_
      rintro e w5 ⟨rfl, b⟩
      have B2 := hid (B1.out.trans (b.mono B1.out.size))
      clear b
      go_wp2_with fail
      refine (CO.out _ B2.out).mono ?_
      rintro e w6 ⟨rfl, b⟩
      have B3 := hid (B2.out.trans (b.mono B2.out.size))
      clear b
      go_wp2_with fail
      refine (CS.out _ B3.out).mono ?_
      rintro e w7 ⟨rfl, b⟩
      have B4 := hid (B3.out.trans (b.mono B3.out.size))
      clear b
      go_wp2_with fail
      refine (CsB.out _ B4.out).mono ?_
      rintro e w8 ⟨rfl, b⟩
      have B5 := hid (B4.out.trans (b.mono B4.out.size))
      clear b
      go_wp2_with fail
      refine (CsS.out _ B5.out).mono ?_
      rintro e w9 ⟨rfl, b⟩
      have B6 := hid (B5.out.trans (b.mono B5.out.size))
      clear b
      have g0 : w9.cell? ⟨w.heap.size, 0, none⟩ = some (.int .i64 m.uid) := cell_of (HM.out.later B6.out) rfl
      have g1 : w9.cell? ⟨w.heap.size, 1, none⟩ = some (.slice m.fa m.fn m.fc) := cell_of (HM.out.later B6.out) rfl
      have g2 : w9.cell? ⟨w.heap.size, 2, none⟩ = some (.int .i64 m.d1) := cell_of (HM.out.later B6.out) rfl
      have g3 : w9.cell? ⟨w.heap.size, 3, none⟩ = some (.int .i64 m.d2) := cell_of (HM.out.later B6.out) rfl
      have g4 : w9.cell? ⟨w.heap.size, 4, none⟩ = some (.int .i64 m.d3) := cell_of (HM.out.later B6.out) rfl
      have g5 : w9.cell? ⟨w.heap.size, 5, none⟩ = some (.int .i64 m.d4) := cell_of (HM.out.later B6.out) rfl
      have g6 : w9.cell? ⟨w.heap.size, 6, none⟩ = some (.int .i64 m.d5) := cell_of (HM.out.later B6.out) rfl
      have g7 : w9.cell? ⟨w.heap.size, 7, none⟩ = some (.int .i64 m.d6) := cell_of (HM.out.later B6.out) rfl
      have g8 : w9.cell? ⟨w.heap.size, 8, none⟩ = some (.int .i64 m.d7) := cell_of (HM.out.later B6.out) rfl
      have g9 : w9.cell? ⟨w.heap.size, 9, none⟩ = some (.string (str m.text)) := cell_of (HM.out.later B6.out) rfl
      have g10 : w9.cell? ⟨w.heap.size, 10, none⟩ = some (.int .i64 m.size) := cell_of (HM.out.later B6.out) rfl
      have g11 : w9.cell? ⟨w.heap.size, 11, none⟩ = some (.int .i64 m.id) := cell_of (HM.out.later B6.out) rfl
      go_wp2_with fail
      refine (HCL.out _ B6.out).mono ?_
      rintro e w10 ⟨rfl, b⟩
      have B7 := hid (B6.out.trans (b.mono B6.out.size))
      clear b
      clear g0 g1 g2 g3 g4 g5 g6 g7 g8 g9 g10 g11
      have g0 : w10.cell? ⟨w.heap.size, 0, none⟩ = some (.int .i64 m.uid) := cell_of (HM.out.later B7.out) rfl
      have g1 : w10.cell? ⟨w.heap.size, 1, none⟩ = some (.slice m.fa m.fn m.fc) := cell_of (HM.out.later B7.out) rfl
      have g2 : w10.cell? ⟨w.heap.size, 2, none⟩ = some (.int .i64 m.d1) := cell_of (HM.out.later B7.out) rfl
      have g3 : w10.cell? ⟨w.heap.size, 3, none⟩ = some (.int .i64 m.d2) := cell_of (HM.out.later B7.out) rfl
      have g4 : w10.cell? ⟨w.heap.size, 4, none⟩ = some (.int .i64 m.d3) := cell_of (HM.out.later B7.out) rfl
      have g5 : w10.cell? ⟨w.heap.size, 5, none⟩ = some (.int .i64 m.d4) := cell_of (HM.out.later B7.out) rfl
      have g6 : w10.cell? ⟨w.heap.size, 6, none⟩ = some (.int .i64 m.d5) := cell_of (HM.out.later B7.out) rfl
      have g7 : w10.cell? ⟨w.heap.size, 7, none⟩ = some (.int .i64 m.d6) := cell_of (HM.out.later B7.out) rfl
      have g8 : w10.cell? ⟨w.heap.size, 8, none⟩ = some (.int .i64 m.d7) := cell_of (HM.out.later B7.out) rfl
      have g9 : w10.cell? ⟨w.heap.size, 9, none⟩ = some (.string (str m.text)) := cell_of (HM.out.later B7.out) rfl
      have g10 : w10.cell? ⟨w.heap.size, 10, none⟩ = some (.int .i64 m.size) := cell_of (HM.out.later B7.out) rfl
      have g11 : w10.cell? ⟨w.heap.size, 11, none⟩ = some (.int .i64 m.id) := cell_of (HM.out.later B7.out) rfl
      go_wp2_with fail
      refine (HCM.out _ B7.out).mono ?_
      rintro e w11 ⟨rfl, b⟩
      have B8 := hid (B7.out.trans (b.mono B7.out.size))
      clear b
      clear g0 g1 g2 g3 g4 g5 g6 g7 g8 g9 g10 g11
      go_wp2_with fail
      refine (CsO.out _ B8.out).mono ?_
      rintro e w12 ⟨rfl, b⟩
      have B9 := hid (B8.out.trans (b.mono B8.out.size))
      clear b
      go_wp2_with fail
      refine (CsS.out _ B9.out).mono ?_
      rintro e w13 ⟨rfl, b⟩
      have B10 := hid (B9.out.trans (b.mono B9.out.size))
      clear b
      go_wp2_with fail
      refine (CA.out _ B10.out).mono ?_
      rintro e w20 ⟨rfl, b⟩
      have HBz := hid (HBW.out.trans (((B10.out.trans (b.mono B10.out.size))).mono HBW.out.size))
      clear b
      go_wp2_with fail
      go_ret
      exact ⟨rfl, HBz.out⟩
  · have h15' : (1500 : Int) < m.text.length := by omega
    go_enter Tryz.func6, Tryz.ntmps6
    go_wp2_with fail
    refine CT.mono ?_
    rintro e w2 ⟨⟨z, rfl⟩, h2⟩
    have h2 := h2.symm
    subst h2
    clear CT
    have B0 := hid (Below.refl wb.heap.size wb)
    cases z
    · go_wp2_with fail
      refine (CA.out _ B0.out).mono ?_
      rintro e w3 ⟨rfl, b⟩
      have HBz := hid (HBW.out.trans (b.mono HBW.out.size))
      clear b
      go_wp2_with fail
      go_ret
      exact ⟨rfl, HBz.out⟩
    · go_wp2_with fail
      refine (CA.out _ B0.out).mono ?_
      rintro e w3 ⟨rfl, b⟩
      have HBz := hid (HBW.out.trans (b.mono HBW.out.size))
      clear b
      go_wp2_with fail
      go_ret
      exact ⟨rfl, HBz.out⟩

theorem witness (os : Os) {H : Type} (enc : TypeId × Value → H) :
    (OpenSpec.ofChange Rows.searchDaysSpec).preRow enc Tryz.prog Tryz.f6 Rows.searchDaysRow.domain false Rows.searchDaysRow.laid ((laidWorld os).forCall (fun _ _ => 0) ⟨#[], #[.agg #[.int .i64 0, .slice none 0 0, .int .i64 0, .int .i64 0, .int .i64 0, .int .i64 0, .int .i64 0, .int .i64 0, .int .i64 0, .string ⟨#[]⟩, .int .i64 0, .int .i64 0], .int .i64 0], []⟩).memory #[.agg #[.int .i64 0, .slice none 0 0, .int .i64 0, .int .i64 0, .int .i64 0, .int .i64 0, .int .i64 0, .int .i64 0, .int .i64 0, .string ⟨#[]⟩, .int .i64 0, .int .i64 0], .int .i64 0] := by
  have hw : (DataW.whole enc Tryz.prog ((laidWorld os).forCall (fun _ _ => 0) ⟨#[], #[.agg #[.int .i64 0, .slice none 0 0, .int .i64 0, .int .i64 0, .int .i64 0, .int .i64 0, .int .i64 0, .int .i64 0, .int .i64 0, .string ⟨#[]⟩, .int .i64 0, .int .i64 0], .int .i64 0], []⟩).memory Tryz.f6.params.toList Rows.searchDaysSpec.vars false (#[.agg #[.int .i64 0, .slice none 0 0, .int .i64 0, .int .i64 0, .int .i64 0, .int .i64 0, .int .i64 0, .int .i64 0, .int .i64 0, .string ⟨#[]⟩, .int .i64 0, .int .i64 0], .int .i64 0] : Array Value).toList 8).map (fun x => (x.1, x.2.1)) =
      some ([.agg [.lit (.int .i64 0), .nil, .agg [.lit (.int .i64 0), .lit (.int .i64 0), .lit (.int .i64 0), .lit (.int .i64 0), .lit (.int .i64 0), .lit (.int .i64 0), .lit (.int .i64 0)], .lit (.string []), .lit (.int .i64 0), .lit (.int .i64 0)], .lit (.int .i64 0)], []) := by kernel_rfl
  obtain ⟨⟨x1, x2, x3⟩, hx, hx1⟩ := Option.map_eq_some_iff.1 hw
  simp only [Prod.mk.injEq] at hx1
  obtain ⟨rfl, rfl⟩ := hx1
  exact OpenSpec.preRow_of_cond 8 hx (by kernel_rfl) (fun k hk => by cases hk) (by kernel_rfl) (laid_met os _)

set_option maxRecDepth 100000 in
set_option maxHeartbeats 2000000 in
theorem lifted (os : Os) (started : os.Started) (H : Type) (enc : TypeId × Value → H) (F : Stop.Interp) :
    ReturnsInHanded {} Tryz.checked os 6 .any ((OpenSpec.ofChange Rows.searchDaysSpec).preRow enc Tryz.prog Tryz.f6 Rows.searchDaysRow.domain false Rows.searchDaysRow.laid) (((OpenSpec.ofChange Rows.searchDaysSpec).at F).post enc Tryz.prog Tryz.f6 false true false false) := by
  refine returnsInHanded_of_row (C := Tryz.checked) (s := OpenSpec.ofChange Rows.searchDaysSpec) own started (by kernel_rfl) Tryz.func6
    (witness_row_atRef (enc := enc) (C := Tryz.checked) false (laidWorld os) #[.agg #[.int .i64 0, .slice none 0 0, .int .i64 0, .int .i64 0, .int .i64 0, .int .i64 0, .int .i64 0, .int .i64 0, .int .i64 0, .string ⟨#[]⟩, .int .i64 0, .int .i64 0], .int .i64 0] rfl (by kernel_rfl) (by kernel_rfl) (by kernel_rfl) (witness os enc)) ?_
  intro W base args ds gs before hval0 hW _ _ _ hL hsh _
  have hval : ∀ (j : Nat) t v, Tryz.f6.params[j]? = some t → args[j]? = some v → Value.okWide Tryz.prog W .any base t v := hval0
  have hW' := hW
  obtain ⟨p, q, hA0, hV, rfl, hfz, hnd⟩ := hW
  have hA : DataW.TrodAll enc Tryz.prog W 0 (fun _ => true) true Tryz.f6.params.toList args.toList ds p := hA0
  rw [Tryz.params6] at hA hval
  obtain ⟨v0, vs0, d0, ds0, p0, q0, hargs, rfl, rfl, h0, r0⟩ := trodAll_cons hA
  obtain ⟨v1, vs1, d1, ds1, p1, q1, rfl, rfl, rfl, h1, r1⟩ := trodAll_cons r0
  obtain ⟨rfl, rfl, rfl⟩ := trodAll_nil r1
  obtain rfl : args = #[v0, v1] := by cases args; simp_all
  obtain ⟨rfl, rfl⟩ := trodVars_none hV
  obtain ⟨cs0, rfl, sz0⟩ := okWide_struct Tryz.underlying33 (hval 0 33 v0 rfl rfl)
  have lt0 : ∀ x ∈ p0, x.block < W.heap.size := by obtain ⟨m, hm⟩ := h0; exact DataW.trod_lt m _ _ _ hm
  obtain ⟨m0, l0, rfl, hl0⟩ : ∃ (m : Ml) (l : List Bs), cs0 = m.c.toArray ∧ MailOk W m.fa m.fn m.fc l m.text := by obtain ⟨fuel, hf⟩ := h0; exact open_mailA (sz0.trans cells33) hf
  obtain ⟨a1, rfl, rfl, rfl, w1⟩ := open_int Tryz.underlying3 (hval 1 3 v1 rfl rfl) h1
  clear hA0 hval0
  refine (walk m0 l0 hl0 a1 (env_of hsh) (bounds_i64 w1)).mono ?_
  rintro e W' ⟨rfl, bel⟩
  exact ⟨_, rfl, _, _, _, [], _, [], hW', trodAll_mk1 (shut_bool Tryz.underlying4 _), (trodAll_cons_mk (Below.trod laidOut (by kernel_rfl) (of_decide_eq_true (by kernel_rfl)) h0 bel lt0) (trodAll_cons_mk (shut_int Tryz.underlying3 w1) trodAll_mk0)), rfl, bel.frame _, fun h => by cases h⟩

theorem over : Rows.searchDaysRow.holds Tryz.pinned (OpenSpec.ofChange Rows.searchDaysSpec) :=
  OpenClaim.holds_of_cond 6 Tryz.f6 rfl rfl rfl rfl rfl rfl rfl ⟨rfl, rfl, rfl, rfl, rfl⟩ rfl rfl rfl rfl rfl (by kernel_rfl) Tryz.func6 (by kernel_rfl)
    (of_decide_eq_true (by kernel_rfl)) (by unfold Func.isWrapper; first | (rw [if_pos (by decide +kernel)]; kernel_rfl) | (rw [if_neg (by decide +kernel)]; exact ⟨rfl, rfl⟩))
    (fun os started H enc _ F => by rw [OpenClaim.pre_eq_preRow]; exact lifted os started H enc F)

/-- No parameter wants a stand-in. -/
theorem plain (f : FuncId) (fn : Func) (hf : Tryz.pinned.checked.prog.funcNamed Rows.searchDaysRow.func = some f) (hfn : Tryz.pinned.checked.prog.funcs[f]? = some fn) :
    true = Tryz.pinned.checked.prog.looks [] ∧ ∀ (j : Nat) t, fn.params[j]? = some t → Tryz.pinned.checked.prog.wantsStandIn t = false := by
  obtain rfl : f = 6 := Option.some.inj ((show Tryz.prog.funcNamed Rows.searchDaysRow.func = some 6 by kernel_rfl).symm.trans hf) |>.symm
  obtain rfl : fn = Tryz.f6 := (Option.some.inj (Tryz.func6.symm.trans hfn)).symm
  refine ⟨by kernel_rfl, fun j t ht => ?_⟩
  rw [Tryz.params6] at ht
  have hm := Array.mem_of_getElem? ht
  simp only [List.mem_toArray, List.mem_cons, List.not_mem_nil, or_false, or_self] at hm
  rcases hm with rfl | rfl
  · exact (show Tryz.prog.wantsStandIn 33 = false by kernel_rfl)
  · exact (show Tryz.prog.wantsStandIn 3 = false by kernel_rfl)
end Go.Proofs.YtaniljfjmbifnaaGreatDoor.searchDays
namespace Go.Proofs.YtaniljfjmbifnaaGreatDoor
/-- THE STATEMENT. -/
theorem searchDays_holds : Rows.SearchDaysCardSaid :=
  Claim7.holds_tied_plain_at .later [] _ _ _ _ searchDays.over (fun _ h => by cases h) (by kernel_rfl) (fun _ h => by cases h) searchDays_row_tie rfl ⟨rfl, rfl⟩ (by kernel_rfl) rfl searchDays.plain (by kernel_rfl)
#print axioms searchDays_holds
end Go.Proofs.YtaniljfjmbifnaaGreatDoor
