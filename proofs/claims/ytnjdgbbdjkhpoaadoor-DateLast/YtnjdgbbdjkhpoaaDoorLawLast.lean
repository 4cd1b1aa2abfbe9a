/- Proved here: the last one of any dates is as the document says, and no right one of them is behind it (DateLast returns true for every input, and leaves its arguments as they were). No condition beyond what the card says: three tables of the library hold what its text lays. -/
import Derived.Test.YtnjdgbbdjkhpoaaDoorCards
import Derived.Test.YtnjdgbbdjkhpoaaDoorTie
import Derived.Test.YtnjdgbbdjkhpoaaDoorL2
import Derived.ProofKit
import Derived.OpenShut
import Derived.ShutString
import Derived.Below
namespace Go.Proofs.YtnjdgbbdjkhpoaaDoor.dateLast
open Go.ChangeShapes Go.WideShapes Go.ChangeAt Go.RowKit
open Go.ChangeMaps (open_string shut_string)
set_option linter.unusedVariables false
set_option linter.unusedSimpArgs false

set_option maxRecDepth 100000 in
set_option maxHeartbeats 8000000 in
theorem walk (a : Option Addr) (len cap : Nat) (l : List Dt) {w : World} (h : DatesOk w a len l) (hE : Env w) :
    Calls Tryd.prog 9 #[.slice a len cap] w fun e w' => e = .returned (.bool true) ∧ Below w.heap.size w w' := by
  have H := hid h
  have HLN := hid h.len_
  have HE := hid hE
  have hsm := h.small
  unfold maxLen at hsm
  clear h hE
  by_cases g0 : (200 : Int) < len
  · go_enter Tryd.func9, Tryd.ntmps9
    go_wp2_with fail
    refine (alive_any HE.out).mono ?_
    rintro e w1 ⟨rfl, hb⟩
    have HB1 := hid hb
    clear hb
    go_wp2_with fail
    go_ret
    exact ⟨rfl, HB1.out⟩
  have C1 := last_any a len cap l H.out (by omega)
  have C2 : ∀ w', Below w.heap.size w w' → Calls Tryd.prog 31 #[.slice a len cap] w' fun e w'' => e = .returned (.tuple #[dtV (ansT (bestP l)), .bool (bestP l).isSome]) ∧ Below w'.heap.size w' w'' := fun w' hb => rlast_any a len cap l (H.out.later hb) (by omega)
  have HMX : Hid (∀ k (hk : k < l.length), RightP l[k] → (bestP l).isSome = true ∧ RightP (ansT (bestP l)) ∧ unixN l[k] ≤ unixN (ansT (bestP l))) := by
    intro k hk hr
    obtain ⟨q, hq, hle⟩ := best_max (List.getElem_mem hk) hr
    rw [hq]
    exact ⟨rfl, best_right hq, hle⟩
  generalize ansT (bestP l) = r at C1 C2 HMX
  generalize (bestP l).isSome = bs at C1 C2 HMX
  rw [show dtV r = (.agg #[.int .i64 r.y, .int .i64 r.mo, .int .i64 r.d, .int .i64 r.h, .int .i64 r.mi, .int .i64 r.s, .int .i64 r.z]) from rfl] at C1 C2
  have HC1 := hid C1
  have HC2 := hid C2
  have hbs : (bs == bs) = true := by simp
  clear C1 C2
  go_enter Tryd.func9, Tryd.ntmps9
  go_wp2_with fail
  refine HC1.out.mono ?_
  rintro e w1 ⟨rfl, hb⟩
  have HB1 := hid (hb.alloc hb.size (.cells (dtL r).toArray 29))
  have HX1 := hid (boxed0 r w1)
  clear hb HC1
  go_wp2_with fail
  refine (HC2.out _ HB1.out).mono ?_
  rintro e w3 ⟨rfl, hb⟩
  have HBt := hid (HB1.out.trans (hb.mono HB1.out.size))
  have HX3 := hid ((hb.block w1.heap.size (lt_of_some HX1.out)).trans HX1.out)
  have HB4 := hid (HBt.out.alloc HBt.out.size (.cells (dtL r).toArray 29))
  have HX4 : Hid ((w3.alloc (.cells (dtL r).toArray 29)).heap[w1.heap.size]? = some (.cells (dtL r).toArray 29 (0, 0))) := (Below.heap_alloc _ _ _ (lt_of_some HX3.out)).trans HX3.out
  have hlX := lt_of_some HX3.out
  obtain ⟨x0, x1, x2, x3, x4, x5, x6⟩ := cA_load HX3.out
  clear hb HC2
  go_wp2_with fail
  clear x0 x1 x2 x3 x4 x5 x6 hlX
  go_loopw [33] (fun i wr => ∃ k : Nat, k ≤ len ∧ i = .int .i64 k ∧ wr.heap[w1.heap.size]? = some (.cells (dtL r).toArray 29 (0, 0)) ∧ Below w.heap.size w wr) (fun i _ => len - (intOf i).toNat)
  case atStart => exact ⟨0, by omega, rfl, HX4.out, HB4.out⟩
  case round =>
    obtain ⟨k, hk, rfl, hX, hb⟩ := hrel
    have HX := hid hX
    have HB := hid hb
    clear hX hb
    by_cases hlt : k < len
    · have hlt' : (k : Int) < len := by omega
      obtain ⟨b, o, rfl⟩ := H.out.at' (by omega)
      have hkl : k < l.length := by rw [HLN.out]; exact hlt
      rcases H.out.at_ with h0 | ⟨b', o', e, hcs⟩
      · omega
      simp only [Option.some.injEq, Addr.mk.injEq, and_true] at e
      obtain ⟨rfl, rfl⟩ := e
      have up : ∀ {p : Addr} {v : Value}, w.cell? p = some v → wr.cell? p = some v := fun {p v} hv => (HB.out.cell (World.block_lt_of_cell? w p hv)).trans hv
      obtain ⟨k0, k1, k2, k3, k4, k5, k6⟩ := hcs k hkl
      replace k0 := up k0
      replace k1 := up k1
      replace k2 := up k2
      replace k3 := up k3
      replace k4 := up k4
      replace k5 := up k5
      replace k6 := up k6
      have hmx := HMX.out k hkl
      generalize l[k] = d at k0 k1 k2 k3 k4 k5 k6 hmx
      have HMK := hid hmx
      clear hcs up hmx
      have CD := right_agg d
      have hN0 := boxed0 d wr
      have hX0 : (wr.alloc (.cells (dtL d).toArray 29)).heap[w1.heap.size]? = some (.cells (dtL r).toArray 29 (0, 0)) := (Below.heap_alloc _ _ _ (lt_of_some HX.out)).trans HX.out
      have hB0 := HB.out.alloc HB.out.size (.cells (dtL d).toArray 29)
      have q0 := all2 hN0 hX0
      have hNc : ((wr.alloc (.cells (dtL d).toArray 29)).drew).heap[wr.heap.size]? = some (.cells (dtL d).toArray 29 (0, 0)) := hN0
      have hXc : ((wr.alloc (.cells (dtL d).toArray 29)).drew).heap[w1.heap.size]? = some (.cells (dtL r).toArray 29 (0, 0)) := hX0
      have HBc : Below w.heap.size w ((wr.alloc (.cells (dtL d).toArray 29)).drew) := hB0.drew
      have qc := q0
      have T17 := trivial
      have hlx := lt_of_some HX.out
      clear hN0 hX0 hB0
      by_cases hd : RightP d
      · rw [decide_eq_true hd] at CD
        have HD15 := hid CD
        obtain ⟨e1, e2, e3⟩ := HMK.out hd
        subst e1
        have C17 := unix_agg d
        have C18 := unix_agg r
        rw [unixV_of hd] at C17
        rw [unixV_of e2] at C18
        generalize unixN d = ud at C17 e3
        generalize unixN r = ur at C18 e3
        have HD17 := hid C17
        have HR17 := hid C18
        have dgt : decide (ur < ud) = false := decide_eq_false (by omega)
        have hng : ¬ ur < ud := by omega
        clear CD C17 C18 hd e2
        go_wp2_with fail
        go_region_held3 (fun w' => w'.cell? ⟨wr.heap.size, 0, none⟩ = some (.int .i64 d.y) ∧ w'.cell? ⟨wr.heap.size, 1, none⟩ = some (.int .i64 d.mo) ∧ w'.cell? ⟨wr.heap.size, 2, none⟩ = some (.int .i64 d.d) ∧ w'.cell? ⟨wr.heap.size, 3, none⟩ = some (.int .i64 d.h) ∧ w'.cell? ⟨wr.heap.size, 4, none⟩ = some (.int .i64 d.mi) ∧ w'.cell? ⟨wr.heap.size, 5, none⟩ = some (.int .i64 d.s) ∧ w'.cell? ⟨wr.heap.size, 6, none⟩ = some (.int .i64 d.z) ∧ w'.cell? ⟨w1.heap.size, 0, none⟩ = some (.int .i64 r.y) ∧ w'.cell? ⟨w1.heap.size, 1, none⟩ = some (.int .i64 r.mo) ∧ w'.cell? ⟨w1.heap.size, 2, none⟩ = some (.int .i64 r.d) ∧ w'.cell? ⟨w1.heap.size, 3, none⟩ = some (.int .i64 r.h) ∧ w'.cell? ⟨w1.heap.size, 4, none⟩ = some (.int .i64 r.mi) ∧ w'.cell? ⟨w1.heap.size, 5, none⟩ = some (.int .i64 r.s) ∧ w'.cell? ⟨w1.heap.size, 6, none⟩ = some (.int .i64 r.z)) (first | exact qc | exact q0 | go_keep) (first | (go_at_call 15; refine (HD15.out _).mono ?_; rintro e wk ⟨rfl, hb⟩; have hNc := (hb.block wr.heap.size (lt_of_some hNc)).trans hNc; have hXc := (hb.block w1.heap.size (lt_of_some hXc)).trans hXc; have HBc := HBc.trans (hb.mono HBc.size); have qc := all2 hNc hXc; clear hb) | (go_at_call 17; (first | (clear T17; refine (HD17.out _).mono ?_) | refine (HR17.out _).mono ?_); rintro e wk ⟨rfl, hb⟩; have hNc := (hb.block wr.heap.size (lt_of_some hNc)).trans hNc; have hXc := (hb.block w1.heap.size (lt_of_some hXc)).trans hXc; have HBc := HBc.trans (hb.mono HBc.size); have qc := all2 hNc hXc; clear hb))
        have HBC := hid HBc
        have HXC := hid hXc
        clear HBc hXc hNc qc q0
        go_wp2_with fail
        go_roundw
        case rel => exact ⟨k + 1, by omega, by go_num, HXC.out, HBC.out⟩
        case measure => simp [intOf]; omega
      · rw [decide_eq_false hd] at CD
        have HD15 := hid CD
        clear CD hd
        go_wp2_with fail
        refine wp_region_held_drew (S := fun w' => w'.cell? ⟨wr.heap.size, 0, none⟩ = some (.int .i64 d.y) ∧ w'.cell? ⟨wr.heap.size, 1, none⟩ = some (.int .i64 d.mo) ∧ w'.cell? ⟨wr.heap.size, 2, none⟩ = some (.int .i64 d.d) ∧ w'.cell? ⟨wr.heap.size, 3, none⟩ = some (.int .i64 d.h) ∧ w'.cell? ⟨wr.heap.size, 4, none⟩ = some (.int .i64 d.mi) ∧ w'.cell? ⟨wr.heap.size, 5, none⟩ = some (.int .i64 d.s) ∧ w'.cell? ⟨wr.heap.size, 6, none⟩ = some (.int .i64 d.z) ∧ w'.cell? ⟨w1.heap.size, 0, none⟩ = some (.int .i64 r.y) ∧ w'.cell? ⟨w1.heap.size, 1, none⟩ = some (.int .i64 r.mo) ∧ w'.cell? ⟨w1.heap.size, 2, none⟩ = some (.int .i64 r.d) ∧ w'.cell? ⟨w1.heap.size, 3, none⟩ = some (.int .i64 r.h) ∧ w'.cell? ⟨w1.heap.size, 4, none⟩ = some (.int .i64 r.mi) ∧ w'.cell? ⟨w1.heap.size, 5, none⟩ = some (.int .i64 r.s) ∧ w'.cell? ⟨w1.heap.size, 6, none⟩ = some (.int .i64 r.z)) (by kernel_rfl) q0 ?_
        intro hHeld
        refine anyH_takeW 0 ⟨some 37, .load 29 (.tmp 8), _, _, _, none⟩ (.agg #[.int .i64 d.y, .int .i64 d.mo, .int .i64 d.d, .int .i64 d.h, .int .i64 d.mi, .int .i64 d.s, .int .i64 d.z]) rfl rfl (by kernel_rfl) (by kernel_rfl) (by kernel_rfl) (fun _ _ _ h => h) (fun w hw => exec_v (load29 hw.1 hw.2.1 hw.2.2.1 hw.2.2.2.1 hw.2.2.2.2.1 hw.2.2.2.2.2.1 hw.2.2.2.2.2.2.1)) hHeld ?_
        simp only [Act.put, List.setIfInBounds_toArray, List.set_cons_zero, List.set_cons_succ]
        refine anyH_callW 1 ⟨some 38, .call { callee := .value (.func 15), args := #[.tmp 37], argTypes := #[29] }, _, _, _, none⟩ 15 #[(.agg #[.int .i64 d.y, .int .i64 d.mo, .int .i64 d.d, .int .i64 d.h, .int .i64 d.mi, .int .i64 d.s, .int .i64 d.z])] (by kernel_rfl) rfl rfl (by kernel_rfl) ?_
        refine (HD15.out _).mono ?_
        rintro e wk ⟨rfl, hb⟩
        have hNc := (hb.block wr.heap.size (lt_of_some hNc)).trans hNc
        have hXc := (hb.block w1.heap.size (lt_of_some hXc)).trans hXc
        have HBc := HBc.trans (hb.mono HBc.size)
        have qc := all2 hNc hXc
        clear hb
        refine ⟨_, rfl, qc, ?_⟩
        simp only [Act.put, List.setIfInBounds_toArray, List.set_cons_zero, List.set_cons_succ]
        refine anyH_takeW 2 ⟨some 39, .move (.tmp 38), _, _, _, none⟩ (.bool false) rfl rfl (by kernel_rfl) (by kernel_rfl) (by kernel_rfl) (fun _ _ _ h => h) (fun w hw => rfl) qc ?_
        simp only [Act.put, List.setIfInBounds_toArray, List.set_cons_zero, List.set_cons_succ]
        refine anyH_takeU 3 ⟨some 40, .move (.tmp 4), _, _, _, some (2, true)⟩ rfl rfl (by kernel_rfl) (by kernel_rfl) (by kernel_rfl) (fun _ _ _ h => h) qc ?_
        simp only [Act.put, List.setIfInBounds_toArray, List.set_cons_zero, List.set_cons_succ]
        refine anyH_takeU 4 ⟨some 41, .unOp .not 4 (.tmp 40), _, _, _, some (2, true)⟩ rfl rfl (by kernel_rfl) (by kernel_rfl) (by kernel_rfl) (fun _ _ _ h => h) qc ?_
        simp only [Act.put, List.setIfInBounds_toArray, List.set_cons_zero, List.set_cons_succ]
        refine anyH_takeU 5 ⟨some 42, .move (.tmp 41), _, _, _, some (2, true)⟩ rfl rfl (by kernel_rfl) (by kernel_rfl) (by kernel_rfl) (fun _ _ _ h => h) qc ?_
        simp only [Act.put, List.setIfInBounds_toArray, List.set_cons_zero, List.set_cons_succ]
        refine anyH_takeU 6 ⟨some 43, .load 29 (.tmp 8), _, _, _, some (5, false)⟩ rfl rfl (by kernel_rfl) (by kernel_rfl) (by kernel_rfl) (fun _ _ _ h => h) qc ?_
        simp only [Act.put, List.setIfInBounds_toArray, List.set_cons_zero, List.set_cons_succ]
        refine anyH_takeU 7 ⟨some 44, .call { callee := .value (.func 17), args := #[.tmp 43], argTypes := #[29] }, _, _, _, some (5, false)⟩ rfl rfl (by kernel_rfl) (by kernel_rfl) (by kernel_rfl) (fun _ _ _ h => h) qc ?_
        simp only [Act.put, List.setIfInBounds_toArray, List.set_cons_zero, List.set_cons_succ]
        refine anyH_takeU 8 ⟨some 45, .load 29 (.tmp 3), _, _, _, some (5, false)⟩ rfl rfl (by kernel_rfl) (by kernel_rfl) (by kernel_rfl) (fun _ _ _ h => h) qc ?_
        simp only [Act.put, List.setIfInBounds_toArray, List.set_cons_zero, List.set_cons_succ]
        refine anyH_takeU 9 ⟨some 46, .call { callee := .value (.func 17), args := #[.tmp 45], argTypes := #[29] }, _, _, _, some (5, false)⟩ rfl rfl (by kernel_rfl) (by kernel_rfl) (by kernel_rfl) (fun _ _ _ h => h) qc ?_
        simp only [Act.put, List.setIfInBounds_toArray, List.set_cons_zero, List.set_cons_succ]
        refine anyH_takeU 10 ⟨some 47, .binOp .gtr 3 (.tmp 44) (.tmp 46) 3, _, _, _, some (5, false)⟩ rfl rfl (by kernel_rfl) (by kernel_rfl) (by kernel_rfl) (fun _ _ _ h => h) qc ?_
        simp only [Act.put, List.setIfInBounds_toArray, List.set_cons_zero, List.set_cons_succ]
        refine anyH_takeU 11 ⟨some 48, .pick (.tmp 42) (.const (.bool true)) (.tmp 47), _, _, _, some (2, true)⟩ rfl rfl (by kernel_rfl) (by kernel_rfl) (by kernel_rfl) (fun _ _ _ h => h) qc ?_
        simp only [Act.put, List.setIfInBounds_toArray, List.set_cons_zero, List.set_cons_succ]
        refine anyH_takeW 12 ⟨some 49, .pick (.tmp 39) (.tmp 48) (.const (.bool false)), _, _, _, none⟩ (.bool false) rfl rfl (by kernel_rfl) (by kernel_rfl) (by kernel_rfl) (fun _ _ _ h => h) (fun w hw => rfl) qc ?_
        simp only [Act.put, List.setIfInBounds_toArray, List.set_cons_zero, List.set_cons_succ]
        refine wpAnyH_done (by kernel_rfl) ?_ _
        have HBC := hid HBc
        have HXC := hid hXc
        clear HBc hXc hNc qc q0 hHeld
        go_wp2_with fail
        go_roundw
        case rel => exact ⟨k + 1, by omega, by go_num, HXC.out, HBC.out⟩
        case measure => simp [intOf]; omega
    · have hlt' : ¬ (k : Int) < len := by omega
      go_wp2_with fail
      refine (alive_any (HE.out.later HB.out)).mono ?_
      rintro e w9 ⟨rfl, hb⟩
      have HB9 := hid (HB.out.trans (hb.mono HB.out.size))
      clear hb
      go_wp2_with fail
      go_ret
      exact ⟨rfl, HB9.out⟩

theorem witness (os : Os) {H : Type} (enc : TypeId × Value → H) :
    (OpenSpec.ofChange Rows.dateLastSpec).preRow enc Tryd.prog Tryd.f9 Rows.dateLastRow.domain false Rows.dateLastRow.laid ((laidWorld os).forCall (fun _ _ => 0) ⟨#[], #[.slice none 0 0], []⟩).memory #[.slice none 0 0] := by
  have hw : (DataW.whole enc Tryd.prog ((laidWorld os).forCall (fun _ _ => 0) ⟨#[], #[.slice none 0 0], []⟩).memory Tryd.f9.params.toList Rows.dateLastSpec.vars false (#[.slice none 0 0] : Array Value).toList 8).map (fun x => (x.1, x.2.1)) =
      some ([.nil], []) := by kernel_rfl
  obtain ⟨⟨x1, x2, x3⟩, hx, hx1⟩ := Option.map_eq_some_iff.1 hw
  simp only [Prod.mk.injEq] at hx1
  obtain ⟨rfl, rfl⟩ := hx1
  exact OpenSpec.preRow_of_cond 8 hx (by kernel_rfl) (fun k hk => by cases hk) (by kernel_rfl) (laid_met os _)

set_option maxRecDepth 100000 in
set_option maxHeartbeats 2000000 in
theorem lifted (os : Os) (started : os.Started) (H : Type) (enc : TypeId × Value → H) (F : Stop.Interp) :
    ReturnsInHanded {} Tryd.checked os 9 .any ((OpenSpec.ofChange Rows.dateLastSpec).preRow enc Tryd.prog Tryd.f9 Rows.dateLastRow.domain false Rows.dateLastRow.laid) (((OpenSpec.ofChange Rows.dateLastSpec).at F).post enc Tryd.prog Tryd.f9 false true false false) := by
  refine returnsInHanded_of_row (C := Tryd.checked) (s := OpenSpec.ofChange Rows.dateLastSpec) own started (by kernel_rfl) Tryd.func9
    (witness_row_atRef (enc := enc) (C := Tryd.checked) false (laidWorld os) #[.slice none 0 0] rfl (by kernel_rfl) (by kernel_rfl) (by kernel_rfl) (witness os enc)) ?_
  intro W base args ds gs before hval0 hW _ _ _ hL hsh _
  have hval : ∀ (j : Nat) t v, Tryd.f9.params[j]? = some t → args[j]? = some v → Value.okWide Tryd.prog W .any base t v := hval0
  have hW' := hW
  obtain ⟨p, q, hA0, hV, rfl, hfz, hnd⟩ := hW
  have hA : DataW.TrodAll enc Tryd.prog W 0 (fun _ => true) true Tryd.f9.params.toList args.toList ds p := hA0
  rw [Tryd.params9] at hA hval
  obtain ⟨v0, vs0, d0, ds0, p0, q0, hargs, rfl, rfl, h0, r0⟩ := trodAll_cons hA
  obtain ⟨rfl, rfl, rfl⟩ := trodAll_nil r0
  obtain rfl : args = #[v0] := by cases args; simp_all
  obtain ⟨rfl, rfl⟩ := trodVars_none hV
  obtain ⟨a0, len0, cap0, rfl⟩ := okWide_slice Tryd.underlying47 (hval 0 47 v0 rfl rfl)
  have lt0 : ∀ x ∈ p0, x.block < W.heap.size := by obtain ⟨m, hm⟩ := h0; exact DataW.trod_lt m _ _ _ hm
  obtain ⟨l0, hl0⟩ : ∃ l, DatesOk W a0 len0 l := by obtain ⟨fuel, hf⟩ := h0; exact open_dates hf
  clear hA0 hval0
  refine (walk a0 len0 cap0 l0 hl0 (env_of hL) ).mono ?_
  rintro e W' ⟨rfl, bel⟩
  exact ⟨_, rfl, _, _, _, [], _, [], hW', trodAll_mk1 (shut_bool Tryd.underlying4 _), (trodAll_cons_mk (Below.trod laidOut (by kernel_rfl) (of_decide_eq_true (by kernel_rfl)) h0 bel lt0) trodAll_mk0), rfl, bel.frame _, fun h => by cases h⟩

theorem over : Rows.dateLastRow.holds Tryd.pinned (OpenSpec.ofChange Rows.dateLastSpec) :=
  OpenClaim.holds_of_cond 9 Tryd.f9 rfl rfl rfl rfl rfl rfl rfl ⟨rfl, rfl, rfl, rfl, rfl⟩ rfl rfl rfl rfl rfl (by kernel_rfl) Tryd.func9 (by kernel_rfl)
    (of_decide_eq_true (by kernel_rfl)) (by unfold Func.isWrapper; first | (rw [if_pos (by decide +kernel)]; kernel_rfl) | (rw [if_neg (by decide +kernel)]; exact ⟨rfl, rfl⟩))
    (fun os started H enc _ F => by rw [OpenClaim.pre_eq_preRow]; exact lifted os started H enc F)

/-- No parameter wants a stand-in. -/
theorem plain (f : FuncId) (fn : Func) (hf : Tryd.pinned.checked.prog.funcNamed Rows.dateLastRow.func = some f) (hfn : Tryd.pinned.checked.prog.funcs[f]? = some fn) :
    true = Tryd.pinned.checked.prog.looks [] ∧ ∀ (j : Nat) t, fn.params[j]? = some t → Tryd.pinned.checked.prog.wantsStandIn t = false := by
  obtain rfl : f = 9 := Option.some.inj ((show Tryd.prog.funcNamed Rows.dateLastRow.func = some 9 by kernel_rfl).symm.trans hf) |>.symm
  obtain rfl : fn = Tryd.f9 := (Option.some.inj (Tryd.func9.symm.trans hfn)).symm
  refine ⟨by kernel_rfl, fun j t ht => ?_⟩
  rw [Tryd.params9] at ht
  have hm := Array.mem_of_getElem? ht
  simp only [List.mem_toArray, List.mem_cons, List.not_mem_nil, or_false, or_self] at hm
  rcases hm with rfl
  · exact (show Tryd.prog.wantsStandIn 47 = false by kernel_rfl)
end Go.Proofs.YtnjdgbbdjkhpoaaDoor.dateLast
namespace Go.Proofs.YtnjdgbbdjkhpoaaDoor
/-- THE STATEMENT. -/
theorem dateLast_holds : Rows.DateLastCardSaid :=
  Claim7.holds_tied_plain_at .later [] _ _ _ _ dateLast.over (fun _ h => by cases h) (by kernel_rfl) (fun _ h => by cases h) dateLast_row_tie rfl ⟨rfl, rfl⟩ (by kernel_rfl) rfl dateLast.plain (by kernel_rfl)
#print axioms dateLast_holds
end Go.Proofs.YtnjdgbbdjkhpoaaDoor
