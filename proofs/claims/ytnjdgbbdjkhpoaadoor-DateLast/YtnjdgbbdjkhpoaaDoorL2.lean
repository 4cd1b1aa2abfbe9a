/- What this text holds: the document's Last. (Written by genl2.py.) -/
import Derived.Test.YtnjdgbbdjkhpoaaDoorL1
import Derived.Test.YtnjdgbbdjkhpoaaDoorR5
namespace Go.Proofs.YtnjdgbbdjkhpoaaDoor
open Go.RowKit
set_option linter.unusedVariables false
set_option linter.unusedSimpArgs false

set_option maxRecDepth 100000 in
theorem results31_run {w : World} {A : Nat} {t : Dt} {v : Value} (tmps : Array Value) (h2 : tmps[2]? = some (.pointer (some ⟨A, 0, none⟩))) (h3 : tmps[3]? = some v)
    (hA : w.heap[A]? = some (.cells (dtL t).toArray 29 (0, 0))) : (results Tryd.f31 tmps).run Tryd.prog w = .ok (.tuple #[dtV t, v]) w := by
  obtain ⟨a0, a1, a2, a3, a4, a5, a6⟩ := cA_load hA
  simp [results, Tryd.results31, go_sem, h2, h3, a0, a1, a2, a3, a4, a5, a6, dtV, dtL]
theorem load29o {w : World} {b n : Nat} {x0 x1 x2 x3 x4 x5 x6 : Value} (h0 : w.cell? ⟨b, n, none⟩ = some x0) (h1 : w.cell? ⟨b, n + 1, none⟩ = some x1) (h2 : w.cell? ⟨b, n + 2, none⟩ = some x2) (h3 : w.cell? ⟨b, n + 3, none⟩ = some x3) (h4 : w.cell? ⟨b, n + 4, none⟩ = some x4) (h5 : w.cell? ⟨b, n + 5, none⟩ = some x5) (h6 : w.cell? ⟨b, n + 6, none⟩ = some x6) : (Instr.loadAt 29 (.pointer (some ⟨b, n, none⟩))).run Tryd.prog w = .ok (.agg #[x0, x1, x2, x3, x4, x5, x6]) w := by
  simp [go_sem, h0, h1, h2, h3, h4, h5, h6]
theorem exec_idx47 {a : Act} {x y : Operand} {b o len cap k : Nat} {w : World} {d : Option Tmp} {ty : Nat} {pos : String} {af : Array Edge} {g : Option (Nat × Bool)} (hx : a.eval x = .slice (some ⟨b, o, none⟩) len cap) (hy : a.eval y = .int .i64 (k : Int)) (h : k < len) :
    (execOp a.eval ⟨d, .indexAddr 47 x y, ty, pos, af, g⟩).run Tryd.prog w = .ok (.value (.pointer (some ⟨b, o + k * 7, none⟩))) w := by
  have h' : (k : Int) < len := by omega
  simp only [execOp, hx, hy]
  simp [go_sem, h, h']
theorem rright_agg (t : Dt) (w : World) : Calls Tryd.prog 16 #[.agg #[.int .i64 t.y, .int .i64 t.mo, .int .i64 t.d, .int .i64 t.h, .int .i64 t.mi, .int .i64 t.s, .int .i64 t.z]] w fun e w' => e = .returned (.bool (decide (RightP t))) ∧ Below w.heap.size w w' := rright_any t w
theorem runix_agg (t : Dt) (w : World) : Calls Tryd.prog 18 #[.agg #[.int .i64 t.y, .int .i64 t.mo, .int .i64 t.d, .int .i64 t.h, .int .i64 t.mi, .int .i64 t.s, .int .i64 t.z]] w fun e w' => e = .returned (.int .i64 (unixV t)) ∧ Below w.heap.size w w' := runix_any t w
theorem upd {w w' : World} {b n : Nat} {d : Dt} (hb : Below w.heap.size w w') (h : w.cell? ⟨b, n, none⟩ = some (.int .i64 d.y) ∧ w.cell? ⟨b, n + 1, none⟩ = some (.int .i64 d.mo) ∧ w.cell? ⟨b, n + 2, none⟩ = some (.int .i64 d.d) ∧ w.cell? ⟨b, n + 3, none⟩ = some (.int .i64 d.h) ∧ w.cell? ⟨b, n + 4, none⟩ = some (.int .i64 d.mi) ∧ w.cell? ⟨b, n + 5, none⟩ = some (.int .i64 d.s) ∧ w.cell? ⟨b, n + 6, none⟩ = some (.int .i64 d.z)) : w'.cell? ⟨b, n, none⟩ = some (.int .i64 d.y) ∧ w'.cell? ⟨b, n + 1, none⟩ = some (.int .i64 d.mo) ∧ w'.cell? ⟨b, n + 2, none⟩ = some (.int .i64 d.d) ∧ w'.cell? ⟨b, n + 3, none⟩ = some (.int .i64 d.h) ∧ w'.cell? ⟨b, n + 4, none⟩ = some (.int .i64 d.mi) ∧ w'.cell? ⟨b, n + 5, none⟩ = some (.int .i64 d.s) ∧ w'.cell? ⟨b, n + 6, none⟩ = some (.int .i64 d.z) := by
  have up : ∀ {p : Addr} {v : Value}, w.cell? p = some v → w'.cell? p = some v := fun {p v} hv => (hb.cell (World.block_lt_of_cell? w p hv)).trans hv
  obtain ⟨k0, k1, k2, k3, k4, k5, k6⟩ := h
  exact ⟨up k0, up k1, up k2, up k3, up k4, up k5, up k6⟩
theorem upd2 {w w' : World} {b n m : Nat} {d r : Dt} (hb : Below w.heap.size w w') (h : (w.cell? ⟨b, n, none⟩ = some (.int .i64 d.y) ∧ w.cell? ⟨b, n + 1, none⟩ = some (.int .i64 d.mo) ∧ w.cell? ⟨b, n + 2, none⟩ = some (.int .i64 d.d) ∧ w.cell? ⟨b, n + 3, none⟩ = some (.int .i64 d.h) ∧ w.cell? ⟨b, n + 4, none⟩ = some (.int .i64 d.mi) ∧ w.cell? ⟨b, n + 5, none⟩ = some (.int .i64 d.s) ∧ w.cell? ⟨b, n + 6, none⟩ = some (.int .i64 d.z)) ∧ (w.cell? ⟨b, m, none⟩ = some (.int .i64 r.y) ∧ w.cell? ⟨b, m + 1, none⟩ = some (.int .i64 r.mo) ∧ w.cell? ⟨b, m + 2, none⟩ = some (.int .i64 r.d) ∧ w.cell? ⟨b, m + 3, none⟩ = some (.int .i64 r.h) ∧ w.cell? ⟨b, m + 4, none⟩ = some (.int .i64 r.mi) ∧ w.cell? ⟨b, m + 5, none⟩ = some (.int .i64 r.s) ∧ w.cell? ⟨b, m + 6, none⟩ = some (.int .i64 r.z))) : w'.cell? ⟨b, n, none⟩ = some (.int .i64 d.y) ∧ w'.cell? ⟨b, n + 1, none⟩ = some (.int .i64 d.mo) ∧ w'.cell? ⟨b, n + 2, none⟩ = some (.int .i64 d.d) ∧ w'.cell? ⟨b, n + 3, none⟩ = some (.int .i64 d.h) ∧ w'.cell? ⟨b, n + 4, none⟩ = some (.int .i64 d.mi) ∧ w'.cell? ⟨b, n + 5, none⟩ = some (.int .i64 d.s) ∧ w'.cell? ⟨b, n + 6, none⟩ = some (.int .i64 d.z) ∧ w'.cell? ⟨b, m, none⟩ = some (.int .i64 r.y) ∧ w'.cell? ⟨b, m + 1, none⟩ = some (.int .i64 r.mo) ∧ w'.cell? ⟨b, m + 2, none⟩ = some (.int .i64 r.d) ∧ w'.cell? ⟨b, m + 3, none⟩ = some (.int .i64 r.h) ∧ w'.cell? ⟨b, m + 4, none⟩ = some (.int .i64 r.mi) ∧ w'.cell? ⟨b, m + 5, none⟩ = some (.int .i64 r.s) ∧ w'.cell? ⟨b, m + 6, none⟩ = some (.int .i64 r.z) := by
  obtain ⟨k0, k1, k2, k3, k4, k5, k6⟩ := upd hb h.1
  exact ⟨k0, k1, k2, k3, k4, k5, k6, upd hb h.2⟩

set_option maxRecDepth 100000 in
set_option maxHeartbeats 4000000 in
theorem rlast_any (a : Option Addr) (len cap : Nat) (l : List Dt) {w : World} (h : DatesOk w a len l) (hl : len ≤ 1000) :
    Calls Tryd.prog 31 #[.slice a len cap] w fun e w' => e = .returned (.tuple #[dtV (ansT (bestP l)), .bool (bestP l).isSome]) ∧ Below w.heap.size w w' := by
  have H := hid h
  have HLN := hid h.len_
  clear h
  go_enter Tryd.func31, Tryd.ntmps31
  go_wp2_with fail
  go_loopw [4, 5] (fun v i wr => ∃ k : Nat, k ≤ len ∧ i = .int .i64 k ∧ wr.heap[w.heap.size]? = some (.cells (dtL Dt.zero).toArray 29 (0, 0)) ∧ Below w.heap.size w wr ∧ ((v = .int .i64 (-1) ∧ bestP (l.take k) = none) ∨ ∃ j : Nat, j < k ∧ v = .int .i64 (j : Int) ∧ ∃ hj : j < l.length, bestP (l.take k) = some l[j])) (fun _ i _ => len - (intOf i).toNat)
  case atStart => exact ⟨0, by omega, rfl, boxed0 Dt.zero w, (Below.refl _ w).alloc (Nat.le_refl _) _, .inl ⟨rfl, rfl⟩⟩
  case round =>
    obtain ⟨k, hk, rfl, hR, hb, hv⟩ := hrel
    have HR := hid hR
    have HB := hid hb
    have HV := hid hv
    clear hR hb hv
    by_cases hlt : k < len
    · have hlt' : (k : Int) < len := by omega
      obtain ⟨b, o, rfl⟩ := H.out.at' (by omega)
      have hkl : k < l.length := by rw [HLN.out]; exact hlt
      rcases H.out.at_ with h0 | ⟨b', o', e, hcs⟩
      · omega
      simp only [Option.some.injEq, Addr.mk.injEq, and_true] at e
      obtain ⟨rfl, rfl⟩ := e
      have HCS := hid hcs
      have up : ∀ {p : Addr} {v : Value}, w.cell? p = some v → wr.cell? p = some v := fun {p v} hv => (HB.out.cell (World.block_lt_of_cell? w p hv)).trans hv
      obtain ⟨k0, k1, k2, k3, k4, k5, k6⟩ := hcs k hkl
      have q0 : wr.cell? ⟨b, o + k * 7, none⟩ = some (.int .i64 l[k].y) ∧ wr.cell? ⟨b, o + k * 7 + 1, none⟩ = some (.int .i64 l[k].mo) ∧ wr.cell? ⟨b, o + k * 7 + 2, none⟩ = some (.int .i64 l[k].d) ∧ wr.cell? ⟨b, o + k * 7 + 3, none⟩ = some (.int .i64 l[k].h) ∧ wr.cell? ⟨b, o + k * 7 + 4, none⟩ = some (.int .i64 l[k].mi) ∧ wr.cell? ⟨b, o + k * 7 + 5, none⟩ = some (.int .i64 l[k].s) ∧ wr.cell? ⟨b, o + k * 7 + 6, none⟩ = some (.int .i64 l[k].z) := ⟨up k0, up k1, up k2, up k3, up k4, up k5, up k6⟩
      have HNX := hid (best_next l k hkl)
      generalize hdk : l[k] = d at q0 HNX
      have HDK := hid hdk
      have CD := rright_agg d
      clear k0 k1 k2 k3 k4 k5 k6 hcs hdk
      by_cases hd : RightP d
      · rw [decide_eq_true hd] at CD
        have HD16 := hid CD
        have HD := hid hd
        clear CD hd
        rcases HV.out with ⟨rfl, hn⟩ | ⟨j, hj, rfl, hjl, hbj⟩
        · have HSB : Hid (stepB (bestP (l.take k)) d = some d) := by unfold Hid; rw [hn]; simp [stepB, HD.out]
          clear hn up HV
          go_wp2_with fail
          refine wp_region_held_drew (S := fun w' => w'.cell? ⟨b, o + k * 7, none⟩ = some (.int .i64 d.y) ∧ w'.cell? ⟨b, o + k * 7 + 1, none⟩ = some (.int .i64 d.mo) ∧ w'.cell? ⟨b, o + k * 7 + 2, none⟩ = some (.int .i64 d.d) ∧ w'.cell? ⟨b, o + k * 7 + 3, none⟩ = some (.int .i64 d.h) ∧ w'.cell? ⟨b, o + k * 7 + 4, none⟩ = some (.int .i64 d.mi) ∧ w'.cell? ⟨b, o + k * 7 + 5, none⟩ = some (.int .i64 d.s) ∧ w'.cell? ⟨b, o + k * 7 + 6, none⟩ = some (.int .i64 d.z)) (by kernel_rfl) q0 ?_
          intro hHeld
          refine anyH_takeW 0 ⟨some 12, .move (.tmp 0), _, _, _, none⟩ (.slice (some ⟨b, o, none⟩) len cap) rfl rfl (by kernel_rfl) (by kernel_rfl) (by kernel_rfl) (fun _ _ _ h => h) (fun w hw => rfl) hHeld ?_
          simp only [Act.put, List.setIfInBounds_toArray, List.set_cons_zero, List.set_cons_succ]
          refine anyH_takeW 1 ⟨some 13, .move (.tmp 5), _, _, _, none⟩ (.int .i64 (k : Int)) rfl rfl (by kernel_rfl) (by kernel_rfl) (by kernel_rfl) (fun _ _ _ h => h) (fun w hw => rfl) hHeld ?_
          simp only [Act.put, List.setIfInBounds_toArray, List.set_cons_zero, List.set_cons_succ]
          refine anyH_takeW 2 ⟨some 14, .indexAddr 47 (.tmp 12) (.tmp 13), _, _, _, none⟩ (.pointer (some ⟨b, o + k * 7, none⟩)) rfl rfl (by kernel_rfl) (by kernel_rfl) (by kernel_rfl) (fun _ _ _ h => h) (fun w hw => exec_idx47 rfl rfl hlt) hHeld ?_
          simp only [Act.put, List.setIfInBounds_toArray, List.set_cons_zero, List.set_cons_succ]
          refine anyH_takeW 3 ⟨some 15, .load 29 (.tmp 14), _, _, _, none⟩ (.agg #[.int .i64 d.y, .int .i64 d.mo, .int .i64 d.d, .int .i64 d.h, .int .i64 d.mi, .int .i64 d.s, .int .i64 d.z]) rfl rfl (by kernel_rfl) (by kernel_rfl) (by kernel_rfl) (fun _ _ _ h => h) (fun w hw => exec_v (load29o hw.1 hw.2.1 hw.2.2.1 hw.2.2.2.1 hw.2.2.2.2.1 hw.2.2.2.2.2.1 hw.2.2.2.2.2.2)) hHeld ?_
          simp only [Act.put, List.setIfInBounds_toArray, List.set_cons_zero, List.set_cons_succ]
          refine anyH_callW 4 ⟨some 16, .call { callee := .value (.func 16), args := #[.tmp 15], argTypes := #[29] }, _, _, _, none⟩ 16 #[(.agg #[.int .i64 d.y, .int .i64 d.mo, .int .i64 d.d, .int .i64 d.h, .int .i64 d.mi, .int .i64 d.s, .int .i64 d.z])] (by kernel_rfl) rfl rfl (by kernel_rfl) ?_
          refine (HD16.out _).mono ?_
          rintro e wk ⟨rfl, hb⟩
          have HBc := HB.out.drew.trans (hb.mono HB.out.size)
          have HRc := hid ((hb.block w.heap.size (lt_of_some HR.out)).trans HR.out)
          have qc := upd hb hHeld
          refine ⟨_, rfl, qc, ?_⟩
          simp only [Act.put, List.setIfInBounds_toArray, List.set_cons_zero, List.set_cons_succ]
          refine anyH_takeW 5 ⟨some 17, .move (.tmp 16), _, _, _, none⟩ (.bool true) rfl rfl (by kernel_rfl) (by kernel_rfl) (by kernel_rfl) (fun _ _ _ h => h) (fun w hw => rfl) qc ?_
          simp only [Act.put, List.setIfInBounds_toArray, List.set_cons_zero, List.set_cons_succ]
          refine anyH_takeW 6 ⟨some 18, .move (.tmp 4), _, _, _, some (5, true)⟩ (.int .i64 (-1)) rfl rfl (by kernel_rfl) (by kernel_rfl) (by kernel_rfl) (fun _ _ _ h => h) (fun w hw => rfl) qc ?_
          simp only [Act.put, List.setIfInBounds_toArray, List.set_cons_zero, List.set_cons_succ]
          refine anyH_takeW 7 ⟨some 19, .binOp .lss 3 (.tmp 18) (.const (.int .i64 0)) 3, _, _, _, some (5, true)⟩ (.bool true) rfl rfl (by kernel_rfl) (by kernel_rfl) (by kernel_rfl) (fun _ _ _ h => h) (fun w hw => rfl) qc ?_
          simp only [Act.put, List.setIfInBounds_toArray, List.set_cons_zero, List.set_cons_succ]
          refine anyH_takeW 8 ⟨some 20, .move (.tmp 19), _, _, _, some (5, true)⟩ (.bool true) rfl rfl (by kernel_rfl) (by kernel_rfl) (by kernel_rfl) (fun _ _ _ h => h) (fun w hw => rfl) qc ?_
          simp only [Act.put, List.setIfInBounds_toArray, List.set_cons_zero, List.set_cons_succ]
          refine anyH_takeU 9 ⟨some 21, .move (.tmp 0), _, _, _, some (8, false)⟩ rfl rfl (by kernel_rfl) (by kernel_rfl) (by kernel_rfl) (fun _ _ _ h => h) qc ?_
          simp only [Act.put, List.setIfInBounds_toArray, List.set_cons_zero, List.set_cons_succ]
          refine anyH_takeU 10 ⟨some 22, .move (.tmp 5), _, _, _, some (8, false)⟩ rfl rfl (by kernel_rfl) (by kernel_rfl) (by kernel_rfl) (fun _ _ _ h => h) qc ?_
          simp only [Act.put, List.setIfInBounds_toArray, List.set_cons_zero, List.set_cons_succ]
          refine anyH_takeU 11 ⟨some 23, .indexAddr 47 (.tmp 21) (.tmp 22), _, _, _, some (8, false)⟩ rfl rfl (by kernel_rfl) (by kernel_rfl) (by kernel_rfl) (fun _ _ _ h => h) qc ?_
          simp only [Act.put, List.setIfInBounds_toArray, List.set_cons_zero, List.set_cons_succ]
          refine anyH_takeU 12 ⟨some 24, .load 29 (.tmp 23), _, _, _, some (8, false)⟩ rfl rfl (by kernel_rfl) (by kernel_rfl) (by kernel_rfl) (fun _ _ _ h => h) qc ?_
          simp only [Act.put, List.setIfInBounds_toArray, List.set_cons_zero, List.set_cons_succ]
          refine anyH_takeU 13 ⟨some 25, .call { callee := .value (.func 18), args := #[.tmp 24], argTypes := #[29] }, _, _, _, some (8, false)⟩ rfl rfl (by kernel_rfl) (by kernel_rfl) (by kernel_rfl) (fun _ _ _ h => h) qc ?_
          simp only [Act.put, List.setIfInBounds_toArray, List.set_cons_zero, List.set_cons_succ]
          refine anyH_takeU 14 ⟨some 26, .move (.tmp 0), _, _, _, some (8, false)⟩ rfl rfl (by kernel_rfl) (by kernel_rfl) (by kernel_rfl) (fun _ _ _ h => h) qc ?_
          simp only [Act.put, List.setIfInBounds_toArray, List.set_cons_zero, List.set_cons_succ]
          refine anyH_takeU 15 ⟨some 27, .move (.tmp 4), _, _, _, some (8, false)⟩ rfl rfl (by kernel_rfl) (by kernel_rfl) (by kernel_rfl) (fun _ _ _ h => h) qc ?_
          simp only [Act.put, List.setIfInBounds_toArray, List.set_cons_zero, List.set_cons_succ]
          refine anyH_takeU 16 ⟨some 28, .indexAddr 47 (.tmp 26) (.tmp 27), _, _, _, some (8, false)⟩ rfl rfl (by kernel_rfl) (by kernel_rfl) (by kernel_rfl) (fun _ _ _ h => h) qc ?_
          simp only [Act.put, List.setIfInBounds_toArray, List.set_cons_zero, List.set_cons_succ]
          refine anyH_takeU 17 ⟨some 29, .load 29 (.tmp 28), _, _, _, some (8, false)⟩ rfl rfl (by kernel_rfl) (by kernel_rfl) (by kernel_rfl) (fun _ _ _ h => h) qc ?_
          simp only [Act.put, List.setIfInBounds_toArray, List.set_cons_zero, List.set_cons_succ]
          refine anyH_takeU 18 ⟨some 30, .call { callee := .value (.func 18), args := #[.tmp 29], argTypes := #[29] }, _, _, _, some (8, false)⟩ rfl rfl (by kernel_rfl) (by kernel_rfl) (by kernel_rfl) (fun _ _ _ h => h) qc ?_
          simp only [Act.put, List.setIfInBounds_toArray, List.set_cons_zero, List.set_cons_succ]
          refine anyH_takeU 19 ⟨some 31, .binOp .gtr 3 (.tmp 25) (.tmp 30) 3, _, _, _, some (8, false)⟩ rfl rfl (by kernel_rfl) (by kernel_rfl) (by kernel_rfl) (fun _ _ _ h => h) qc ?_
          simp only [Act.put, List.setIfInBounds_toArray, List.set_cons_zero, List.set_cons_succ]
          refine anyH_takeW 20 ⟨some 32, .pick (.tmp 20) (.const (.bool true)) (.tmp 31), _, _, _, some (5, true)⟩ (.bool true) rfl rfl (by kernel_rfl) (by kernel_rfl) (by kernel_rfl) (fun _ _ _ h => h) (fun w hw => rfl) qc ?_
          simp only [Act.put, List.setIfInBounds_toArray, List.set_cons_zero, List.set_cons_succ]
          refine anyH_takeW 21 ⟨some 33, .pick (.tmp 17) (.tmp 32) (.const (.bool false)), _, _, _, none⟩ (.bool true) rfl rfl (by kernel_rfl) (by kernel_rfl) (by kernel_rfl) (fun _ _ _ h => h) (fun w hw => rfl) qc ?_
          simp only [Act.put, List.setIfInBounds_toArray, List.set_cons_zero, List.set_cons_succ]
          refine wpAnyH_done (by kernel_rfl) ?_ _
          have HBC := hid HBc
          clear HBc hb qc q0 hHeld
          go_wp2_with fail
          go_roundw
          case rel => exact ⟨k + 1, by omega, by go_num, HRc.out, HBC.out, .inr ⟨k, by omega, rfl, hkl, by rw [HNX.out, HSB.out, HDK.out]⟩⟩
          case measure => simp [intOf]; omega
        · have hjlen : j < len := by omega
          have hj' : (j : Int) < len := by omega
          have hj0 : ¬ (j : Int) < 0 := by omega
          have dj0 : decide ((j : Int) < 0) = false := decide_eq_false hj0
          obtain ⟨k0, k1, k2, k3, k4, k5, k6⟩ := HCS.out j hjl
          have q1 : wr.cell? ⟨b, o + j * 7, none⟩ = some (.int .i64 l[j].y) ∧ wr.cell? ⟨b, o + j * 7 + 1, none⟩ = some (.int .i64 l[j].mo) ∧ wr.cell? ⟨b, o + j * 7 + 2, none⟩ = some (.int .i64 l[j].d) ∧ wr.cell? ⟨b, o + j * 7 + 3, none⟩ = some (.int .i64 l[j].h) ∧ wr.cell? ⟨b, o + j * 7 + 4, none⟩ = some (.int .i64 l[j].mi) ∧ wr.cell? ⟨b, o + j * 7 + 5, none⟩ = some (.int .i64 l[j].s) ∧ wr.cell? ⟨b, o + j * 7 + 6, none⟩ = some (.int .i64 l[j].z) := ⟨up k0, up k1, up k2, up k3, up k4, up k5, up k6⟩
          have HRJ := hid (best_right hbj)
          generalize hrj : l[j] = r at q1 hbj HRJ
          have HRE := hid hrj
          have C1 := runix_agg d
          have C2 := runix_agg r
          rw [unixV_of HD.out] at C1
          rw [unixV_of HRJ.out] at C2
          have HSB := hid hbj
          have hcmp : stepB (some r) d = if unixN r < unixN d then some d else some r := by simp [stepB, HD.out]
          have HCM := hid hcmp
          generalize unixN d = ud at C1 HCM
          generalize unixN r = ur at C2 HCM
          have HD18 := hid C1
          have HR18 := hid C2
          have qq : (wr.drew.cell? ⟨b, o + k * 7, none⟩ = some (.int .i64 d.y) ∧ wr.drew.cell? ⟨b, o + k * 7 + 1, none⟩ = some (.int .i64 d.mo) ∧ wr.drew.cell? ⟨b, o + k * 7 + 2, none⟩ = some (.int .i64 d.d) ∧ wr.drew.cell? ⟨b, o + k * 7 + 3, none⟩ = some (.int .i64 d.h) ∧ wr.drew.cell? ⟨b, o + k * 7 + 4, none⟩ = some (.int .i64 d.mi) ∧ wr.drew.cell? ⟨b, o + k * 7 + 5, none⟩ = some (.int .i64 d.s) ∧ wr.drew.cell? ⟨b, o + k * 7 + 6, none⟩ = some (.int .i64 d.z)) ∧ (wr.drew.cell? ⟨b, o + j * 7, none⟩ = some (.int .i64 r.y) ∧ wr.drew.cell? ⟨b, o + j * 7 + 1, none⟩ = some (.int .i64 r.mo) ∧ wr.drew.cell? ⟨b, o + j * 7 + 2, none⟩ = some (.int .i64 r.d) ∧ wr.drew.cell? ⟨b, o + j * 7 + 3, none⟩ = some (.int .i64 r.h) ∧ wr.drew.cell? ⟨b, o + j * 7 + 4, none⟩ = some (.int .i64 r.mi) ∧ wr.drew.cell? ⟨b, o + j * 7 + 5, none⟩ = some (.int .i64 r.s) ∧ wr.drew.cell? ⟨b, o + j * 7 + 6, none⟩ = some (.int .i64 r.z)) := ⟨q0, q1⟩
          have qs := upd2 (Below.refl _ wr.drew) qq
          have HBc : Below w.heap.size w wr.drew := HB.out.drew
          have hRc : wr.drew.heap[w.heap.size]? = some (.cells (dtL Dt.zero).toArray 29 (0, 0)) := HR.out
          have qc := qs
          have T18 := trivial
          have i1 := wr64 (j : Int) (by omega)
          have i2 := wr64 (k : Int) (by omega)
          clear k0 k1 k2 k3 k4 k5 k6 C1 C2 hbj hcmp hrj up
          by_cases hgt : ur < ud
          · have dgt : decide (ur < ud) = true := decide_eq_true hgt
            go_wp2_with fail
            go_region_held3 (fun w' => w'.cell? ⟨b, o + k * 7, none⟩ = some (.int .i64 d.y) ∧ w'.cell? ⟨b, o + k * 7 + 1, none⟩ = some (.int .i64 d.mo) ∧ w'.cell? ⟨b, o + k * 7 + 2, none⟩ = some (.int .i64 d.d) ∧ w'.cell? ⟨b, o + k * 7 + 3, none⟩ = some (.int .i64 d.h) ∧ w'.cell? ⟨b, o + k * 7 + 4, none⟩ = some (.int .i64 d.mi) ∧ w'.cell? ⟨b, o + k * 7 + 5, none⟩ = some (.int .i64 d.s) ∧ w'.cell? ⟨b, o + k * 7 + 6, none⟩ = some (.int .i64 d.z) ∧ w'.cell? ⟨b, o + j * 7, none⟩ = some (.int .i64 r.y) ∧ w'.cell? ⟨b, o + j * 7 + 1, none⟩ = some (.int .i64 r.mo) ∧ w'.cell? ⟨b, o + j * 7 + 2, none⟩ = some (.int .i64 r.d) ∧ w'.cell? ⟨b, o + j * 7 + 3, none⟩ = some (.int .i64 r.h) ∧ w'.cell? ⟨b, o + j * 7 + 4, none⟩ = some (.int .i64 r.mi) ∧ w'.cell? ⟨b, o + j * 7 + 5, none⟩ = some (.int .i64 r.s) ∧ w'.cell? ⟨b, o + j * 7 + 6, none⟩ = some (.int .i64 r.z)) (first | exact qc | exact qs | go_keep) (first | (go_at_call 16; refine (HD16.out _).mono ?_; rintro e wk ⟨rfl, hb⟩; have hRc := (hb.block w.heap.size (lt_of_some hRc)).trans hRc; have HBc := HBc.trans (hb.mono HBc.size); have qq := (⟨upd hb qq.1, upd hb qq.2⟩ : _ ∧ _); have qc := upd2 (Below.refl _ _) qq; clear hb) | (go_at_call 18; (first | (clear T18; refine (HD18.out _).mono ?_) | refine (HR18.out _).mono ?_); rintro e wk ⟨rfl, hb⟩; have hRc := (hb.block w.heap.size (lt_of_some hRc)).trans hRc; have HBc := HBc.trans (hb.mono HBc.size); have qq := (⟨upd hb qq.1, upd hb qq.2⟩ : _ ∧ _); have qc := upd2 (Below.refl _ _) qq; clear hb))
            have HBC := hid HBc
            have HRc := hid hRc
            clear HBc hRc qq qc qs q0 q1
            go_wp2_with fail
            go_roundw
            case rel => exact ⟨k + 1, by omega, by go_num, HRc.out, HBC.out, .inr ⟨k, by omega, rfl, hkl, by rw [HNX.out, HSB.out, HCM.out, if_pos hgt, HDK.out]⟩⟩
            case measure => simp [intOf]; omega
          · have dgt : decide (ur < ud) = false := decide_eq_false hgt
            go_wp2_with fail
            go_region_held3 (fun w' => w'.cell? ⟨b, o + k * 7, none⟩ = some (.int .i64 d.y) ∧ w'.cell? ⟨b, o + k * 7 + 1, none⟩ = some (.int .i64 d.mo) ∧ w'.cell? ⟨b, o + k * 7 + 2, none⟩ = some (.int .i64 d.d) ∧ w'.cell? ⟨b, o + k * 7 + 3, none⟩ = some (.int .i64 d.h) ∧ w'.cell? ⟨b, o + k * 7 + 4, none⟩ = some (.int .i64 d.mi) ∧ w'.cell? ⟨b, o + k * 7 + 5, none⟩ = some (.int .i64 d.s) ∧ w'.cell? ⟨b, o + k * 7 + 6, none⟩ = some (.int .i64 d.z) ∧ w'.cell? ⟨b, o + j * 7, none⟩ = some (.int .i64 r.y) ∧ w'.cell? ⟨b, o + j * 7 + 1, none⟩ = some (.int .i64 r.mo) ∧ w'.cell? ⟨b, o + j * 7 + 2, none⟩ = some (.int .i64 r.d) ∧ w'.cell? ⟨b, o + j * 7 + 3, none⟩ = some (.int .i64 r.h) ∧ w'.cell? ⟨b, o + j * 7 + 4, none⟩ = some (.int .i64 r.mi) ∧ w'.cell? ⟨b, o + j * 7 + 5, none⟩ = some (.int .i64 r.s) ∧ w'.cell? ⟨b, o + j * 7 + 6, none⟩ = some (.int .i64 r.z)) (first | exact qc | exact qs | go_keep) (first | (go_at_call 16; refine (HD16.out _).mono ?_; rintro e wk ⟨rfl, hb⟩; have hRc := (hb.block w.heap.size (lt_of_some hRc)).trans hRc; have HBc := HBc.trans (hb.mono HBc.size); have qq := (⟨upd hb qq.1, upd hb qq.2⟩ : _ ∧ _); have qc := upd2 (Below.refl _ _) qq; clear hb) | (go_at_call 18; (first | (clear T18; refine (HD18.out _).mono ?_) | refine (HR18.out _).mono ?_); rintro e wk ⟨rfl, hb⟩; have hRc := (hb.block w.heap.size (lt_of_some hRc)).trans hRc; have HBc := HBc.trans (hb.mono HBc.size); have qq := (⟨upd hb qq.1, upd hb qq.2⟩ : _ ∧ _); have qc := upd2 (Below.refl _ _) qq; clear hb))
            have HBC := hid HBc
            have HRc := hid hRc
            clear HBc hRc qq qc qs q0 q1
            go_wp2_with fail
            go_roundw
            case rel => exact ⟨k + 1, by omega, by go_num, HRc.out, HBC.out, .inr ⟨j, by omega, rfl, hjl, by rw [HNX.out, HSB.out, HCM.out, if_neg (by omega), HRE.out]⟩⟩
            case measure => simp [intOf]; omega
      · rw [decide_eq_false hd] at CD
        have HD16 := hid CD
        have HSB : Hid (∀ b, stepB b d = b) := fun b => by cases b <;> simp [stepB, hd]
        clear CD hd up
        go_wp2_with fail
        refine wp_region_held_drew (S := fun w' => w'.cell? ⟨b, o + k * 7, none⟩ = some (.int .i64 d.y) ∧ w'.cell? ⟨b, o + k * 7 + 1, none⟩ = some (.int .i64 d.mo) ∧ w'.cell? ⟨b, o + k * 7 + 2, none⟩ = some (.int .i64 d.d) ∧ w'.cell? ⟨b, o + k * 7 + 3, none⟩ = some (.int .i64 d.h) ∧ w'.cell? ⟨b, o + k * 7 + 4, none⟩ = some (.int .i64 d.mi) ∧ w'.cell? ⟨b, o + k * 7 + 5, none⟩ = some (.int .i64 d.s) ∧ w'.cell? ⟨b, o + k * 7 + 6, none⟩ = some (.int .i64 d.z)) (by kernel_rfl) q0 ?_
        intro hHeld
        refine anyH_takeW 0 ⟨some 12, .move (.tmp 0), _, _, _, none⟩ (.slice (some ⟨b, o, none⟩) len cap) rfl rfl (by kernel_rfl) (by kernel_rfl) (by kernel_rfl) (fun _ _ _ h => h) (fun w hw => rfl) hHeld ?_
        simp only [Act.put, List.setIfInBounds_toArray, List.set_cons_zero, List.set_cons_succ]
        refine anyH_takeW 1 ⟨some 13, .move (.tmp 5), _, _, _, none⟩ (.int .i64 (k : Int)) rfl rfl (by kernel_rfl) (by kernel_rfl) (by kernel_rfl) (fun _ _ _ h => h) (fun w hw => rfl) hHeld ?_
        simp only [Act.put, List.setIfInBounds_toArray, List.set_cons_zero, List.set_cons_succ]
        refine anyH_takeW 2 ⟨some 14, .indexAddr 47 (.tmp 12) (.tmp 13), _, _, _, none⟩ (.pointer (some ⟨b, o + k * 7, none⟩)) rfl rfl (by kernel_rfl) (by kernel_rfl) (by kernel_rfl) (fun _ _ _ h => h) (fun w hw => exec_idx47 rfl rfl hlt) hHeld ?_
        simp only [Act.put, List.setIfInBounds_toArray, List.set_cons_zero, List.set_cons_succ]
        refine anyH_takeW 3 ⟨some 15, .load 29 (.tmp 14), _, _, _, none⟩ (.agg #[.int .i64 d.y, .int .i64 d.mo, .int .i64 d.d, .int .i64 d.h, .int .i64 d.mi, .int .i64 d.s, .int .i64 d.z]) rfl rfl (by kernel_rfl) (by kernel_rfl) (by kernel_rfl) (fun _ _ _ h => h) (fun w hw => exec_v (load29o hw.1 hw.2.1 hw.2.2.1 hw.2.2.2.1 hw.2.2.2.2.1 hw.2.2.2.2.2.1 hw.2.2.2.2.2.2)) hHeld ?_
        simp only [Act.put, List.setIfInBounds_toArray, List.set_cons_zero, List.set_cons_succ]
        refine anyH_callW 4 ⟨some 16, .call { callee := .value (.func 16), args := #[.tmp 15], argTypes := #[29] }, _, _, _, none⟩ 16 #[(.agg #[.int .i64 d.y, .int .i64 d.mo, .int .i64 d.d, .int .i64 d.h, .int .i64 d.mi, .int .i64 d.s, .int .i64 d.z])] (by kernel_rfl) rfl rfl (by kernel_rfl) ?_
        refine (HD16.out _).mono ?_
        rintro e wk ⟨rfl, hb⟩
        have HBc := HB.out.drew.trans (hb.mono HB.out.size)
        have HRc := hid ((hb.block w.heap.size (lt_of_some HR.out)).trans HR.out)
        have qc := upd hb hHeld
        refine ⟨_, rfl, qc, ?_⟩
        simp only [Act.put, List.setIfInBounds_toArray, List.set_cons_zero, List.set_cons_succ]
        refine anyH_takeW 5 ⟨some 17, .move (.tmp 16), _, _, _, none⟩ (.bool false) rfl rfl (by kernel_rfl) (by kernel_rfl) (by kernel_rfl) (fun _ _ _ h => h) (fun w hw => rfl) qc ?_
        simp only [Act.put, List.setIfInBounds_toArray, List.set_cons_zero, List.set_cons_succ]
        refine anyH_takeU 6 ⟨some 18, .move (.tmp 4), _, _, _, some (5, true)⟩ rfl rfl (by kernel_rfl) (by kernel_rfl) (by kernel_rfl) (fun _ _ _ h => h) qc ?_
        simp only [Act.put, List.setIfInBounds_toArray, List.set_cons_zero, List.set_cons_succ]
        refine anyH_takeU 7 ⟨some 19, .binOp .lss 3 (.tmp 18) (.const (.int .i64 0)) 3, _, _, _, some (5, true)⟩ rfl rfl (by kernel_rfl) (by kernel_rfl) (by kernel_rfl) (fun _ _ _ h => h) qc ?_
        simp only [Act.put, List.setIfInBounds_toArray, List.set_cons_zero, List.set_cons_succ]
        refine anyH_takeU 8 ⟨some 20, .move (.tmp 19), _, _, _, some (5, true)⟩ rfl rfl (by kernel_rfl) (by kernel_rfl) (by kernel_rfl) (fun _ _ _ h => h) qc ?_
        simp only [Act.put, List.setIfInBounds_toArray, List.set_cons_zero, List.set_cons_succ]
        refine anyH_takeU 9 ⟨some 21, .move (.tmp 0), _, _, _, some (8, false)⟩ rfl rfl (by kernel_rfl) (by kernel_rfl) (by kernel_rfl) (fun _ _ _ h => h) qc ?_
        simp only [Act.put, List.setIfInBounds_toArray, List.set_cons_zero, List.set_cons_succ]
        refine anyH_takeU 10 ⟨some 22, .move (.tmp 5), _, _, _, some (8, false)⟩ rfl rfl (by kernel_rfl) (by kernel_rfl) (by kernel_rfl) (fun _ _ _ h => h) qc ?_
        simp only [Act.put, List.setIfInBounds_toArray, List.set_cons_zero, List.set_cons_succ]
        refine anyH_takeU 11 ⟨some 23, .indexAddr 47 (.tmp 21) (.tmp 22), _, _, _, some (8, false)⟩ rfl rfl (by kernel_rfl) (by kernel_rfl) (by kernel_rfl) (fun _ _ _ h => h) qc ?_
        simp only [Act.put, List.setIfInBounds_toArray, List.set_cons_zero, List.set_cons_succ]
        refine anyH_takeU 12 ⟨some 24, .load 29 (.tmp 23), _, _, _, some (8, false)⟩ rfl rfl (by kernel_rfl) (by kernel_rfl) (by kernel_rfl) (fun _ _ _ h => h) qc ?_
        simp only [Act.put, List.setIfInBounds_toArray, List.set_cons_zero, List.set_cons_succ]
        refine anyH_takeU 13 ⟨some 25, .call { callee := .value (.func 18), args := #[.tmp 24], argTypes := #[29] }, _, _, _, some (8, false)⟩ rfl rfl (by kernel_rfl) (by kernel_rfl) (by kernel_rfl) (fun _ _ _ h => h) qc ?_
        simp only [Act.put, List.setIfInBounds_toArray, List.set_cons_zero, List.set_cons_succ]
        refine anyH_takeU 14 ⟨some 26, .move (.tmp 0), _, _, _, some (8, false)⟩ rfl rfl (by kernel_rfl) (by kernel_rfl) (by kernel_rfl) (fun _ _ _ h => h) qc ?_
        simp only [Act.put, List.setIfInBounds_toArray, List.set_cons_zero, List.set_cons_succ]
        refine anyH_takeU 15 ⟨some 27, .move (.tmp 4), _, _, _, some (8, false)⟩ rfl rfl (by kernel_rfl) (by kernel_rfl) (by kernel_rfl) (fun _ _ _ h => h) qc ?_
        simp only [Act.put, List.setIfInBounds_toArray, List.set_cons_zero, List.set_cons_succ]
        refine anyH_takeU 16 ⟨some 28, .indexAddr 47 (.tmp 26) (.tmp 27), _, _, _, some (8, false)⟩ rfl rfl (by kernel_rfl) (by kernel_rfl) (by kernel_rfl) (fun _ _ _ h => h) qc ?_
        simp only [Act.put, List.setIfInBounds_toArray, List.set_cons_zero, List.set_cons_succ]
        refine anyH_takeU 17 ⟨some 29, .load 29 (.tmp 28), _, _, _, some (8, false)⟩ rfl rfl (by kernel_rfl) (by kernel_rfl) (by kernel_rfl) (fun _ _ _ h => h) qc ?_
        simp only [Act.put, List.setIfInBounds_toArray, List.set_cons_zero, List.set_cons_succ]
        refine anyH_takeU 18 ⟨some 30, .call { callee := .value (.func 18), args := #[.tmp 29], argTypes := #[29] }, _, _, _, some (8, false)⟩ rfl rfl (by kernel_rfl) (by kernel_rfl) (by kernel_rfl) (fun _ _ _ h => h) qc ?_
        simp only [Act.put, List.setIfInBounds_toArray, List.set_cons_zero, List.set_cons_succ]
        refine anyH_takeU 19 ⟨some 31, .binOp .gtr 3 (.tmp 25) (.tmp 30) 3, _, _, _, some (8, false)⟩ rfl rfl (by kernel_rfl) (by kernel_rfl) (by kernel_rfl) (fun _ _ _ h => h) qc ?_
        simp only [Act.put, List.setIfInBounds_toArray, List.set_cons_zero, List.set_cons_succ]
        refine anyH_takeU 20 ⟨some 32, .pick (.tmp 20) (.const (.bool true)) (.tmp 31), _, _, _, some (5, true)⟩ rfl rfl (by kernel_rfl) (by kernel_rfl) (by kernel_rfl) (fun _ _ _ h => h) qc ?_
        simp only [Act.put, List.setIfInBounds_toArray, List.set_cons_zero, List.set_cons_succ]
        refine anyH_takeW 21 ⟨some 33, .pick (.tmp 17) (.tmp 32) (.const (.bool false)), _, _, _, none⟩ (.bool false) rfl rfl (by kernel_rfl) (by kernel_rfl) (by kernel_rfl) (fun _ _ _ h => h) (fun w hw => rfl) qc ?_
        simp only [Act.put, List.setIfInBounds_toArray, List.set_cons_zero, List.set_cons_succ]
        refine wpAnyH_done (by kernel_rfl) ?_ _
        have HBC := hid HBc
        clear HBc hb qc q0 hHeld
        go_wp2_with fail
        go_roundw
        case rel => exact ⟨k + 1, by omega, by go_num, HRc.out, HBC.out, by
          rcases HV.out with ⟨h1, h2⟩ | ⟨j, h1, h2, h3, h4⟩
          · exact .inl ⟨h1, by rw [HNX.out, HSB.out, h2]⟩
          · exact .inr ⟨j, by omega, h2, h3, by rw [HNX.out, HSB.out, h4]⟩⟩
        case measure => simp [intOf]; omega
    · obtain rfl : k = len := by omega
      have hlt' : ¬ (k : Int) < k := by omega
      have HTK : Hid (l.take k = l) := List.take_of_length_le (by rw [HLN.out]; omega)
      rw [HTK.out] at HV
      obtain ⟨a0, a1, a2, a3, a4, a5, a6⟩ := cA_load HR.out
      have fA : ∀ j, wr.frozen? ⟨w.heap.size, j, none⟩ = false := fun j => by simp [World.frozen?, HR.out]
      rcases HV.out with ⟨rfl, hn⟩ | ⟨j, hj, rfl, hjl, hbj⟩
      · have HN := hid hn
        clear hn
        go_wp2_with fail
        obtain ⟨x1, x2, x3⟩ := putD_is wr w.heap.size Dt.zero Dt.zero HR.out
        refine bodyPost_ret (w := putD wr w.heap.size Dt.zero) (results31_run _ rfl rfl x1) rfl ?_
        rw [HN.out]
        exact ⟨rfl, below_kept HB.out x3 (by simp) HB.out.size⟩
      · have hj' : (j : Int) < k := by omega
        have hj0 : ¬ (j : Int) < 0 := by omega
        have HN := hid hbj
        obtain ⟨b, o, rfl⟩ := H.out.at' (by omega)
        rcases H.out.at_ with h0 | ⟨b', o', e, hcs⟩
        · omega
        simp only [Option.some.injEq, Addr.mk.injEq, and_true] at e
        obtain ⟨rfl, rfl⟩ := e
        have up : ∀ {p : Addr} {v : Value}, w.cell? p = some v → wr.cell? p = some v := fun {p v} hv => (HB.out.cell (World.block_lt_of_cell? w p hv)).trans hv
        obtain ⟨k0, k1, k2, k3, k4, k5, k6⟩ := hcs j hjl
        replace k0 := up k0
        replace k1 := up k1
        replace k2 := up k2
        replace k3 := up k3
        replace k4 := up k4
        replace k5 := up k5
        replace k6 := up k6
        generalize l[j] = r at k0 k1 k2 k3 k4 k5 k6 HN
        clear hcs up hbj
        go_wp2_with fail
        obtain ⟨x1, x2, x3⟩ := putD_is wr w.heap.size Dt.zero r HR.out
        refine bodyPost_ret (w := putD wr w.heap.size r) (results31_run _ rfl rfl x1) rfl ?_
        rw [HN.out]
        exact ⟨rfl, below_kept HB.out x3 (by simp) HB.out.size⟩
end Go.Proofs.YtnjdgbbdjkhpoaaDoor
