/- What this text holds: two nodes that say the same are the same to the document. -/
import Derived.Test.YtkipigbfbhecjaaN5
import Derived.Laws.StructEq
namespace Go.Proofs.Ytkipigbfbhecjaa
open Go.RowKit
set_option linter.unusedVariables false
set_option linter.unusedSimpArgs false

theorem neq51 (x : It) (w : World) : (binOp .neq 51 (.agg #[.string x.val, .int .i64 x.page, .int .i64 x.size]) (.agg #[.string x.val, .int .i64 x.page, .int .i64 x.size])).run Try.prog w = .ok (.bool false) w := by
  have u3 := Try.underlying3
  have u9 := Try.underlying9
  have hS : Try.prog.underlying 51 = some (.struct (Try.prog.fieldsOf 51)) := by kernel_rfl
  have hp : Try.prog.stoodInHeld 51 = false := by kernel_rfl
  rw [run_neq_struct, show (10000 : Nat) = 9999 + 1 from rfl, run_equalIn_agg w 9999 51 _ _ hS hp]
  simp only [Program.fieldsOf, Try.underlying51]
  go_simp

set_option maxRecDepth 100000 in
set_option maxHeartbeats 4000000 in
theorem same_yes {w : World} {v u : Value} {n : Nd} (h : NAt w v n) (k : NAt w u n) (sm : n.small) : Calls Try.prog 21 #[v, u] w fun e w' => e = .returned (.bool true) ∧ Below w.heap.size w w' := by
  obtain ⟨ka, kp, ia, ep, da, dp, rfl, hk, hi, hd, ⟨k1, k2⟩, ⟨i1, i2⟩, ⟨d1, d2⟩⟩ := h.at_
  obtain ⟨kA, kP, iA, eP, dA, dP, rfl, hk', hi', hd', ⟨k1', k2'⟩, ⟨i1', i2'⟩, ⟨d1', d2'⟩⟩ := k.at_
  have HKs := hid h.ks
  unfold maxLen at k2 i2 d2 k2' i2' d2'
  have hk7 := sm.k
  have hi7 := sm.i
  have hd7 := sm.d
  have HB0 := hid (below_box w (.cells #[.bool n.leaf, .slice ka n.keys.length kp, .slice ia n.items.length ep, .slice da n.kids.length dp] 26))
  have HB1 := hid (below_box (w.alloc (.cells #[.bool n.leaf, .slice ka n.keys.length kp, .slice ia n.items.length ep, .slice da n.kids.length dp] 26)) (.cells #[.bool n.leaf, .slice kA n.keys.length kP, .slice iA n.items.length eP, .slice dA n.kids.length dP] 26))
  have HX := hid (@box4 w _ _ _ _ _ _ HB1.out)
  have HY := hid (@box4 (w.alloc (.cells #[.bool n.leaf, .slice ka n.keys.length kp, .slice ia n.items.length ep, .slice da n.kids.length dp] 26)) _ _ _ _ _ _ (Below.refl ((w.alloc (.cells #[.bool n.leaf, .slice ka n.keys.length kp, .slice ia n.items.length ep, .slice da n.kids.length dp] 26)).alloc (.cells #[.bool n.leaf, .slice kA n.keys.length kP, .slice iA n.items.length eP, .slice dA n.kids.length dP] 26)).heap.size _))
  have hsz : (w.alloc (.cells #[.bool n.leaf, .slice ka n.keys.length kp, .slice ia n.items.length ep, .slice da n.kids.length dp] 26)).heap.size = w.heap.size + 1 := by simp
  rw [hsz] at HY
  have HBB := hid (HB0.out.trans (HB1.out.mono HB0.out.size))
  have HK := hid (hk.later HBB.out)
  have HK' := hid (hk'.later HBB.out)
  have HI := hid (hi.later HBB.out)
  have HI' := hid (hi'.later HBB.out)
  have HD := hid (hd.later HBB.out)
  have HD' := hid (hd'.later HBB.out)
  clear hk hi hd hk' hi' hd' h k hsz HB0 HB1
  unfold nv
  generalize hkn : n.keys.length = kn at *
  generalize hen : n.items.length = en at *
  generalize hdn : n.kids.length = dn at *
  have HKn := hid hkn
  have HEn := hid hen
  have HDn := hid hdn
  clear hkn hen hdn
  go_enter Try.func21, Try.ntmps21
  go_wp2_with fail
  generalize (w.alloc (.cells #[.bool n.leaf, .slice ka kn kp, .slice ia en ep, .slice da dn dp] 26)).alloc (.cells #[.bool n.leaf, .slice kA kn kP, .slice iA en eP, .slice dA dn dP] 26) = W at HBB HX HY HK HK' HI HI' HD HD' ⊢
  have hB : w.heap.size ≤ W.heap.size := HBB.out.size
  generalize hBe : w.heap.size = B at HX HY HBB hB ⊢
  obtain ⟨x0, x1, x2, x3⟩ := HX.out
  obtain ⟨y0, y1, y2, y3⟩ := HY.out
  go_loopw [5] (fun i wr => ∃ k : Nat, k ≤ kn ∧ i = .int .i64 k ∧ Below W.heap.size W wr) (fun i _ => kn - (intOf i).toNat)
  case atStart => exact ⟨0, by omega, rfl, Below.refl _ _⟩
  case round =>
    skip
    obtain ⟨k, hk, rfl, hb⟩ := hrel
    have HBr := hid hb
    clear hb
    have z0 := cell_later HBr.out x0
    have z1 := cell_later HBr.out x1
    have z2 := cell_later HBr.out x2
    have z3 := cell_later HBr.out x3
    have t0 := cell_later HBr.out y0
    have t1 := cell_later HBr.out y1
    have t2 := cell_later HBr.out y2
    have t3 := cell_later HBr.out y3
    by_cases hlt : k < kn
    · have hlt' : (k : Int) < kn := by omega
      have hlk : k < n.keys.length := by rw [HKn.out]; exact hlt
      obtain ⟨b, o, rfl, hc⟩ := (HK.out.later HBr.out).key k hlk
      obtain ⟨b', o', rfl, hc'⟩ := (HK'.out.later HBr.out).key k hlk
      generalize n.keys[k]'hlk = s at hc hc'
      go_wp2_with fail
      go_quiet (fail)
      go_wp2_with fail
      go_roundw
      case rel => exact ⟨k + 1, by omega, by go_num, HBr.out.trans (below_drewN _ _ _)⟩
      case measure => simp [intOf]; omega
    · have hlt' : ¬ (k : Int) < kn := by omega
      go_wp2_with fail
      go_loopw [6] (fun i wr => ∃ k : Nat, k ≤ en ∧ i = .int .i64 k ∧ Below W.heap.size W wr) (fun i _ => en - (intOf i).toNat)
      case atStart => exact ⟨0, by omega, rfl, HBr.out⟩
      case round =>
        clear z0 z1 z2 z3 t0 t1 t2 t3 HBr
        obtain ⟨k, hk, rfl, hb⟩ := hrel
        have HBr := hid hb
        clear hb
        have z0 := cell_later HBr.out x0
        have z1 := cell_later HBr.out x1
        have z2 := cell_later HBr.out x2
        have z3 := cell_later HBr.out x3
        have t0 := cell_later HBr.out y0
        have t1 := cell_later HBr.out y1
        have t2 := cell_later HBr.out y2
        have t3 := cell_later HBr.out y3
        by_cases hlt : k < en
        · have hlt' : (k : Int) < en := by omega
          have hlk : k < n.items.length := by rw [HEn.out]; exact hlt
          obtain ⟨b, o, rfl, hc, hd, he⟩ := (HI.out.later HBr.out).item k hlk
          obtain ⟨b', o', rfl, hc', hd', he'⟩ := (HI'.out.later HBr.out).item k hlk
          generalize n.items[k]'hlk = x at hc hd he hc' hd' he'
          have hneq := neq51 x
          go_wp2_with fail
          go_quiet (fail)
          go_wp2_with fail
          go_roundw
          case rel => exact ⟨k + 1, by omega, by go_num, HBr.out.trans (below_drewN _ _ _)⟩
          case measure => simp [intOf]; omega
        · have hlt' : ¬ (k : Int) < en := by omega
          go_wp2_with fail
          go_loopw [7] (fun i wr => ∃ k : Nat, k ≤ dn ∧ i = .int .i64 k ∧ Below W.heap.size W wr) (fun i _ => dn - (intOf i).toNat)
          case atStart => exact ⟨0, by omega, rfl, HBr.out⟩
          case round =>
            clear z0 z1 z2 z3 t0 t1 t2 t3 HBr
            obtain ⟨k, hk, rfl, hb⟩ := hrel
            have HBr := hid hb
            clear hb
            have z0 := cell_later HBr.out x0
            have z1 := cell_later HBr.out x1
            have z2 := cell_later HBr.out x2
            have z3 := cell_later HBr.out x3
            have t0 := cell_later HBr.out y0
            have t1 := cell_later HBr.out y1
            have t2 := cell_later HBr.out y2
            have t3 := cell_later HBr.out y3
            by_cases hlt : k < dn
            · have hlt' : (k : Int) < dn := by omega
              have hlk : k < n.kids.length := by rw [HDn.out]; exact hlt
              obtain ⟨b, o, rfl, hc⟩ := (HD.out.later HBr.out).kid k hlk
              obtain ⟨b', o', rfl, hc'⟩ := (HD'.out.later HBr.out).kid k hlk
              generalize n.kids[k]'hlk = s at hc hc'
              go_wp2_with fail
              go_quiet (fail)
              go_wp2_with fail
              go_roundw
              case rel => exact ⟨k + 1, by omega, by go_num, HBr.out.trans (below_drewN _ _ _)⟩
              case measure => simp [intOf]; omega
            · have hlt' : ¬ (k : Int) < dn := by omega
              go_wp2_with fail
              go_ret
              exact ⟨rfl, by first | exact below3 hBe HBB.out hB HBr.out | exact hBe ▸ below3 hBe HBB.out hB HBr.out⟩
end Go.Proofs.Ytkipigbfbhecjaa
