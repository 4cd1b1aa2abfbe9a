/- What this text holds: whether a node is gone through. -/
import Derived.Test.YtkipigbfbhecjaaN12
namespace Go.Proofs.Ytkipigbfbhecjaa
open Go.RowKit
set_option linter.unusedVariables false
set_option linter.unusedSimpArgs false

/-- What few answers. -/
def FewP (w : World) (n : Nd) (e : Ending) (w' : World) : Prop := ∃ b : Bool, e = .returned (.bool b) ∧ (b = true → n.keys.length ≤ 200 ∧ n.items.length ≤ 200 ∧ n.kids.length ≤ 200) ∧ Below w.heap.size w w'
set_option maxRecDepth 100000 in
set_option maxHeartbeats 2000000 in
theorem few_any {w : World} {v : Value} {n : Nd} (h : NAt w v n) : Calls Try.prog 10 #[v] w (FewP w n) := by
  obtain ⟨ka, kp, ia, ep, da, dp, rfl, hk, hI, hd, ⟨k1, k2⟩, ⟨i1, i2⟩, ⟨d1, d2⟩⟩ := h.at_
  have HKs := hid h.ks
  have HIs := hid h.is_
  unfold maxLen at k2 i2 d2
  have HB0 := hid (below_box w (.cells #[.bool n.leaf, .slice ka n.keys.length kp, .slice ia n.items.length ep, .slice da n.kids.length dp] 26))
  have HX := hid (@box4 w _ _ _ _ _ _ (Below.refl (w.alloc (.cells #[.bool n.leaf, .slice ka n.keys.length kp, .slice ia n.items.length ep, .slice da n.kids.length dp] 26)).heap.size _))
  have HK := hid (hk.later HB0.out)
  have HI := hid (hI.later HB0.out)
  clear hk hI hd h
  unfold nv
  generalize hkn : n.keys.length = kn at *
  generalize hen : n.items.length = en at *
  generalize hdn : n.kids.length = dn at *
  have HKn := hid hkn
  have HEn := hid hen
  have HDn := hid hdn
  clear hkn hen hdn
  go_enter Try.func10, Try.ntmps10
  go_wp2_with fail
  generalize w.alloc (.cells #[.bool n.leaf, .slice ka kn kp, .slice ia en ep, .slice da dn dp] 26) = W at HB0 HX HK HI ⊢
  have hB : w.heap.size ≤ W.heap.size := HB0.out.size
  have HBb := HB0
  generalize hBe : w.heap.size = B at HX HB0 hB HBb ⊢
  obtain ⟨x0, x1, x2, x3⟩ := HX.out
  go_loop [3, 4] (fun s i => ∃ k : Nat, k ≤ kn ∧ k ≤ 201 ∧ i = .int .i64 k ∧ ∃ z : Nat, z ≤ 1000 * k ∧ s = .int .i64 z) (fun _ i => kn - (intOf i).toNat)
  case atStart => exact ⟨0, by omega, by omega, rfl, 0, by omega, rfl⟩
  case round =>
    obtain ⟨k, hk, hk2, rfl, z, hz, rfl⟩ := hrel
    by_cases hlt : k < kn
    · have hlt' : (k : Int) < kn := by omega
      by_cases h2 : k ≤ 200
      · have h2' : (k : Int) ≤ 200 := by omega
        obtain ⟨b, o, rfl, hc⟩ := HK.out.key k (by rw [HKn.out]; exact hlt)
        have hsz := HKs.out _ (List.getElem_mem (n := k) (by rw [HKn.out]; exact hlt))
        unfold maxLen at hsz
        generalize n.keys[k]'(by rw [HKn.out]; exact hlt) = s at hc hsz
        by_cases h1000 : s.size ≤ 1000
        · have h1000' : ¬ (1000 : Int) < s.size := by omega
          go_wp2_with fail
          go_round
          case rel => exact ⟨k + 1, by omega, by omega, by go_num, z + s.size, by omega, by go_num⟩
          case measure => simp [intOf]; omega
        · have h1000' : (1000 : Int) < s.size := by omega
          go_wp2_with fail
          go_round
          case rel => exact ⟨k + 1, by omega, by omega, by go_num, z + 1000, by omega, by go_num⟩
          case measure => simp [intOf]; omega
      · have h2' : ¬ (k : Int) ≤ 200 := by omega
        go_wp2_with fail
        go_loop [3, 5] (fun s i => ∃ k : Nat, k ≤ en ∧ k ≤ 201 ∧ i = .int .i64 k ∧ ∃ z : Nat, z ≤ 1000 * k + 201000 ∧ s = .int .i64 z) (fun _ i => en - (intOf i).toNat)
        case atStart => exact ⟨0, by omega, by omega, rfl, z, by omega, rfl⟩
        case round =>
          clear hz hk hk2
          obtain ⟨k, hk, hk2, rfl, z, hz, rfl⟩ := hrel
          by_cases hlt : k < en
          · have hlt' : (k : Int) < en := by omega
            by_cases h2 : k ≤ 200
            · have h2' : (k : Int) ≤ 200 := by omega
              obtain ⟨b, o, rfl, hc, _, _⟩ := HI.out.item k (by rw [HEn.out]; exact hlt)
              have hsz := HIs.out _ (List.getElem_mem (n := k) (by rw [HEn.out]; exact hlt))
              unfold maxLen at hsz
              generalize (n.items[k]'(by rw [HEn.out]; exact hlt)).val = s at hc hsz
              by_cases h1000 : s.size ≤ 1000
              · have h1000' : ¬ (1000 : Int) < s.size := by omega
                go_wp2_with fail
                go_round
                case rel => exact ⟨k + 1, by omega, by omega, by go_num, z + s.size, by omega, by go_num⟩
                case measure => simp [intOf]; omega
              · have h1000' : (1000 : Int) < s.size := by omega
                go_wp2_with fail
                go_round
                case rel => exact ⟨k + 1, by omega, by omega, by go_num, z + 1000, by omega, by go_num⟩
                case measure => simp [intOf]; omega
            · have h2' : ¬ (k : Int) ≤ 200 := by omega
              go_wp2_with fail
              all_goals go_ret
              all_goals refine ⟨_, rfl, ?_, hBe ▸ HBb.out⟩
              all_goals intro hb
              all_goals simp at hb
              all_goals (rw [HKn.out, HEn.out, HDn.out]; omega)
          · have hlt' : ¬ (k : Int) < en := by omega
            go_wp2_with fail
            all_goals go_ret
            all_goals refine ⟨_, rfl, ?_, hBe ▸ HBb.out⟩
            all_goals intro hb
            all_goals simp at hb
            all_goals (rw [HKn.out, HEn.out, HDn.out]; omega)
    · have hlt' : ¬ (k : Int) < kn := by omega
      go_wp2_with fail
      go_loop [3, 5] (fun s i => ∃ k : Nat, k ≤ en ∧ k ≤ 201 ∧ i = .int .i64 k ∧ ∃ z : Nat, z ≤ 1000 * k + 201000 ∧ s = .int .i64 z) (fun _ i => en - (intOf i).toNat)
      case atStart => exact ⟨0, by omega, by omega, rfl, z, by omega, rfl⟩
      case round =>
        clear hz hk hk2
        obtain ⟨k, hk, hk2, rfl, z, hz, rfl⟩ := hrel
        by_cases hlt : k < en
        · have hlt' : (k : Int) < en := by omega
          by_cases h2 : k ≤ 200
          · have h2' : (k : Int) ≤ 200 := by omega
            obtain ⟨b, o, rfl, hc, _, _⟩ := HI.out.item k (by rw [HEn.out]; exact hlt)
            have hsz := HIs.out _ (List.getElem_mem (n := k) (by rw [HEn.out]; exact hlt))
            unfold maxLen at hsz
            generalize (n.items[k]'(by rw [HEn.out]; exact hlt)).val = s at hc hsz
            by_cases h1000 : s.size ≤ 1000
            · have h1000' : ¬ (1000 : Int) < s.size := by omega
              go_wp2_with fail
              go_round
              case rel => exact ⟨k + 1, by omega, by omega, by go_num, z + s.size, by omega, by go_num⟩
              case measure => simp [intOf]; omega
            · have h1000' : (1000 : Int) < s.size := by omega
              go_wp2_with fail
              go_round
              case rel => exact ⟨k + 1, by omega, by omega, by go_num, z + 1000, by omega, by go_num⟩
              case measure => simp [intOf]; omega
          · have h2' : ¬ (k : Int) ≤ 200 := by omega
            go_wp2_with fail
            all_goals go_ret
            all_goals refine ⟨_, rfl, ?_, hBe ▸ HBb.out⟩
            all_goals intro hb
            all_goals simp at hb
            all_goals (rw [HKn.out, HEn.out, HDn.out]; omega)
        · have hlt' : ¬ (k : Int) < en := by omega
          go_wp2_with fail
          all_goals go_ret
          all_goals refine ⟨_, rfl, ?_, hBe ▸ HBb.out⟩
          all_goals intro hb
          all_goals simp at hb
          all_goals (rw [HKn.out, HEn.out, HDn.out]; omega)
end Go.Proofs.Ytkipigbfbhecjaa
