/- What this text holds: 'alive': the chapter's example. -/
import Derived.Test.YtjbkmgeomnmddaaPure
namespace Go.Proofs.Ytjbkmgeomnmddaa
open Go.RowKit
set_option linter.unusedVariables false
set_option maxRecDepth 100000 in
set_option maxHeartbeats 400000 in
theorem no_any (n : Int) (w : World) :
    Calls Try.prog 16 #[.int .i64 n] w fun e w' => e = .returned (.int .i64 n) ∧ w' = w := by
  go_enter Try.func16, Try.ntmps16
  go_wp2
  go_ret
  exact ⟨rfl, rfl⟩

set_option maxRecDepth 100000 in
set_option maxHeartbeats 4000000 in
theorem alive_any (w : World) : Calls Try.prog 9 #[] w fun e w' => e = .returned (.bool true) ∧ Below w.heap.size w w' := by
  go_enter Try.func9, Try.ntmps9
  go_wp2_with fail
  refine (seal_yes 1 2 _ _ (by omega) (by omega) (by omega) (by omega) (by decide)).mono ?_
  rintro e w1 ⟨v, rfl, hv, hb1⟩
  obtain ⟨g1, c1, rfl, hg1, hg1', hba, hc1, hc1'⟩ := hv.all (sealL_length _ _ _ (by decide))
  have HA := hid hba
  have HB := hid hb1
  have HC := hid hc1
  have HC' := hid hc1'
  clear hv hb1 hba
  go_wp2_with fail
  refine (open_any HA.out (sealL_length _ _ _ (by decide)) (byt_seal _ _ _ (bOf_range _)) hc1 hc1').mono ?_
  rw [openV_seal 1 2 _ (by omega) (by omega) (by omega) (by omega) (by decide)]
  rintro e w2 ⟨rfl, hb2⟩
  replace HA := hid (HA.out.below hb2)
  replace HB := hid (HB.out.trans (hb2.mono HB.out.size))
  clear hb2
  go_wp2_with fail
  refine (root_yes 3 _ _ (by omega) (by omega) (by decide)).mono ?_
  rintro e w3 ⟨v, rfl, hv, hb3⟩
  obtain ⟨g3, c3, rfl, hg3, hg3', hba, hc3, hc3'⟩ := hv.all (rootL_length _ _ (by decide))
  replace HA := hid (HA.out.below hb3)
  replace HB := hid (HB.out.trans (hb3.mono HB.out.size))
  have HR := hid hba
  clear hv hb3 hba
  go_wp2_with fail
  refine (ropen_any HR.out (rootL_length _ _ (by decide)) (byt_root _ _ (bOf_range _)) hc3 hc3').mono ?_
  rw [ropenV_root 3 _ (by omega) (by omega) (by decide)]
  rintro e w4 ⟨rfl, hb4⟩
  replace HA := hid (HA.out.below hb4)
  replace HB := hid (HB.out.trans (hb4.mono HB.out.size))
  clear hb4 HR
  go_wp2_with fail
  have hbs : BAt (w4.alloc (.cells #[.int .u8 1, .int .u8 2, .int .u8 3] 5)) (some ⟨w4.heap.size, 0, none⟩) [1, 2, 3] := by
    intro j x hx
    refine ⟨_, rfl, ?_⟩
    rw [Addr.add_mid, Nat.zero_add]
    have hh := heap_alloc_new w4 (.cells #[.int .u8 1, .int .u8 2, .int .u8 3] 5)
    simp only [World.cell?, hh]
    have e : [Value.int .u8 1, .int .u8 2, .int .u8 3] = [1, 2, 3].map (Value.int .u8) := rfl
    have : ([Value.int .u8 1, .int .u8 2, .int .u8 3] : List Value)[j]? = some (.int .u8 x) := by rw [e, List.getElem?_map, hx]; rfl
    simpa using this
  refine (sum_n (n := 3) hbs rfl (by omega)).mono ?_
  rw [show sumL [1, 2, 3] = 14 by decide]
  rintro e w5 ⟨rfl, rfl⟩
  have hb5 := (Below.refl w4.heap.size w4).alloc (Nat.le_refl _) (.cells #[.int .u8 1, .int .u8 2, .int .u8 3] 5)
  replace HA := hid (HA.out.below hb5)
  replace HB := hid (HB.out.trans (hb5.mono HB.out.size))
  clear hb5 hbs
  generalize w4.alloc (.cells #[.int .u8 1, .int .u8 2, .int .u8 3] 5) = W5 at HA HB ⊢
  have hcv := conv_bytes (c := c1) (HA.out.sub 0 12) (m := 12) (by rw [List.drop_zero, List.length_take, sealL_length _ _ _ (by decide)]; rfl)
  rw [List.drop_zero, show strOf (List.take 12 (sealL 1 2 (bOf ⟨#[97, 98]⟩))) = ⟨#[72, 118, 1, 0, 0, 2, 0, 0, 0, 0, 0, 2]⟩ by kernel_rfl, show (⟨g1, 0, none⟩ : Addr).add 0 = ⟨g1, 0, none⟩ from rfl] at hcv
  clear hg1 hg1' hg3 hg3' hc3 hc3' HC HC'
  unfold maxLen at hc1'
  go_wp2_with (first | (go_at_call 16; refine (no_any _ _).mono ?_; rintro e w ⟨rfl, rfl⟩))
  go_ret
  exact ⟨rfl, HB.out⟩
end Go.Proofs.Ytjbkmgeomnmddaa
