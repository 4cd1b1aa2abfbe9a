/- What this text holds: the chapter's examples. -/
import Derived.Test.YtemgpghjolpneaaGreatDoorM14
namespace Go.Proofs.YtemgpghjolpneaaGreatDoor
open Go.RowKit
set_option linter.unusedVariables false
set_option linter.unusedSimpArgs false

theorem ra_lit (w : World) (L : List (List Bs)) (k : Nat) (T : TypeId) (h : Wd k L) : RL (w.alloc (.cells (rc L).toArray T)) (.slice (some ⟨w.heap.size, 0, none⟩) L.length L.length) k L := by
  refine ⟨h, _, L.length, rfl, Nat.le_refl _, .inr ⟨_, 0, rfl, fun j i r p h1 h2 => ?_, by simp⟩⟩
  have := flat_at h j i r p h1 h2
  simp only [World.cell?, heap_alloc_new, Nat.zero_add]
  simp [rc, this]
  rw [← List.map_flatten, List.getElem?_map, this]
  rfl
def exM : Bs := [65, 58, 32, 98, 13, 10, 13, 10, 99]
theorem al1 : hdr exM = 8 := by decide +kernel
theorem al2 : fieldsP [65, 58, 32, 98, 13, 10, 13, 10] = [([65], [32, 98])] := by decide +kernel
theorem al3 : getP [([65], [32, 98])] [[97]] = [[98]] := by decide +kernel
def exA : Bs := [65, 110, 110, 32, 60, 97, 64, 98, 62, 44, 32, 99, 64, 100, 32, 40, 120, 41]
theorem al4 : adsP exA = [([65, 110, 110], [97], [98]), ([], [99], [100])] := by decide +kernel

set_option maxRecDepth 100000 in
set_option maxHeartbeats 8000000 in
theorem alive_any {w : World} (he : Env w) : Calls Tryz.prog 4 #[] w fun e w' => e = .returned (.bool true) ∧ Below w.heap.size w w' := by
  have C1 := cut_any exM w (by decide)
  unfold CutIs at C1
  rw [al1] at C1
  have HC1 : Hid (Calls Tryz.prog 10 #[.string ⟨#[65, 58, 32, 98, 13, 10, 13, 10, 99]⟩] w fun e w' => e = .returned (.tuple #[.string (str [65, 58, 32, 98, 13, 10, 13, 10]), .string (str [99])]) ∧ Below w.heap.size w w') := C1
  clear C1
  have HE := hid he
  clear he
  have q1 : ((str [65, 58, 32, 98, 13, 10, 13, 10]).toList == [65, 58, 32, 98, 13, 10, 13, 10]) = true := by rw [eqL]; simp
  have q2 : ((str [99]).toList == [99]) = true := by rw [eqL]; simp
  go_enter Tryz.func4, Tryz.ntmps4
  go_wp2_with fail
  refine HC1.out.mono ?_
  rintro e w1 ⟨rfl, hb⟩
  have HB1 := hid hb
  have HE1 := hid (HE.out.later hb)
  clear hb HC1
  have C2 := fields_any [65, 58, 32, 98, 13, 10, 13, 10] HE1.out (by simp)
  rw [al2] at C2
  have HC2 := hid C2
  clear C2
  go_wp2_with fail
  refine HC2.out.mono ?_
  rintro e w2 ⟨⟨v, rfl, ho⟩, hb⟩
  have HO2 := hid ho.rl
  have HB2 := hid (HB1.out.trans (hb.mono HB1.out.size))
  clear ho hb HC2
  have hal : Below w2.heap.size w2 (w2.alloc (.cells #[.string ⟨#[65]⟩, .string ⟨#[32, 98]⟩] 36)) := (Below.refl _ _).alloc (Nat.le_refl _) _
  have HO3 := hid (HO2.out.later hal)
  have HB3 := hid (HB2.out.trans (hal.mono HB2.out.size))
  have HC3 := hid (sameF_any HO3.out (l := [([65], [32, 98])]) (m := [([65], [32, 98])]) (ra_lit w2 [[[65], [32, 98]]] 2 36 (by intro r hr; simp at hr; rw [hr]; rfl)) (by simp) (by simp))
  clear hal
  go_wp2_with fail
  refine HC3.out.mono ?_
  rintro e w3 ⟨rfl, hb⟩
  have HO4 := hid (HO3.out.later hb)
  have HB4 := hid (HB3.out.trans (hb.mono HB3.out.size))
  clear hb HC3
  have hal : Below w3.heap.size w3 (w3.alloc (.cells #[.string ⟨#[97]⟩] 9)) := (Below.refl _ _).alloc (Nat.le_refl _) _
  have HO5 := hid (HO4.out.later hal)
  have HB5 := hid (HB4.out.trans (hal.mono HB4.out.size))
  clear hal
  have C5 := get_any (HE.out.later HB5.out) HO5.out (l := [([65], [32, 98])]) (names := [[97]]) (ra_lit w3 [[[97]]] 1 9 (by intro r hr; simp at hr; rw [hr]; rfl)) (by simp) (by simp) (by simp) (by simp)
  rw [al3] at C5
  have HC5 := hid C5
  clear C5
  go_wp2_with fail
  refine HC5.out.mono ?_
  rintro e w4 ⟨⟨v4, rfl, ho⟩, hb⟩
  have HB6 := hid (HB5.out.trans (hb.mono HB5.out.size))
  have hal : Below w4.heap.size w4 (w4.alloc (.cells #[.string ⟨#[98]⟩] 9)) := (Below.refl _ _).alloc (Nat.le_refl _) _
  have HO7 := hid (ho.rl.later hal)
  have HB7 := hid (HB6.out.trans (hal.mono HB6.out.size))
  clear hal ho hb HC5
  have HC7 := hid (texts_any HO7.out (l := [[98]]) (m := [[98]]) (ra_lit w4 [[[98]]] 1 9 (by intro r hr; simp at hr; rw [hr]; rfl)) (by simp) (by simp))
  go_wp2_with fail
  refine HC7.out.mono ?_
  rintro e w5 ⟨rfl, hb⟩
  have HB8 := hid (HB7.out.trans (hb.mono HB7.out.size))
  clear hb HC7
  have C8 := addresses_any exA w5 (by decide)
  rw [al4] at C8
  have HC8 := hid C8
  clear C8
  go_wp2_with fail
  refine HC8.out.mono ?_
  rintro e w6 ⟨⟨v6, rfl, ho⟩, hb⟩
  have HB9 := hid (HB8.out.trans (hb.mono HB8.out.size))
  have hal : Below w6.heap.size w6 (w6.alloc (.cells #[.string ⟨#[65, 110, 110]⟩, .string ⟨#[97]⟩, .string ⟨#[98]⟩, .string ⟨#[]⟩, .string ⟨#[99]⟩, .string ⟨#[100]⟩] 42)) := (Below.refl _ _).alloc (Nat.le_refl _) _
  have HOA := hid (ho.rl.later hal)
  have HBA := hid (HB9.out.trans (hal.mono HB9.out.size))
  clear hal ho hb HC8
  have HCA := hid (people_any HOA.out (l := [([65, 110, 110], [97], [98]), ([], [99], [100])]) (m := [([65, 110, 110], [97], [98]), ([], [99], [100])]) (ra_lit w6 [[[65, 110, 110], [97], [98]], [[], [99], [100]]] 3 42 (by intro r hr; simp at hr; rcases hr with rfl | rfl <;> rfl)) (by simp) (by simp))
  go_wp2_with fail
  refine HCA.out.mono ?_
  rintro e w7 ⟨rfl, hb⟩
  have HBB := hid (HBA.out.trans (hb.mono HBA.out.size))
  clear hb HCA
  go_wp2_with fail
  go_ret
  exact ⟨rfl, HBB.out⟩
end Go.Proofs.YtemgpghjolpneaaGreatDoor
