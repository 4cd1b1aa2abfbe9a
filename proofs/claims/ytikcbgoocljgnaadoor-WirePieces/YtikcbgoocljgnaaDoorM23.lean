/- What this text holds: the chapter's example. -/
import Derived.Test.YtikcbgoocljgnaaDoorM17
import Derived.Test.YtikcbgoocljgnaaDoorM19
import Derived.Test.YtikcbgoocljgnaaDoorM22
namespace Go.Proofs.YtikcbgoocljgnaaDoor
open Go.RowKit
set_option linter.unusedVariables false
set_option linter.unusedSimpArgs false

def exA : Bs := [97, 32, 123, 51, 125, 13, 10]
def exB : Bs := [120, 121, 122, 32, 98, 13, 10]
def exF : Fd := ⟨[[97, 32]], [], 5, [], 3, 0, false, .lit⟩
theorem al1 : takeP Fd.zero exA = (exF, [(2, [], [])]) := by kernel_rfl
theorem al2 : takeP exF exB = (Fd.zero, [(1, [[97, 32], [32, 98]], [[120, 121, 122]])]) := by kernel_rfl
theorem exF_sound : Sound exF := by
  have := sound_zero
  have h : ∀ (s : Bs) (F : Fd), Sound F → Sound (takeP F s).1 := by
    intro s
    induction s with
    | nil => intro F h; exact h
    | cons c s ih => intro F h; exact ih _ (sound_step F c h)
  have := h exA Fd.zero sound_zero
  rw [al1] at this
  exact this
theorem ga_lit {α : Type} (E : En α) (w : World) (l : List α) : GA E (w.alloc (.cells (E.cs l).toArray E.T)) w.heap.size 0 l := by
  intro j i x v h1 h2
  have := E.cs_at l j i x v h1 h2
  rw [Nat.zero_add]
  exact row_at (heap_alloc_new _ _) _ (by simpa using this)
theorem gl_lit {α : Type} (E : En α) (w : World) (l : List α) : GL E (w.alloc (.cells (E.cs l).toArray E.T)) (.slice (some ⟨w.heap.size, 0, none⟩) l.length l.length) l :=
  ⟨_, _, rfl, Nat.le_refl _, .inr ⟨_, 0, rfl, ga_lit E w l, by simp⟩⟩
theorem evr_one {w : World} {e : Int × Sl × Sl} {E : Ev} (h1 : e.1 = E.1) (h2 : GL eS w (Sl.v e.2.1) E.2.1) (h3 : GL eS w (Sl.v e.2.2) E.2.2) : EvR (w.alloc (.cells (eE.cs [e]).toArray 41)) (.slice (some ⟨w.heap.size, 0, none⟩) 1 1) [E] := by
  have hb : Below w.heap.size w (w.alloc (.cells (eE.cs [e]).toArray 41)) := (Below.refl _ _).alloc (Nat.le_refl _) _
  refine ⟨[e], gl_lit eE w [e], rfl, fun j x X hx hX => ?_⟩
  cases j with
  | zero => simp at hx hX; subst hx hX; exact ⟨h1, h2.later hb, h3.later hb⟩
  | succ j => simp at hx
theorem gl_nil {α : Type} (E : En α) (w : World) : GL E w (.slice none 0 0) [] := ⟨none, 0, rfl, Nat.le_refl _, .inl rfl⟩
/-- The world behind a constant that was made bytes. -/
def litW (w : World) (l : Bs) : World := (w.alloc (.cells (eB.cs l).toArray 5)).freeze ⟨w.heap.size, (eB.cs l).toArray.size, none⟩ 1
theorem litW_size (w : World) (l : Bs) : (litW w l).heap.size = w.heap.size + 1 := by simp [litW, World.freeze]
theorem litW_at (w : World) (l : Bs) : ∃ fr, (litW w l).heap[w.heap.size]? = some (.cells (eB.cs l).toArray 5 fr) := by
  refine ⟨((eB.cs l).toArray.size, (eB.cs l).toArray.size + 1), ?_⟩
  simp only [litW, World.freeze, Nat.one_ne_zero, if_false, Array.getElem?_modify, if_true, heap_alloc_new, Option.map_some]
  simp
theorem litW_below (w : World) (l : Bs) : Below w.heap.size w (litW w l) := by
  refine ⟨rfl, rfl, rfl, by rw [litW_size]; omega, fun k hk => ?_⟩
  simp only [litW, World.freeze, Nat.one_ne_zero, if_false, Array.getElem?_modify]
  rw [if_neg (by omega)]
  exact heap_alloc_old _ _ hk
theorem litW_ga (w : World) (l : Bs) : GA eB (litW w l) w.heap.size 0 l := by
  obtain ⟨fr, hf⟩ := litW_at w l
  intro j i x v h1 h2
  have := eB.cs_at l j i x v h1 h2
  rw [Nat.zero_add]
  simp [World.cell?, hf, this]
theorem conv31 (w : World) (l : Bs) (n : Nat) : (convert 31 31 (.slice (some ⟨w.heap.size, 0, none⟩) n n)).run Tryd.prog (w.alloc (.cells (eB.cs l).toArray 5)) = .ok (.slice (some ⟨w.heap.size, 0, none⟩) n n) (litW w l) := by
  have hs : (w.alloc (.cells (eB.cs l).toArray 5)).shape? w.heap.size = some (5, (eB.cs l).toArray.size) := by
    unfold World.shape?
    rw [heap_alloc_new]
  simp only [convert, run_underlying Tryd.underlying31, Sem.run_bind, Result.andThen_ok, run_underlying Tryd.underlying5, beq_self_eq_true, markStringish, Sem.run_pure, run_shape, hs, run_freeze]
  rfl
set_option maxRecDepth 100000 in
set_option maxHeartbeats 2000000 in
theorem alive_any (hol : OfLineOk) (w : World) : Calls Tryd.prog 10 #[] w fun e w' => e = .returned (.bool true) ∧ Below w.heap.size w w' := by
  go_enter Tryd.func10, Tryd.ntmps10
  go_wp2_with fail
  refine (new_any w).mono ?_
  rintro e w1 ⟨rfl, hf1, hb1⟩
  have hlt1 := hf1.lt _ hf1.mem
  have hal1 := litW_below w1 exA
  have C1 := take_any hol sound_step (hf1.below hal1) sound_zero w1.heap.size 0 7 exA (by decide) (litW_ga w1 exA) (by rw [List.mem_singleton]; omega) (by rw [litW_size]; omega) (by decide)
  rw [al1] at C1
  have HC1 : Hid (Calls Tryd.prog 12 #[.pointer (some ⟨w.heap.size, 0, none⟩), .slice (some ⟨w1.heap.size, 0, none⟩) 7 7] (litW w1 exA) (TakeIs (litW w1 exA) w.heap.size [w.heap.size] exF [(2, [], [])])) := C1
  have HB1 := hid hb1
  have hcv1 : (convert 31 31 (.slice (some ⟨w1.heap.size, 0, none⟩) 7 7)).run Tryd.prog (w1.alloc (.cells #[.int .u8 97, .int .u8 32, .int .u8 123, .int .u8 51, .int .u8 125, .int .u8 13, .int .u8 10] 5)) = .ok (.slice (some ⟨w1.heap.size, 0, none⟩) 7 7) (litW w1 exA) := conv31 w1 exA 7
  have HBl1 := hid (litW_below w1 exA)
  have hls1 := litW_size w1 exA
  clear C1 hf1 hal1 hb1
  go_wp2_with fail
  refine HC1.out.mono ?_
  rintro e w2 ⟨v1, own1, rfl, hv1, hf2, hk2, ho2⟩
  have hsz2 := hk2.size
  have hbk : Below w.heap.size w w2 := (HB1.out.trans (HBl1.out.mono HB1.out.size)).trans (hk2.below (by simp) (by omega))
  obtain ⟨es1, g1, g2, g3, g4⟩ := id hv1
  obtain ⟨av1, kv1, hvv1⟩ := g1.slice (n := 1) (by simpa using g3)
  subst hvv1
  have HI := hid (idle_any hf2)
  have HV1 := hid hv1
  have HF2 := hid hf2
  have HB2 := hid hbk
  have HO2 : Hid (∀ g ∈ own1, w.heap.size ≤ g) := fun g hg => by
    rcases ho2 g hg with q | q
    · rw [List.mem_singleton] at q; omega
    · omega
  clear hv1 hf2 hk2 ho2 hbk g1 g2 g3 g4 HC1 hsz2
  go_wp2_with fail
  refine HI.out.mono ?_
  rintro e w3 ⟨rfl, hb3⟩
  have hf3 := HF2.out.below hb3
  have hv3 := HV1.out.kept (Kept.ofBelow hb3 own1) (own' := own1) (fun g hg => .inl hg)
  have hb3' := HB2.out.trans (hb3.mono HB2.out.size)
  have hal3 := litW_below w3 exB
  have nb : w3.heap.size ∉ own1 := fun e => by have := hf3.lt _ e; omega
  have C3 := take_any hol sound_step (hf3.below hal3) exF_sound w3.heap.size 0 7 exB (by decide) (litW_ga w3 exB) nb (by rw [litW_size]; omega) (by decide)
  rw [al2] at C3
  have HC3 : Hid (Calls Tryd.prog 12 #[.pointer (some ⟨w.heap.size, 0, none⟩), .slice (some ⟨w3.heap.size, 0, none⟩) 7 7] (litW w3 exB) (TakeIs (litW w3 exB) w.heap.size own1 Fd.zero [(1, [[97, 32], [32, 98]], [[120, 121, 122]])])) := C3
  have hcv3 : (convert 31 31 (.slice (some ⟨w3.heap.size, 0, none⟩) 7 7)).run Tryd.prog (w3.alloc (.cells #[.int .u8 120, .int .u8 121, .int .u8 122, .int .u8 32, .int .u8 98, .int .u8 13, .int .u8 10] 5)) = .ok (.slice (some ⟨w3.heap.size, 0, none⟩) 7 7) (litW w3 exB) := conv31 w3 exB 7
  have hls3 := litW_size w3 exB
  have hv3' := hv3.kept (Kept.ofBelow hal3 own1) (own' := own1) (fun g hg => .inl hg)
  have HV3 := hid hv3'
  have HB3 := hid (hb3'.trans (hal3.mono hb3'.size))
  have hsz3 : w.heap.size ≤ w3.heap.size := hb3'.size
  clear C3 hf3 hv3 hb3 hb3' hal3 nb hv3' HI HV1 HF2
  simp only [exF] at *
  go_wp2_with fail
  refine HC3.out.mono ?_
  rintro e w4 ⟨v2, own2, rfl, hv2, hf4, hk4, ho4⟩
  have hv1' := HV3.out.kept hk4 ho4
  have hb4 : Below w.heap.size w w4 := HB3.out.trans (hk4.below HO2.out (by omega))
  obtain ⟨es2, g1, g2, g3, g4⟩ := id hv2
  obtain ⟨av2, kv2, hvv2⟩ := g1.slice (n := 1) (by simpa using g3)
  subst hvv2
  have q1 := evr_one (w := w4) (e := (2, (none, 0, 0), (none, 0, 0))) (E := (2, [], [])) rfl (gl_nil eS w4) (gl_nil eS w4)
  have hal5 : Below w4.heap.size w4 (w4.alloc (.cells #[.int .i64 2, .slice none 0 0, .slice none 0 0] 41)) := (Below.refl _ _).alloc (Nat.le_refl _) _
  have CS := same_any (hv1'.r.later hal5) q1 (by decide) (by decide) (by simp) (by simp)
  rw [show decide (([(2, [], [])] : List Ev) = [(2, [], [])]) = true by decide] at CS
  have HCS := hid CS
  have HV2 := hid (hv2.r.later hal5)
  have HF4 := hid (hf4.below hal5)
  have HB4 := hid (hb4.alloc hb4.size (.cells #[.int .i64 2, .slice none 0 0, .slice none 0 0] 41))
  have hs4 := hb4.size
  clear hv1' hv2 hf4 hk4 ho4 g1 g2 g3 g4 q1 hal5 CS hb4 HC3 HV3
  go_wp2_with fail
  refine HCS.out.mono ?_
  rintro e w5 ⟨rfl, n5, rfl⟩
  generalize hW5 : (w4.alloc (.cells #[.int .i64 2, .slice none 0 0, .slice none 0 0] 41)).drewN n5 = w5 at *
  have hd5 : Below (w4.alloc (.cells #[.int .i64 2, .slice none 0 0, .slice none 0 0] 41)).heap.size (w4.alloc (.cells #[.int .i64 2, .slice none 0 0, .slice none 0 0] 41)) w5 := by rw [← hW5]; exact drewN_below _ _ _
  have hv5 := HV2.out.later hd5
  have hf5 := HF4.out.below hd5
  have hb5 := HB4.out.trans (hd5.mono HB4.out.size)
  have p1 := gl_lit eS w5 [[97, 32], [32, 98]]
  have hx1 : Below w5.heap.size w5 (w5.alloc (.cells (eS.cs [[97, 32], [32, 98]]).toArray 9)) := (Below.refl _ _).alloc (Nat.le_refl _) _
  have p2 := gl_lit eS (w5.alloc (.cells (eS.cs [[97, 32], [32, 98]]).toArray 9)) [[120, 121, 122]]
  have hx2 : Below (w5.alloc (.cells (eS.cs [[97, 32], [32, 98]]).toArray 9)).heap.size (w5.alloc (.cells (eS.cs [[97, 32], [32, 98]]).toArray 9)) ((w5.alloc (.cells (eS.cs [[97, 32], [32, 98]]).toArray 9)).alloc (.cells (eS.cs [[120, 121, 122]]).toArray 9)) := (Below.refl _ _).alloc (Nat.le_refl _) _
  have p3 := evr_one (e := (1, (some ⟨w5.heap.size, 0, none⟩, 2, 2), (some ⟨(w5.alloc (.cells (eS.cs [[97, 32], [32, 98]]).toArray 9)).heap.size, 0, none⟩, 1, 1))) (E := (1, [[97, 32], [32, 98]], [[120, 121, 122]])) rfl (p1.later hx2) p2
  have hx3 : Below ((w5.alloc (.cells (eS.cs [[97, 32], [32, 98]]).toArray 9)).alloc (.cells (eS.cs [[120, 121, 122]]).toArray 9)).heap.size ((w5.alloc (.cells (eS.cs [[97, 32], [32, 98]]).toArray 9)).alloc (.cells (eS.cs [[120, 121, 122]]).toArray 9)) (((w5.alloc (.cells (eS.cs [[97, 32], [32, 98]]).toArray 9)).alloc (.cells (eS.cs [[120, 121, 122]]).toArray 9)).alloc (.cells (eE.cs [(1, (some ⟨w5.heap.size, 0, none⟩, 2, 2), (some ⟨(w5.alloc (.cells (eS.cs [[97, 32], [32, 98]]).toArray 9)).heap.size, 0, none⟩, 1, 1))]).toArray 41)) := (Below.refl _ _).alloc (Nat.le_refl _) _
  have CS2 := same_any (((hv5.later hx1).later hx2).later hx3) p3 (by decide) (by decide) (by simp) (by simp)
  rw [show decide (([(1, [[97, 32], [32, 98]], [[120, 121, 122]])] : List Ev) = [(1, [[97, 32], [32, 98]], [[120, 121, 122]])]) = true by decide] at CS2
  simp only [World.size_alloc] at CS2
  have HS2 : Hid (Calls Tryd.prog 13 #[.slice av2 1 kv2, .slice (some ⟨w5.heap.size + 1 + 1, 0, none⟩) 1 1] (((w5.alloc (.cells #[.string ⟨#[97, 32]⟩, .string ⟨#[32, 98]⟩] 9)).alloc (.cells #[.string ⟨#[120, 121, 122]⟩] 9)).alloc (.cells #[.int .i64 1, .slice (some ⟨w5.heap.size, 0, none⟩) 2 2, .slice (some ⟨w5.heap.size + 1, 0, none⟩) 1 1] 41)) fun e w' => e = .returned (.bool true) ∧ ∃ n, w' = ((((w5.alloc (.cells #[.string ⟨#[97, 32]⟩, .string ⟨#[32, 98]⟩] 9)).alloc (.cells #[.string ⟨#[120, 121, 122]⟩] 9)).alloc (.cells #[.int .i64 1, .slice (some ⟨w5.heap.size, 0, none⟩) 2 2, .slice (some ⟨w5.heap.size + 1, 0, none⟩) 1 1] 41))).drewN n) := CS2
  have hf6 := ((hf5.below hx1).below hx2).below hx3
  have hb6 := ((hb5.trans (hx1.mono hb5.size)).trans (hx2.mono (Nat.le_trans hb5.size hx1.size))).trans (hx3.mono (Nat.le_trans hb5.size (Nat.le_trans hx1.size hx2.size)))
  simp only [World.size_alloc] at hf6 hb6
  have HF5 : Hid (FAt (((w5.alloc (.cells #[.string ⟨#[97, 32]⟩, .string ⟨#[32, 98]⟩] 9)).alloc (.cells #[.string ⟨#[120, 121, 122]⟩] 9)).alloc (.cells #[.int .i64 1, .slice (some ⟨w5.heap.size, 0, none⟩) 2 2, .slice (some ⟨w5.heap.size + 1, 0, none⟩) 1 1] 41)) w.heap.size own2 Fd.zero) := hf6
  have HB5 : Hid (Below w.heap.size w (((w5.alloc (.cells #[.string ⟨#[97, 32]⟩, .string ⟨#[32, 98]⟩] 9)).alloc (.cells #[.string ⟨#[120, 121, 122]⟩] 9)).alloc (.cells #[.int .i64 1, .slice (some ⟨w5.heap.size, 0, none⟩) 2 2, .slice (some ⟨w5.heap.size + 1, 0, none⟩) 1 1] 41))) := hb6
  clear CS2 hf6 hb6 p1 p2 p3 hx1 hx2 hx3 hv5 hf5 hb5 hd5 hW5 HV2 HF4 HB4 HCS
  go_wp2_with fail
  refine HS2.out.mono ?_
  rintro e w6 ⟨rfl, n6, rfl⟩
  have hf7 := HF5.out.below (drewN_below _ n6 _)
  have HB7 := hid (HB5.out.trans ((drewN_below _ n6 _)))
  have HI := hid (idle_any hf7)
  clear hf7 HS2 HF5 HB5
  generalize (((w5.alloc (.cells #[.string ⟨#[97, 32]⟩, .string ⟨#[32, 98]⟩] 9)).alloc (.cells #[.string ⟨#[120, 121, 122]⟩] 9)).alloc (.cells #[.int .i64 1, .slice (some ⟨w5.heap.size, 0, none⟩) 2 2, .slice (some ⟨w5.heap.size + 1, 0, none⟩) 1 1] 41)).drewN n6 = w7 at *
  simp only [Fd.zero] at HI
  go_wp2_with fail
  refine HI.out.mono ?_
  rintro e w8 ⟨rfl, hb8⟩
  have HB8 := hid (HB7.out.trans (hb8.mono HB7.out.size))
  clear hb8 HI
  go_wp2_with fail
  go_ret
  exact ⟨rfl, HB8.out⟩
end Go.Proofs.YtikcbgoocljgnaaDoor
