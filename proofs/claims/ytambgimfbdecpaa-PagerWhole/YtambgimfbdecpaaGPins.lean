/- What this text holds: a pager's pins, and 'release'. -/
import Derived.Test.YtambgimfbdecpaaGTurn
import Derived.Maps.RangeWalk
import Derived.Maps.OwnSet
import Derived.Maps.OwnOps
namespace Go.Proofs.Ytambgimfbdecpaa
open Go.RowKit Go.Maps
set_option linter.unusedVariables false

theorem law3 : Keyed Try.prog 3 := int_keyed Try.underlying3
theorem zero3 (w : World) : (zeroValue 3).run Try.prog w = .ok (.int .i64 0) w := by kernel_rfl

/-- Block mb is a map that tells how often each gen stands among the pins. -/
structure PinsD (w : World) (mb m : Nat) (pins : List Int) (D : DataW Unit) : Prop where
  own : w.ownsMap Try.prog 3 (plainElem (H := Unit) Try.prog 3) mb m D
  has : ∀ x : Int, Maps.has D (.int .i64 x) = decide (x ∈ pins)
  cnt : ∀ x : Int, D.atKey (.int .i64 x) (.lit (.int .i64 0)) = .lit (.int .i64 (pins.count x))
def PinsAt (w : World) (mb m : Nat) (pins : List Int) : Prop := ∃ D, PinsD w mb m pins D

theorem PinsD.keep {w w' : World} {mb m : Nat} {pins : List Int} {D : DataW Unit} (h : PinsD w mb m pins D) {S : List Nat} (k : Kept S w w') (hS : mb ∉ S) : PinsD w' mb m pins D := by
  obtain ⟨es, clock, hb, r⟩ := h.own
  exact ⟨⟨es, clock, (k.block mb (Array.getElem?_eq_some_iff.1 hb).1 hS).trans hb, r⟩, h.has, h.cnt⟩
theorem PinsAt.keep {w w' : World} {mb m : Nat} {pins : List Int} (h : PinsAt w mb m pins) {S : List Nat} (k : Kept S w w') (hS : mb ∉ S) : PinsAt w' mb m pins := by
  obtain ⟨D, h⟩ := h
  exact ⟨D, h.keep k hS⟩
theorem PinsAt.lt {w : World} {mb m : Nat} {pins : List Int} (h : PinsAt w mb m pins) : mb < w.heap.size := by
  obtain ⟨D, h⟩ := h
  exact h.own.lt
theorem PinsAt.new (w : World) : PinsAt (w.alloc (.map #[] 0)) w.heap.size 0 [] :=
  ⟨_, World.ownsMap_made w Try.prog 3 _, fun x => by simp [Maps.has], fun x => by simp [DataW.atKey]⟩

/-- The lowest of the gen and the pins. -/
def lowPin (pins : List Int) (g : Int) : Int := pins.foldl min g
theorem lowPin_le (pins : List Int) : ∀ g : Int, lowPin pins g ≤ g ∧ (∀ x ∈ pins, lowPin pins g ≤ x) ∧ (lowPin pins g = g ∨ lowPin pins g ∈ pins) := by
  induction pins with
  | nil => intro g; simp [lowPin]
  | cons y l ih =>
    intro g
    obtain ⟨h1, h2, h3⟩ := ih (min g y)
    have e : lowPin (y :: l) g = lowPin l (min g y) := rfl
    rw [e]
    refine ⟨by omega, ?_, ?_⟩
    · intro x hx
      rcases List.mem_cons.1 hx with rfl | hx
      · omega
      · exact h2 x hx
    · rcases h3 with h | h
      · rcases (by omega : min g y = g ∨ min g y = y) with h' | h'
        · left; omega
        · right; rw [h, h']; simp
      · right; simp [h]
theorem lowPin_eq {pins : List Int} {g L : Int} (h1 : L ≤ g) (h2 : ∀ x ∈ pins, L ≤ x) (h3 : L = g ∨ L ∈ pins) : lowPin pins g = L := by
  obtain ⟨k1, k2, k3⟩ := lowPin_le pins g
  have a : lowPin pins g ≤ L := by
    rcases h3 with h | h
    · omega
    · exact k2 L h
  have b : L ≤ lowPin pins g := by
    rcases k3 with h | h
    · omega
    · exact h2 _ h
  omega

set_option maxRecDepth 100000 in
set_option maxHeartbeats 2000000 in
theorem release_any {w : World} {b gs n mb m : Nat} {st : List (Int × Int)} {pins : List Int} {g : Int} (h : ShAt w b gs n st) (hp : PinsAt w mb m pins) (hne : gs ≠ b) (hmb : gs ≠ mb)
    (c2 : w.cell? ⟨b, 2, none⟩ = some (.map (some mb))) (c3 : w.cell? ⟨b, 3, none⟩ = some (.int .i64 g)) :
    Calls Try.prog 69 #[.pointer (some ⟨b, 0, none⟩)] w fun e w' => e = .returned (.tuple #[]) ∧ ShAt w' b gs n (st.map (relF (lowPin pins g))) ∧ Kept [gs] w w' := by
  obtain ⟨D, hD⟩ := hp
  have hown := hD.own
  have HD := hid hD
  have HH := hid h
  have HN := hid hne
  clear h hD hne
  go_enter Try.func69, Try.ntmps69
  go_wp2_with (first
    | (at_range; refine wpList_range_own _ rfl _ 112 rfl 3 3 law3 Try.underlying112 _ mb m _ rfl hown ?_; intro w0 hrg0 hg0 hs0)
    | go_in)
  go_frame
  go_loopw [2] (fun q wr => ∃ (L : Int) (left : Lit → Bool) (cnt : Nat), q = .int .i64 L ∧ wr.ranges Try.prog 3 (plainElem (H := Unit) Try.prog 3) mb w.heap.size m D left cnt ∧ w.grownBy wr none ∧ L ≤ g ∧ (L = g ∨ L ∈ pins) ∧ (∀ x ∈ pins, left (.int .i64 x) = false → L ≤ x))
    (fun _ wr => wr.rangeLeft mb w.heap.size)
  case atStart =>
    refine ⟨g, _, _, rfl, hrg0, hg0, Int.le_refl _, .inl rfl, fun x hx hl => ?_⟩
    rw [HD.out.has x] at hl
    simp [hx] at hl
  case round =>
    obtain ⟨L, left, cnt, rfl, hrg, hgw, hL1, hL2, hL3⟩ := hrel
    have cc1 : wr.cell? ⟨b, 1, none⟩ = some (.slice (some ⟨gs, 0, none⟩) n n) := hgw.cell HH.out.c (by simp)
    have HSh := hid (HH.out.keep (Kept.ofGrown hgw [] (fun k h => by cases h)) (by simp) (by simp))
    have HL3 := hid hL3
    clear hL3
    go_wp2_with (first
      | (at_next; refine wpList_next_ranges_ii _ rfl _ rfl 3 3 .i64 .i64 law3 Try.underlying3 Try.underlying3 mb w.heap.size m _ _ _ rfl hrg ?_ ?_)
      | go_in)
    · intro _ hl0
      go_wp2_with (go_at_call 93; refine (releaseUpTo_any HSh.out HN.out L).mono ?_; rintro e w1 ⟨rfl, hsh, hk⟩)
      go_end0
      have e : lowPin pins g = L := lowPin_eq hL1 (fun x hx => HL3.out x hx (hl0 _)) hL2
      rw [e]
      exact ⟨rfl, hsh, (Kept.ofGrown hgw [gs] (fun k h => by cases h)).trans hk (fun _ _ h => h)⟩
    · intro x c w1 cnt1 hwx hwc hlx hat hrg1 hlt hg1 hs1 hen
      have hgw1 := hgw.andThen hg1 (fun j hj => by cases hj; exact Or.inl (Nat.le_refl _))
      have hxp : x ∈ pins := by
        have := has_true_of_atKey hat
        rw [HD.out.has x] at this
        simpa using this
      go_wp2_with go_in
      go_roundw
      case rel =>
        refine ⟨_, _, cnt1, rfl, hrg1, hgw1, by split <;> omega, ?_, ?_⟩
        · split
          · exact .inr hxp
          · exact hL2
        · intro y hy hl
          by_cases e : y = x
          · subst e; split <;> omega
          · have hne : (Lit.int .i64 y).sameKey (.int .i64 x) = false := Maps.sameKey_ne (fun h => e (by injection h))
            rw [hne] at hl
            have := HL3.out y hy (by simpa using hl)
            split <;> omega
      case measure => rw [hrg1.left_eq, hrg.left_eq]; exact hlt
end Go.Proofs.Ytambgimfbdecpaa
