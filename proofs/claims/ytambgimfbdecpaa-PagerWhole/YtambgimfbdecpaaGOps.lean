/- What this text holds: Drop, Abort, Put and Read of a pager. -/
import Derived.Test.YtambgimfbdecpaaGDisk
namespace Go.Proofs.Ytambgimfbdecpaa
open Go.RowKit Go.Maps
set_option linter.unusedVariables false

/-- A call of a pager has answered v, and the pager is P' now; nothing but its own blocks has turned. -/
def DidP (w : World) (B b db : Nat) (all : List Nat) (v : Value) (P' : PS) (e : Ending) (w' : World) : Prop :=
  e = .returned v ∧ ∃ all', Pgr w' B b db all' P' ∧ Kept all w w' ∧ ∀ k ∈ all', k ∈ all ∨ w.heap.size ≤ k

theorem DidP.at {w w' : World} {B b db gs mb : Nat} {own : List Nat} {P' : PS} {v : Value} (h : PAt w' B b db gs mb own P') (hk : Kept (b :: gs :: mb :: own) w w') : DidP w B b db (b :: gs :: mb :: own) v P' (.returned v) w' :=
  ⟨rfl, _, ⟨gs, mb, own, h, rfl⟩, hk, fun k hk => .inl hk⟩
theorem DidP.same {w : World} {B b db gs mb : Nat} {own : List Nat} {P : PS} {v : Value} (h : PAt w B b db gs mb own P) : DidP w B b db (b :: gs :: mb :: own) v P (.returned v) w := DidP.at h (Kept.refl _ _)

/-- Drop. -/
def PS.drop (P : PS) (n : Int) : Int × PS :=
  if P.dead then (9, P) else if usedP P.st n = false then (3, P)
  else if stOf P.st n.toNat = 2 then (0, { P with st := P.st.set n.toNat (0, 0) })
  else if stOf P.st n.toNat = 1 then (0, { P with st := P.st.set n.toNat (3, 0) }) else (3, P)

theorem usedP_yes {st : List (Int × Int)} {i : Int} (h : usedP st i = true) : ∃ k : Nat, i = k ∧ 2 ≤ k ∧ k < st.length ∧ stOf st k ≠ 0 := by
  unfold usedP at h
  simp only [Bool.and_eq_true, decide_eq_true_eq, bne_iff_ne] at h
  refine ⟨i.toNat, by omega, by omega, by omega, h.2⟩

set_option maxRecDepth 100000 in
set_option maxHeartbeats 1000000 in
theorem drop_at {w : World} {B b db gs mb : Nat} {own : List Nat} {P : PS} (h : PAt w B b db gs mb own P) (n : Int) :
    Calls Try.prog 29 #[.pointer (some ⟨b, 0, none⟩), .int .i64 n] w (DidP w B b db (b :: gs :: mb :: own) (.int .i64 (P.drop n).1) (P.drop n).2) := by
  obtain ⟨c0, c1, c2, c3, c4, c5⟩ := h.cells
  have HR := hid (ready_any h)
  have HU := hid (isUsed_any h.shAt n)
  have HH := hid h
  have hm := h.max
  unfold PS.drop
  by_cases hd : P.dead = true
  · rw [if_pos hd] at HR ⊢
    clear h
    go_enter Try.func29, Try.ntmps29
    go_wp2_with (go_at_call 61; refine HR.out.mono ?_; rintro e w ⟨rfl, rfl⟩)
    go_ret
    exact DidP.same HH.out
  · rw [if_neg hd] at HR ⊢
    by_cases hu : usedP P.st n = false
    · rw [if_pos hu]
      rw [hu] at HU
      clear h hu
      go_enter Try.func29, Try.ntmps29
      go_wp2_with (first | (go_at_call 61; refine HR.out.mono ?_; rintro e w ⟨rfl, rfl⟩) | (go_at_call 62; refine HU.out.mono ?_; rintro e w ⟨rfl, rfl⟩))
      go_ret
      exact DidP.same HH.out
    · rw [if_neg hu]
      have hu' : usedP P.st n = true := by simpa using hu
      rw [hu'] at HU
      obtain ⟨k, rfl, hk2, hkl, hk0⟩ := usedP_yes hu'
      have hkn : k < P.D.n := by rw [← h.len]; exact hkl
      have hkn' : (k : Int) < P.D.n := by omega
      obtain ⟨y, d2⟩ : ∃ y, w.cell? ⟨gs, k * 2 + 1, none⟩ = some (.int .i64 y) := ⟨_, (h.shAt.at_ k hkn).2⟩
      have ds := h.shAt.st k hkn
      have hf1 := h.shAt.free (k * 2)
      have hf2 := h.shAt.free (k * 2 + 1)
      rw [Int.toNat_natCast]
      clear h hu hu' hk0
      have HSet := hid fun x => HH.out.setSt (HH.out.shAt.set HH.out.n1 k hkn x) (setSh_kept w gs k x)
      have HKp := hid fun x => (setSh_kept w gs k x).mono (T := b :: gs :: mb :: own) (fun i _ hi => by simp only [List.mem_singleton] at hi; simp [hi])
      by_cases h2 : stOf P.st k = 2
      · rw [if_pos h2]
        rw [h2] at ds
        clear h2
        go_enter Try.func29, Try.ntmps29
        go_wp2_with (first | (go_at_call 61; refine HR.out.mono ?_; rintro e w ⟨rfl, rfl⟩) | (go_at_call 62; refine HU.out.mono ?_; rintro e w ⟨rfl, rfl⟩))
        go_ret
        exact DidP.at (HSet.out (0, 0)) (HKp.out (0, 0))
      · rw [if_neg h2]
        have h2' : (stOf P.st k == 2) = false := by rw [beq_eq_false_iff_ne]; exact h2
        by_cases h1 : stOf P.st k = 1
        · rw [if_pos h1]
          rw [h1] at ds
          clear h2 h2' h1
          go_enter Try.func29, Try.ntmps29
          go_wp2_with (first | (go_at_call 61; refine HR.out.mono ?_; rintro e w ⟨rfl, rfl⟩) | (go_at_call 62; refine HU.out.mono ?_; rintro e w ⟨rfl, rfl⟩))
          go_ret
          exact DidP.at (HSet.out (3, 0)) (HKp.out (3, 0))
        · rw [if_neg h1]
          have h1' : (stOf P.st k == 1) = false := by rw [beq_eq_false_iff_ne]; exact h1
          clear h2 h1
          go_enter Try.func29, Try.ntmps29
          go_wp2_with (first | (go_at_call 61; refine HR.out.mono ?_; rintro e w ⟨rfl, rfl⟩) | (go_at_call 62; refine HU.out.mono ?_; rintro e w ⟨rfl, rfl⟩))
          go_ret
          exact DidP.same HH.out

/-- Abort. -/
def PS.abort (P : PS) : PS := { P with st := (P.st.map (turnF 2 (0, 0))).map (turnF 3 (1, 0)) }
set_option maxRecDepth 100000 in
set_option maxHeartbeats 1000000 in
theorem abort_at {w : World} {B b db gs mb : Nat} {own : List Nat} {P : PS} (h : PAt w B b db gs mb own P) :
    Calls Try.prog 38 #[.pointer (some ⟨b, 0, none⟩)] w (DidP w B b db (b :: gs :: mb :: own) (.tuple #[]) P.abort) := by
  have HN := hid (none_any h)
  have HH := hid h
  clear h
  go_enter Try.func38, Try.ntmps38
  go_wp2_with (first | (go_at_call 59; refine HN.out.mono ?_; rintro e w ⟨rfl, rfl⟩))
  refine (turn_any HH.out.shAt HH.out.n1 2 0 0).mono ?_
  rintro e w1 ⟨rfl, hs1, hk1⟩
  have H1 := hid (HH.out.setSt hs1 hk1)
  have HK1 := hid hk1
  clear hs1 hk1
  go_wp2_with fail
  refine (turn_any H1.out.shAt H1.out.n1 3 1 0).mono ?_
  rintro e w2 ⟨rfl, hs2, hk2⟩
  have H2 := hid (H1.out.setSt hs2 hk2)
  have HK2 := hid hk2
  clear hs2 hk2
  go_wp2_with fail
  go_end0
  exact DidP.at H2.out ((HK1.out.trans HK2.out (fun _ _ h => h)).mono (fun i _ hi => by simp only [List.mem_singleton] at hi; simp [hi]))
end Go.Proofs.Ytambgimfbdecpaa
