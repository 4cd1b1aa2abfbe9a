/- What this text holds: Read of a pager. -/
import Derived.Test.YtambgimfbdecpaaGCommit
namespace Go.Proofs.Ytambgimfbdecpaa
open Go.RowKit Go.Maps
set_option linter.unusedVariables false

/-- What Read tells: kind, content, error. -/
structure RdV where
  kind : Int
  con : ByteArray
  err : Int
def RdV.val (v : RdV) : Value := .tuple #[.int .i64 v.kind, .string v.con, .int .i64 v.err]
/-- Read. -/
def PS.read (P : PS) (n : Int) : RdV × PS :=
  if P.dead = true then (⟨0, ⟨#[]⟩, 9⟩, P) else if usedP P.st n = false then (⟨0, ⟨#[]⟩, 3⟩, P)
  else if P.D.gone = true then (⟨0, ⟨#[]⟩, 9⟩, { P with dead := true })
  else if isPage (P.D.read n.toNat) then (⟨kindOf (P.D.read n.toNat), strOf (conOf (P.D.read n.toNat)), 0⟩, P) else (⟨0, ⟨#[]⟩, 10⟩, P)

set_option maxHeartbeats 400000 in
theorem heard_zero (b : Nat) (w : World) : Calls Try.prog 65 #[.pointer (some ⟨b, 0, none⟩), .int .i64 0] w fun r w' => r = .returned (.int .i64 0) ∧ w' = w := by
  go_enter Try.func65, Try.ntmps65
  go_wp2
  go_ret
  exact ⟨rfl, rfl⟩

set_option maxRecDepth 100000 in
set_option maxHeartbeats 2000000 in
theorem read_at {w0 : World} {B b db gs mb : Nat} {own : List Nat} {P : PS} (h : PAt w0 B b db gs mb own P) (n : Int) :
    Calls Try.prog 36 #[.pointer (some ⟨b, 0, none⟩), .int .i64 n] w0 (DidP w0 B b db (b :: gs :: mb :: own) (P.read n).1.val (P.read n).2) := by
  obtain ⟨c0, c1, c2, c3, c4, c5⟩ := h.cells
  have HR := hid (ready_any h)
  have HU := hid (isUsed_any h.shAt n)
  have HH := hid h
  unfold PS.read
  by_cases hd : P.dead = true
  · rw [if_pos hd] at HR ⊢
    clear h
    go_enter Try.func36, Try.ntmps36
    go_wp2_with (go_at_call 61; refine HR.out.mono ?_; rintro e wa ⟨rfl, rfl⟩)
    go_ret3
    exact DidP.same HH.out
  · rw [if_neg hd] at HR ⊢
    by_cases hu : usedP P.st n = false
    · rw [if_pos hu]
      rw [hu] at HU
      clear h hu
      go_enter Try.func36, Try.ntmps36
      go_wp2_with (first | (go_at_call 61; refine HR.out.mono ?_; rintro e wa ⟨rfl, rfl⟩) | (go_at_call 62; refine HU.out.mono ?_; rintro e wb ⟨rfl, rfl⟩))
      go_ret3
      exact DidP.same HH.out
    · rw [if_neg hu]
      have hu' : usedP P.st n = true := by simpa using hu
      rw [hu'] at HU
      obtain ⟨k, rfl, hk2, hkl, hk0⟩ := usedP_yes hu'
      have hkn : k < P.D.n := by rw [← h.len]; exact hkl
      rw [Int.toNat_natCast]
      by_cases hgn : P.D.gone = true
      · rw [if_pos hgn]
        have HRd := hid (read_nopower h.disk k hkn hgn)
        clear h hu hu' hk0
        go_enter Try.func36, Try.ntmps36
        go_wp2_with (first | (go_at_call 61; refine HR.out.mono ?_; rintro e wa ⟨rfl, rfl⟩) | (go_at_call 62; refine HU.out.mono ?_; rintro e wb ⟨rfl, rfl⟩) | (go_at_call 70; refine HRd.out.mono ?_; rintro e wc ⟨rfl, rfl⟩))
        refine (heard_any HH.out 9).mono ?_
        rintro e w3 ⟨rfl, h3, hk3⟩
        have H3 := hid h3
        have HK3 := hid (hk3.mono (T := b :: gs :: mb :: own) (fun i _ hi => by simp only [List.mem_singleton] at hi; simp [hi]))
        clear h3 hk3
        go_wp2_with fail
        go_ret3
        exact DidP.at H3.out HK3.out
      · rw [if_neg hgn]
        have hgn' : P.D.gone = false := by simpa using hgn
        have HRd := hid (read_ok h.disk h.byt k hkn hgn')
        have hln := h.disk.good.read k hkn
        have hby := h.byt.read k
        generalize P.D.read k = X at HRd hln hby ⊢
        have HLn := hid hln
        have HBy := hid hby
        clear h hu hu' hk0 hgn hgn' hln hby
        by_cases hp : isPage X
        · rw [if_pos hp]
          have HV := hid (openV_yes hp)
          clear hp
          go_enter Try.func36, Try.ntmps36
          go_wp2_with (first | (go_at_call 61; refine HR.out.mono ?_; rintro e wa ⟨rfl, rfl⟩) | (go_at_call 62; refine HU.out.mono ?_; rintro e wb ⟨rfl, rfl⟩))
          refine HRd.out.mono ?_
          rintro e w1 ⟨g, rfl, hgl, hba, hb1⟩
          have HB := hid hb1
          have HBA := hid hba
          clear hb1 hba hgl
          go_wp2_with (first | (go_at_call 65; refine (heard_zero _ _).mono ?_; rintro e wd ⟨rfl, rfl⟩))
          refine (open_any HBA.out HLn.out HBy.out (Nat.le_refl _) (by unfold maxLen; omega)).mono ?_
          rw [HV.out]
          rintro e w4 ⟨rfl, hb4⟩
          have H4 := hid ((HH.out.later HB.out).later hb4)
          have HB4 := hid (HB.out.trans (hb4.mono HB.out.size))
          clear hb4
          go_wp2_with fail
          go_ret3
          exact DidP.at H4.out (Kept.ofBelow HB4.out _)
        · rw [if_neg hp]
          have HV := hid (openV_no hp)
          clear hp
          go_enter Try.func36, Try.ntmps36
          go_wp2_with (first | (go_at_call 61; refine HR.out.mono ?_; rintro e wa ⟨rfl, rfl⟩) | (go_at_call 62; refine HU.out.mono ?_; rintro e wb ⟨rfl, rfl⟩))
          refine HRd.out.mono ?_
          rintro e w1 ⟨g, rfl, hgl, hba, hb1⟩
          have HB := hid hb1
          have HBA := hid hba
          clear hb1 hba hgl
          go_wp2_with (first | (go_at_call 65; refine (heard_zero _ _).mono ?_; rintro e wd ⟨rfl, rfl⟩))
          refine (open_any HBA.out HLn.out HBy.out (Nat.le_refl _) (by unfold maxLen; omega)).mono ?_
          rw [HV.out]
          rintro e w4 ⟨rfl, hb4⟩
          have H4 := hid ((HH.out.later HB.out).later hb4)
          have HB4 := hid (HB.out.trans (hb4.mono HB.out.size))
          clear hb4
          go_wp2_with fail
          go_ret3
          exact DidP.at H4.out (Kept.ofBelow HB4.out _)
end Go.Proofs.Ytambgimfbdecpaa
