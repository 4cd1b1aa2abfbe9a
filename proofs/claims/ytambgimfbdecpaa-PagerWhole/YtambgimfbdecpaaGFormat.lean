/- What this text holds: Format of a pager. -/
import Derived.Test.YtambgimfbdecpaaGOpen
namespace Go.Proofs.Ytambgimfbdecpaa
open Go.RowKit Go.Maps
set_option linter.unusedVariables false

/-- Noughts. -/
def Z512 : List Int := rep 512 0
theorem Z512_length : Z512.length = 512 := rep_length _ _
theorem Z512_byt : Byt Z512 := byt_rep _
/-- What Format answers, and the disk behind it. -/
def DS.format (D : DS) : Int × DS :=
  if ¬ 4 ≤ D.n then (2, D) else if (D.write 0 Z512).1 ≠ 0 then D.write 0 Z512 else if ((D.write 0 Z512).2.write 1 Z512).1 ≠ 0 then (D.write 0 Z512).2.write 1 Z512
  else (((PS.rootless ((D.write 0 Z512).2.write 1 Z512).2).commit ⟨#[]⟩).1, ((PS.rootless ((D.write 0 Z512).2.write 1 Z512).2).commit ⟨#[]⟩).2.D)

theorem Did.trans {w w1 w2 : World} {B db : Nat} {own own1 : List Nat} {r : Int} {D' : DS} {e : Ending} (hk : Kept own w w1) (hn : ∀ k ∈ own1, k ∈ own ∨ w.heap.size ≤ k) (h : Did w1 B db own1 r D' e w2) : Did w B db own r D' e w2 := by
  obtain ⟨rfl, own2, h1, h2, h3⟩ := h
  refine ⟨rfl, own2, h1, hk.trans h2 (fun i hi hm => ?_), fun k hk' => ?_⟩
  · rcases hn i hm with h | h
    · exact h
    · omega
  · rcases h3 k hk' with h | h
    · exact hn k h
    · right; have := hk.size; omega
theorem nought_at (w : World) : BAt (w.alloc (.cells (bc (rep 512 0)).toArray 5)) (some ⟨w.heap.size, 0, none⟩) Z512 := by
  intro j x hx
  refine ⟨_, rfl, ?_⟩
  rw [Addr.add_mid, Nat.zero_add]
  have hh := heap_alloc_new w (.cells (bc (rep 512 0)).toArray 5)
  simp only [World.cell?, hh]
  have : (bc (rep 512 0))[j]? = some (.int .u8 x) := by
    unfold Z512 at hx
    rw [bc, List.getElem?_map, hx]; rfl
  simpa using this
/-- Noughts are written. -/
theorem write_nought {w : World} {B db : Nat} {own : List Nat} {D : DS} (h : Disk w B db own D) (hs : D.steps < 1000) (hw : D.waits.length < 200) (i : Int) :
    Calls Try.prog 21 #[.pointer (some ⟨db, 0, none⟩), .int .i64 i, .slice (some ⟨w.heap.size, 0, none⟩) 512 512] (w.alloc (.cells (bc (rep 512 0)).toArray 5)) (Did w B db own (D.write i Z512).1 (D.write i Z512).2) :=
  (write_all (h.keep (Kept.alloc [] w _) (by simp)) hs hw i (some ⟨w.heap.size, 0, none⟩) 512 512 Z512 (by unfold maxLen; omega) (bytesAt_of (nought_at w) Z512_length) (fun x hx => by cases hx; exact fun hm => by have := (h.lt _ hm).2; simp at this)).mono
    fun _ _ hd => Did.trans (Kept.alloc own w _) (fun k hk => .inl hk) hd
/-- The root is laid by a new pager. -/
theorem lay_first {w : World} {B db : Nat} {own : List Nat} {D : DS} (h : Disk w B db own D) (hy : D.byt) (h4 : 4 ≤ D.n) (hs : D.steps + 3 ≤ 1000) :
    Calls Try.prog 42 #[.pointer (some ⟨db, 0, none⟩)] w fun e w' => ∃ b, e = .returned (.pointer (some ⟨b, 0, none⟩)) ∧ Calls Try.prog 32 #[.pointer (some ⟨b, 0, none⟩), .string ⟨#[]⟩] w' (Did w B db own ((PS.rootless D).commit ⟨#[]⟩).1 ((PS.rootless D).commit ⟨#[]⟩).2.D) := by
  refine (rootless_any h hy h4).mono ?_
  rintro e w1 ⟨b, gs, mb, rfl, h1, ⟨hb1, hb2, hb3⟩, hb⟩
  refine ⟨b, rfl, (commit_at h1 hs ⟨#[]⟩ (by unfold maxLen; decide)).mono ?_⟩
  rintro e w2 ⟨rfl, all', ⟨gs', mb', own', h2, rfl⟩, hk, hn⟩
  refine ⟨rfl, own', h2.disk, ?_, ?_⟩
  · refine (Kept.ofBelow hb own).trans hk (fun i hi hm => ?_)
    simp only [List.mem_cons] at hm
    rcases hm with h | h | h | h
    · omega
    · omega
    · omega
    · exact h
  · intro k hk'
    rcases hn k (by simp [hk']) with h | h
    · simp only [List.mem_cons] at h
      rcases h with h | h | h | h
      · right; omega
      · right; omega
      · right; omega
      · exact .inl h
    · right; have := hb.size; omega

set_option maxRecDepth 100000 in
set_option maxHeartbeats 2000000 in
theorem format_all {w : World} {B db : Nat} {own : List Nat} {D : DS} (h : Disk w B db own D) (hy : D.byt) (hs : D.steps + 5 ≤ 1000) (hw : D.waits.length + 2 ≤ 200) :
    Calls Try.prog 14 #[.pointer (some ⟨db, 0, none⟩)] w (Did w B db own D.format.1 D.format.2) := by
  have HH := hid h
  have hmk := made_bytes
  unfold DS.format
  by_cases h4 : 4 ≤ D.n
  · have HF := hid (fits_yes h h4)
    rw [if_neg (by simpa using h4)]
    have HW0 := hid (write_nought h (by omega) (by omega) 0)
    have hg0 := write_grow D 0 Z512
    have hy0 := hy.write 0 Z512 Z512_byt
    have he0 := write_err D 0 Z512 Z512_length ⟨by omega, by omega⟩
    generalize D.write 0 Z512 = R0 at *
    obtain ⟨r0, D0⟩ := R0
    simp only at *
    rcases he0 with rfl | rfl
    · rw [if_neg (by simp)]
      have HW1 : Hid (∀ (w1 : World) (own1 : List Nat), Disk w1 B db own1 D0 → Kept own w w1 → (∀ k ∈ own1, k ∈ own ∨ w.heap.size ≤ k) → Calls Try.prog 21 #[.pointer (some ⟨db, 0, none⟩), .int .i64 1, .slice (some ⟨w1.heap.size, 0, none⟩) 512 512] (w1.alloc (.cells (bc (rep 512 0)).toArray 5)) (Did w B db own (D0.write 1 Z512).1 (D0.write 1 Z512).2)) :=
        fun w1 own1 h1 hk1 hn1 => (write_nought h1 (by omega) (by omega) 1).mono fun _ _ hd => Did.trans hk1 hn1 hd
      have hg1 := write_grow D0 1 Z512
      have hy1 := hy0.write 1 Z512 Z512_byt
      have he1 := write_err D0 1 Z512 Z512_length ⟨by omega, by omega⟩
      generalize D0.write 1 Z512 = R1 at *
      obtain ⟨r1, D1⟩ := R1
      simp only at *
      rcases he1 with rfl | rfl
      · rw [if_neg (by simp)]
        have HL : Hid (∀ (w1 : World) (own1 : List Nat), Disk w1 B db own1 D1 → Kept own w w1 → (∀ k ∈ own1, k ∈ own ∨ w.heap.size ≤ k) → Calls Try.prog 42 #[.pointer (some ⟨db, 0, none⟩)] w1 fun e w' => ∃ b, e = .returned (.pointer (some ⟨b, 0, none⟩)) ∧ Calls Try.prog 32 #[.pointer (some ⟨b, 0, none⟩), .string ⟨#[]⟩] w' (Did w B db own ((PS.rootless D1).commit ⟨#[]⟩).1 ((PS.rootless D1).commit ⟨#[]⟩).2.D)) := by
          intro w1 own1 h1 hk1 hn1
          refine (lay_first h1 hy1 (by omega) (by omega)).mono ?_
          rintro e w2 ⟨b, rfl, hc⟩
          exact ⟨b, rfl, hc.mono fun _ _ hd => Did.trans hk1 hn1 hd⟩
        generalize (PS.rootless D1).commit ⟨#[]⟩ = C at *
        obtain ⟨c, P1⟩ := C
        simp only at *
        clear h hy hy0 hy1 hg0 hg1 hs hw
        go_enter Try.func14, Try.ntmps14
        go_wp2_with (first | (go_at_call 41; refine HF.out.mono ?_; rintro e wa ⟨rfl, rfl⟩))
        refine wp_loop_rounds 3 ?_
        rw [rounds_succ]
        go_wp2_with fail
        refine HW0.out.mono ?_
        rintro e w1 ⟨rfl, own1, h1, hk1, hn1⟩
        have H1 := hid h1
        have HK1 := hid hk1
        have HN1 := hid hn1
        clear h1 hk1 hn1
        go_wp2_with fail
        rw [rounds_succ]
        go_wp2_with fail
        refine (HW1.out _ own1 H1.out HK1.out HN1.out).mono ?_
        rintro e w2 ⟨rfl, own2, h2, hk2, hn2⟩
        have H2 := hid h2
        have HK2 := hid hk2
        have HN2 := hid hn2
        clear h2 hk2 hn2
        go_wp2_with fail
        rw [rounds_succ]
        go_wp2_with fail
        refine (HL.out _ own2 H2.out HK2.out HN2.out).mono ?_
        rintro e w3 ⟨b, rfl, hc⟩
        have HC := hid hc
        clear hc
        go_wp2_with fail
        refine HC.out.mono ?_
        rintro e w4 ⟨rfl, rest⟩
        have HRest := hid rest
        clear rest
        go_wp2_with fail
        go_ret
        exact ⟨rfl, HRest.out⟩
      · rw [if_pos (by decide)]
        clear h hy hy0 hy1 hg0 hg1 hs hw
        go_enter Try.func14, Try.ntmps14
        go_wp2_with (first | (go_at_call 41; refine HF.out.mono ?_; rintro e wa ⟨rfl, rfl⟩))
        refine wp_loop_rounds 2 ?_
        rw [rounds_succ]
        go_wp2_with fail
        refine HW0.out.mono ?_
        rintro e w1 ⟨rfl, own1, h1, hk1, hn1⟩
        have H1 := hid h1
        have HK1 := hid hk1
        have HN1 := hid hn1
        clear h1 hk1 hn1
        go_wp2_with fail
        rw [rounds_succ]
        go_wp2_with fail
        refine (HW1.out _ own1 H1.out HK1.out HN1.out).mono ?_
        rintro e w2 ⟨rfl, rest⟩
        have HRest := hid rest
        clear rest
        go_wp2_with fail
        go_ret
        exact ⟨rfl, HRest.out⟩
    · rw [if_pos (by decide)]
      clear h hy hy0 hg0 hs hw
      go_enter Try.func14, Try.ntmps14
      go_wp2_with (first | (go_at_call 41; refine HF.out.mono ?_; rintro e wa ⟨rfl, rfl⟩))
      refine wp_loop_rounds 1 ?_
      rw [rounds_succ]
      go_wp2_with fail
      refine HW0.out.mono ?_
      rintro e w1 ⟨rfl, rest⟩
      have HRest := hid rest
      clear rest
      go_wp2_with fail
      go_ret
      exact ⟨rfl, HRest.out⟩
  · rw [if_pos h4]
    have HF := hid (fits_no h h4)
    clear h hy hs hw
    go_enter Try.func14, Try.ntmps14
    go_wp2_with (first | (go_at_call 41; refine HF.out.mono ?_; rintro e wa ⟨rfl, rfl⟩))
    go_ret
    exact ⟨rfl, own, HH.out, Kept.refl _ _, fun k hk => .inl hk⟩
end Go.Proofs.Ytambgimfbdecpaa
