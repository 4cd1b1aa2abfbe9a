/- What this text holds: lists of one's own. -/
import Derived.Test.YtpjcpdnolcehcaaGreatDoorM30
namespace Go.Proofs.YtpjcpdnolcehcaaGreatDoor
open Go.RowKit
set_option linter.unusedVariables false
set_option linter.unusedSimpArgs false

set_option maxRecDepth 100000 in
set_option maxHeartbeats 1000000 in
theorem clone_v (w : World) (N : Nat → Prop) (u : Value) (l : List Rw) (h : LAt eV w N u l) (hl : l.length ≤ 100000000) :
    Calls Tryz.prog 66 #[u] w fun e w' => ∃ v, e = .returned v ∧ GO eV w' w.heap.size v l ∧ Below w.heap.size w w' := by
  obtain ⟨a, c, rfl, hc⟩ := h.slice
  have q22 : ∀ (w : World) (a : Option Addr) (n c n' c' : Nat), (binOp .eql 26 (.slice a n c) (.slice none n' c')).run Tryz.prog w = .ok (.bool a.isNone) w := fun w a n c n' c' => Go.Lib.run_eql_slice_nil w _ _ a n c n' c' Tryz.underlying26
  rcases a with _ | ⟨g, o, sp⟩
  · have h0 : l = [] := by
      rcases List.eq_nil_or_concat l with h0 | ⟨_, _, h0⟩
      · exact h0
      · obtain ⟨g, o, c', e, _⟩ := h.at_ (by rw [h0]; simp)
        simp at e
    subst h0
    have HG := hid (GO.nil eV w w.heap.size)
    clear h
    go_enter Tryz.func66, Tryz.ntmps66
    go_wp2_with fail
    go_ret
    exact ⟨_, rfl, HG.out, Below.refl _ _⟩
  · have hm := go_made eV w [] (by simp)
    have hA : Below w.heap.size w (w.alloc (.cells #[] eV.T)) := (Below.refl _ _).alloc (Nat.le_refl _) _
    have hl2 := (h.kept (Kept.ofBelow hA []) (by simp))
    have hsp : l ≠ [] → sp = none := by
      intro h0
      obtain ⟨g', o', c', e, _⟩ := h.at_ h0
      simp at e
      exact e.1.2.2
    by_cases h0 : l = []
    · subst h0
      obtain ⟨i, hi, hz0, hz1, hz2⟩ := info_parts eV.inf
      obtain ⟨v', W, hrun, ho', hg, _, _⟩ := run_append_own_at (P := Tryz.prog) (w.alloc (.cells #[] eV.T)) w.heap.size eV.t eV.t eV.T i _ eV.k eV.by_ eV.ut hi hz0 hz1 hz2 eV.hz eV.hk _ 0 [] hm ⟨g, o, sp⟩ 0 c [] (by simp) (fun j x hx => by simp at hx) (fun u hu => by simp at hu) (by unfold maxLen; omega) (by simp) hA.size
      have HB : Hid (Below w.heap.size w W) := hA.trans ((Below.refl _ _).grown hg hA.size (fun k hk => (World.ownsRow.lt hm k hk).1))
      have HG : Hid (GO eV W w.heap.size v' []) := ho'
      have hrun' : (Builtin.append_ #[26, 26] 26 #[.slice (some ⟨w.heap.size, 0, none⟩) 0 0, .slice (some ⟨g, o, sp⟩) 0 c]).run Tryz.prog (w.alloc (.cells #[] eV.T)) = .ok v' W := hrun
      clear h hm hA hl2 hsp hrun ho' hg hi hz0 hz1 hz2
      go_enter Tryz.func66, Tryz.ntmps66
      go_wp2_with (at_builtin; refine wpList_append_run rfl rfl hrun' ?_)
      go_ret
      exact ⟨_, rfl, HG.out, HB.out⟩
    · obtain ⟨v', W, hrun, ho', hb, hg⟩ := go_more eV hm hA.size hl2.1 (by simp) (by omega) h0
      have HB : Hid (Below w.heap.size w W) := hA.trans hb
      have HG : Hid (GO eV W w.heap.size v' l) := by rw [Hid]; simpa using ho'
      have hrun' : (Builtin.append_ #[26, 26] 26 #[.slice (some ⟨w.heap.size, 0, none⟩) 0 0, .slice (some ⟨g, o, sp⟩) l.length c]).run Tryz.prog (w.alloc (.cells #[] eV.T)) = .ok v' W := hrun
      clear h hm hA hl2 hsp hrun ho' hg hb h0
      go_enter Tryz.func66, Tryz.ntmps66
      go_wp2_with (at_builtin; refine wpList_append_run rfl rfl hrun' ?_)
      go_ret
      exact ⟨_, rfl, HG.out, HB.out⟩
set_option maxRecDepth 100000 in
set_option maxHeartbeats 1000000 in
theorem clone_i (w : World) (N : Nat → Prop) (u : Value) (l : List Int) (h : LAt eI w N u l) (hl : l.length ≤ 100000000) :
    Calls Tryz.prog 64 #[u] w fun e w' => ∃ v, e = .returned v ∧ GO eI w' w.heap.size v l ∧ Below w.heap.size w w' := by
  obtain ⟨a, c, rfl, hc⟩ := h.slice
  have q22 : ∀ (w : World) (a : Option Addr) (n c n' c' : Nat), (binOp .eql 40 (.slice a n c) (.slice none n' c')).run Tryz.prog w = .ok (.bool a.isNone) w := fun w a n c n' c' => Go.Lib.run_eql_slice_nil w _ _ a n c n' c' Tryz.underlying40
  rcases a with _ | ⟨g, o, sp⟩
  · have h0 : l = [] := by
      rcases List.eq_nil_or_concat l with h0 | ⟨_, _, h0⟩
      · exact h0
      · obtain ⟨g, o, c', e, _⟩ := h.at_ (by rw [h0]; simp)
        simp at e
    subst h0
    have HG := hid (GO.nil eI w w.heap.size)
    clear h
    go_enter Tryz.func64, Tryz.ntmps64
    go_wp2_with fail
    go_ret
    exact ⟨_, rfl, HG.out, Below.refl _ _⟩
  · have hm := go_made eI w [] (by simp)
    have hA : Below w.heap.size w (w.alloc (.cells #[] eI.T)) := (Below.refl _ _).alloc (Nat.le_refl _) _
    have hl2 := (h.kept (Kept.ofBelow hA []) (by simp))
    have hsp : l ≠ [] → sp = none := by
      intro h0
      obtain ⟨g', o', c', e, _⟩ := h.at_ h0
      simp at e
      exact e.1.2.2
    by_cases h0 : l = []
    · subst h0
      obtain ⟨i, hi, hz0, hz1, hz2⟩ := info_parts eI.inf
      obtain ⟨v', W, hrun, ho', hg, _, _⟩ := run_append_own_at (P := Tryz.prog) (w.alloc (.cells #[] eI.T)) w.heap.size eI.t eI.t eI.T i _ eI.k eI.by_ eI.ut hi hz0 hz1 hz2 eI.hz eI.hk _ 0 [] hm ⟨g, o, sp⟩ 0 c [] (by simp) (fun j x hx => by simp at hx) (fun u hu => by simp at hu) (by unfold maxLen; omega) (by simp) hA.size
      have HB : Hid (Below w.heap.size w W) := hA.trans ((Below.refl _ _).grown hg hA.size (fun k hk => (World.ownsRow.lt hm k hk).1))
      have HG : Hid (GO eI W w.heap.size v' []) := ho'
      have hrun' : (Builtin.append_ #[40, 40] 40 #[.slice (some ⟨w.heap.size, 0, none⟩) 0 0, .slice (some ⟨g, o, sp⟩) 0 c]).run Tryz.prog (w.alloc (.cells #[] eI.T)) = .ok v' W := hrun
      clear h hm hA hl2 hsp hrun ho' hg hi hz0 hz1 hz2
      go_enter Tryz.func64, Tryz.ntmps64
      go_wp2_with (at_builtin; refine wpList_append_run rfl rfl hrun' ?_)
      go_ret
      exact ⟨_, rfl, HG.out, HB.out⟩
    · obtain ⟨v', W, hrun, ho', hb, hg⟩ := go_more eI hm hA.size hl2.1 (by simp) (by omega) h0
      have HB : Hid (Below w.heap.size w W) := hA.trans hb
      have HG : Hid (GO eI W w.heap.size v' l) := by rw [Hid]; simpa using ho'
      have hrun' : (Builtin.append_ #[40, 40] 40 #[.slice (some ⟨w.heap.size, 0, none⟩) 0 0, .slice (some ⟨g, o, sp⟩) l.length c]).run Tryz.prog (w.alloc (.cells #[] eI.T)) = .ok v' W := hrun
      clear h hm hA hl2 hsp hrun ho' hg hb h0
      go_enter Tryz.func64, Tryz.ntmps64
      go_wp2_with (at_builtin; refine wpList_append_run rfl rfl hrun' ?_)
      go_ret
      exact ⟨_, rfl, HG.out, HB.out⟩
set_option maxRecDepth 100000 in
theorem ownn_any (w : World) (N : Nat → Prop) (u : Value) (l : List Int) (h : LAt eI w N u l) (hl : l.length ≤ 100000000) :
    Calls Tryz.prog 45 #[u] w fun e w' => ∃ a c, e = .returned (.slice a l.length c) ∧ LAt eI w' (w.heap.size ≤ ·) (.slice a l.length c) l ∧ Below w.heap.size w w' := by
  obtain ⟨a, c, rfl, hc⟩ := h.slice
  have C := clone_i w N _ l h hl
  clear h
  go_enter Tryz.func45, Tryz.ntmps45
  go_wp2_with fail
  refine C.mono ?_
  rintro e w2 ⟨v, rfl, hg, hb⟩
  obtain ⟨a', c', rfl⟩ := hg.slice rfl
  have HB := hid hb
  have HL : Hid (LAt eI w2 (w.heap.size ≤ ·) (.slice a' l.length c') l) := by
    refine ⟨hg.gl, fun h0 g hgg => ?_⟩
    rcases hg.2 with ⟨e, _⟩ | ⟨g', c, cur, e, hB, _⟩
    · simp at e; rw [e.1] at hgg; cases hgg
    · simp at e; rw [e.1] at hgg; simp [blk] at hgg; omega
  clear hg hb C
  go_wp2_with fail
  go_ret
  exact ⟨_, _, rfl, HL.out, HB.out⟩
end Go.Proofs.YtpjcpdnolcehcaaGreatDoor
