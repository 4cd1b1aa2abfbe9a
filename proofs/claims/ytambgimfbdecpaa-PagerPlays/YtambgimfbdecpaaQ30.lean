/- What this text holds: Unpin of the document's own pager. -/
import Derived.Test.YtambgimfbdecpaaQ29
namespace Go.Proofs.Ytambgimfbdecpaa
open Go.RowKit
set_option linter.unusedVariables false
set_option linter.unusedSimpArgs false

theorem anyH_three {P : Program} {md : Region.Mode} {ops : Array Oper} {Q : Exit → Act → World → Prop} {S : World → Prop} (i j k : Nat) {fuel : Nat} {listed : Array Bool} {a : Act} {w : World} (hr : Region.ready md ops listed = [i, j, k])
    (h1 : wpOp P ops Q i (fun a' w' => S w' ∧ wpAnyH P md ops Q S fuel (listed.setIfInBounds i true) a' w') a w)
    (h2 : wpOp P ops Q j (fun a' w' => S w' ∧ wpAnyH P md ops Q S fuel (listed.setIfInBounds j true) a' w') a w)
    (h3 : wpOp P ops Q k (fun a' w' => S w' ∧ wpAnyH P md ops Q S fuel (listed.setIfInBounds k true) a' w') a w) : wpAnyH P md ops Q S (fuel + 1) listed a w := by
  refine wpAnyH_all hr (by simp) fun t ht => ?_
  simp only [List.mem_cons, List.not_mem_nil, or_false] at ht
  rcases ht with rfl | rfl | rfl
  · exact h1
  · exact h2
  · exact h3
theorem exec_build0 {a : Act} {w w' : World} {v : Value} {d : Option Tmp} {t ty : Nat} {pos : String} {af : Array Edge} {g : Option (Nat × Bool)}
    (h : (Instr.buildSlice t 0 #[]).run Try.prog w = .ok v w') : (execOp a.eval ⟨d, .buildSlice t 0 #[], ty, pos, af, g⟩).run Try.prog w = .ok (.value v) w' := by
  simp only [execOp, List.map_toArray, List.map_nil]
  exact exec_v h
theorem exec_sliceHi {a : Act} {x y : Operand} {u s : Value} {w : World} {v : Value} {d : Option Tmp} {t ty : Nat} {pos : String} {af : Array Edge} {g : Option (Nat × Bool)} (hx : a.eval x = u) (hy : a.eval y = s)
    (h : (Instr.sliceAt t u none (some s) none).run Try.prog w = .ok v w) : (execOp a.eval ⟨d, .slice t x none (some y) none, ty, pos, af, g⟩).run Try.prog w = .ok (.value v) w := by
  simp only [execOp, Option.map_none, Option.map_some, hx, hy]
  exact exec_v h
theorem exec_sliceLo {a : Act} {x y : Operand} {u s : Value} {w : World} {v : Value} {d : Option Tmp} {t ty : Nat} {pos : String} {af : Array Edge} {g : Option (Nat × Bool)} (hx : a.eval x = u) (hy : a.eval y = s)
    (h : (Instr.sliceAt t u (some s) none none).run Try.prog w = .ok v w) : (execOp a.eval ⟨d, .slice t x (some y) none none, ty, pos, af, g⟩).run Try.prog w = .ok (.value v) w := by
  simp only [execOp, Option.map_none, Option.map_some, hx, hy]
  exact exec_v h
theorem erase_first (g : Int) : ∀ (l : List Int) (k : Nat), k < l.length → l.getD k 0 = g → (∀ j, j < k → l.getD j 0 ≠ g) → l.erase g = l.eraseIdx k ∧ l.count g ≠ 0
  | [], k, h, _, _ => by simp at h
  | x :: l, 0, _, h, _ => by
    have e : x = g := by simpa using h
    subst e
    simp
  | x :: l, k + 1, hk, h, hj => by
    have hx : x ≠ g := by simpa using hj 0 (by omega)
    obtain ⟨e1, e2⟩ := erase_first g l k (by simpa using hk) (by simpa using h) (fun j hjk => by simpa using hj (j + 1) (by omega))
    rw [List.erase_cons_tail (by simpa using hx), e1, List.count_cons_of_ne hx]
    exact ⟨rfl, e2⟩
theorem count_none (g : Int) (l : List Int) (h : ∀ j, j < l.length → l.getD j 0 ≠ g) : l.count g = 0 := by
  rw [List.count_eq_zero]
  intro hm
  obtain ⟨j, hj, e⟩ := List.getElem_of_mem hm
  exact h j hj (by simp [List.getD, List.getElem?_eq_getElem hj, e])

section
variable {w w0 w' : World} {B b c gi gf : Nat} {pv : Value} {own : List Nat} {R : RS}

set_option maxRecDepth 100000 in
set_option maxHeartbeats 4000000 in
theorem runpin_at (h : RAt w B b c gi gf pv own R) (hl : R.pins.length ≤ 1000) (g : Int) : Calls Try.prog 57 #[.pointer (some ⟨b, 0, none⟩), .int .i64 g] w (DidR w B b c (rall b gi gf pv own) (.int .i64 (R.unpin g).1) (R.unpin g).2) := by
  obtain ⟨c0, c1, c2, c3, c4, c5, c6⟩ := h.cells
  obtain ⟨pa, pc, hpv, _⟩ := h.pvSlice
  subst hpv
  have HH := hid h
  clear h
  go_enter Try.func57, Try.ntmps57
  go_wp2
  go_loop [5] (fun q => ∃ k : Nat, k ≤ R.pins.length ∧ q = .int .i64 k ∧ Hid (∀ j, j < k → R.pins.getD j 0 ≠ g)) (fun q => R.pins.length - (intOf q).toNat)
  case atStart => exact ⟨0, Nat.zero_le _, rfl, fun j hj => by omega⟩
  case round =>
    obtain ⟨k, hkn, rfl, HF⟩ := hrel
    by_cases hlt : k < R.pins.length
    · have hlt' : (k : Int) < R.pins.length := by omega
      obtain ⟨gp, cp, e, hp⟩ := HH.out.pinAt k hlt
      simp only [Value.slice.injEq, true_and] at e
      obtain ⟨rfl, rfl⟩ := e
      obtain ⟨p, hpe⟩ : ∃ p, p = R.pins.getD k 0 := ⟨_, rfl⟩
      rw [← hpe] at hp
      have HPE := hid hpe
      clear hpe
      by_cases hpg : p = g
      · subst hpg
        obtain ⟨er, cn⟩ := erase_first p R.pins k hlt HPE.out.symm HF.out
        have hcp : R.pins.length ≤ pc := by
          rcases HH.out.pins.2 with ⟨e, _⟩ | ⟨g, cap, cur, e, _, _, q, _⟩
          · simp at e
          · simp only [Value.slice.injEq, true_and] at e; omega
        obtain ⟨g1, c1', w1, g2, c2', w2, hr1, hr2, ho, hk1, hk2, hg2⟩ := rcut_pin HH.out hl k hlt
        have hpl : (R.pins.eraseIdx k).length = R.pins.length - 1 := by rw [List.length_eraseIdx, if_pos hlt]
        have h7 := HH.out.setPins (pins := R.pins.eraseIdx k) (hk2.mono (by simp)) (by rw [hpl]; exact ho) (.inr hg2)
        rw [hpl] at h7
        have HSt := hid (rsettle_at h7)
        have HE : Hid (R.unpin p = (0, ({ R with pins := R.pins.eraseIdx k } : RS).settle)) := by show R.unpin p = _; unfold RS.unpin; rw [if_neg cn, er]
        have k5 : w.drew.cell? ⟨b, 5, none⟩ = some (.slice (some ⟨gp, 0, none⟩) R.pins.length pc) := c5
        have k5a := (emptyW_kept w).cell c5 (by simp)
        have k5b := hk1.cell c5 (by simp)
        have k5c := hk2.cell c5 (by simp)
        have f5c : w2.frozen? ⟨b, 5, none⟩ = false := by
          have e := hk2.block b (HH.out.lt b (by simp [rall])).2 (by simp)
          simp [World.frozen?, e, HH.out.blk]
        have HD : Hid (∀ w9, RAt w9 B b c gi gf (.slice (some ⟨g2, 0, none⟩) (R.pins.length - 1) c2') own ({ R with pins := R.pins.eraseIdx k } : RS).settle → Kept [gi] (w2.setCell ⟨b, 5, none⟩ (.slice (some ⟨g2, 0, none⟩) (R.pins.length - 1) c2')) w9 →
            DidR w B b c (rall b gi gf (.slice (some ⟨gp, 0, none⟩) R.pins.length pc) own) (.int .i64 (R.unpin p).1) (R.unpin p).2 (.returned (.int .i64 0)) w9) := by
          intro w9 h9 hk9
          rw [HE.out]
          refine ⟨rfl, _, ⟨gi, gf, _, own, h9, rfl⟩, ?_, ?_⟩
          · exact ((hk2.mono (T := rall b gi gf (.slice (some ⟨gp, 0, none⟩) R.pins.length pc) own) (by simp)).trans (Kept.setCell [b] w2 _ _ (by simp)) (fun i _ hi => by simp only [List.mem_singleton] at hi; simp [hi, rall])).trans hk9 (fun i _ hi => by simp only [List.mem_singleton] at hi; simp [hi, rall])
          · intro t ht
            simp only [rall, List.mem_cons, List.mem_append] at ht ⊢
            rcases ht with q | q | q | q | q
            · simp [q]
            · simp [q]
            · simp [q]
            · have e : t = g2 := by simpa [Value.ownBlock] using q
              right; omega
            · simp [q]
        clear h7 ho hk1 hk2 hg2 er cn
        go_wp2_with fail
        refine wp_region_held_drew (S := fun _ => True) (by kernel_rfl) trivial ?_
        intro _
        refine anyH_take 0 ⟨some 24, .move (.tmp 0), _, _, _, none⟩ (.pointer (some ⟨b, 0, none⟩)) rfl rfl (by kernel_rfl) (by kernel_rfl) (by kernel_rfl) (fun _ _ _ h => h) (fun _ _ => rfl) trivial ?_
        simp only [Act.put, List.setIfInBounds_toArray, List.set_cons_zero, List.set_cons_succ]
        refine anyH_take 2 ⟨some 26, .move (.tmp 0), _, _, _, none⟩ (.pointer (some ⟨b, 0, none⟩)) rfl rfl (by kernel_rfl) (by kernel_rfl) (by kernel_rfl) (fun _ _ _ h => h) (fun _ _ => rfl) trivial ?_
        simp only [Act.put, List.setIfInBounds_toArray, List.set_cons_zero, List.set_cons_succ]
        refine anyH_take 3 ⟨some 27, .nilCheck (.tmp 26), _, _, _, none⟩ (.pointer (some ⟨b, 0, none⟩)) rfl rfl (by kernel_rfl) (by kernel_rfl) (by kernel_rfl) (fun _ _ _ h => h) (fun _ _ => rfl) trivial ?_
        simp only [Act.put, List.setIfInBounds_toArray, List.set_cons_zero, List.set_cons_succ]
        refine anyH_take 4 ⟨some 28, .fieldAddr 53 (.tmp 27) 5, _, _, _, none⟩ (.pointer (some ⟨b, 5, none⟩)) rfl rfl (by kernel_rfl) (by kernel_rfl) (by kernel_rfl) (fun _ _ _ h => h) (fun w _ => exec_v (field53f b w)) trivial ?_
        simp only [Act.put, List.setIfInBounds_toArray, List.set_cons_zero, List.set_cons_succ]
        refine anyH_take 6 ⟨some 30, .move (.tmp 5), _, _, _, none⟩ (.int .i64 k) rfl rfl (by kernel_rfl) (by kernel_rfl) (by kernel_rfl) (fun _ _ _ h => h) (fun _ _ => rfl) trivial ?_
        simp only [Act.put, List.setIfInBounds_toArray, List.set_cons_zero, List.set_cons_succ]
        refine anyH_take 9 ⟨some 33, .move (.tmp 0), _, _, _, none⟩ (.pointer (some ⟨b, 0, none⟩)) rfl rfl (by kernel_rfl) (by kernel_rfl) (by kernel_rfl) (fun _ _ _ h => h) (fun _ _ => rfl) trivial ?_
        simp only [Act.put, List.setIfInBounds_toArray, List.set_cons_zero, List.set_cons_succ]
        refine anyH_take 10 ⟨some 34, .nilCheck (.tmp 33), _, _, _, none⟩ (.pointer (some ⟨b, 0, none⟩)) rfl rfl (by kernel_rfl) (by kernel_rfl) (by kernel_rfl) (fun _ _ _ h => h) (fun _ _ => rfl) trivial ?_
        simp only [Act.put, List.setIfInBounds_toArray, List.set_cons_zero, List.set_cons_succ]
        refine anyH_take 11 ⟨some 35, .fieldAddr 53 (.tmp 34) 5, _, _, _, none⟩ (.pointer (some ⟨b, 5, none⟩)) rfl rfl (by kernel_rfl) (by kernel_rfl) (by kernel_rfl) (fun _ _ _ h => h) (fun w _ => exec_v (field53f b w)) trivial ?_
        simp only [Act.put, List.setIfInBounds_toArray, List.set_cons_zero, List.set_cons_succ]
        refine anyH_take 13 ⟨some 37, .move (.tmp 5), _, _, _, none⟩ (.int .i64 k) rfl rfl (by kernel_rfl) (by kernel_rfl) (by kernel_rfl) (fun _ _ _ h => h) (fun _ _ => rfl) trivial ?_
        simp only [Act.put, List.setIfInBounds_toArray, List.set_cons_zero, List.set_cons_succ]
        refine anyH_take 14 ⟨some 38, .binOp .add 3 (.tmp 37) (.const (.int .i64 1)) 3, _, _, _, none⟩ (.int .i64 ((k : Int) + 1)) rfl rfl (by kernel_rfl) (by kernel_rfl) (by kernel_rfl) (fun _ _ _ h => h) (fun w _ => exec_addG rfl (by omega) (by omega)) trivial ?_
        simp only [Act.put, List.setIfInBounds_toArray, List.set_cons_zero, List.set_cons_succ]
        refine anyH_three 1 5 12 (by kernel_rfl) ?_ ?_ ?_
        · refine wpOp_run (o := ⟨some 25, .buildSlice 51 0 #[], _, _, _, none⟩) (v := (.slice (some ⟨w.heap.size, 0, none⟩) 0 0)) (w' := (emptyW w)) rfl rfl (exec_build0 (slice0w w)) ⟨trivial, ?_⟩
          simp only [Act.put, List.setIfInBounds_toArray, List.set_cons_zero, List.set_cons_succ]
          refine anyH_two 5 12 (by kernel_rfl) ?_ ?_
          · refine wpOp_run (o := ⟨some 29, .load 51 (.tmp 28), _, _, _, none⟩) (v := (.slice (some ⟨gp, 0, none⟩) R.pins.length pc)) (w' := (emptyW w)) rfl rfl (exec_v (load51 k5a)) ⟨trivial, ?_⟩
            simp only [Act.put, List.setIfInBounds_toArray, List.set_cons_zero, List.set_cons_succ]
            refine anyH_take 7 ⟨some 31, .slice 51 (.tmp 29) none (some (.tmp 30)) none, _, _, _, none⟩ (.slice (some ⟨gp, 0, none⟩) k pc) rfl rfl (by kernel_rfl) (by kernel_rfl) (by kernel_rfl) (fun _ _ _ h => h) (fun w _ => exec_sliceHi rfl rfl (sliceHi gp R.pins.length pc k w (by omega))) trivial ?_
            simp only [Act.put, List.setIfInBounds_toArray, List.set_cons_zero, List.set_cons_succ]
            refine anyH_two 8 12 (by kernel_rfl) ?_ ?_
            · refine wpOp_run (o := ⟨some 32, .call { callee := .builtin .append, args := #[.tmp 25, .tmp 31], argTypes := #[51, 51] }, _, _, _, none⟩) (v := (.slice (some ⟨g1, 0, none⟩) k c1')) (w' := w1) rfl rfl (exec_append (u := .slice (some ⟨w.heap.size, 0, none⟩) 0 0) (s := .slice (some ⟨gp, 0, none⟩) k pc) rfl rfl hr1) ⟨trivial, ?_⟩
              simp only [Act.put, List.setIfInBounds_toArray, List.set_cons_zero, List.set_cons_succ]
              refine anyH_one 12 ⟨some 36, .load 51 (.tmp 35), _, _, _, none⟩ (.slice (some ⟨gp, 0, none⟩) R.pins.length pc) w1 (by kernel_rfl) rfl rfl (exec_v (load51 k5b)) trivial ?_
              simp only [Act.put, List.setIfInBounds_toArray, List.set_cons_zero, List.set_cons_succ]
              refine anyH_take 15 ⟨some 39, .slice 51 (.tmp 36) (some (.tmp 38)) none none, _, _, _, none⟩ (.slice (some (cutA gp pc k)) (R.pins.length - (k + 1)) (pc - (k + 1))) rfl rfl (by kernel_rfl) (by kernel_rfl) (by kernel_rfl) (fun _ _ _ h => h) (fun w _ => exec_sliceLo rfl rfl (sliceLo gp R.pins.length pc k w (by omega))) trivial ?_
              simp only [Act.put, List.setIfInBounds_toArray, List.set_cons_zero, List.set_cons_succ]
              refine anyH_one 16 ⟨some 40, .call { callee := .builtin .append, args := #[.tmp 32, .tmp 39], argTypes := #[51, 51] }, _, _, _, none⟩ (.slice (some ⟨g2, 0, none⟩) (R.pins.length - 1) c2') w2 (by kernel_rfl) rfl rfl (exec_append (u := .slice (some ⟨g1, 0, none⟩) k c1') (s := .slice (some (cutA gp pc k)) (R.pins.length - (k + 1)) (pc - (k + 1))) rfl rfl hr2) trivial ?_
              simp only [Act.put, List.setIfInBounds_toArray, List.set_cons_zero, List.set_cons_succ]
              refine anyH_one 17 ⟨some 41, .nilCheck (.tmp 24), _, _, _, none⟩ (.pointer (some ⟨b, 0, none⟩)) w2 (by kernel_rfl) rfl rfl rfl trivial ?_
              simp only [Act.put, List.setIfInBounds_toArray, List.set_cons_zero, List.set_cons_succ]
              refine anyH_one 18 ⟨some 42, .fieldAddr 53 (.tmp 41) 5, _, _, _, none⟩ (.pointer (some ⟨b, 5, none⟩)) w2 (by kernel_rfl) rfl rfl (exec_v (field53f b _)) trivial ?_
              simp only [Act.put, List.setIfInBounds_toArray, List.set_cons_zero, List.set_cons_succ]
              refine anyH_oneSkip 19 ⟨none, .store 51 (.tmp 42) (.tmp 40), _, _, _, none⟩ _ (by kernel_rfl) rfl rfl (exec_store51 rfl rfl k5c f5c) trivial ?_
              refine wpAnyH_done (by kernel_rfl) ?_ _
              go_wp2_with (go_at_call 85; refine HSt.out.mono ?_; rintro e w9 ⟨rfl, h9, hk9⟩; have H9 := hid h9; have HK9 := hid hk9; clear h9 hk9)
              go_ret
              exact HD.out _ H9.out HK9.out
            · refine wpOp_run (o := ⟨some 36, .load 51 (.tmp 35), _, _, _, none⟩) (v := (.slice (some ⟨gp, 0, none⟩) R.pins.length pc)) (w' := (emptyW w)) rfl rfl (exec_v (load51 k5a)) ⟨trivial, ?_⟩
              simp only [Act.put, List.setIfInBounds_toArray, List.set_cons_zero, List.set_cons_succ]
              refine anyH_take 15 ⟨some 39, .slice 51 (.tmp 36) (some (.tmp 38)) none none, _, _, _, none⟩ (.slice (some (cutA gp pc k)) (R.pins.length - (k + 1)) (pc - (k + 1))) rfl rfl (by kernel_rfl) (by kernel_rfl) (by kernel_rfl) (fun _ _ _ h => h) (fun w _ => exec_sliceLo rfl rfl (sliceLo gp R.pins.length pc k w (by omega))) trivial ?_
              simp only [Act.put, List.setIfInBounds_toArray, List.set_cons_zero, List.set_cons_succ]
              refine anyH_one 8 ⟨some 32, .call { callee := .builtin .append, args := #[.tmp 25, .tmp 31], argTypes := #[51, 51] }, _, _, _, none⟩ (.slice (some ⟨g1, 0, none⟩) k c1') w1 (by kernel_rfl) rfl rfl (exec_append (u := .slice (some ⟨w.heap.size, 0, none⟩) 0 0) (s := .slice (some ⟨gp, 0, none⟩) k pc) rfl rfl hr1) trivial ?_
              simp only [Act.put, List.setIfInBounds_toArray, List.set_cons_zero, List.set_cons_succ]
              refine anyH_one 16 ⟨some 40, .call { callee := .builtin .append, args := #[.tmp 32, .tmp 39], argTypes := #[51, 51] }, _, _, _, none⟩ (.slice (some ⟨g2, 0, none⟩) (R.pins.length - 1) c2') w2 (by kernel_rfl) rfl rfl (exec_append (u := .slice (some ⟨g1, 0, none⟩) k c1') (s := .slice (some (cutA gp pc k)) (R.pins.length - (k + 1)) (pc - (k + 1))) rfl rfl hr2) trivial ?_
              simp only [Act.put, List.setIfInBounds_toArray, List.set_cons_zero, List.set_cons_succ]
              refine anyH_one 17 ⟨some 41, .nilCheck (.tmp 24), _, _, _, none⟩ (.pointer (some ⟨b, 0, none⟩)) w2 (by kernel_rfl) rfl rfl rfl trivial ?_
              simp only [Act.put, List.setIfInBounds_toArray, List.set_cons_zero, List.set_cons_succ]
              refine anyH_one 18 ⟨some 42, .fieldAddr 53 (.tmp 41) 5, _, _, _, none⟩ (.pointer (some ⟨b, 5, none⟩)) w2 (by kernel_rfl) rfl rfl (exec_v (field53f b _)) trivial ?_
              simp only [Act.put, List.setIfInBounds_toArray, List.set_cons_zero, List.set_cons_succ]
              refine anyH_oneSkip 19 ⟨none, .store 51 (.tmp 42) (.tmp 40), _, _, _, none⟩ _ (by kernel_rfl) rfl rfl (exec_store51 rfl rfl k5c f5c) trivial ?_
              refine wpAnyH_done (by kernel_rfl) ?_ _
              go_wp2_with (go_at_call 85; refine HSt.out.mono ?_; rintro e w9 ⟨rfl, h9, hk9⟩; have H9 := hid h9; have HK9 := hid hk9; clear h9 hk9)
              go_ret
              exact HD.out _ H9.out HK9.out
          · refine wpOp_run (o := ⟨some 36, .load 51 (.tmp 35), _, _, _, none⟩) (v := (.slice (some ⟨gp, 0, none⟩) R.pins.length pc)) (w' := (emptyW w)) rfl rfl (exec_v (load51 k5a)) ⟨trivial, ?_⟩
            simp only [Act.put, List.setIfInBounds_toArray, List.set_cons_zero, List.set_cons_succ]
            refine anyH_take 15 ⟨some 39, .slice 51 (.tmp 36) (some (.tmp 38)) none none, _, _, _, none⟩ (.slice (some (cutA gp pc k)) (R.pins.length - (k + 1)) (pc - (k + 1))) rfl rfl (by kernel_rfl) (by kernel_rfl) (by kernel_rfl) (fun _ _ _ h => h) (fun w _ => exec_sliceLo rfl rfl (sliceLo gp R.pins.length pc k w (by omega))) trivial ?_
            simp only [Act.put, List.setIfInBounds_toArray, List.set_cons_zero, List.set_cons_succ]
            refine anyH_one 5 ⟨some 29, .load 51 (.tmp 28), _, _, _, none⟩ (.slice (some ⟨gp, 0, none⟩) R.pins.length pc) (emptyW w) (by kernel_rfl) rfl rfl (exec_v (load51 k5a)) trivial ?_
            simp only [Act.put, List.setIfInBounds_toArray, List.set_cons_zero, List.set_cons_succ]
            refine anyH_take 7 ⟨some 31, .slice 51 (.tmp 29) none (some (.tmp 30)) none, _, _, _, none⟩ (.slice (some ⟨gp, 0, none⟩) k pc) rfl rfl (by kernel_rfl) (by kernel_rfl) (by kernel_rfl) (fun _ _ _ h => h) (fun w _ => exec_sliceHi rfl rfl (sliceHi gp R.pins.length pc k w (by omega))) trivial ?_
            simp only [Act.put, List.setIfInBounds_toArray, List.set_cons_zero, List.set_cons_succ]
            refine anyH_one 8 ⟨some 32, .call { callee := .builtin .append, args := #[.tmp 25, .tmp 31], argTypes := #[51, 51] }, _, _, _, none⟩ (.slice (some ⟨g1, 0, none⟩) k c1') w1 (by kernel_rfl) rfl rfl (exec_append (u := .slice (some ⟨w.heap.size, 0, none⟩) 0 0) (s := .slice (some ⟨gp, 0, none⟩) k pc) rfl rfl hr1) trivial ?_
            simp only [Act.put, List.setIfInBounds_toArray, List.set_cons_zero, List.set_cons_succ]
            refine anyH_one 16 ⟨some 40, .call { callee := .builtin .append, args := #[.tmp 32, .tmp 39], argTypes := #[51, 51] }, _, _, _, none⟩ (.slice (some ⟨g2, 0, none⟩) (R.pins.length - 1) c2') w2 (by kernel_rfl) rfl rfl (exec_append (u := .slice (some ⟨g1, 0, none⟩) k c1') (s := .slice (some (cutA gp pc k)) (R.pins.length - (k + 1)) (pc - (k + 1))) rfl rfl hr2) trivial ?_
            simp only [Act.put, List.setIfInBounds_toArray, List.set_cons_zero, List.set_cons_succ]
            refine anyH_one 17 ⟨some 41, .nilCheck (.tmp 24), _, _, _, none⟩ (.pointer (some ⟨b, 0, none⟩)) w2 (by kernel_rfl) rfl rfl rfl trivial ?_
            simp only [Act.put, List.setIfInBounds_toArray, List.set_cons_zero, List.set_cons_succ]
            refine anyH_one 18 ⟨some 42, .fieldAddr 53 (.tmp 41) 5, _, _, _, none⟩ (.pointer (some ⟨b, 5, none⟩)) w2 (by kernel_rfl) rfl rfl (exec_v (field53f b _)) trivial ?_
            simp only [Act.put, List.setIfInBounds_toArray, List.set_cons_zero, List.set_cons_succ]
            refine anyH_oneSkip 19 ⟨none, .store 51 (.tmp 42) (.tmp 40), _, _, _, none⟩ _ (by kernel_rfl) rfl rfl (exec_store51 rfl rfl k5c f5c) trivial ?_
            refine wpAnyH_done (by kernel_rfl) ?_ _
            go_wp2_with (go_at_call 85; refine HSt.out.mono ?_; rintro e w9 ⟨rfl, h9, hk9⟩; have H9 := hid h9; have HK9 := hid hk9; clear h9 hk9)
            go_ret
            exact HD.out _ H9.out HK9.out
        · refine wpOp_run (o := ⟨some 29, .load 51 (.tmp 28), _, _, _, none⟩) (v := (.slice (some ⟨gp, 0, none⟩) R.pins.length pc)) (w' := w.drew) rfl rfl (exec_v (load51 k5)) ⟨trivial, ?_⟩
          simp only [Act.put, List.setIfInBounds_toArray, List.set_cons_zero, List.set_cons_succ]
          refine anyH_take 7 ⟨some 31, .slice 51 (.tmp 29) none (some (.tmp 30)) none, _, _, _, none⟩ (.slice (some ⟨gp, 0, none⟩) k pc) rfl rfl (by kernel_rfl) (by kernel_rfl) (by kernel_rfl) (fun _ _ _ h => h) (fun w _ => exec_sliceHi rfl rfl (sliceHi gp R.pins.length pc k w (by omega))) trivial ?_
          simp only [Act.put, List.setIfInBounds_toArray, List.set_cons_zero, List.set_cons_succ]
          refine anyH_two 1 12 (by kernel_rfl) ?_ ?_
          · refine wpOp_run (o := ⟨some 25, .buildSlice 51 0 #[], _, _, _, none⟩) (v := (.slice (some ⟨w.heap.size, 0, none⟩) 0 0)) (w' := (emptyW w)) rfl rfl (exec_build0 (slice0w w)) ⟨trivial, ?_⟩
            simp only [Act.put, List.setIfInBounds_toArray, List.set_cons_zero, List.set_cons_succ]
            refine anyH_two 8 12 (by kernel_rfl) ?_ ?_
            · refine wpOp_run (o := ⟨some 32, .call { callee := .builtin .append, args := #[.tmp 25, .tmp 31], argTypes := #[51, 51] }, _, _, _, none⟩) (v := (.slice (some ⟨g1, 0, none⟩) k c1')) (w' := w1) rfl rfl (exec_append (u := .slice (some ⟨w.heap.size, 0, none⟩) 0 0) (s := .slice (some ⟨gp, 0, none⟩) k pc) rfl rfl hr1) ⟨trivial, ?_⟩
              simp only [Act.put, List.setIfInBounds_toArray, List.set_cons_zero, List.set_cons_succ]
              refine anyH_one 12 ⟨some 36, .load 51 (.tmp 35), _, _, _, none⟩ (.slice (some ⟨gp, 0, none⟩) R.pins.length pc) w1 (by kernel_rfl) rfl rfl (exec_v (load51 k5b)) trivial ?_
              simp only [Act.put, List.setIfInBounds_toArray, List.set_cons_zero, List.set_cons_succ]
              refine anyH_take 15 ⟨some 39, .slice 51 (.tmp 36) (some (.tmp 38)) none none, _, _, _, none⟩ (.slice (some (cutA gp pc k)) (R.pins.length - (k + 1)) (pc - (k + 1))) rfl rfl (by kernel_rfl) (by kernel_rfl) (by kernel_rfl) (fun _ _ _ h => h) (fun w _ => exec_sliceLo rfl rfl (sliceLo gp R.pins.length pc k w (by omega))) trivial ?_
              simp only [Act.put, List.setIfInBounds_toArray, List.set_cons_zero, List.set_cons_succ]
              refine anyH_one 16 ⟨some 40, .call { callee := .builtin .append, args := #[.tmp 32, .tmp 39], argTypes := #[51, 51] }, _, _, _, none⟩ (.slice (some ⟨g2, 0, none⟩) (R.pins.length - 1) c2') w2 (by kernel_rfl) rfl rfl (exec_append (u := .slice (some ⟨g1, 0, none⟩) k c1') (s := .slice (some (cutA gp pc k)) (R.pins.length - (k + 1)) (pc - (k + 1))) rfl rfl hr2) trivial ?_
              simp only [Act.put, List.setIfInBounds_toArray, List.set_cons_zero, List.set_cons_succ]
              refine anyH_one 17 ⟨some 41, .nilCheck (.tmp 24), _, _, _, none⟩ (.pointer (some ⟨b, 0, none⟩)) w2 (by kernel_rfl) rfl rfl rfl trivial ?_
              simp only [Act.put, List.setIfInBounds_toArray, List.set_cons_zero, List.set_cons_succ]
              refine anyH_one 18 ⟨some 42, .fieldAddr 53 (.tmp 41) 5, _, _, _, none⟩ (.pointer (some ⟨b, 5, none⟩)) w2 (by kernel_rfl) rfl rfl (exec_v (field53f b _)) trivial ?_
              simp only [Act.put, List.setIfInBounds_toArray, List.set_cons_zero, List.set_cons_succ]
              refine anyH_oneSkip 19 ⟨none, .store 51 (.tmp 42) (.tmp 40), _, _, _, none⟩ _ (by kernel_rfl) rfl rfl (exec_store51 rfl rfl k5c f5c) trivial ?_
              refine wpAnyH_done (by kernel_rfl) ?_ _
              go_wp2_with (go_at_call 85; refine HSt.out.mono ?_; rintro e w9 ⟨rfl, h9, hk9⟩; have H9 := hid h9; have HK9 := hid hk9; clear h9 hk9)
              go_ret
              exact HD.out _ H9.out HK9.out
            · refine wpOp_run (o := ⟨some 36, .load 51 (.tmp 35), _, _, _, none⟩) (v := (.slice (some ⟨gp, 0, none⟩) R.pins.length pc)) (w' := (emptyW w)) rfl rfl (exec_v (load51 k5a)) ⟨trivial, ?_⟩
              simp only [Act.put, List.setIfInBounds_toArray, List.set_cons_zero, List.set_cons_succ]
              refine anyH_take 15 ⟨some 39, .slice 51 (.tmp 36) (some (.tmp 38)) none none, _, _, _, none⟩ (.slice (some (cutA gp pc k)) (R.pins.length - (k + 1)) (pc - (k + 1))) rfl rfl (by kernel_rfl) (by kernel_rfl) (by kernel_rfl) (fun _ _ _ h => h) (fun w _ => exec_sliceLo rfl rfl (sliceLo gp R.pins.length pc k w (by omega))) trivial ?_
              simp only [Act.put, List.setIfInBounds_toArray, List.set_cons_zero, List.set_cons_succ]
              refine anyH_one 8 ⟨some 32, .call { callee := .builtin .append, args := #[.tmp 25, .tmp 31], argTypes := #[51, 51] }, _, _, _, none⟩ (.slice (some ⟨g1, 0, none⟩) k c1') w1 (by kernel_rfl) rfl rfl (exec_append (u := .slice (some ⟨w.heap.size, 0, none⟩) 0 0) (s := .slice (some ⟨gp, 0, none⟩) k pc) rfl rfl hr1) trivial ?_
              simp only [Act.put, List.setIfInBounds_toArray, List.set_cons_zero, List.set_cons_succ]
              refine anyH_one 16 ⟨some 40, .call { callee := .builtin .append, args := #[.tmp 32, .tmp 39], argTypes := #[51, 51] }, _, _, _, none⟩ (.slice (some ⟨g2, 0, none⟩) (R.pins.length - 1) c2') w2 (by kernel_rfl) rfl rfl (exec_append (u := .slice (some ⟨g1, 0, none⟩) k c1') (s := .slice (some (cutA gp pc k)) (R.pins.length - (k + 1)) (pc - (k + 1))) rfl rfl hr2) trivial ?_
              simp only [Act.put, List.setIfInBounds_toArray, List.set_cons_zero, List.set_cons_succ]
              refine anyH_one 17 ⟨some 41, .nilCheck (.tmp 24), _, _, _, none⟩ (.pointer (some ⟨b, 0, none⟩)) w2 (by kernel_rfl) rfl rfl rfl trivial ?_
              simp only [Act.put, List.setIfInBounds_toArray, List.set_cons_zero, List.set_cons_succ]
              refine anyH_one 18 ⟨some 42, .fieldAddr 53 (.tmp 41) 5, _, _, _, none⟩ (.pointer (some ⟨b, 5, none⟩)) w2 (by kernel_rfl) rfl rfl (exec_v (field53f b _)) trivial ?_
              simp only [Act.put, List.setIfInBounds_toArray, List.set_cons_zero, List.set_cons_succ]
              refine anyH_oneSkip 19 ⟨none, .store 51 (.tmp 42) (.tmp 40), _, _, _, none⟩ _ (by kernel_rfl) rfl rfl (exec_store51 rfl rfl k5c f5c) trivial ?_
              refine wpAnyH_done (by kernel_rfl) ?_ _
              go_wp2_with (go_at_call 85; refine HSt.out.mono ?_; rintro e w9 ⟨rfl, h9, hk9⟩; have H9 := hid h9; have HK9 := hid hk9; clear h9 hk9)
              go_ret
              exact HD.out _ H9.out HK9.out
          · refine wpOp_run (o := ⟨some 36, .load 51 (.tmp 35), _, _, _, none⟩) (v := (.slice (some ⟨gp, 0, none⟩) R.pins.length pc)) (w' := w.drew) rfl rfl (exec_v (load51 k5)) ⟨trivial, ?_⟩
            simp only [Act.put, List.setIfInBounds_toArray, List.set_cons_zero, List.set_cons_succ]
            refine anyH_take 15 ⟨some 39, .slice 51 (.tmp 36) (some (.tmp 38)) none none, _, _, _, none⟩ (.slice (some (cutA gp pc k)) (R.pins.length - (k + 1)) (pc - (k + 1))) rfl rfl (by kernel_rfl) (by kernel_rfl) (by kernel_rfl) (fun _ _ _ h => h) (fun w _ => exec_sliceLo rfl rfl (sliceLo gp R.pins.length pc k w (by omega))) trivial ?_
            simp only [Act.put, List.setIfInBounds_toArray, List.set_cons_zero, List.set_cons_succ]
            refine anyH_one 1 ⟨some 25, .buildSlice 51 0 #[], _, _, _, none⟩ (.slice (some ⟨w.heap.size, 0, none⟩) 0 0) (emptyW w) (by kernel_rfl) rfl rfl (exec_build0 (slice0w w)) trivial ?_
            simp only [Act.put, List.setIfInBounds_toArray, List.set_cons_zero, List.set_cons_succ]
            refine anyH_one 8 ⟨some 32, .call { callee := .builtin .append, args := #[.tmp 25, .tmp 31], argTypes := #[51, 51] }, _, _, _, none⟩ (.slice (some ⟨g1, 0, none⟩) k c1') w1 (by kernel_rfl) rfl rfl (exec_append (u := .slice (some ⟨w.heap.size, 0, none⟩) 0 0) (s := .slice (some ⟨gp, 0, none⟩) k pc) rfl rfl hr1) trivial ?_
            simp only [Act.put, List.setIfInBounds_toArray, List.set_cons_zero, List.set_cons_succ]
            refine anyH_one 16 ⟨some 40, .call { callee := .builtin .append, args := #[.tmp 32, .tmp 39], argTypes := #[51, 51] }, _, _, _, none⟩ (.slice (some ⟨g2, 0, none⟩) (R.pins.length - 1) c2') w2 (by kernel_rfl) rfl rfl (exec_append (u := .slice (some ⟨g1, 0, none⟩) k c1') (s := .slice (some (cutA gp pc k)) (R.pins.length - (k + 1)) (pc - (k + 1))) rfl rfl hr2) trivial ?_
            simp only [Act.put, List.setIfInBounds_toArray, List.set_cons_zero, List.set_cons_succ]
            refine anyH_one 17 ⟨some 41, .nilCheck (.tmp 24), _, _, _, none⟩ (.pointer (some ⟨b, 0, none⟩)) w2 (by kernel_rfl) rfl rfl rfl trivial ?_
            simp only [Act.put, List.setIfInBounds_toArray, List.set_cons_zero, List.set_cons_succ]
            refine anyH_one 18 ⟨some 42, .fieldAddr 53 (.tmp 41) 5, _, _, _, none⟩ (.pointer (some ⟨b, 5, none⟩)) w2 (by kernel_rfl) rfl rfl (exec_v (field53f b _)) trivial ?_
            simp only [Act.put, List.setIfInBounds_toArray, List.set_cons_zero, List.set_cons_succ]
            refine anyH_oneSkip 19 ⟨none, .store 51 (.tmp 42) (.tmp 40), _, _, _, none⟩ _ (by kernel_rfl) rfl rfl (exec_store51 rfl rfl k5c f5c) trivial ?_
            refine wpAnyH_done (by kernel_rfl) ?_ _
            go_wp2_with (go_at_call 85; refine HSt.out.mono ?_; rintro e w9 ⟨rfl, h9, hk9⟩; have H9 := hid h9; have HK9 := hid hk9; clear h9 hk9)
            go_ret
            exact HD.out _ H9.out HK9.out
        · refine wpOp_run (o := ⟨some 36, .load 51 (.tmp 35), _, _, _, none⟩) (v := (.slice (some ⟨gp, 0, none⟩) R.pins.length pc)) (w' := w.drew) rfl rfl (exec_v (load51 k5)) ⟨trivial, ?_⟩
          simp only [Act.put, List.setIfInBounds_toArray, List.set_cons_zero, List.set_cons_succ]
          refine anyH_take 15 ⟨some 39, .slice 51 (.tmp 36) (some (.tmp 38)) none none, _, _, _, none⟩ (.slice (some (cutA gp pc k)) (R.pins.length - (k + 1)) (pc - (k + 1))) rfl rfl (by kernel_rfl) (by kernel_rfl) (by kernel_rfl) (fun _ _ _ h => h) (fun w _ => exec_sliceLo rfl rfl (sliceLo gp R.pins.length pc k w (by omega))) trivial ?_
          simp only [Act.put, List.setIfInBounds_toArray, List.set_cons_zero, List.set_cons_succ]
          refine anyH_two 1 5 (by kernel_rfl) ?_ ?_
          · refine wpOp_run (o := ⟨some 25, .buildSlice 51 0 #[], _, _, _, none⟩) (v := (.slice (some ⟨w.heap.size, 0, none⟩) 0 0)) (w' := (emptyW w)) rfl rfl (exec_build0 (slice0w w)) ⟨trivial, ?_⟩
            simp only [Act.put, List.setIfInBounds_toArray, List.set_cons_zero, List.set_cons_succ]
            refine anyH_one 5 ⟨some 29, .load 51 (.tmp 28), _, _, _, none⟩ (.slice (some ⟨gp, 0, none⟩) R.pins.length pc) (emptyW w) (by kernel_rfl) rfl rfl (exec_v (load51 k5a)) trivial ?_
            simp only [Act.put, List.setIfInBounds_toArray, List.set_cons_zero, List.set_cons_succ]
            refine anyH_take 7 ⟨some 31, .slice 51 (.tmp 29) none (some (.tmp 30)) none, _, _, _, none⟩ (.slice (some ⟨gp, 0, none⟩) k pc) rfl rfl (by kernel_rfl) (by kernel_rfl) (by kernel_rfl) (fun _ _ _ h => h) (fun w _ => exec_sliceHi rfl rfl (sliceHi gp R.pins.length pc k w (by omega))) trivial ?_
            simp only [Act.put, List.setIfInBounds_toArray, List.set_cons_zero, List.set_cons_succ]
            refine anyH_one 8 ⟨some 32, .call { callee := .builtin .append, args := #[.tmp 25, .tmp 31], argTypes := #[51, 51] }, _, _, _, none⟩ (.slice (some ⟨g1, 0, none⟩) k c1') w1 (by kernel_rfl) rfl rfl (exec_append (u := .slice (some ⟨w.heap.size, 0, none⟩) 0 0) (s := .slice (some ⟨gp, 0, none⟩) k pc) rfl rfl hr1) trivial ?_
            simp only [Act.put, List.setIfInBounds_toArray, List.set_cons_zero, List.set_cons_succ]
            refine anyH_one 16 ⟨some 40, .call { callee := .builtin .append, args := #[.tmp 32, .tmp 39], argTypes := #[51, 51] }, _, _, _, none⟩ (.slice (some ⟨g2, 0, none⟩) (R.pins.length - 1) c2') w2 (by kernel_rfl) rfl rfl (exec_append (u := .slice (some ⟨g1, 0, none⟩) k c1') (s := .slice (some (cutA gp pc k)) (R.pins.length - (k + 1)) (pc - (k + 1))) rfl rfl hr2) trivial ?_
            simp only [Act.put, List.setIfInBounds_toArray, List.set_cons_zero, List.set_cons_succ]
            refine anyH_one 17 ⟨some 41, .nilCheck (.tmp 24), _, _, _, none⟩ (.pointer (some ⟨b, 0, none⟩)) w2 (by kernel_rfl) rfl rfl rfl trivial ?_
            simp only [Act.put, List.setIfInBounds_toArray, List.set_cons_zero, List.set_cons_succ]
            refine anyH_one 18 ⟨some 42, .fieldAddr 53 (.tmp 41) 5, _, _, _, none⟩ (.pointer (some ⟨b, 5, none⟩)) w2 (by kernel_rfl) rfl rfl (exec_v (field53f b _)) trivial ?_
            simp only [Act.put, List.setIfInBounds_toArray, List.set_cons_zero, List.set_cons_succ]
            refine anyH_oneSkip 19 ⟨none, .store 51 (.tmp 42) (.tmp 40), _, _, _, none⟩ _ (by kernel_rfl) rfl rfl (exec_store51 rfl rfl k5c f5c) trivial ?_
            refine wpAnyH_done (by kernel_rfl) ?_ _
            go_wp2_with (go_at_call 85; refine HSt.out.mono ?_; rintro e w9 ⟨rfl, h9, hk9⟩; have H9 := hid h9; have HK9 := hid hk9; clear h9 hk9)
            go_ret
            exact HD.out _ H9.out HK9.out
          · refine wpOp_run (o := ⟨some 29, .load 51 (.tmp 28), _, _, _, none⟩) (v := (.slice (some ⟨gp, 0, none⟩) R.pins.length pc)) (w' := w.drew) rfl rfl (exec_v (load51 k5)) ⟨trivial, ?_⟩
            simp only [Act.put, List.setIfInBounds_toArray, List.set_cons_zero, List.set_cons_succ]
            refine anyH_take 7 ⟨some 31, .slice 51 (.tmp 29) none (some (.tmp 30)) none, _, _, _, none⟩ (.slice (some ⟨gp, 0, none⟩) k pc) rfl rfl (by kernel_rfl) (by kernel_rfl) (by kernel_rfl) (fun _ _ _ h => h) (fun w _ => exec_sliceHi rfl rfl (sliceHi gp R.pins.length pc k w (by omega))) trivial ?_
            simp only [Act.put, List.setIfInBounds_toArray, List.set_cons_zero, List.set_cons_succ]
            refine anyH_one 1 ⟨some 25, .buildSlice 51 0 #[], _, _, _, none⟩ (.slice (some ⟨w.heap.size, 0, none⟩) 0 0) (emptyW w) (by kernel_rfl) rfl rfl (exec_build0 (slice0w w)) trivial ?_
            simp only [Act.put, List.setIfInBounds_toArray, List.set_cons_zero, List.set_cons_succ]
            refine anyH_one 8 ⟨some 32, .call { callee := .builtin .append, args := #[.tmp 25, .tmp 31], argTypes := #[51, 51] }, _, _, _, none⟩ (.slice (some ⟨g1, 0, none⟩) k c1') w1 (by kernel_rfl) rfl rfl (exec_append (u := .slice (some ⟨w.heap.size, 0, none⟩) 0 0) (s := .slice (some ⟨gp, 0, none⟩) k pc) rfl rfl hr1) trivial ?_
            simp only [Act.put, List.setIfInBounds_toArray, List.set_cons_zero, List.set_cons_succ]
            refine anyH_one 16 ⟨some 40, .call { callee := .builtin .append, args := #[.tmp 32, .tmp 39], argTypes := #[51, 51] }, _, _, _, none⟩ (.slice (some ⟨g2, 0, none⟩) (R.pins.length - 1) c2') w2 (by kernel_rfl) rfl rfl (exec_append (u := .slice (some ⟨g1, 0, none⟩) k c1') (s := .slice (some (cutA gp pc k)) (R.pins.length - (k + 1)) (pc - (k + 1))) rfl rfl hr2) trivial ?_
            simp only [Act.put, List.setIfInBounds_toArray, List.set_cons_zero, List.set_cons_succ]
            refine anyH_one 17 ⟨some 41, .nilCheck (.tmp 24), _, _, _, none⟩ (.pointer (some ⟨b, 0, none⟩)) w2 (by kernel_rfl) rfl rfl rfl trivial ?_
            simp only [Act.put, List.setIfInBounds_toArray, List.set_cons_zero, List.set_cons_succ]
            refine anyH_one 18 ⟨some 42, .fieldAddr 53 (.tmp 41) 5, _, _, _, none⟩ (.pointer (some ⟨b, 5, none⟩)) w2 (by kernel_rfl) rfl rfl (exec_v (field53f b _)) trivial ?_
            simp only [Act.put, List.setIfInBounds_toArray, List.set_cons_zero, List.set_cons_succ]
            refine anyH_oneSkip 19 ⟨none, .store 51 (.tmp 42) (.tmp 40), _, _, _, none⟩ _ (by kernel_rfl) rfl rfl (exec_store51 rfl rfl k5c f5c) trivial ?_
            refine wpAnyH_done (by kernel_rfl) ?_ _
            go_wp2_with (go_at_call 85; refine HSt.out.mono ?_; rintro e w9 ⟨rfl, h9, hk9⟩; have H9 := hid h9; have HK9 := hid hk9; clear h9 hk9)
            go_ret
            exact HD.out _ H9.out HK9.out
      · have hpg' : (p == g) = false := by rw [beq_eq_false_iff_ne]; exact hpg
        have HNE := hid hpg
        clear hpg
        go_wp2
        go_round
        case rel =>
          refine ⟨k + 1, by omega, by go_num, fun j hj => ?_⟩
          by_cases e : j = k
          · rw [e, ← HPE.out]; exact HNE.out
          · exact HF.out j (by omega)
        case measure => simp [intOf]; omega
    · have hlt' : ¬ (k : Int) < R.pins.length := by omega
      have HE : Hid (R.unpin g = (7, R)) := by show R.unpin g = _; unfold RS.unpin; rw [if_pos (count_none g R.pins (fun j hj => HF.out j (by omega)))]
      go_wp2
      go_ret
      rw [HE.out]
      exact DidR.same HH.out
end
end Go.Proofs.Ytambgimfbdecpaa
