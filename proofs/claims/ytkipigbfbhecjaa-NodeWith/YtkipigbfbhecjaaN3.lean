/- What this text holds: whether all items, and all kids, are right, as the program asks it; Right. -/
import Derived.Test.YtkipigbfbhecjaaN2
namespace Go.Proofs.Ytkipigbfbhecjaa
open Go.RowKit
set_option linter.unusedVariables false
set_option linter.unusedSimpArgs false

theorem all_take {α : Type} (p : α → Bool) (l : List α) (k : Nat) (hk : k < l.length) (h : (l.take k).all p = true) (hp : p l[k] = true) : (l.take (k + 1)).all p = true := by
  rw [List.take_succ_eq_append_getElem hk, List.all_append, h]; simp [hp]
theorem all_no {α : Type} (p : α → Bool) (l : List α) (k : Nat) (hk : k < l.length) (hp : p l[k] = false) : l.all p = false := by
  rw [List.all_eq_false]; exact ⟨l[k], List.getElem_mem hk, by simp [hp]⟩

set_option maxRecDepth 100000 in
set_option maxHeartbeats 400000 in
theorem closi_any (x : It) (p : Addr) (w : World) (hp : w.cell? p = some (.func (.func 29) #[] #[])) :
    Calls Try.prog 56 #[itv x, .pointer (some p)] w fun e w' => e = .returned (.bool (!itemOk x)) ∧ Below w.heap.size w w' := by
  obtain ⟨s, pg, z⟩ := x
  unfold itv
  have hp' := cell_later (below_box w (.cells #[.string s, .int .i64 pg, .int .i64 z] 51)) hp
  go_enter Try.func56, Try.ntmps56
  go_wp2_with (first | (go_at_call 29; refine (item_any ⟨s, pg, z⟩ _).mono ?_; rintro e w1 ⟨rfl, hb⟩))
  go_ret
  exact ⟨rfl, (below_box _ _).trans (hb.mono (below_box _ _).size)⟩

set_option maxRecDepth 100000 in
set_option maxHeartbeats 1000000 in
theorem idxi_any {w : World} {a : Option Addr} {l : List It} {c : Nat} (h : At w a (ic l)) (hl : l.length ≤ maxLen) (p : Addr) (hp : w.cell? p = some (.func (.func 29) #[] #[])) :
    Calls Try.prog 78 #[.slice a l.length c, .func (.func 56) #[] #[.pointer (some p)]] w fun e w' => ∃ z, e = .returned (.int .i64 z) ∧ decide (0 ≤ z) = (!l.all itemOk) ∧ Below w.heap.size w w' := by
  have HH := hid h
  have HP := hid hp
  unfold maxLen at hl
  clear h hp
  go_enter Try.func78, Try.ntmps78
  go_wp2_with fail
  go_loopw [8] (fun i wr => ∃ k : Nat, k ≤ l.length ∧ i = .int .i64 k ∧ (l.take k).all itemOk = true ∧ Below w.heap.size w wr) (fun i _ => l.length - (intOf i).toNat)
  case atStart => exact ⟨0, by omega, rfl, rfl, Below.refl _ _⟩
  case round =>
    obtain ⟨k, hk, rfl, hr, hb⟩ := hrel
    have HR := hid hr
    have HB := hid hb
    clear hr hb
    by_cases hlt : k < l.length
    · obtain ⟨b, o, rfl, hc0, hc1, hc2⟩ := (HH.out.later HB.out).item k hlt
      generalize hx : l[k]'hlt = x at hc0 hc1 hc2
      have HX := hid hx
      clear hx
      go_wp2_with fail
      refine (closi_any ⟨x.val, x.page, x.size⟩ p _ (cell_later HB.out HP.out)).mono ?_
      rintro e w1 ⟨rfl, hb⟩
      have HB1 := hid (HB.out.trans (hb.mono HB.out.size))
      clear hb
      cases hok : itemOk x with
      | true =>
        simp only [Bool.not_true]
        go_wp2_with fail
        go_roundw
        case rel => exact ⟨k + 1, by omega, by go_num, all_take _ _ _ hlt HR.out (by rw [HX.out]; exact hok), HB1.out⟩
        case measure => simp [intOf]; omega
      | false =>
        simp only [Bool.not_false]
        go_wp2_with fail
        go_ret
        exact ⟨_, rfl, by rw [all_no _ _ _ hlt (by rw [HX.out]; exact hok)]; simp, HB1.out⟩
    · have e : k = l.length := by omega
      subst e
      go_wp2_with fail
      go_ret
      refine ⟨_, rfl, ?_, HB.out⟩
      have := HR.out
      rw [List.take_length] at this
      rw [this]; rfl

set_option maxRecDepth 100000 in
set_option maxHeartbeats 400000 in
theorem conti_any {w : World} {a : Option Addr} {l : List It} {c : Nat} (h : At w a (ic l)) (hl : l.length ≤ maxLen) (p : Addr) (hp : w.cell? p = some (.func (.func 29) #[] #[])) :
    Calls Try.prog 55 #[.slice a l.length c, .func (.func 56) #[] #[.pointer (some p)]] w fun e w' => e = .returned (.bool (!l.all itemOk)) ∧ Below w.heap.size w w' := by
  have HI := hid (idxi_any (c := c) h hl p hp)
  clear h hp hl
  go_enter Try.func55, Try.ntmps55
  go_wp2_with fail
  refine HI.out.mono ?_
  rintro e w1 ⟨z, rfl, hz, hb⟩
  have HZ := hid hz
  clear hz
  go_wp2_with fail
  go_ret
  exact ⟨by rw [← HZ.out]; rfl, hb⟩

set_option maxRecDepth 100000 in
set_option maxHeartbeats 400000 in
theorem alli_any {w : World} {a : Option Addr} {l : List It} {n c : Nat} (h : At w a (ic l)) (hl : l.length ≤ maxLen) (hn : l.length = n) :
    Calls Try.prog 28 #[.slice a n c, .func (.func 29) #[] #[]] w fun e w' => e = .returned (.bool (l.all itemOk)) ∧ Below w.heap.size w w' := by
  subst hn
  have HI := hid (conti_any (c := c) (h.later (below_box w (.cells #[.func (.func 29) #[] #[]] 55))) hl ⟨w.heap.size, 0, none⟩ (by simp only [World.cell?, heap_alloc_new w]; rfl))
  clear h hl
  go_enter Try.func28, Try.ntmps28
  go_wp2_with fail
  refine HI.out.mono ?_
  rintro e w1 ⟨rfl, hb⟩
  have HB := hid ((below_box w _).trans (hb.mono (below_box w _).size))
  clear hb HI
  go_wp2_with fail
  go_ret
  exact ⟨by simp, HB.out⟩

set_option maxRecDepth 100000 in
set_option maxHeartbeats 400000 in
theorem closk_any (x : Int) (p : Addr) (w : World) (hp : w.cell? p = some (.func (.func 31) #[] #[])) :
    Calls Try.prog 58 #[.int .i64 x, .pointer (some p)] w fun e w' => e = .returned (.bool (!pageOk x)) ∧ Below w.heap.size w w' := by
  skip
  go_enter Try.func58, Try.ntmps58
  go_wp2_with (first | (go_at_call 31; refine (page_any x _).mono ?_; rintro e w1 ⟨rfl, rfl⟩))
  go_ret
  exact ⟨rfl, Below.refl _ _⟩

set_option maxRecDepth 100000 in
set_option maxHeartbeats 1000000 in
theorem idxk_any {w : World} {a : Option Addr} {l : List Int} {c : Nat} (h : At w a (dc l)) (hl : l.length ≤ maxLen) (p : Addr) (hp : w.cell? p = some (.func (.func 31) #[] #[])) :
    Calls Try.prog 79 #[.slice a l.length c, .func (.func 58) #[] #[.pointer (some p)]] w fun e w' => ∃ z, e = .returned (.int .i64 z) ∧ decide (0 ≤ z) = (!l.all pageOk) ∧ Below w.heap.size w w' := by
  have HH := hid h
  have HP := hid hp
  unfold maxLen at hl
  clear h hp
  go_enter Try.func79, Try.ntmps79
  go_wp2_with fail
  go_loopw [8] (fun i wr => ∃ k : Nat, k ≤ l.length ∧ i = .int .i64 k ∧ (l.take k).all pageOk = true ∧ Below w.heap.size w wr) (fun i _ => l.length - (intOf i).toNat)
  case atStart => exact ⟨0, by omega, rfl, rfl, Below.refl _ _⟩
  case round =>
    obtain ⟨k, hk, rfl, hr, hb⟩ := hrel
    have HR := hid hr
    have HB := hid hb
    clear hr hb
    by_cases hlt : k < l.length
    · obtain ⟨b, o, rfl, hc0⟩ := (HH.out.later HB.out).kid k hlt
      generalize hx : l[k]'hlt = x at hc0
      have HX := hid hx
      clear hx
      go_wp2_with fail
      refine (closk_any x p _ (cell_later HB.out HP.out)).mono ?_
      rintro e w1 ⟨rfl, hb⟩
      have HB1 := hid (HB.out.trans (hb.mono HB.out.size))
      clear hb
      cases hok : pageOk x with
      | true =>
        simp only [Bool.not_true]
        go_wp2_with fail
        go_roundw
        case rel => exact ⟨k + 1, by omega, by go_num, all_take _ _ _ hlt HR.out (by rw [HX.out]; exact hok), HB1.out⟩
        case measure => simp [intOf]; omega
      | false =>
        simp only [Bool.not_false]
        go_wp2_with fail
        go_ret
        exact ⟨_, rfl, by rw [all_no _ _ _ hlt (by rw [HX.out]; exact hok)]; simp, HB1.out⟩
    · have e : k = l.length := by omega
      subst e
      go_wp2_with fail
      go_ret
      refine ⟨_, rfl, ?_, HB.out⟩
      have := HR.out
      rw [List.take_length] at this
      rw [this]; rfl

set_option maxRecDepth 100000 in
set_option maxHeartbeats 400000 in
theorem contk_any {w : World} {a : Option Addr} {l : List Int} {c : Nat} (h : At w a (dc l)) (hl : l.length ≤ maxLen) (p : Addr) (hp : w.cell? p = some (.func (.func 31) #[] #[])) :
    Calls Try.prog 57 #[.slice a l.length c, .func (.func 58) #[] #[.pointer (some p)]] w fun e w' => e = .returned (.bool (!l.all pageOk)) ∧ Below w.heap.size w w' := by
  have HI := hid (idxk_any (c := c) h hl p hp)
  clear h hp hl
  go_enter Try.func57, Try.ntmps57
  go_wp2_with fail
  refine HI.out.mono ?_
  rintro e w1 ⟨z, rfl, hz, hb⟩
  have HZ := hid hz
  clear hz
  go_wp2_with fail
  go_ret
  exact ⟨by rw [← HZ.out]; rfl, hb⟩

set_option maxRecDepth 100000 in
set_option maxHeartbeats 400000 in
theorem allk_any {w : World} {a : Option Addr} {l : List Int} {n c : Nat} (h : At w a (dc l)) (hl : l.length ≤ maxLen) (hn : l.length = n) :
    Calls Try.prog 30 #[.slice a n c, .func (.func 31) #[] #[]] w fun e w' => e = .returned (.bool (l.all pageOk)) ∧ Below w.heap.size w w' := by
  subst hn
  have HI := hid (contk_any (c := c) (h.later (below_box w (.cells #[.func (.func 31) #[] #[]] 57))) hl ⟨w.heap.size, 0, none⟩ (by simp only [World.cell?, heap_alloc_new w]; rfl))
  clear h hl
  go_enter Try.func30, Try.ntmps30
  go_wp2_with fail
  refine HI.out.mono ?_
  rintro e w1 ⟨rfl, hb⟩
  have HB := hid ((below_box w _).trans (hb.mono (below_box w _).size))
  clear hb HI
  go_wp2_with fail
  go_ret
  exact ⟨by simp, HB.out⟩
end Go.Proofs.Ytkipigbfbhecjaa
