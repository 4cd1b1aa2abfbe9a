/- What this text holds: slices.Clone; a leaf, and another node, of lists of its own. -/
import Derived.Test.YtkipigbfbhecjaaN12
namespace Go.Proofs.Ytkipigbfbhecjaa
open Go.RowKit
set_option linter.unusedVariables false
set_option linter.unusedSimpArgs false

theorem Try.info9 : (Try.prog.info? 9).map (fun i => (i.zero, i.size, i.bytes)) = some (some (.string ⟨#[]⟩), 1, 16) := by kernel_rfl
theorem Try.info3 : (Try.prog.info? 3).map (fun i => (i.zero, i.size, i.bytes)) = some (some (.int .i64 0), 1, 8) := by kernel_rfl
theorem Try.info51 : (Try.prog.info? 51).map (fun i => (i.zero, i.size, i.bytes)) = some (some (.agg #[.string ⟨#[]⟩, .int .i64 0, .int .i64 0]), 3, 32) := by kernel_rfl

/-- A slice that was made since. -/
def New (w : World) (a : Option Addr) : Prop := ∀ p, a = some p → w.heap.size ≤ p.block
theorem At.add {w : World} {p : Addr} {cs : List Value} (h : At w (some p) cs) : ∀ j u, cs[j]? = some u → w.cell? (p.add j) = some u := by
  intro j u hu
  rcases h with rfl | ⟨b, o, e, h⟩
  · simp at hu
  · obtain rfl := Option.some.inj e
    rw [Addr.add_mid]
    exact h j u hu
theorem own_at {w : World} {B e size n g c : Nat} {cs : List Value} (h : w.ownsRow B e size (.slice (some ⟨g, 0, none⟩) n c) n cs) : At w (some ⟨g, 0, none⟩) cs ∧ n ≤ c ∧ c ≤ maxLen := by
  refine ⟨.inr ⟨g, 0, rfl, fun j u hu => by have := cells_of_owned h j u hu; rw [Addr.add_mid] at this; exact this⟩, ?_⟩
  rcases h.2 with ⟨h', _⟩ | ⟨g', cap', cur, h', _, _, hnc, hcm, _⟩
  · simp at h'
  · simp only [Value.slice.injEq, Option.some.injEq, Addr.mk.injEq, and_true, true_and] at h'
    obtain ⟨_, rfl⟩ := h'
    exact ⟨hnc, hcm⟩
theorem clone_run {t e size bytes : Nat} {z : Value} (ht : Try.prog.underlying t = some (.slice e)) (hinfo : (Try.prog.info? e).map (fun i => (i.zero, i.size, i.bytes)) = some (some z, size, bytes)) (hzs : z.cells.size = size) (hsz : 0 < size) (hby : bytes ≤ 32)
    {w : World} {p : Addr} {n c : Nat} {cs : List Value} (h : At w (some p) cs) (hl : cs.length = n * size) (hn : n ≤ 1000000) (h1 : ∀ u ∈ cs, u.oneCell' = true) :
    ∃ g c' w', (Builtin.append_ #[t, t] t #[.slice (some ⟨w.heap.size, 0, none⟩) 0 0, .slice (some p) n c]).run Try.prog (w.alloc (.cells #[] e)) = .ok (.slice (some ⟨g, 0, none⟩) n c') w' ∧ At w' (some ⟨g, 0, none⟩) cs ∧ (n ≤ c' ∧ c' ≤ maxLen) ∧ w.heap.size ≤ g ∧ Below w.heap.size w w' := by
  obtain ⟨i, hi, hz0, hz1, hz2⟩ := info_parts hinfo
  have hown0 : (w.alloc (.cells #[] e)).ownsRow w.heap.size e size (.slice (some ⟨w.heap.size, 0, none⟩) 0 0) 0 [] := World.ownsRow_made w #[] 0 (Nat.le_refl _) (by unfold maxLen; omega) (by simp)
  obtain ⟨v', w', hr, ho, hg, hnil⟩ := run_append_own (P := Try.prog) (w.alloc (.cells #[] e)) w.heap.size t t e i _ size bytes ht hi hz0 hz1 hz2 hzs hsz _ 0 [] hown0 p n c cs
      hl (h.later (below_box w _)).add h1 (by unfold maxLen; omega) (by have := Nat.mul_le_mul (show 0 + n ≤ 1000000 by omega) hby; omega) (by simp)
  rw [Nat.zero_add, List.nil_append] at ho
  have hbel := (below_box w (.cells #[] e)).grown hg (by simp) (fun k hk => by simp only [Value.ownBlock, Option.some.injEq] at hk; omega)
  rcases ho.2 with ⟨e1, _⟩ | ⟨g, cap, cur, e1, _⟩
  · have := hnil.1 e1
    simp at this
  · subst e1
    obtain ⟨h2, h3, h4⟩ := own_at ho
    exact ⟨g, cap, w', hr, h2, ⟨h3, h4⟩, (ho.lt g rfl).1, hbel⟩

theorem nil22 (c : Nat) (w : World) : (binOp .eql 22 (.slice none 0 c) (.slice none 0 0)).run Try.prog w = .ok (.bool true) w := by kernel_rfl
theorem some22 (p : Addr) (n c : Nat) (w : World) : (binOp .eql 22 (.slice (some p) n c) (.slice none 0 0)).run Try.prog w = .ok (.bool false) w := by kernel_rfl
set_option maxRecDepth 100000 in
set_option maxHeartbeats 1000000 in
theorem clonek_any {w : World} {a : Option Addr} {l : List ByteArray} {n c : Nat} (h : At w a (kc l)) (hn : l.length = n) (hl : l.length ≤ 1000000) :
    Calls Try.prog 68 #[.slice a n c] w fun e w' => ∃ a' c', e = .returned (.slice a' n c') ∧ At w' a' (kc l) ∧ (n ≤ c' ∧ c' ≤ maxLen) ∧ New w a' ∧ Below w.heap.size w w' := by
  cases a with
  | none =>
    have e0 : kc l = [] := by
      rcases h with h | ⟨b, o, e, _⟩
      · exact h
      · cases e
    have e1 : l = [] := by
      have := congrArg List.length e0
      rw [kc_length, List.length_nil] at this
      exact List.eq_nil_of_length_eq_zero (by omega)
    subst e1
    obtain rfl : n = 0 := hn.symm
    clear h
    have hnil := nil22 c
    go_enter Try.func68, Try.ntmps68
    go_wp2_with fail
    go_ret
    exact ⟨none, 0, rfl, .inl rfl, ⟨Nat.le_refl _, Nat.zero_le _⟩, (fun p h => by cases h), Below.refl _ _⟩
  | some p =>
    obtain ⟨g, c', w', hrun, hat, hc, hg, hb⟩ := clone_run (c := c) Try.underlying22 Try.info9 rfl (by omega) (by omega) h (n := n) (by rw [kc_length, hn]; omega) (by omega) (kc_oneCell l)
    have HR := hid hrun
    clear h hrun
    have hnil := some22 p n c
    go_enter Try.func68, Try.ntmps68
    go_wp2_with (at_builtin; refine wpList_append_run rfl rfl HR.out ?_)
    go_ret
    exact ⟨_, _, rfl, hat, hc, (fun p h => by obtain rfl := Option.some.inj h; exact hg), hb⟩

theorem nil23 (c : Nat) (w : World) : (binOp .eql 23 (.slice none 0 c) (.slice none 0 0)).run Try.prog w = .ok (.bool true) w := by kernel_rfl
theorem some23 (p : Addr) (n c : Nat) (w : World) : (binOp .eql 23 (.slice (some p) n c) (.slice none 0 0)).run Try.prog w = .ok (.bool false) w := by kernel_rfl
set_option maxRecDepth 100000 in
set_option maxHeartbeats 1000000 in
theorem clonei_any {w : World} {a : Option Addr} {l : List It} {n c : Nat} (h : At w a (ic l)) (hn : l.length = n) (hl : l.length ≤ 1000000) :
    Calls Try.prog 69 #[.slice a n c] w fun e w' => ∃ a' c', e = .returned (.slice a' n c') ∧ At w' a' (ic l) ∧ (n ≤ c' ∧ c' ≤ maxLen) ∧ New w a' ∧ Below w.heap.size w w' := by
  cases a with
  | none =>
    have e0 : ic l = [] := by
      rcases h with h | ⟨b, o, e, _⟩
      · exact h
      · cases e
    have e1 : l = [] := by
      have := congrArg List.length e0
      rw [ic_length, List.length_nil] at this
      exact List.eq_nil_of_length_eq_zero (by omega)
    subst e1
    obtain rfl : n = 0 := hn.symm
    clear h
    have hnil := nil23 c
    go_enter Try.func69, Try.ntmps69
    go_wp2_with fail
    go_ret
    exact ⟨none, 0, rfl, .inl rfl, ⟨Nat.le_refl _, Nat.zero_le _⟩, (fun p h => by cases h), Below.refl _ _⟩
  | some p =>
    obtain ⟨g, c', w', hrun, hat, hc, hg, hb⟩ := clone_run (c := c) Try.underlying23 Try.info51 rfl (by omega) (by omega) h (n := n) (by rw [ic_length, hn]) (by omega) (ic_oneCell l)
    have HR := hid hrun
    clear h hrun
    have hnil := some23 p n c
    go_enter Try.func69, Try.ntmps69
    go_wp2_with (at_builtin; refine wpList_append_run rfl rfl HR.out ?_)
    go_ret
    exact ⟨_, _, rfl, hat, hc, (fun p h => by obtain rfl := Option.some.inj h; exact hg), hb⟩

theorem nil24 (c : Nat) (w : World) : (binOp .eql 24 (.slice none 0 c) (.slice none 0 0)).run Try.prog w = .ok (.bool true) w := by kernel_rfl
theorem some24 (p : Addr) (n c : Nat) (w : World) : (binOp .eql 24 (.slice (some p) n c) (.slice none 0 0)).run Try.prog w = .ok (.bool false) w := by kernel_rfl
set_option maxRecDepth 100000 in
set_option maxHeartbeats 1000000 in
theorem cloned_any {w : World} {a : Option Addr} {l : List Int} {n c : Nat} (h : At w a (dc l)) (hn : l.length = n) (hl : l.length ≤ 1000000) :
    Calls Try.prog 70 #[.slice a n c] w fun e w' => ∃ a' c', e = .returned (.slice a' n c') ∧ At w' a' (dc l) ∧ (n ≤ c' ∧ c' ≤ maxLen) ∧ New w a' ∧ Below w.heap.size w w' := by
  cases a with
  | none =>
    have e0 : dc l = [] := by
      rcases h with h | ⟨b, o, e, _⟩
      · exact h
      · cases e
    have e1 : l = [] := by
      have := congrArg List.length e0
      rw [dc_length, List.length_nil] at this
      exact List.eq_nil_of_length_eq_zero (by omega)
    subst e1
    obtain rfl : n = 0 := hn.symm
    clear h
    have hnil := nil24 c
    go_enter Try.func70, Try.ntmps70
    go_wp2_with fail
    go_ret
    exact ⟨none, 0, rfl, .inl rfl, ⟨Nat.le_refl _, Nat.zero_le _⟩, (fun p h => by cases h), Below.refl _ _⟩
  | some p =>
    obtain ⟨g, c', w', hrun, hat, hc, hg, hb⟩ := clone_run (c := c) Try.underlying24 Try.info3 rfl (by omega) (by omega) h (n := n) (by rw [dc_length, hn]; omega) (by omega) (dc_oneCell l)
    have HR := hid hrun
    clear h hrun
    have hnil := some24 p n c
    go_enter Try.func70, Try.ntmps70
    go_wp2_with (at_builtin; refine wpList_append_run rfl rfl HR.out ?_)
    go_ret
    exact ⟨_, _, rfl, hat, hc, (fun p h => by obtain rfl := Option.some.inj h; exact hg), hb⟩
end Go.Proofs.Ytkipigbfbhecjaa
