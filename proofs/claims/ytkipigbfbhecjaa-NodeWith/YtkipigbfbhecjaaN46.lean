/- What this text holds: slices.Clone and a leaf: rows of one's own. -/
import Derived.Test.YtkipigbfbhecjaaN40
import Derived.Test.YtkipigbfbhecjaaN25
namespace Go.Proofs.Ytkipigbfbhecjaa
open Go.RowKit
set_option linter.unusedVariables false
set_option linter.unusedSimpArgs false

theorem own_base {w : World} {B B' e size n : Nat} {v : Value} {cs : List Value} (h : w.ownsRow B e size v n cs) (hB : B' ≤ B) : w.ownsRow B' e size v n cs := by
  refine ⟨h.1, ?_⟩
  rcases h.2 with h' | ⟨g, cap, cur, h1, h2, r⟩
  · exact .inl h'
  · exact .inr ⟨g, cap, cur, h1, Nat.le_trans hB h2, r⟩
theorem own_later {w w' : World} {B e size n : Nat} {v : Value} {cs : List Value} (h : w.ownsRow B e size v n cs) (hb : Below w.heap.size w w') : w'.ownsRow B e size v n cs :=
  ownsRow_block h (fun k hk => hb.block k (h.lt k hk).2)
theorem clone_run2 {t e size bytes : Nat} {z : Value} (ht : Try.prog.underlying t = some (.slice e)) (hinfo : (Try.prog.info? e).map (fun i => (i.zero, i.size, i.bytes)) = some (some z, size, bytes)) (hzs : z.cells.size = size) (hsz : 0 < size) (hby : bytes ≤ 32)
    {w : World} {p : Addr} {n c : Nat} {cs : List Value} (h : At w (some p) cs) (hl : cs.length = n * size) (hn : n ≤ 1000000) (h1 : ∀ u ∈ cs, u.oneCell' = true) :
    ∃ v' w', (Builtin.append_ #[t, t] t #[.slice (some ⟨w.heap.size, 0, none⟩) 0 0, .slice (some p) n c]).run Try.prog (w.alloc (.cells #[] e)) = .ok v' w' ∧ w'.ownsRow w.heap.size e size v' n cs ∧ Below w.heap.size w w' := by
  obtain ⟨i, hi, hz0, hz1, hz2⟩ := info_parts hinfo
  have hown0 : (w.alloc (.cells #[] e)).ownsRow w.heap.size e size (.slice (some ⟨w.heap.size, 0, none⟩) 0 0) 0 [] := World.ownsRow_made w #[] 0 (Nat.le_refl _) (by unfold maxLen; omega) (by simp)
  obtain ⟨v', w', hr, ho, hg, hnil⟩ := run_append_own (P := Try.prog) (w.alloc (.cells #[] e)) w.heap.size t t e i _ size bytes ht hi hz0 hz1 hz2 hzs hsz _ 0 [] hown0 p n c cs
      hl (h.later (below_box w _)).add h1 (by unfold maxLen; omega) (by have := Nat.mul_le_mul (show 0 + n ≤ 1000000 by omega) hby; omega) (by simp)
  rw [Nat.zero_add, List.nil_append] at ho
  exact ⟨v', w', hr, ho, (below_box w (.cells #[] e)).grown hg (by simp) (fun k hk => by simp only [Value.ownBlock, Option.some.injEq] at hk; omega)⟩

set_option maxRecDepth 100000 in
set_option maxHeartbeats 1000000 in
theorem clonek_own {w : World} {a : Option Addr} {l : List ByteArray} {n c : Nat} (h : At w a (kc l)) (hn : l.length = n) (hl : l.length ≤ 1000000) :
    Calls Try.prog 68 #[.slice a n c] w fun e w' => ∃ v, e = .returned v ∧ w'.ownsRow w.heap.size 9 1 v n (kc l) ∧ Below w.heap.size w w' := by
  cases a with
  | none =>
    have e0 : kc l = [] := by
      rcases h with h | ⟨b, o, e, _⟩
      · exact h
      · cases e
    have e1 : l = [] := by
      have := congrArg List.length e0
      rw [kc_length, List.length_nil] at this
      exact List.eq_nil_of_length_eq_zero (by omega)
    subst e1
    obtain rfl : n = 0 := hn.symm
    clear h
    have hnil := nil22 c
    go_enter Try.func68, Try.ntmps68
    go_wp2_with fail
    go_ret
    exact ⟨_, rfl, World.ownsRow_nil _ _ _ _, Below.refl _ _⟩
  | some p =>
    obtain ⟨v', w', hrun, ho, hb⟩ := clone_run2 (c := c) Try.underlying22 Try.info9 rfl (by omega) (by omega) h (n := n) (by rw [kc_length, hn]; omega) (by omega) (kc_oneCell l)
    have HR := hid hrun
    have HO := hid ho
    have HB := hid hb
    clear h hrun ho hb
    have hnil := some22 p n c
    go_enter Try.func68, Try.ntmps68
    go_wp2_with (at_builtin; refine wpList_append_run rfl rfl HR.out ?_)
    go_ret
    exact ⟨_, rfl, HO.out, HB.out⟩

set_option maxRecDepth 100000 in
set_option maxHeartbeats 1000000 in
theorem clonei_own {w : World} {a : Option Addr} {l : List It} {n c : Nat} (h : At w a (ic l)) (hn : l.length = n) (hl : l.length ≤ 1000000) :
    Calls Try.prog 69 #[.slice a n c] w fun e w' => ∃ v, e = .returned v ∧ w'.ownsRow w.heap.size 51 3 v n (ic l) ∧ Below w.heap.size w w' := by
  cases a with
  | none =>
    have e0 : ic l = [] := by
      rcases h with h | ⟨b, o, e, _⟩
      · exact h
      · cases e
    have e1 : l = [] := by
      have := congrArg List.length e0
      rw [ic_length, List.length_nil] at this
      exact List.eq_nil_of_length_eq_zero (by omega)
    subst e1
    obtain rfl : n = 0 := hn.symm
    clear h
    have hnil := nil23 c
    go_enter Try.func69, Try.ntmps69
    go_wp2_with fail
    go_ret
    exact ⟨_, rfl, World.ownsRow_nil _ _ _ _, Below.refl _ _⟩
  | some p =>
    obtain ⟨v', w', hrun, ho, hb⟩ := clone_run2 (c := c) Try.underlying23 Try.info51 rfl (by omega) (by omega) h (n := n) (by rw [ic_length, hn]) (by omega) (ic_oneCell l)
    have HR := hid hrun
    have HO := hid ho
    have HB := hid hb
    clear h hrun ho hb
    have hnil := some23 p n c
    go_enter Try.func69, Try.ntmps69
    go_wp2_with (at_builtin; refine wpList_append_run rfl rfl HR.out ?_)
    go_ret
    exact ⟨_, rfl, HO.out, HB.out⟩

set_option maxRecDepth 100000 in
set_option maxHeartbeats 1000000 in
theorem leaf_own {w : World} {ka ia : Option Addr} {keys : List ByteArray} {items : List It} {kn kp en ep : Nat} (hk : At w ka (kc keys)) (hi : At w ia (ic items)) (hkn : keys.length = kn) (hen : items.length = en) (hk7 : kn ≤ 70001) (hi7 : en ≤ 70001) :
    Calls Try.prog 45 #[.slice ka kn kp, .slice ia en ep] w fun e w' => ∃ vk vi, e = .returned (.agg #[.bool true, vk, vi, .slice none 0 0]) ∧ w'.ownsRow w.heap.size 9 1 vk kn (kc keys) ∧ w'.ownsRow w.heap.size 51 3 vi en (ic items) ∧ Below w.heap.size w w' := by
  have HK := hid hk
  have HI := hid hi
  have Hkn := hid hkn
  have Hen := hid hen
  clear hk hi hkn hen
  have HB0 := hid (below_box w (.cells #[.bool false, .slice none 0 0, .slice none 0 0, .slice none 0 0] 26))
  have HX := hid (heap_alloc_new w (.cells #[.bool false, .slice none 0 0, .slice none 0 0, .slice none 0 0] 26))
  have HSz : Hid (w.heap.size < (w.alloc (.cells #[.bool false, .slice none 0 0, .slice none 0 0, .slice none 0 0] 26)).heap.size) := by unfold Hid; simp
  go_enter Try.func45, Try.ntmps45
  go_wp2_with fail
  generalize w.alloc (.cells #[.bool false, .slice none 0 0, .slice none 0 0, .slice none 0 0] 26) = W at HB0 HX HSz ⊢
  refine (clonek_own (HK.out.later HB0.out) Hkn.out (by have := Hkn.out; omega)).mono ?_
  rintro e w1 ⟨vk, rfl, hk1, hb1⟩
  have HK1 := hid hk1
  have HB1 := hid hb1
  clear hk1 hb1
  go_wp2_with fail
  refine (clonei_own ((HI.out.later HB0.out).later HB1.out) Hen.out (by have := Hen.out; omega)).mono ?_
  rintro e w2 ⟨vi, rfl, hi2, hb2⟩
  have HK2 := hid (own_base (own_later HK1.out hb2) (Nat.le_of_lt HSz.out))
  have HI2 := hid (own_base hi2 (Nat.le_trans (Nat.le_of_lt HSz.out) HB1.out.size))
  have HB2 := hid (HB1.out.trans (hb2.mono HB1.out.size))
  clear hi2 hb2 HK1
  have HX2 := hid ((HB2.out.block w.heap.size (by have := HX.out; rw [Array.getElem?_eq_some_iff] at this; exact this.1)).trans HX.out)
  obtain ⟨⟨c0, c1, c2, c3⟩, hf⟩ := cells4 HX2.out
  have f0 := hf 0
  have f1 := hf 1
  have f2 := hf 2
  have f3 := hf 3
  clear hf
  obtain ⟨vka, vkc, e1, _⟩ := own_parts HK2.out
  obtain ⟨via, vic, e2, _⟩ := own_parts HI2.out
  subst e1
  subst e2
  generalize hR : w.heap.size = R at *
  go_wp2_with fail
  refine bodyPost_ret (results_cell26 rfl rfl (set4 HX2.out _ _ _ _)) rfl ?_
  have hkz := kept_set4 w2 R (.bool true) (.slice vka kn vkc) (.slice via en vic) (.slice none 0 0)
  have hSz : ∀ k ∈ [R], ∀ cs t m, w2.heap[k]? = some (.cells cs t m) → t = 26 := fun k hk cs t m hh => by
    simp only [List.mem_singleton] at hk
    subst hk
    rw [HX2.out] at hh
    simp at hh
    exact hh.2.1.symm
  refine ⟨_, _, rfl, hR ▸ own_kept hkz HK2.out (fun k hm cs t m hh => by rw [hSz k hm cs t m hh]; decide), hR ▸ own_kept hkz HI2.out (fun k hm cs t m hh => by rw [hSz k hm cs t m hh]; decide), ?_⟩
  rw [hR]
  exact (HB0.out.trans (HB2.out.mono (Nat.le_of_lt HSz.out))).trans (below_set4 (Nat.le_refl _) _ _ _ _)
end Go.Proofs.Ytkipigbfbhecjaa
