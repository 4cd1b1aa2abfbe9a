/- What this text holds: Decode, as the document has it: all kinds. -/
import Derived.Test.YtkipigbfbhecjaaN32
namespace Go.Proofs.Ytkipigbfbhecjaa
open Go.RowKit
set_option linter.unusedVariables false
set_option linter.unusedSimpArgs false

set_option maxRecDepth 100000 in
set_option maxHeartbeats 4000000 in
theorem rdec_none (w : World) (kind : Int) (h1 : kind ≠ 1) (h2 : kind ≠ 2) (s : ByteArray) (hs : s.size ≤ 20000) : Calls Try.prog 20 #[.int .i64 kind, .string s] w (DecP w kind s) := by
  have h1' : (kind != 1) = true := by simp [h1]
  have h2' : (kind != 2) = true := by simp [h2]
  have h3' : (kind == 1) = false := by simp [h1]
  have HE : Hid (∀ leaf : Bool, kind = (if leaf then 1 else 2) → decB leaf s = false) := fun leaf h => by cases leaf <;> simp at h <;> contradiction
  clear h1 h2
  have HX := hid (show ((w.alloc (.cells #[.bool false, .slice none 0 0, .slice none 0 0, .slice none 0 0] 26)).alloc (.cells #[.bool false, .slice none 0 0, .slice none 0 0, .slice none 0 0] 26)).heap[w.heap.size]? = some (.cells #[.bool false, .slice none 0 0, .slice none 0 0, .slice none 0 0] 26 (0, 0)) from (Below.heap_alloc _ _ _ (by simp)).trans (heap_alloc_new w _))
  have HB0 := hid (below_two w (.cells #[.bool false, .slice none 0 0, .slice none 0 0, .slice none 0 0] 26) (.cells #[.bool false, .slice none 0 0, .slice none 0 0, .slice none 0 0] 26))
  go_enter Try.func20, Try.ntmps20
  go_wp2_with fail
  generalize hW : (w.alloc (.cells #[.bool false, .slice none 0 0, .slice none 0 0, .slice none 0 0] 26)).alloc (.cells #[.bool false, .slice none 0 0, .slice none 0 0, .slice none 0 0] 26) = W at HX HB0 ⊢
  have hB : w.heap.size < W.heap.size := by rw [← hW]; simp; omega
  clear hW
  generalize hBe : w.heap.size = B at HX HB0 hB ⊢
  refine (rtake_any s hs 2 (by omega) _).mono ?_
  rintro e w1 ⟨rfl, hb1⟩
  have HZq := hid ((hb1.block B hB).trans HX.out)
  have HBq := hid (HB0.out.trans (hb1.mono (Nat.le_of_lt hB)))
  clear hb1 HX HB0
  obtain ⟨⟨q0, q1, q2, q3⟩, hfq⟩ := cells4 HZq.out
  have fq0 := hfq 0
  have fq1 := hfq 1
  have fq2 := hfq 2
  have fq3 := hfq 3
  clear hfq
  generalize (Rs.of s).after 2 = A at *
  generalize (Rs.of s).cut 2 = C at *
  cases hsh : A.short with
  | true =>
    go_wp2_with fail
    refine bodyPost_ret (results2c rfl rfl (set4 HZq.out _ _ _ _)) rfl ?_
    exact .inr ⟨HE.out, _, rfl, nat_zero _, hBe ▸ (HBq.out.trans (below_set4 (Nat.le_refl _) _ _ _ _))⟩
  | false =>
    go_wp2_with fail
    refine bodyPost_ret (results2c rfl rfl (set4 HZq.out _ _ _ _)) rfl ?_
    exact .inr ⟨HE.out, _, rfl, nat_zero _, hBe ▸ (HBq.out.trans (below_set4 (Nat.le_refl _) _ _ _ _))⟩
theorem rdecode_any (w : World) (kind : Int) (s : ByteArray) (hs : s.size ≤ 20000) : Calls Try.prog 20 #[.int .i64 kind, .string s] w (DecP w kind s) := by
  by_cases h1 : kind = 1
  · subst h1; exact rdec_leaf w s hs
  · by_cases h2 : kind = 2
    · subst h2; exact rdec_other w s hs
    · exact rdec_none w kind h1 h2 s hs

/-- What a kind and a content are: a node, and a number. -/
def decA (kind : Int) (s : ByteArray) : Nd × Int :=
  if kind = 1 ∧ decB true s = true then (readN true s, 0) else if kind = 2 ∧ decB false s = true then (readN false s, 0) else (⟨false, [], [], []⟩, 11)
theorem dec_ans {w w' : World} {kind : Int} {s : ByteArray} {e : Ending} (h : DecP w kind s e w') : (decA kind s).1.small ∧ ∃ v, e = .returned (.tuple #[v, .int .i64 (decA kind s).2]) ∧ NAt w' v (decA kind s).1 ∧ Below w.heap.size w w' := by
  rcases h with ⟨leaf, hk, hd, hs, _, v, he, hv, hb⟩ | ⟨hno, v, he, hv, hb⟩
  · have e1 : decA kind s = (readN leaf s, 0) := by
      unfold decA
      cases leaf with
      | true => rw [if_pos ⟨hk, hd⟩]
      | false => rw [if_neg (by rw [hk]; rintro ⟨h, _⟩; exact absurd h (by decide)), if_pos ⟨hk, hd⟩]
    rw [e1]
    exact ⟨hs, v, he, hv, hb⟩
  · have e1 : decA kind s = (⟨false, [], [], []⟩, 11) := by
      unfold decA
      rw [if_neg (fun h => by rw [hno true h.1] at h; exact absurd h.2 (by decide)), if_neg (fun h => by rw [hno false h.1] at h; exact absurd h.2 (by decide))]
    rw [e1]
    exact ⟨⟨by simp, by simp, by simp⟩, v, he, hv, hb⟩
end Go.Proofs.Ytkipigbfbhecjaa
