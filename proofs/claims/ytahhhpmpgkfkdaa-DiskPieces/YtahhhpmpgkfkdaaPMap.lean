/- What this text holds: what a crash leaves of bytes; a map of slices beside a disk. -/
import Derived.Test.YtahhhpmpgkfkdaaOpen
import Derived.Maps.GroupsBeside
namespace Go.Proofs.Ytahhhpmpgkfkdaa
open Go.RowKit Go.Maps Go.WideElems
set_option linter.unusedVariables false

/-- Each byte is as it was, or as a write has it there. -/
def Bytes (n : Nat) (ws : List (Int × List Int)) (s0 s : List Int) : Prop := ∀ i, i < n → ∀ k : Nat, k < 512 → (sec s i)[k]? = (sec s0 i)[k]? ∨ ∃ x ∈ ws, x.1 = i ∧ (sec s i)[k]? = x.2[k]?

theorem crash_bytes (n : Nat) (ws : List (Int × List Int)) (s0 : List Int) (hw : ∀ x ∈ ws, 0 ≤ x.1 ∧ x.1 < n ∧ x.2.length = 512) : ∀ (ks : List (Int × Int)) (s : List Int), s.length = n * 512 → Bytes n ws s0 s → Bytes n ws s0 (ks.foldl (keep1 ws) s) := by
  intro ks
  induction ks with
  | nil => intro s _ h; exact h
  | cons q ks ih =>
    intro s hs h
    rw [List.foldl_cons]
    refine ih _ (keep1_length ws s q n hs hw) ?_
    unfold keep1
    split
    · rename_i hq
      obtain ⟨h0, h1, h5⟩ := hw _ (List.getElem_mem hq.2)
      intro i hi k hk
      by_cases e : (ws[q.1.toNat]).1.toNat = i
      · rw [e]
        have hl : ((ws[q.1.toNat]).2.take (keepN q.2)).length = keepN q.2 := by simp [h5, keepN]; omega
        rw [sec_layS_same s n i _ hs hi (by rw [List.length_take]; omega), hl]
        by_cases hlt : k < keepN q.2
        · right
          refine ⟨_, List.getElem_mem hq.2, by omega, ?_⟩
          rw [List.getElem?_append_left (by rw [hl]; exact hlt), List.getElem?_take, if_pos hlt]
        · have e2 : ((ws[q.1.toNat]).2.take (keepN q.2) ++ (sec s i).drop (keepN q.2))[k]? = (sec s i)[k]? := by
            rw [List.getElem?_append_right (by rw [hl]; omega), List.getElem?_drop, hl]
            congr 1
            omega
          rw [e2]
          exact h _ hi k hk
      · rw [sec_layS_other s n _ i _ hs (by omega) (by rw [List.length_take]; omega) (fun h => e h.symm)]
        exact h i hi k hk
    · exact h

section
variable {k : TypeId} {w w' : World} {base : Nat} {e : TypeId} {q : IntKind} {b n : Nat} {D : DataW Unit} {S : List Nat}
theorem ints_keptS {v : Value} {zs : List Int} (h : w.ownsInts base e q v zs) (hk : Kept S w w') (hv : ∀ g, v.ownBlock = some g → g ∉ S) : w'.ownsInts base e q v zs :=
  ⟨ownsRow_block h.1 fun i hi => hk.block i (h.1.lt i hi).2 (hv i hi), h.2⟩
theorem shuns_keptS {No : Nat → Prop} (h : w.Shuns b No) (hk : Kept S w w') (hlt : b < w.heap.size) (hb : b ∉ S) : w'.Shuns b No := fun es clock he => h es clock ((hk.block b hlt hb).symm.trans he)
theorem groups_keptS (h : w.ownsGroups Try.prog k base e q b n D) (hk : Kept S w w') (hb : b ∉ S) (hs : w.Shuns b (· ∈ S)) : w'.ownsGroups Try.prog k base e q b n D := by
  have hlt : b < w.heap.size := by obtain ⟨_, _, h0, _⟩ := h; exact (Array.getElem?_eq_some_iff.1 h0).1
  obtain ⟨es, clock, h0, fit, size, told, above, short, apart⟩ := h
  have over : ∀ x ∈ es.toList, ∀ zs, w.ownsInts base e q x.val zs → w'.ownsInts base e q x.val zs := fun x hx zs ho => ints_keptS ho hk (hs es clock h0 x hx)
  have read : ∀ x ∈ es.toList, ∃ zs, w.ownsInts base e q x.val zs := fun x hx => by
    obtain ⟨_, hr⟩ := fit.reads x hx
    obtain ⟨_, hv, _⟩ := rd_val hr
    obtain ⟨zs, ho, _⟩ := rowElem_inv hv
    exact ⟨zs, ho⟩
  have same := fit.stay (R' := rowElem w' base e q) (fun x hx z hz => by
    obtain ⟨zs, ho, rfl⟩ := rowElem_inv hz
    exact rowElem_mk (over x hx zs ho))
  refine ⟨es, clock, by rw [hk.block b hlt hb]; exact h0, same.1, size, by rw [told, same.2.1], above, ?_, apart⟩
  intro x hx zs ho
  obtain ⟨zs0, ho0⟩ := read x hx
  obtain rfl := ho.unique (over x hx zs0 ho0)
  exact short x hx zs ho0
theorem groups_isMap (h : w.ownsGroups Try.prog k base e q b n D) : IsMap D := by
  obtain ⟨es, clock, hb0, F, hs0, rfl, _⟩ := h
  exact ⟨_, rfl⟩
theorem groups_lt (h : w.ownsGroups Try.prog k base e q b n D) : b < w.heap.size := by
  obtain ⟨es, clock, hb0, _⟩ := h
  exact (Array.getElem?_eq_some_iff.1 hb0).1
end

theorem keyed3 : Keyed Try.prog 3 := int_keyed Try.underlying3
theorem zero40 (w : World) : (zeroValue 40).run Try.prog w = .ok (.slice none 0 0) w := by kernel_rfl
theorem key3 (i : Nat) (hi : i < 4096) : keyOf Try.prog 3 (.int .i64 i) = some (.int .i64 i) := by
  simp [keyOf, Try.underlying3, mapKey, Lit.wf, IntKind.min, IntKind.max, IntKind.signed, IntKind.bits]
  omega

/-- What a look-up hands over is nil, or stands in the map. -/
theorem look_in {w : World} {base b n i : Nat} {D : DataW Unit} {v : Value} (h : w.ownsGroups Try.prog 3 base 5 .u8 b n D) (hi : i < 4096) (hrun : (Instr.lookup 52 (.map (some b)) (.int .i64 i) false).run Try.prog w = .ok v w) :
    v.ownBlock = none ∨ ∃ es clock, w.heap[b]? = some (.map es clock) ∧ ∃ x ∈ es.toList, x.val = v := by
  obtain ⟨es, clock, h0, fit, _⟩ := h
  rcases Maps.fit_look false keyed3 Try.underlying52 (zero40 w) h0 fit (key3 i hi) with ⟨r, _⟩ | ⟨x, _, hx, _, r, _⟩
  · left
    have : v = .slice none 0 0 := by simpa using hrun.symm.trans r
    rw [this]; rfl
  · exact .inr ⟨es, clock, h0, x, hx, by simpa using r.symm.trans hrun⟩
/-- The slice at a key. -/
theorem groups_look {w : World} {base b n : Nat} {D : DataW Unit} (h : w.ownsGroups Try.prog 3 base 5 .u8 b n D) (hn : n < maxLen) (i : Nat) (hi : i < 4096) :
    ∃ v zs, (Instr.lookup 52 (.map (some b)) (.int .i64 i) false).run Try.prog w = .ok v w ∧ D.atKey (.int .i64 i) .nil = rowDatum .u8 v zs ∧ w.ownsInts base 5 .u8 v zs ∧ zs.length ≤ n ∧ w.groupBack Try.prog 52 3 base 5 .u8 b n D (.int .i64 i) (.int .i64 i) v ∧
      (∀ No : Nat → Prop, w.Shuns b No → ∀ g, v.ownBlock = some g → ¬ No g) := by
  obtain ⟨v, zs, h1, h2, h3, h4, h5⟩ := h.at keyed3 Try.underlying52 (zero40 w) hn (key3 i hi)
  refine ⟨v, zs, h1, h2, h3, h4, h5, fun No hs g hg => ?_⟩
  rcases look_in h hi h1 with e | ⟨es, clock, h0, x, hx, e⟩
  · rw [e] at hg; cases hg
  · exact hs es clock h0 x hx g (by rw [e]; exact hg)
end Go.Proofs.Ytahhhpmpgkfkdaa
