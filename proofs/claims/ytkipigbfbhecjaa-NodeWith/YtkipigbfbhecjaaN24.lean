/- What this text holds: a node that is read out of a content: what lies in memory meanwhile. -/
import Derived.Test.YtkipigbfbhecjaaN16
import Derived.Test.YtkipigbfbhecjaaN23
namespace Go.Proofs.Ytkipigbfbhecjaa
open Go.RowKit
set_option linter.unusedVariables false
set_option linter.unusedSimpArgs false

/-- Blocks of other types have not turned. -/
def OthT (t : TypeId) (w w' : World) : Prop := ∀ (k : Nat) (cs : Array Value) (t' : TypeId) (m : Nat × Nat), t' ≠ t → w.heap[k]? = some (Obj.cells cs t' m) → w'.heap[k]? = some (Obj.cells cs t' m)
theorem OthT.own {t e : TypeId} {w w' : World} (h : OthT t w w') (hne : e ≠ t) {B size : Nat} {v : Value} {n : Nat} {xs : List Value} (ho : w.ownsRow B e size v n xs) : w'.ownsRow B e size v n xs := by
  refine ⟨ho.1, ?_⟩
  rcases ho.2 with h' | ⟨g, cap, cur, rfl, hg, hgg, r⟩
  · exact .inl h'
  · exact .inr ⟨g, cap, cur, rfl, hg, h g cur e _ hne hgg, r⟩
theorem OthT.grown {t : TypeId} {w w' : World} {B size : Nat} {v : Value} {n : Nat} {xs : List Value} (ho : w.ownsRow B t size v n xs) (hg : w.grownBy w' v.ownBlock) : OthT t w w' := by
  intro k cs t' m h2 h3
  have hlt : k < w.heap.size := by
    have := h3
    rw [Array.getElem?_eq_some_iff] at this
    exact this.1
  rw [hg.block k hlt ?_]
  · exact h3
  · intro e
    rcases ho.2 with ⟨e1, _⟩ | ⟨g, cap, cur, e1, _, e2, _⟩
    · subst e1; simp [Value.ownBlock] at e
    · subst e1
      simp only [Value.ownBlock, Option.some.injEq] at e
      subst e
      rw [h3] at e2
      simp at e2
      exact h2 e2.2.1
theorem own_kept {w w' : World} {S : List Nat} (h : Kept S w w') {B e size : Nat} {v : Value} {n : Nat} {xs : List Value} (ho : w.ownsRow B e size v n xs) (hS : ∀ k ∈ S, ∀ cs t m, w.heap[k]? = some (.cells cs t m) → t ≠ e) : w'.ownsRow B e size v n xs := by
  refine ownsRow_block ho fun k hk => h.block k (ho.lt k hk).2 fun hm => ?_
  rcases ho.2 with ⟨e1, _⟩ | ⟨g, cap, cur, e1, _, e2, _⟩
  · subst e1; simp [Value.ownBlock] at hk
  · subst e1
    simp only [Value.ownBlock, Option.some.injEq] at hk
    subst hk
    exact hS _ hm _ _ _ e2 rfl
theorem slice_any {w : World} {B e size : Nat} {v : Value} {n : Nat} {xs : List Value} (h : w.ownsRow B e size v n xs) : ∃ a c, v = .slice a n c ∧ n ≤ c ∧ c ≤ maxLen := by
  rcases h.2 with ⟨h1, h2⟩ | ⟨g, cap, cur, h1, _, _, h3, h4, _⟩
  · exact ⟨none, 0, by rw [h1, h2], by omega, Nat.zero_le _⟩
  · exact ⟨_, _, h1, h3, h4⟩

/-- The node under way, its content's rest, and the place of the answer. -/
structure Rd (w : World) (B r4 b5 b6 : Nat) (vk vi vd : Value) (r : Rs) (n : Nd) : Prop where
  rs : RsAt w b5 r
  nd : w.heap[b6]? = some (.cells #[.bool n.leaf, vk, vi, vd] 26 (0, 0))
  ok : w.ownsRow B 9 1 vk n.keys.length (kc n.keys)
  oi : w.ownsRow B 51 3 vi n.items.length (ic n.items)
  od : w.ownsRow B 3 1 vd n.kids.length (dc n.kids)
  z : w.heap[r4]? = some (.cells #[.bool false, .slice none 0 0, .slice none 0 0, .slice none 0 0] 26 (0, 0))
  ne : b6 ≠ r4
  h4 : B ≤ r4
  h5 : B ≤ b5
  h6 : B ≤ b6
theorem Rd.read {w w' : World} {B r4 b5 b6 : Nat} {vk vi vd : Value} {r r' : Rs} {n : Nd} (h : Rd w B r4 b5 b6 vk vi vd r n) (hk : Kept [b5] w w') (hr : RsAt w' b5 r') : Rd w' B r4 b5 b6 vk vi vd r' n := by
  have hb : ∀ k ∈ [b5], ∀ cs t m, w.heap[k]? = some (.cells cs t m) → t = 89 := fun k hk cs t m hh => by
    simp only [List.mem_singleton] at hk
    subst hk
    have := h.rs
    unfold RsAt at this
    rw [this] at hh
    simp at hh
    exact hh.2.1.symm
  have hne : ∀ k cs m, w.heap[k]? = some (.cells cs 26 m) → k ∉ [b5] := fun k cs m hh hm => by
    have := hb k hm _ _ _ hh
    cases this
  have hlt : ∀ k o, w.heap[k]? = some o → k < w.heap.size := fun k o hh => by
    rw [Array.getElem?_eq_some_iff] at hh
    exact hh.1
  refine { rs := hr, nd := ?_, ok := own_kept hk h.ok ?_, oi := own_kept hk h.oi ?_, od := own_kept hk h.od ?_, z := ?_, ne := h.ne, h4 := h.h4, h5 := h.h5, h6 := h.h6 }
  · exact (hk.block b6 (hlt _ _ h.nd) (hne _ _ _ h.nd)).trans h.nd
  · intro k hm cs t m hh; rw [hb k hm cs t m hh]; decide
  · intro k hm cs t m hh; rw [hb k hm cs t m hh]; decide
  · intro k hm cs t m hh; rw [hb k hm cs t m hh]; decide
  · exact (hk.block r4 (hlt _ _ h.z) (hne _ _ _ h.z)).trans h.z

theorem rd_push1 {w : World} {B r4 b5 b6 : Nat} {vk vi vd : Value} {r : Rs} {n : Nd} (h : Rd w B r4 b5 b6 vk vi vd r n) (hBw : B ≤ w.heap.size) (x : ByteArray) (hl : n.keys.length ≤ 69999) :
    ∃ v' w', w.cell? ⟨b6, 1, none⟩ = some vk ∧ (w.alloc (.cells #[.string x] 9)).cell? ⟨b6, 1, none⟩ = some vk ∧ (Builtin.append_ #[22, 22] 22 #[vk, .slice (some ⟨w.heap.size, 0, none⟩) 1 1]).run Try.prog (w.alloc (.cells #[.string x] 9)) = .ok v' w' ∧
      (∃ a n c, v' = .slice a n c) ∧ w'.cell? ⟨b6, 1, none⟩ = some vk ∧ w'.frozen? ⟨b6, 1, none⟩ = false ∧ Rd (w'.setCell ⟨b6, 1, none⟩ v') B r4 b5 b6 v' vi vd r { n with keys := n.keys ++ [x] } ∧ Below B w (w'.setCell ⟨b6, 1, none⟩ v') := by
  have hlt : ∀ (w : World) k o, w.heap[k]? = some o → k < w.heap.size := fun w k o hh => by
    rw [Array.getElem?_eq_some_iff] at hh
    exact hh.1
  obtain ⟨i, hi, hz0, hz1, hz2⟩ := info_parts Try.info9
  have hal : (w.alloc (.cells #[.string x] 9)).heap[w.heap.size]? = some (.cells #[.string x] 9 (0, 0)) := heap_alloc_new _ _
  have hA : Rd (w.alloc (.cells #[.string x] 9)) B r4 b5 b6 vk vi vd r n :=
    { rs := (Below.heap_alloc _ _ _ h.rs.lt).trans h.rs, nd := (Below.heap_alloc _ _ _ (hlt _ _ _ h.nd)).trans h.nd, ok := World.ownsRow.alloc h.ok _, oi := World.ownsRow.alloc h.oi _, od := World.ownsRow.alloc h.od _, z := (Below.heap_alloc _ _ _ (hlt _ _ _ h.z)).trans h.z, ne := h.ne, h4 := h.h4, h5 := h.h5, h6 := h.h6 }
  obtain ⟨v', w', hr, ho, hg, _, _⟩ := run_append_own_at (P := Try.prog) (w.alloc (.cells #[.string x] 9)) B 22 22 9 i _ 1 16 Try.underlying22 hi hz0 hz1 hz2 rfl (by omega) _ n.keys.length (kc n.keys) hA.ok
    ⟨w.heap.size, 0, none⟩ 1 1 [.string x] rfl (fun j u hu => by
      rw [Addr.add_mid, Nat.zero_add]
      simp only [World.cell?, hal]
      simpa using hu) (fun u hu => by simp only [List.mem_cons, List.not_mem_nil, or_false] at hu; subst hu; rfl) (by unfold maxLen; omega) (by omega) (by simp; omega)
  have hO := OthT.grown hA.ok hg
  have e1 : kc n.keys ++ [.string x] = kc (n.keys ++ [x]) := by simp [kc]
  have e2 : n.keys.length + 1 = (n.keys ++ [x]).length := by simp
  rw [e1, e2] at ho
  have hnd' := hO b6 _ _ _ (by decide) hA.nd
  obtain ⟨⟨c0, c1, c2, c3⟩, hf⟩ := cells4 hnd'
  refine ⟨v', w', (cells4 h.nd).1.2.1, (cells4 hA.nd).1.2.1, hr, ?_, c1, hf _, ?_, ?_⟩
  · obtain ⟨a, c, e, _⟩ := slice_any ho
    exact ⟨a, _, c, e⟩
  · have hk := Kept.setCell [b6] w' ⟨b6, 1, none⟩ v' (by simp)
    have hS : ∀ k ∈ [b6], ∀ cs t m, w'.heap[k]? = some (.cells cs t m) → t = 26 := fun k hk cs t m hh => by
      simp only [List.mem_singleton] at hk
      subst hk
      rw [hnd'] at hh
      simp at hh
      exact hh.2.1.symm
    have hrs := hO b5 _ _ _ (by decide) hA.rs
    have hz := hO r4 _ _ _ (by decide) hA.z
    refine { rs := ?_, nd := ?_, ok := ?_, oi := ?_, od := ?_, z := ?_, ne := h.ne, h4 := h.h4, h5 := h.h5, h6 := h.h6 }
    · exact (hk.block b5 (hlt _ _ _ hrs) (fun hm => by have := hS b5 hm _ _ _ hrs; cases this)).trans hrs
    · rw [heap_setCell_same _ _ _ _ _ _ hnd']; rfl
    · exact own_kept hk ho (fun k hm cs t m hh => by rw [hS k hm cs t m hh]; decide)
    · exact own_kept hk (hO.own (by decide) hA.oi) (fun k hm cs t m hh => by rw [hS k hm cs t m hh]; decide)
    · exact own_kept hk (hO.own (by decide) hA.od) (fun k hm cs t m hh => by rw [hS k hm cs t m hh]; decide)
    · exact (hk.block r4 (hlt _ _ _ hz) (by simpa using h.ne.symm)).trans hz
  · exact (((Below.refl B w).alloc hBw _).grown hg (by simp; omega) (fun k hk => (hA.ok.lt k hk).1)).setCell h.h6 _

theorem rd_push2 {w : World} {B r4 b5 b6 : Nat} {vk vi vd : Value} {r : Rs} {n : Nd} (h : Rd w B r4 b5 b6 vk vi vd r n) (hBw : B ≤ w.heap.size) (x : It) (hl : n.items.length ≤ 69999) :
    ∃ v' w', w.cell? ⟨b6, 2, none⟩ = some vi ∧ (w.alloc (.cells #[.string x.val, .int .i64 x.page, .int .i64 x.size] 51)).cell? ⟨b6, 2, none⟩ = some vi ∧ (Builtin.append_ #[23, 23] 23 #[vi, .slice (some ⟨w.heap.size, 0, none⟩) 1 1]).run Try.prog (w.alloc (.cells #[.string x.val, .int .i64 x.page, .int .i64 x.size] 51)) = .ok v' w' ∧
      (∃ a n c, v' = .slice a n c) ∧ w'.cell? ⟨b6, 2, none⟩ = some vi ∧ w'.frozen? ⟨b6, 2, none⟩ = false ∧ Rd (w'.setCell ⟨b6, 2, none⟩ v') B r4 b5 b6 vk v' vd r { n with items := n.items ++ [x] } ∧ Below B w (w'.setCell ⟨b6, 2, none⟩ v') := by
  have hlt : ∀ (w : World) k o, w.heap[k]? = some o → k < w.heap.size := fun w k o hh => by
    rw [Array.getElem?_eq_some_iff] at hh
    exact hh.1
  obtain ⟨i, hi, hz0, hz1, hz2⟩ := info_parts Try.info51
  have hal : (w.alloc (.cells #[.string x.val, .int .i64 x.page, .int .i64 x.size] 51)).heap[w.heap.size]? = some (.cells #[.string x.val, .int .i64 x.page, .int .i64 x.size] 51 (0, 0)) := heap_alloc_new _ _
  have hA : Rd (w.alloc (.cells #[.string x.val, .int .i64 x.page, .int .i64 x.size] 51)) B r4 b5 b6 vk vi vd r n :=
    { rs := (Below.heap_alloc _ _ _ h.rs.lt).trans h.rs, nd := (Below.heap_alloc _ _ _ (hlt _ _ _ h.nd)).trans h.nd, ok := World.ownsRow.alloc h.ok _, oi := World.ownsRow.alloc h.oi _, od := World.ownsRow.alloc h.od _, z := (Below.heap_alloc _ _ _ (hlt _ _ _ h.z)).trans h.z, ne := h.ne, h4 := h.h4, h5 := h.h5, h6 := h.h6 }
  obtain ⟨v', w', hr, ho, hg, _, _⟩ := run_append_own_at (P := Try.prog) (w.alloc (.cells #[.string x.val, .int .i64 x.page, .int .i64 x.size] 51)) B 23 23 51 i _ 3 32 Try.underlying23 hi hz0 hz1 hz2 rfl (by omega) _ n.items.length (ic n.items) hA.oi
    ⟨w.heap.size, 0, none⟩ 1 1 [.string x.val, .int .i64 x.page, .int .i64 x.size] rfl (fun j u hu => by
      rw [Addr.add_mid, Nat.zero_add]
      simp only [World.cell?, hal]
      simpa using hu) (fun u hu => by simp only [List.mem_cons, List.not_mem_nil, or_false] at hu; rcases hu with rfl | rfl | rfl <;> rfl) (by unfold maxLen; omega) (by omega) (by simp; omega)
  have hO := OthT.grown hA.oi hg
  have e1 : ic n.items ++ [.string x.val, .int .i64 x.page, .int .i64 x.size] = ic (n.items ++ [x]) := by simp [ic, itc]
  have e2 : n.items.length + 1 = (n.items ++ [x]).length := by simp
  rw [e1, e2] at ho
  have hnd' := hO b6 _ _ _ (by decide) hA.nd
  obtain ⟨⟨c0, c1, c2, c3⟩, hf⟩ := cells4 hnd'
  refine ⟨v', w', (cells4 h.nd).1.2.2.1, (cells4 hA.nd).1.2.2.1, hr, ?_, c2, hf _, ?_, ?_⟩
  · obtain ⟨a, c, e, _⟩ := slice_any ho
    exact ⟨a, _, c, e⟩
  · have hk := Kept.setCell [b6] w' ⟨b6, 2, none⟩ v' (by simp)
    have hS : ∀ k ∈ [b6], ∀ cs t m, w'.heap[k]? = some (.cells cs t m) → t = 26 := fun k hk cs t m hh => by
      simp only [List.mem_singleton] at hk
      subst hk
      rw [hnd'] at hh
      simp at hh
      exact hh.2.1.symm
    have hrs := hO b5 _ _ _ (by decide) hA.rs
    have hz := hO r4 _ _ _ (by decide) hA.z
    refine { rs := ?_, nd := ?_, ok := ?_, oi := ?_, od := ?_, z := ?_, ne := h.ne, h4 := h.h4, h5 := h.h5, h6 := h.h6 }
    · exact (hk.block b5 (hlt _ _ _ hrs) (fun hm => by have := hS b5 hm _ _ _ hrs; cases this)).trans hrs
    · rw [heap_setCell_same _ _ _ _ _ _ hnd']; rfl
    · exact own_kept hk (hO.own (by decide) hA.ok) (fun k hm cs t m hh => by rw [hS k hm cs t m hh]; decide)
    · exact own_kept hk ho (fun k hm cs t m hh => by rw [hS k hm cs t m hh]; decide)
    · exact own_kept hk (hO.own (by decide) hA.od) (fun k hm cs t m hh => by rw [hS k hm cs t m hh]; decide)
    · exact (hk.block r4 (hlt _ _ _ hz) (by simpa using h.ne.symm)).trans hz
  · exact (((Below.refl B w).alloc hBw _).grown hg (by simp; omega) (fun k hk => (hA.oi.lt k hk).1)).setCell h.h6 _

theorem rd_push3 {w : World} {B r4 b5 b6 : Nat} {vk vi vd : Value} {r : Rs} {n : Nd} (h : Rd w B r4 b5 b6 vk vi vd r n) (hBw : B ≤ w.heap.size) (x : Int) (hl : n.kids.length ≤ 69999) :
    ∃ v' w', w.cell? ⟨b6, 3, none⟩ = some vd ∧ (w.alloc (.cells #[.int .i64 x] 3)).cell? ⟨b6, 3, none⟩ = some vd ∧ (Builtin.append_ #[24, 24] 24 #[vd, .slice (some ⟨w.heap.size, 0, none⟩) 1 1]).run Try.prog (w.alloc (.cells #[.int .i64 x] 3)) = .ok v' w' ∧
      (∃ a n c, v' = .slice a n c) ∧ w'.cell? ⟨b6, 3, none⟩ = some vd ∧ w'.frozen? ⟨b6, 3, none⟩ = false ∧ Rd (w'.setCell ⟨b6, 3, none⟩ v') B r4 b5 b6 vk vi v' r { n with kids := n.kids ++ [x] } ∧ Below B w (w'.setCell ⟨b6, 3, none⟩ v') := by
  have hlt : ∀ (w : World) k o, w.heap[k]? = some o → k < w.heap.size := fun w k o hh => by
    rw [Array.getElem?_eq_some_iff] at hh
    exact hh.1
  obtain ⟨i, hi, hz0, hz1, hz2⟩ := info_parts Try.info3
  have hal : (w.alloc (.cells #[.int .i64 x] 3)).heap[w.heap.size]? = some (.cells #[.int .i64 x] 3 (0, 0)) := heap_alloc_new _ _
  have hA : Rd (w.alloc (.cells #[.int .i64 x] 3)) B r4 b5 b6 vk vi vd r n :=
    { rs := (Below.heap_alloc _ _ _ h.rs.lt).trans h.rs, nd := (Below.heap_alloc _ _ _ (hlt _ _ _ h.nd)).trans h.nd, ok := World.ownsRow.alloc h.ok _, oi := World.ownsRow.alloc h.oi _, od := World.ownsRow.alloc h.od _, z := (Below.heap_alloc _ _ _ (hlt _ _ _ h.z)).trans h.z, ne := h.ne, h4 := h.h4, h5 := h.h5, h6 := h.h6 }
  obtain ⟨v', w', hr, ho, hg, _, _⟩ := run_append_own_at (P := Try.prog) (w.alloc (.cells #[.int .i64 x] 3)) B 24 24 3 i _ 1 8 Try.underlying24 hi hz0 hz1 hz2 rfl (by omega) _ n.kids.length (dc n.kids) hA.od
    ⟨w.heap.size, 0, none⟩ 1 1 [.int .i64 x] rfl (fun j u hu => by
      rw [Addr.add_mid, Nat.zero_add]
      simp only [World.cell?, hal]
      simpa using hu) (fun u hu => by simp only [List.mem_cons, List.not_mem_nil, or_false] at hu; subst hu; rfl) (by unfold maxLen; omega) (by omega) (by simp; omega)
  have hO := OthT.grown hA.od hg
  have e1 : dc n.kids ++ [.int .i64 x] = dc (n.kids ++ [x]) := by simp [dc]
  have e2 : n.kids.length + 1 = (n.kids ++ [x]).length := by simp
  rw [e1, e2] at ho
  have hnd' := hO b6 _ _ _ (by decide) hA.nd
  obtain ⟨⟨c0, c1, c2, c3⟩, hf⟩ := cells4 hnd'
  refine ⟨v', w', (cells4 h.nd).1.2.2.2, (cells4 hA.nd).1.2.2.2, hr, ?_, c3, hf _, ?_, ?_⟩
  · obtain ⟨a, c, e, _⟩ := slice_any ho
    exact ⟨a, _, c, e⟩
  · have hk := Kept.setCell [b6] w' ⟨b6, 3, none⟩ v' (by simp)
    have hS : ∀ k ∈ [b6], ∀ cs t m, w'.heap[k]? = some (.cells cs t m) → t = 26 := fun k hk cs t m hh => by
      simp only [List.mem_singleton] at hk
      subst hk
      rw [hnd'] at hh
      simp at hh
      exact hh.2.1.symm
    have hrs := hO b5 _ _ _ (by decide) hA.rs
    have hz := hO r4 _ _ _ (by decide) hA.z
    refine { rs := ?_, nd := ?_, ok := ?_, oi := ?_, od := ?_, z := ?_, ne := h.ne, h4 := h.h4, h5 := h.h5, h6 := h.h6 }
    · exact (hk.block b5 (hlt _ _ _ hrs) (fun hm => by have := hS b5 hm _ _ _ hrs; cases this)).trans hrs
    · rw [heap_setCell_same _ _ _ _ _ _ hnd']; rfl
    · exact own_kept hk (hO.own (by decide) hA.ok) (fun k hm cs t m hh => by rw [hS k hm cs t m hh]; decide)
    · exact own_kept hk (hO.own (by decide) hA.oi) (fun k hm cs t m hh => by rw [hS k hm cs t m hh]; decide)
    · exact own_kept hk ho (fun k hm cs t m hh => by rw [hS k hm cs t m hh]; decide)
    · exact (hk.block r4 (hlt _ _ _ hz) (by simpa using h.ne.symm)).trans hz
  · exact (((Below.refl B w).alloc hBw _).grown hg (by simp; omega) (fun k hk => (hA.od.lt k hk).1)).setCell h.h6 _

theorem wp_once {c : Code} {R : Exit → Act → World → Prop} {a : Act} {w : World} (PW : World → Prop) (h : ∃ A : Nat → Value → Act, c.wp Try.prog (fun e a' w' => e = .normal ∧ (∃ g v, a' = A g v) ∧ PW w') a w ∧ ∀ w' g v, PW w' → R .normal (A g v) w') : c.wp Try.prog R a w := by
  obtain ⟨A, h1, h2⟩ := h
  refine Code.wp_mono (fun e a' w' hh => ?_) h1
  obtain ⟨rfl, ⟨g, v, rfl⟩, hp⟩ := hh
  exact h2 _ _ _ hp
end Go.Proofs.Ytkipigbfbhecjaa
