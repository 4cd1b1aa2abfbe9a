/- What this text holds: the numbers that a map has met, sorted; how spans are made of them. -/
import Derived.Test.YtiiegjdclpkeeaaDoorM7
import Derived.Maps.OwnSet
import Derived.Maps.Range
import Derived.Carry
namespace Go.Proofs.YtiiegjdclpkeeaaDoor
open Go.RowKit Go.Maps Go.Sort Go.Shelf
set_option linter.unusedVariables false
set_option linter.unusedSimpArgs false

theorem flat_one {α β : Type} (f : α → β) : ∀ l : List α, l.flatMap (fun s => [f s]) = l.map f
  | [] => rfl
  | a :: l => by rw [List.flatMap_cons, flat_one f l]; rfl
theorem sorts12 (m : Nat) : AnyZI.SortsIn Tryd.prog Tryd.sortedA_ren Fence.wide m :=
  ⟨fun blk off cap ss W hH hblk hsz => callsIn_wide.2 (Tryd.slices_Sort_int blk off cap ss W hH hblk hsz), fun p cap W => callsIn_wide.2 (Tryd.slices_Sort_int_none p cap W)⟩
theorem keys_any (mb : Option Nat) (W : World) : Calls Tryd.prog 17 #[.map mb] W fun e w' => e = .returned (.func (.func 26) #[] #[.pointer (some ⟨W.heap.size, 0, none⟩)]) ∧ w' = W.alloc (.cells #[.map mb] 40) :=
  (callsIn_wide (n := 5)).1 (AnyZI.keys_in Tryd.keysA Fence.wide 5 trivial rfl mb W)
theorem sorted_any {H : Type} (b nn : Nat) (D0 : DataW H) (R : Value → Option (DataW H × List MemPlace)) (w : World) (hown : w.ownsMap Tryd.prog 3 R b nn D0) (hmax : Maps.size D0 ≤ 1000000) :
    Calls Tryd.prog 16 #[.func (.func 26) #[] #[.pointer (some ⟨w.heap.size, 0, none⟩)]] (w.alloc (.cells #[.map (some b)] 40)) fun e w' => (∃ (v : Value) (ss : List Int), e = .returned v ∧ ss.Perm (intKeys D0) ∧ GO eI w' w.heap.size v (ss.mergeSort leI)) ∧ Below w.heap.size w w' := by
  refine (callsIn_wide (n := 5)).1 ?_
  have hbl := hown.lt
  have hseq : SeqGives Fence.wide 2 Tryd.prog 26 #[.pointer (some ⟨w.heap.size, 0, none⟩)] encZ (fun ss => ss.Perm (intKeys D0)) (Maps.size D0) (w.alloc (.cells #[.map (some b)] 40)) :=
    AnyZI.keys_gives (ρ := Tryd.keysA_ren) { Tryd.keysA with } Fence.wide _ trivial rfl (by omega) w.heap.size b nn D0 _ (by simp) (by simp) (by
      obtain ⟨es, clock, hb, Ft, hs, hD⟩ := hown
      exact ⟨es, clock, (Below.heap_alloc _ _ b hbl).trans hb, Ft, hs, hD⟩)
  have cS := AnyZI.sorted_in Tryd.sortedA Fence.wide 5 trivial trivial trivial trivial rfl (by omega) (sorts12 _) (enters_of Tryd.func25 (by kernel_rfl) rfl) 26 #[.pointer (some ⟨w.heap.size, 0, none⟩)] trivial (enters_of Tryd.func26 (by kernel_rfl) rfl) _ _ (by unfold maxLen; omega) (by omega) _ hseq
  refine CallsIn.mono cS ?_
  rintro e w' ⟨v, ss, rfl, hS, hrow, hnil, hb⟩
  have hrow2 : w'.ownsRow (w.alloc (.cells #[.map (some b)] 40)).heap.size 3 1 v ss.length ((ss.mergeSort leI).map encZ) := hrow
  have hb0 : Below w.heap.size w (w.alloc (.cells #[.map (some b)] 40)) := (Below.refl _ w).alloc (Nat.le_refl _) _
  refine ⟨⟨v, ss, rfl, hS, ?_⟩, hb0.trans (hb.mono (by simp))⟩
  have hlen : (ss.mergeSort leI).length = ss.length := by simp
  unfold GO
  rw [hlen]
  have hcs : eI.cs (ss.mergeSort leI) = (ss.mergeSort leI).map encZ := flat_one _ _
  rw [hcs]
  exact ownsRow_base hrow2 (by simp)
/-- The set of numbers, as it is read. -/
noncomputable def dOf (acc : List Int) : DataW Unit := setOf (.agg []) (acc.map (Lit.int .i64))
theorem key_all (acc : List Int) : ∀ x ∈ acc.map (Lit.int .i64), WideAt.IsKeyLit x := by
  intro x hx
  obtain ⟨y, _, rfl⟩ := List.mem_map.1 hx
  trivial
theorem dOf_snoc (acc : List Int) (x : Int) : dOf (acc ++ [x]) = (dOf acc).put (.int .i64 x) (.agg []) := by
  unfold dOf; rw [List.map_append]; exact setOf_snoc _ _ _
theorem dOf_has (acc : List Int) (x : Int) : Maps.has (dOf acc) (.int .i64 x) = decide (x ∈ acc) := by
  unfold dOf
  rw [has_setOf _ _ _ (key_all acc), List.any_map, Bool.eq_iff_iff, List.any_eq_true]
  simp only [Function.comp_apply, decide_eq_true_eq]
  constructor
  · rintro ⟨y, hy, h⟩
    simp [Lit.sameKey] at h
    rw [← h]; exact hy
  · intro h
    exact ⟨x, h, by simp [Lit.sameKey]⟩
theorem dOf_sizeN : ∀ (n : Nat) (acc : List Int), acc.length = n → Maps.size (dOf acc) ≤ n
  | 0, acc, h => by
    have := List.eq_nil_of_length_eq_zero h
    subst this; exact Nat.le_refl _
  | n + 1, acc, h => by
    rcases List.eq_nil_or_concat acc with rfl | ⟨acc', x, rfl⟩
    · simp at h
    · rw [List.concat_eq_append] at *
      have ih := dOf_sizeN n acc' (by simpa using h)
      rw [dOf_snoc]
      unfold dOf
      rw [size_put (tidy_setOf _ _ (key_all acc'))]
      unfold dOf at ih
      split <;> omega
theorem dOf_size (acc : List Int) : Maps.size (dOf acc) ≤ acc.length := dOf_sizeN _ acc rfl
/-- The keys, sorted: rising, and just those that were met. -/
theorem keys_sorted {w : World} {R : Value → Option (DataW Unit × List MemPlace)} {b n : Nat} {acc : List Int} (hown : w.ownsMap Tryd.prog 3 R b n (dOf acc)) {ss : List Int} (hp : ss.Perm (intKeys (dOf acc))) :
    (ss.mergeSort leI).Pairwise (fun a b => a < b) ∧ ∀ x, x ∈ ss.mergeSort leI ↔ x ∈ acc := by
  obtain ⟨es, hD, hpw, _⟩ := hown.entries (Maps.int_keyed Tryd.underlying3)
  obtain ⟨es', hD', hko⟩ := hown.keysOf
  obtain rfl : es = es' := by rw [hD] at hD'; simpa using hD'
  have hk : ∀ p ∈ es, ∃ x, p.1 = .int .i64 x := fun p hp => by
    obtain ⟨v, hv⟩ := hko p hp; obtain ⟨x, _, hx, _⟩ := Maps.keyOf_i64 Tryd.underlying3 hv; exact ⟨x, hx⟩
  have hhas := dOf_has acc
  rw [hD] at hp hhas
  have hnd : (intKeys (.map es)).Nodup := by
    show (es.map fun p => Go.intOf p.1).Nodup
    refine List.pairwise_map.2 (hpw.imp_of_mem fun {p q} hp' hq' hne e => hne ?_)
    obtain ⟨a, ha⟩ := hk p hp'
    obtain ⟨b, hb⟩ := hk q hq'
    rw [ha, hb] at e ⊢
    exact congrArg _ e
  have hmem : ∀ x, x ∈ intKeys (.map es) ↔ x ∈ acc := by
    intro x
    have h1 := hhas x
    rw [has_eq] at h1
    rw [← decide_eq_true_iff (p := x ∈ acc), ← h1, List.any_eq_true]
    show x ∈ es.map (fun p => Go.intOf p.1) ↔ _
    rw [List.mem_map]
    constructor
    · rintro ⟨p, hp', rfl⟩
      obtain ⟨a, ha⟩ := hk p hp'
      exact ⟨p, hp', by rw [ha]; simp [Lit.sameKey, Go.intOf]⟩
    · rintro ⟨p, hp', hs⟩
      obtain ⟨a, ha⟩ := hk p hp'
      rw [ha] at hs
      exact ⟨p, hp', by rw [ha]; simpa [Lit.sameKey, Go.intOf] using hs⟩
  have hpm : (ss.mergeSort leI).Perm (intKeys (.map es)) := (List.mergeSort_perm ss leI).trans hp
  refine ⟨?_, fun x => by rw [hpm.mem_iff]; exact hmem x⟩
  have tr : ∀ a b c : Int, leI a b = true → leI b c = true → leI a c = true := fun a b c h1 h2 => by simp only [leI, decide_eq_true_eq] at *; omega
  have to : ∀ a b : Int, (leI a b || leI b a) = true := fun a b => by simp only [leI, Bool.or_eq_true, decide_eq_true_eq]; omega
  have hs := List.pairwise_mergeSort tr to ss
  have hn : (ss.mergeSort leI).Nodup := hpm.nodup_iff.2 hnd
  refine (hs.and hn).imp ?_
  rintro a b ⟨h1, h2⟩
  simp only [leI, decide_eq_true_eq] at h1
  omega
theorem own_later {w w' : World} {H : Type} {R : Value → Option (DataW H × List MemPlace)} {b n B : Nat} {D : DataW H} (h : w.ownsMap Tryd.prog 3 R b n D) (hb : Below B w w') (hlt : b < B) : w'.ownsMap Tryd.prog 3 R b n D := by
  obtain ⟨es, clock, hh, r⟩ := h
  exact ⟨es, clock, (hb.block b hlt).trans hh, r⟩
/-- What stands while spans are made of rising numbers. -/
def OInv (done : List Int) (acc : List Sp) : Prop := Rise acc ∧ ∀ n, memS acc n ↔ n ∈ done
theorem oinv_nil : OInv [] [] := ⟨trivial, fun n => by simp [memS]⟩
theorem memS_one (x n : Int) : memS [(x, x)] n ↔ n = x := by simp [memS]; omega
theorem oinv_new {done : List Int} {acc : List Sp} {x : Int} (h : OInv done acc) (hx : 1 ≤ x) (hlt : ∀ d ∈ done, d < x) (hno : x - 1 ∉ done) : OInv (done ++ [x]) (acc ++ [(x, x)]) := by
  refine ⟨(rise_app _ _).2 ⟨h.1, ⟨hx, Int.le_refl _⟩, fun t ht => ?_⟩, fun n => ?_⟩
  · have h2 := (Rise.ok h.1 t ht).2
    have hm : t.2 ∈ done := (h.2 t.2).1 ⟨t, ht, h2, Int.le_refl _⟩
    have h3 := hlt _ hm
    have h4 : t.2 ≠ x - 1 := fun e => hno (e ▸ hm)
    simp only
    omega
  · rw [memS_app, memS_one, h.2 n]; simp
theorem oinv_old {done : List Int} {acc : List Sp} {a : Sp} {x : Int} (h : OInv done (acc ++ [a])) (hx : 1 ≤ x) (hlt : ∀ d ∈ done, d < x) (hyes : x - 1 ∈ done) : OInv (done ++ [x]) (acc ++ [(a.1, x)]) := by
  have hr := (rise_app _ _).1 h.1
  have ha : a.2 ∈ done := (h.2 a.2).1 ⟨a, by simp, hr.2.1.2, Int.le_refl _⟩
  have h3 := hlt _ ha
  have he : a.2 = x - 1 := by
    obtain ⟨t, ht, h5, h6⟩ := (h.2 (x - 1)).2 hyes
    rcases List.mem_append.1 ht with ht | ht
    · have := hr.2.2 t ht
      have := hr.2.1.2
      omega
    · rw [List.mem_singleton] at ht
      subst ht
      omega
  refine ⟨(rise_app _ _).2 ⟨hr.1, ⟨hr.2.1.1, by simp only; have := hr.2.1.2; omega⟩, hr.2.2⟩, fun n => ?_⟩
  have hm := h.2 n
  rw [memS_app, memS_cons] at hm
  rw [memS_app, memS_cons, List.mem_append, ← hm]
  simp only [memS_nil, or_false, List.mem_singleton]
  have := hr.2.1.2
  constructor
  · rintro (h | ⟨h7, h8⟩)
    · exact .inl (.inl h)
    · by_cases e : n = x
      · exact .inr e
      · exact .inl (.inr ⟨h7, by omega⟩)
  · rintro ((h | ⟨h7, h8⟩) | h)
    · exact .inl h
    · exact .inr ⟨h7, by omega⟩
    · exact .inr ⟨by omega, by omega⟩
theorem oinv_ne {done : List Int} {acc : List Sp} {x : Int} (h : OInv done acc) (hx : x ∈ done) : acc ≠ [] := by
  rintro rfl
  exact memS_nil _ ((h.2 x).2 hx)
theorem before_lt {ks : List Int} (h : ks.Pairwise fun a b => a < b) (k : Nat) (hk : k < ks.length) : ∀ d ∈ ks.take k, d < ks[k] := by
  intro d hd
  obtain ⟨j, hj, rfl⟩ := List.getElem_of_mem hd
  simp at hj
  rw [List.getElem_take]
  rw [List.pairwise_iff_getElem] at h
  exact h j k (by omega) hk (by omega)
theorem before_in {ks : List Int} (h : ks.Pairwise fun a b => a < b) (k : Nat) (hk : k < ks.length) (x : Int) (hx : x ∈ ks) (hlt : x < ks[k]) : x ∈ ks.take k := by
  obtain ⟨j, hj, rfl⟩ := List.getElem_of_mem hx
  rw [List.pairwise_iff_getElem] at h
  by_cases hjk : j < k
  · rw [List.mem_take_iff_getElem]
    exact ⟨j, by omega, rfl⟩
  · exfalso
    rcases Nat.lt_or_ge k j with h1 | h1
    · have := h k j hk hj h1; omega
    · obtain rfl : j = k := by omega
      omega
end Go.Proofs.YtiiegjdclpkeeaaDoor
