/- What this text holds: 'held' and 'lay': a sector read, and written. -/
import Derived.Test.YtambgimfbdecpaaDNew
import Derived.Deep.WholeRow
namespace Go.Proofs.Ytambgimfbdecpaa
open Go.RowKit
set_option linter.unusedVariables false

/-- Sector i. -/
def sec (l : List Int) (i : Nat) : List Int := (l.drop (i * 512)).take 512
theorem sec_length (l : List Int) (i n : Nat) (hl : l.length = n * 512) (hi : i < n) : (sec l i).length = 512 := by
  simp [sec]; omega
/-- Bytes laid over a sector's first ones. -/
def layS (l : List Int) (i : Nat) (b : List Int) : List Int := splice l (i * 512) b

theorem secs_cell {w : World} {B bs n sc : Nat} {l : List Int} (h : w.ownsRow B 96 512 (.slice (some ⟨bs, 0, none⟩) n sc) n (bc l)) (i : Nat) (hi : i < n) :
    ∀ j v, (bc (sec l i))[j]? = some v → w.cell? ((⟨bs, i * 512, none⟩ : Addr).add j) = some v := by
  intro j v hv
  have hl := h.1
  rw [bc_length] at hl
  have hj : j < 512 := by
    have := List.getElem?_eq_some_iff.1 hv
    obtain ⟨h1, _⟩ := this
    rw [bc_length, sec_length l i n hl hi] at h1
    exact h1
  rw [Addr.add_mid, h.cellAt _ (by omega)]
  simp only [bc, List.getElem?_map, sec, List.getElem?_take, List.getElem?_drop, hj, if_true] at hv ⊢
  exact hv

set_option maxRecDepth 100000 in
set_option maxHeartbeats 1000000 in
theorem held_any {w : World} {B b bs n sc : Nat} {l : List Int} (h0 : w.cell? ⟨b, 0, none⟩ = some (.slice (some ⟨bs, 0, none⟩) n sc))
    (h : w.ownsRow B 96 512 (.slice (some ⟨bs, 0, none⟩) n sc) n (bc l)) (i : Nat) (hi : i < n) (hn : n ≤ 4096) :
    Calls Try.prog 94 #[.pointer (some ⟨b, 0, none⟩), .int .i64 i] w fun e w' => ∃ v, e = .returned v ∧ NewBytes w w' v (sec l i) ∧ Below w.heap.size w w' := by
  have hmk := made_bytes
  have H : Hid _ := h
  have h0' : ∀ O : Obj, (w.alloc O).cell? ⟨b, 0, none⟩ = some (.slice (some ⟨bs, 0, none⟩) n sc) := fun O => by rw [World.cell?_alloc_some _ _ _ (by simp [h0]), h0]
  have hlen : (sec l i).length = 512 := sec_length l i n (by rw [← h.1, bc_length]) hi
  have hcs : ∀ O : Obj, ∀ j v, (bc (sec l i))[j]? = some v → (w.alloc O).cell? ((⟨bs, i * 512, none⟩ : Addr).add j) = some v := fun O j v hv => by
    have := secs_cell h i hi j v hv
    rw [World.cell?_alloc_some _ _ _ (by simp [this]), this]
  have hcp : (Builtin.copy_ #[46, 46] 3 #[.slice (some ⟨w.heap.size, 0, none⟩) 512 512, .slice (some ⟨bs, i * 512, none⟩) 512 512]).run Try.prog (w.alloc (.cells (bc (rep 512 0)).toArray 5)) = .ok (goInt 512) (w.alloc (.cells (bc (sec l i)).toArray 5)) := by
    have hr := run_copy_row (P := Try.prog) (w.alloc (.cells (bc (rep 512 0)).toArray 5)) 46 46 3 5 w.heap.size 0 512 512 ⟨bs, i * 512, none⟩ 512 512 (bc (rep 512 0)).toArray 5 (bc (sec l i)) Try.underlying46 (by kernel_rfl) (heap_alloc_new _ _)
      (by rw [bc_length, hlen]; rfl) (hcs _) (by simp [bc_length, hlen, rep_length]) (bc_oneCell _)
    have hdr : List.drop 512 (bc (rep 512 0)) = [] := List.drop_of_length_le (by rw [bc_length, rep_length]; exact Nat.le_refl _)
    rw [hr, bc_length, hlen, World.setRow_alloc_new]
    simp [hdr]
  have HL : Hid _ := hlen
  clear h hcs hlen
  go_enter Try.func94, Try.ntmps94
  go_wp2
  go_ret
  exact ⟨_, rfl, ⟨w.heap.size, by rw [HL.out]; rfl, Nat.le_refl _, heap_alloc_new _ _⟩, (Below.refl _ _).alloc (Nat.le_refl _) _⟩

theorem bc_splice (l : List Int) (o : Nat) (b : List Int) : bc (splice l o b) = splice (bc l) o (bc b) := by
  simp [splice, bc]

theorem take_splice (cur : List Value) (m o : Nat) (cs : List Value) (h : o + cs.length ≤ m) : (cur.take o ++ cs ++ cur.drop (o + cs.length)).take m = splice (cur.take m) o cs := by
  by_cases hm : o ≤ cur.length
  · simp only [splice, List.take_take, List.drop_take, List.append_assoc]
    rw [List.take_append, List.take_append, List.length_take, Nat.min_eq_left hm, List.take_take, Nat.min_eq_right (by omega : o ≤ m), Nat.min_eq_left (by omega : o ≤ m)]
    congr 1
    rw [List.take_of_length_le (show cs.length ≤ m - o by omega)]
    congr 2
    omega
  · have e1 : cur.take o = cur := List.take_of_length_le (by omega)
    have e2 : cur.take m = cur := List.take_of_length_le (by omega)
    have e3 : cur.drop (o + cs.length) = [] := List.drop_of_length_le (by omega)
    simp only [splice, e1, e2, e3, List.append_nil]
    rw [List.take_of_length_le]
    simp; omega

/-- A row that a call owns, some of its cells laid anew. -/
theorem ownsRow_laid {w : World} {B bs n sc size : Nat} {e : TypeId} {xs : List Value} (h : w.ownsRow B e size (.slice (some ⟨bs, 0, none⟩) n sc) n xs) :
    ∃ cur : Array Value, w.heap[bs]? = some (.cells cur e (0, 0)) ∧ n * size ≤ cur.size ∧ cur.toList.take (n * size) = xs ∧ ∀ (o : Nat) (cs : List Value), o + cs.length ≤ n * size →
      (w.setRow bs (cur.toList.take o ++ cs ++ cur.toList.drop (o + cs.length)).toArray).ownsRow B e size (.slice (some ⟨bs, 0, none⟩) n sc) n (splice xs o cs) ∧
      w.grownBy (w.setRow bs (cur.toList.take o ++ cs ++ cur.toList.drop (o + cs.length)).toArray) (some bs) := by
  rcases h.2 with ⟨h', _⟩ | ⟨g', cap', cur, h', hb, hg, hnc, hcm, hcs, htake⟩
  · simp at h'
  · simp only [Value.slice.injEq, Option.some.injEq, Addr.mk.injEq, and_true, true_and] at h'
    obtain ⟨rfl, rfl⟩ := h'
    have hle : n * size ≤ cur.size := by rw [hcs]; exact Nat.mul_le_mul_right _ hnc
    refine ⟨cur, hg, hle, htake, fun o cs ho => ⟨⟨?_, .inr ⟨bs, sc, _, rfl, hb, setRow_heap w bs cur _ e _ hg, hnc, hcm, ?_, ?_⟩⟩, ⟨rfl, rfl, rfl, by simp, fun k _ hk => setRow_other w bs k _ (fun e => hk (by simp [e]))⟩⟩⟩
    · rw [length_splice _ _ _ (by rw [h.1]; exact ho)]; exact h.1
    · simp only [List.size_toArray, List.length_append, List.length_take, List.length_drop, Array.length_toList]
      omega
    · rw [← htake, ← take_splice _ _ _ _ ho]

set_option maxRecDepth 100000 in
set_option maxHeartbeats 1000000 in
theorem lay_any {w : World} {B b bs n sc : Nat} {l : List Int} (h0 : w.cell? ⟨b, 0, none⟩ = some (.slice (some ⟨bs, 0, none⟩) n sc))
    (h : w.ownsRow B 96 512 (.slice (some ⟨bs, 0, none⟩) n sc) n (bc l)) (i : Nat) (hi : i < n) (hn : n ≤ 4096) (a : Addr) (c : Nat) (bytes : List Int) (hl : bytes.length ≤ 512)
    (hsrc : ∀ j v, (bc bytes)[j]? = some v → w.cell? (a.add j) = some v) :
    Calls Try.prog 47 #[.pointer (some ⟨b, 0, none⟩), .int .i64 i, .slice (some a) bytes.length c] w fun e w' => e = .returned (.tuple #[]) ∧
      w'.ownsRow B 96 512 (.slice (some ⟨bs, 0, none⟩) n sc) n (bc (layS l i bytes)) ∧ w.grownBy w' (some bs) := by
  obtain ⟨cur, hg, hle, _, hall⟩ := ownsRow_laid h
  obtain ⟨hw1, hw2⟩ := hall (i * 512) (bc bytes) (by rw [bc_length]; omega)
  have hcp := run_copy_row (P := Try.prog) w 46 46 3 5 bs (i * 512) 512 512 a bytes.length c cur 96 (bc bytes) Try.underlying46 (by kernel_rfl) hg
      (by rw [bc_length]; exact (Nat.min_eq_left hl).symm) hsrc (by rw [bc_length]; omega) (bc_oneCell _)
  rw [← bc_splice] at hw1
  generalize w.setRow bs (cur.toList.take (i * 512) ++ bc bytes ++ cur.toList.drop (i * 512 + (bc bytes).length)).toArray = W at hcp hw1 hw2
  have H1 : Hid _ := hw1
  have H2 : Hid _ := hw2
  clear hall hw1 hw2 hg hle h hsrc
  go_enter Try.func47, Try.ntmps47
  go_wp2
  go_end0
  exact ⟨rfl, H1.out, H2.out⟩
end Go.Proofs.Ytambgimfbdecpaa
