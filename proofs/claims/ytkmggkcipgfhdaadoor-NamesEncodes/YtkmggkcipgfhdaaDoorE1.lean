/- What this text holds: the document's way to seven bits: letters, units and runs. -/
import Derived.Test.YtkmggkcipgfhdaaDoorM12
namespace Go.Proofs.YtkmggkcipgfhdaaDoor
open Go.RowKit
set_option linter.unusedVariables false
set_option linter.unusedSimpArgs false

theorem abc_data : abcS.data.toList = abc := rfl
set_option maxRecDepth 100000 in
set_option maxHeartbeats 400000 in
theorem letter62 (x : Int) (h0 : 0 ≤ x) (h1 : x < 64) (w : World) : Calls Tryd.prog 62 #[.int .i64 x] w fun e w' => e = .returned (.string (str [let64 x.toNat])) ∧ w' = w := by
  obtain ⟨n, rfl⟩ := Int.eq_ofNat_of_zero_le h0
  have hn : n < 64 := by omega
  have HE : Hid (abcS.extract n (n + 1) = str [let64 ((n : Nat) : Int).toNat]) := by
    rw [Hid, Go.Lib.extract_eq, abc_data, Int.toNat_natCast]
    show str _ = _
    congr 1
    rw [show n + 1 - n = 1 by omega]
    have hl : n < abc.length := hn
    rw [List.drop_eq_getElem_cons hl]
    simp only [List.take_succ_cons, List.take_zero]
    unfold let64
    rw [List.getD_eq_getElem?_getD, List.getElem?_eq_getElem hl]
    rfl
  have h2 : (n : Int) ≤ (n : Int) + 1 := by omega
  have h3 : (n : Int) + 1 ≤ 64 := by omega
  have hsz : abcS.size = 64 := rfl
  have h4 : (n : Int) + 1 ≤ (abcS.size : Int) := by rw [hsz]; omega
  go_enter Tryd.func62, Tryd.ntmps62
  go_wp2_with fail
  go_ret
  rw [← HE.out]
  exact ⟨rfl, rfl⟩

/-- Cells of numbers. -/
def ic (l : List Nat) : List Value := l.map fun n : Nat => .int .i64 (n : Int)
theorem ic_append (l m : List Nat) : ic (l ++ m) = ic l ++ ic m := by simp [ic]
theorem ic_oneCell (l : List Nat) : ∀ v ∈ ic l, v.oneCell' = true := by
  intro v hv
  simp only [ic, List.mem_map] at hv
  obtain ⟨x, _, rfl⟩ := hv
  rfl
theorem Tryd.info3 : (Tryd.prog.info? 3).map (fun i => (i.zero, i.size, i.bytes)) = some (some (.int .i64 0), 1, 8) := by kernel_rfl
/-- Numbers in memory. -/
def IL (w : World) (v : Value) (l : List Nat) : Prop := ∃ a c, v = .slice a l.length c ∧ (l = [] ∨ ∃ g o, a = some ⟨g, o, none⟩ ∧ ∀ (j : Nat) (n : Nat), l[j]? = some n → w.cell? ⟨g, o + j, none⟩ = some (.int .i64 (n : Int)))
def IO (w : World) (B : Nat) (v : Value) (l : List Nat) : Prop := w.ownsRow B 3 1 v l.length (ic l)
theorem IO.il {w : World} {B : Nat} {v : Value} {l : List Nat} (h : IO w B v l) : IL w v l := by
  rcases id h.2 with ⟨rfl, h0⟩ | ⟨g, cap, cur, rfl, _, hg, hc, _⟩
  · have := List.eq_nil_of_length_eq_zero h0
    subst this
    exact ⟨none, 0, rfl, .inl rfl⟩
  · refine ⟨_, cap, rfl, .inr ⟨g, 0, rfl, fun j p hp => ?_⟩⟩
    have := World.ownsRow.cells h rfl j (.int .i64 p) (by simp [ic, hp])
    rw [Addr.add_mid] at this
    exact this
theorem IL.later {w w' : World} {v : Value} {l : List Nat} (h : IL w v l) (hb : Below w.heap.size w w') : IL w' v l := by
  obtain ⟨a, c, rfl, h⟩ := h
  refine ⟨a, c, rfl, ?_⟩
  rcases h with h | ⟨g, o, rfl, h⟩
  · exact .inl h
  · exact .inr ⟨g, o, rfl, fun j n hn => (hb.cell (World.block_lt_of_cell? w _ (h j n hn))).trans (h j n hn)⟩
theorem IL.at {w : World} {a : Option Addr} {n c : Nat} {l : List Nat} (h : IL w (.slice a n c) l) (k : Nat) (hk : k < l.length) : ∃ g o, a = some ⟨g, o, none⟩ ∧ w.cell? ⟨g, o + k, none⟩ = some (.int .i64 l[k]) := by
  obtain ⟨a', c', e, h⟩ := h
  cases e
  rcases h with h | ⟨g, o, rfl, h⟩
  · subst h; simp at hk
  · exact ⟨g, o, rfl, h k _ (List.getElem?_eq_getElem hk)⟩
theorem IO.later {w w' : World} {B : Nat} {v : Value} {l : List Nat} (h : IO w B v l) (hb : Below w.heap.size w w') : IO w' B v l :=
  ownsRow_block h (fun k hk => hb.block k (World.ownsRow.lt h k hk).2)
theorem IO.slice {w : World} {B : Nat} {v : Value} {l : List Nat} (h : IO w B v l) : ∃ a c, v = .slice a l.length c := by
  obtain ⟨a, c, h, _⟩ := h.il
  exact ⟨a, c, h⟩
/-- One more. -/
theorem io_more {w : World} {B : Nat} {v : Value} {l : List Nat} (h : IO w B v l) (hBw : B ≤ w.heap.size) (n : Nat) (hl : l.length ≤ 1000000) :
    ∃ v' w', (Builtin.append_ #[51, 51] 51 #[v, .slice (some ⟨w.heap.size, 0, none⟩) 1 1]).run Tryd.prog (w.alloc (.cells #[.int .i64 n] 3)) = .ok v' w' ∧ IO w' B v' (l ++ [n]) ∧ Below B w w' := by
  obtain ⟨i, hi, hz0, hz1, hz2⟩ := info_parts Tryd.info3
  have hoa : (w.alloc (.cells #[.int .i64 n] 3)).ownsRow B 3 1 v l.length (ic l) := World.ownsRow.alloc h _
  obtain ⟨v', w', hr, ho', hg, _, _⟩ := run_append_own_at (P := Tryd.prog) (w.alloc (.cells #[.int .i64 n] 3)) B 51 51 3 i _ 1 8 Tryd.underlying51 hi hz0 hz1 hz2 rfl (by omega) v l.length (ic l) hoa
    ⟨w.heap.size, 0, none⟩ 1 1 (ic [n]) rfl (fun j u hu => by
      rw [Addr.add_mid, Nat.zero_add]
      simp only [World.cell?, heap_alloc_new]
      simpa [ic] using hu) (ic_oneCell [n]) (by unfold maxLen; omega) (by omega) (by simp; omega)
  rw [← ic_append, show l.length + 1 = (l ++ [n]).length by simp] at ho'
  exact ⟨v', w', hr, ho', ((Below.refl B w).alloc hBw _).trans ((Below.refl B _).grown hg (by simp; omega) (fun k hk => (World.ownsRow.lt hoa k hk).1))⟩
theorem io_more2 {w : World} {B : Nat} {v : Value} {l : List Nat} (h : IO w B v l) (hBw : B ≤ w.heap.size) (n : Nat) (hl : l.length ≤ 1000000) :
    ∃ v' w', (Builtin.append_ #[51, 51] 51 #[v, .slice (some ⟨w.heap.size, 0, none⟩) 1 1]).run Tryd.prog (w.alloc (.cells #[.int .i64 n] 3)) = .ok v' w' ∧ IO w' B v' (l ++ [n]) ∧ Below B w w' ∧
      (∀ k, k < w.heap.size → v.ownBlock ≠ some k → w'.heap[k]? = w.heap[k]?) ∧ (v'.ownBlock = v.ownBlock ∨ v'.ownBlock = some (w.heap.size + 1)) := by
  obtain ⟨i, hi, hz0, hz1, hz2⟩ := info_parts Tryd.info3
  have hoa : (w.alloc (.cells #[.int .i64 n] 3)).ownsRow B 3 1 v l.length (ic l) := World.ownsRow.alloc h _
  obtain ⟨v', w', hr, ho', hg, _, hob⟩ := run_append_own_at (P := Tryd.prog) (w.alloc (.cells #[.int .i64 n] 3)) B 51 51 3 i _ 1 8 Tryd.underlying51 hi hz0 hz1 hz2 rfl (by omega) v l.length (ic l) hoa
    ⟨w.heap.size, 0, none⟩ 1 1 (ic [n]) rfl (fun j u hu => by
      rw [Addr.add_mid, Nat.zero_add]
      simp only [World.cell?, heap_alloc_new]
      simpa [ic] using hu) (ic_oneCell [n]) (by unfold maxLen; omega) (by omega) (by simp; omega)
  rw [← ic_append, show l.length + 1 = (l ++ [n]).length by simp] at ho'
  refine ⟨v', w', hr, ho', ((Below.refl B w).alloc hBw _).trans ((Below.refl B _).grown hg (by simp; omega) (fun k hk => (World.ownsRow.lt hoa k hk).1)), fun k hk hn => ?_, ?_⟩
  · rw [hg.block k (by simp; omega) (fun e => hn e.symm), Below.heap_alloc _ _ _ hk]
  · rcases hob with h | h
    · exact .inl h
    · right; rw [h]; simp
/-- Numbers that lie beside those of one's own. -/
def Beside (w : World) (x v : Value) : Prop := ∀ g, x.ownBlock = some g → v.ownBlock ≠ some g ∧ g < w.heap.size
theorem il_beside {w w' : World} {x v v' : Value} {l : List Nat} (h : IL w x l) (hb : Beside w x v) (hs : w.heap.size ≤ w'.heap.size) (hk : ∀ k, k < w.heap.size → v.ownBlock ≠ some k → w'.heap[k]? = w.heap[k]?) (ho : v'.ownBlock = v.ownBlock ∨ v'.ownBlock = some (w.heap.size + 1)) : IL w' x l ∧ Beside w' x v' := by
  obtain ⟨a, c, rfl, h⟩ := h
  refine ⟨⟨a, c, rfl, ?_⟩, fun g hg => ?_⟩
  · rcases h with h | ⟨g, o, rfl, h⟩
    · exact .inl h
    · obtain ⟨h1, h2⟩ := hb g rfl
      exact .inr ⟨g, o, rfl, fun j n hn => by rw [World.cell?_of_block (hk g h2 h1)]; exact h j n hn⟩
  · obtain ⟨h1, h2⟩ := hb g hg
    refine ⟨?_, by omega⟩
    rcases ho with e | e
    · rw [e]; exact h1
    · rw [e]; intro e2; have := Option.some.inj e2; omega
theorem io_nil (w : World) (B : Nat) : IO w B (.slice none 0 0) [] := ⟨rfl, .inl ⟨rfl, rfl⟩⟩

set_option maxRecDepth 100000 in
set_option maxHeartbeats 400000 in
theorem runits_any (r : Nat) (hr : r ≤ 1114111) (w : World) : Calls Tryd.prog 41 #[.int .i64 r] w fun e w' => (∃ v, e = .returned v ∧ IL w' v (units r) ∧ v.ownBlock = some w.heap.size) ∧ Below w.heap.size w w' := by
  by_cases h : (r : Int) < 65536
  · have HU : Hid (units r = [r]) := by unfold Hid units; rw [if_pos (by omega)]
    go_enter Tryd.func41, Tryd.ntmps41
    go_wp2_with fail
    go_ret
    rw [HU.out]
    refine ⟨⟨_, rfl, ⟨_, _, rfl, .inr ⟨w.heap.size, 0, rfl, fun j n hn => ?_⟩⟩, rfl⟩, (Below.refl _ _).alloc (Nat.le_refl _) _⟩
    simp only [World.cell?, heap_alloc_new, Nat.zero_add]
    cases j with
    | zero => simp at hn; subst hn; rfl
    | succ j => simp at hn
  · obtain ⟨u1, u2, hu, e1, e2⟩ : ∃ u1 u2 : Nat, units r = [u1, u2] ∧ (55296 : Int) + ((r : Int) - 65536) / 1024 = (u1 : Int) ∧ (56320 : Int) + ((r : Int) - 65536) % 1024 = (u2 : Int) :=
      ⟨_, _, by unfold units; rw [if_neg (by omega)], by omega, by omega⟩
    have HU := hid hu
    clear hu
    go_enter Tryd.func41, Tryd.ntmps41
    go_wp2_with fail
    go_ret
    rw [HU.out]
    refine ⟨⟨_, rfl, ⟨_, _, rfl, .inr ⟨w.heap.size, 0, rfl, fun j n hn => ?_⟩⟩, rfl⟩, (Below.refl _ _).alloc (Nat.le_refl _) _⟩
    simp only [World.cell?, heap_alloc_new, Nat.zero_add]
    match j, hn with
    | 0, hn => simp at hn; subst hn; rfl
    | 1, hn => simp at hn; subst hn; rfl
    | j + 2, hn => simp at hn
end Go.Proofs.YtkmggkcipgfhdaaDoor
