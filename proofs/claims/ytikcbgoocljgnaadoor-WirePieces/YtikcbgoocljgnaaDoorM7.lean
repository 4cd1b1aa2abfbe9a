/- What this text holds: a command ends. -/
import Derived.Test.YtikcbgoocljgnaaDoorM6
namespace Go.Proofs.YtikcbgoocljgnaaDoor
open Go.RowKit
set_option linter.unusedVariables false
set_option linter.unusedSimpArgs false

theorem R4.other {w : World} {b q : Nat} {X Y : Array Value} {T' : TypeId} {fr : Nat × Nat} {vt vl vu : Value} {T L : List Bs} {U : Bs} (h : R4 w b X vt vl vu T L U) (hq : w.heap[q]? = some (.cells Y T' fr)) (h9 : T' ≠ 9) (h5 : T' ≠ 5) (hb : b ≠ q) (i : Nat) (v : Value) : R4 (w.setCell ⟨q, i, none⟩ v) b X vt vl vu T L U :=
  ⟨by rw [Below.heap_setCell _ _ _ _ hb]; exact h.row, h.t.setOther h9 hq _ _, h.l.setOther h9 hq _ _, h.u.setOther h5 hq _ _⟩
set_option maxRecDepth 100000 in
set_option maxHeartbeats 1000000 in
theorem restart_row {w : World} {b : Nat} {X : Array Value} (hX : X.size = 8) (h : w.heap[b]? = some (.cells X 57 (0, 0))) :
    Calls Tryd.prog 41 #[.pointer (some ⟨b, 0, none⟩)] w fun e w' => e = .returned (.tuple #[]) ∧ FAt w' b [b] Fd.zero ∧ Kept [b] w w' := by
  have HR := hid h
  have h1 : (w.setRow b (zero7.toList ++ X.toList.drop 7).toArray).heap[b]? = some (.cells (zero7.toList ++ X.toList.drop 7).toArray 57 (0, 0)) := setRow_heap w b _ _ 57 _ h
  have hx7 : X.toList.drop 7 = [X[7]] := by
    rw [List.drop_eq_getElem_cons (by simp; omega), List.drop_eq_nil_of_le (by simp; omega)]
    simp
  have c7 : (w.setRow b (zero7.toList ++ X.toList.drop 7).toArray).cell? ⟨b, 7, none⟩ = some X[7] := row_at h1 7 (by rw [hx7]; rfl)
  have j7 : (w.setRow b (zero7.toList ++ X.toList.drop 7).toArray).frozen? ⟨b, 7, none⟩ = false := by simp [World.frozen?, h1]
  have HZ : Hid (FAt ((w.setRow b (zero7.toList ++ X.toList.drop 7).toArray).setCell ⟨b, 7, none⟩ .nilFunc) b [b] Fd.zero) := by
    refine ⟨.slice none 0 0, .slice none 0 0, .slice none 0 0, ⟨?_, GO.nil _ _ _, GO.nil _ _ _, GO.nil _ _ _, fun g hg => by simp [Value.ownBlock] at hg⟩, rfl⟩
    rw [heap_setCell_same _ _ _ _ _ _ h1, hx7]
    rfl
  have HK : Hid (Kept [b] w ((w.setRow b (zero7.toList ++ X.toList.drop 7).toArray).setCell ⟨b, 7, none⟩ .nilFunc)) :=
    (Kept.setRow [b] w b _ (by simp)).trans (Kept.setCell [b] _ _ _ (by simp)) (fun _ _ h => h)
  have HO : Hid (∀ v ∈ zero7.toList, v.oneCell' = true) := by
    intro v hv
    simp only [zero7, List.mem_cons, List.not_mem_nil, or_false] at hv
    rcases hv with rfl | rfl | rfl | rfl | rfl | rfl | rfl <;> rfl
  clear h h1 hx7
  generalize hW : w.setRow b (zero7.toList ++ X.toList.drop 7).toArray = W at *
  generalize X[7] = x7 at *
  have HX := hid hX
  clear hX
  go_enter Tryd.func41, Tryd.ntmps41
  go_wp2_with (refine wpList_store51 (A := b) (c := zero7) rfl rfl HR.out rfl HX.out HO.out ?_; rw [hW])
  go_end0
  exact ⟨rfl, HZ.out, HK.out⟩
/-- An event that a call answers: its kind, its texts, its literals. -/
def EvIs (k : Int) (T L : List Bs) (e : Ending) (w' : World) : Prop := ∃ vT vL, e = .returned (.agg #[.int .i64 k, vT, vL]) ∧ GO eS w' 0 vT T ∧ GO eS w' 0 vL L
/-- The raw event lies in a block, all else is as it was. -/
structure EndMid (w W : World) (b q R : Nat) (own : List Nat) (v' vl : Value) (T L : List Bs) : Prop where
  row : ∃ X, X.size = 8 ∧ W.heap[b]? = some (.cells X 57 (0, 0))
  t : GO eS W 0 v' T
  l : GO eS W 0 vl L
  raw : W.heap[q]? = some (.cells #[v', vl] 36 (0, 0))
  res : W.heap[R]? = some (.cells #[.int .i64 0, .slice none 0 0, .slice none 0 0] 41 (0, 0))
  kept : Kept own w W
theorem blk_kept {w w' : World} {v : Value} {l : List Bs} (h : GO eS w 0 v l) (k : Kept v.ownBlock.toList w w') {q : Nat} {Y : Array Value} {T : TypeId} {fr : Nat × Nat} (hq : w.heap[q]? = some (.cells Y T fr)) (hT : T ≠ 9) : w'.heap[q]? = some (.cells Y T fr) := by
  rw [k.block q (lt_of_some hq) (by rw [Option.mem_toList]; exact h.ne hT hq)]
  exact hq
/-- The raw block is made last. -/
theorem end_last {w Wx w' : World} {b R : Nat} {vt vl vu v' : Value} {F : Fd} {x : Bs} (f : FIn w b vt vl vu F) (hk : Kept vt.ownBlock.toList Wx w') (hb : Below w.heap.size w Wx) (hR : Wx.heap[R]? = some (.cells #[.int .i64 0, .slice none 0 0, .slice none 0 0] 41 (0, 0))) (ho : GO eS w' 0 v' (F.texts ++ [x])) :
    (w'.cell? ⟨b, 0, none⟩ = some vt ∧ w'.cell? ⟨b, 1, none⟩ = some vl) ∧ EndMid w (w'.alloc (.cells #[v', vl] 36)) b w'.heap.size R (own3 b vt vl vu) v' vl (F.texts ++ [x]) F.lits := by
  have r1 := (f.r4.later hb).text f.tl hk ho
  have hal : Below w'.heap.size w' (w'.alloc (.cells #[v', vl] 36)) := (Below.refl _ _).alloc (Nat.le_refl _) _
  have r2 := r1.later hal
  have hR' := blk_kept (f.t.later hb) hk hR (by decide)
  refine ⟨⟨r1.cell 0 rfl, r1.cell 1 rfl⟩, ⟨_, rfl, r2.row⟩, r2.t, r2.l, heap_alloc_new _ _, ?_, ?_⟩
  · rw [heap_alloc_old _ _ (lt_of_some hR')]; exact hR'
  · have k1 : Kept (own3 b vt vl vu) w w' := (Kept.ofBelow hb _).trans (hk.mono (T := own3 b vt vl vu) (fun i _ hi => own3_mem.2 (.inr (.inl (by rwa [Option.mem_toList] at hi))))) (fun _ _ h => h)
    exact k1.trans (Kept.alloc _ _ _) (fun _ _ h => h)
/-- The raw block was made ahead. -/
theorem end_ahead {w Wx w' : World} {b R q : Nat} {vt vl vu v' : Value} {F : Fd} {x : Bs} (f : FIn w b vt vl vu F) (hk : Kept vt.ownBlock.toList Wx w') (hb : Below w.heap.size w Wx) (hR : Wx.heap[R]? = some (.cells #[.int .i64 0, .slice none 0 0, .slice none 0 0] 41 (0, 0))) (hq : Wx.heap[q]? = some (.cells #[.slice none 0 0, .slice none 0 0] 36 (0, 0))) (hqw : w.heap.size ≤ q) (hqR : R ≠ q) (ho : GO eS w' 0 v' (F.texts ++ [x])) :
    (w'.cell? ⟨b, 0, none⟩ = some vt ∧ w'.cell? ⟨b, 1, none⟩ = some vl ∧ w'.cell? ⟨q, 0, none⟩ = some (.slice none 0 0) ∧ w'.cell? ⟨q, 1, none⟩ = some (.slice none 0 0) ∧ w'.frozen? ⟨q, 0, none⟩ = false ∧ w'.frozen? ⟨q, 1, none⟩ = false ∧ ((w'.setCell ⟨q, 0, none⟩ v').setCell ⟨q, 1, none⟩ vl).cell? ⟨b, 0, none⟩ = some vt ∧ ((w'.setCell ⟨q, 0, none⟩ v').setCell ⟨q, 1, none⟩ vl).cell? ⟨b, 1, none⟩ = some vl) ∧ EndMid w ((w'.setCell ⟨q, 0, none⟩ v').setCell ⟨q, 1, none⟩ vl) b q R (own3 b vt vl vu) v' vl (F.texts ++ [x]) F.lits := by
  have r1 := (f.r4.later hb).text f.tl hk ho
  have hR' := blk_kept (f.t.later hb) hk hR (by decide)
  have hq' := blk_kept (f.t.later hb) hk hq (by decide)
  have hbq : b ≠ q := by have := f.lt; omega
  have hq1 : (w'.setCell ⟨q, 0, none⟩ v').heap[q]? = some (.cells #[v', .slice none 0 0] 36 (0, 0)) := by rw [heap_setCell_same _ _ _ _ _ _ hq']; rfl
  have r2 := (r1.other hq' (by decide) (by decide) hbq 0 v').other hq1 (by decide) (by decide) hbq 1 vl
  refine ⟨⟨r1.cell 0 rfl, r1.cell 1 rfl, row_at hq' 0 rfl, row_at hq' 1 rfl, by simp [World.frozen?, hq'], by simp [World.frozen?, hq'], r2.cell 0 rfl, r2.cell 1 rfl⟩, ⟨_, rfl, r2.row⟩, r2.t, r2.l, ?_, ?_, ?_⟩
  · rw [heap_setCell_same _ _ _ _ _ _ hq1]; rfl
  · rw [Below.heap_setCell _ _ _ _ hqR, Below.heap_setCell _ _ _ _ hqR]; exact hR'
  · have k1 : Kept (own3 b vt vl vu) w w' := (Kept.ofBelow hb _).trans (hk.mono (T := own3 b vt vl vu) (fun i _ hi => own3_mem.2 (.inr (.inl (by rwa [Option.mem_toList] at hi))))) (fun _ _ h => h)
    refine ⟨k1.os, k1.tape, k1.output, by simp [World.setCell]; exact k1.size, fun i hi hn => ?_⟩
    rw [Below.heap_setCell _ _ _ _ (by show i ≠ q; omega), Below.heap_setCell _ _ _ _ (by show i ≠ q; omega)]
    exact k1.block i hi hn
/-- What is left when a command has ended. -/
theorem end_fin {w W w3 : World} {b q R : Nat} {own : List Nat} {v' vl : Value} {T L : List Bs} (m : EndMid w W b q R own v' vl T L) (hbo : b ∈ own) (hRq : R ≠ q) (k : Kept [b] W w3) (hf : FAt w3 b [b] Fd.zero) :
    (w3.cell? ⟨q, 0, none⟩ = some v' ∧ w3.cell? ⟨q, 1, none⟩ = some vl ∧ w3.heap[R]? = some (.cells #[.int .i64 0, .slice none 0 0, .slice none 0 0] 41 (0, 0)) ∧ GO eS w3 0 v' T ∧ GO eS w3 0 vl L) ∧ Kept own w w3 := by
  obtain ⟨X, hX, hrow⟩ := m.row
  have nb : ∀ {p : Nat} {Y : Array Value} {t : TypeId}, W.heap[p]? = some (.cells Y t (0, 0)) → t ≠ 57 → p ∉ [b] := fun hp ht => by
    rw [List.mem_singleton]
    rintro rfl
    rw [hrow] at hp
    simp at hp
    exact ht hp.2.symm
  have hq : w3.heap[q]? = some (.cells #[v', vl] 36 (0, 0)) := by rw [k.block q (lt_of_some m.raw) (nb m.raw (by decide))]; exact m.raw
  have hR : w3.heap[R]? = some (.cells #[.int .i64 0, .slice none 0 0, .slice none 0 0] 41 (0, 0)) := by rw [k.block R (lt_of_some m.res) (nb m.res (by decide))]; exact m.res
  refine ⟨⟨row_at hq 0 rfl, row_at hq 1 rfl, hR, m.t.kept k (fun g hg => ?_), m.l.kept k (fun g hg => ?_)⟩, m.kept.trans k (fun i _ hi => by rw [List.mem_singleton] at hi; rw [hi]; exact hbo)⟩
  · rw [List.mem_singleton]; rintro rfl; exact m.t.ne (by decide) hrow hg
  · rw [List.mem_singleton]; rintro rfl; exact m.l.ne (by decide) hrow hg
end Go.Proofs.YtikcbgoocljgnaaDoor
