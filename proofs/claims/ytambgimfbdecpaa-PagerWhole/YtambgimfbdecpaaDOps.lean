/- What this text holds: the calls of a disk once more, each with all its answers in one. -/
import Derived.Test.YtambgimfbdecpaaDReg3
namespace Go.Proofs.Ytambgimfbdecpaa
open Go.RowKit
set_option linter.unusedVariables false

theorem below_kept {B : Nat} {w w2 w3 : World} {S : List Nat} (h : Below B w w2) (k : Kept S w2 w3) (hS : ∀ i ∈ S, B ≤ i) (hB : B ≤ w2.heap.size) : Below B w w3 := h.trans (k.below hS hB)

/-- A call of a disk has answered r, and the disk is D' now; nothing but its own blocks has turned. -/
def Did (w : World) (B b : Nat) (own : List Nat) (r : Int) (D' : DS) (e : Ending) (w' : World) : Prop :=
  e = .returned (.int .i64 r) ∧ ∃ own', Disk w' B b own' D' ∧ Kept own w w' ∧ ∀ k ∈ own', k ∈ own ∨ w.heap.size ≤ k

/-- What Flush answers, and the disk behind it. -/
def DS.flush (D : DS) : Int × DS := if D.step.1 then (0, D.step.2.flushed) else (9, D.step.2)
/-- What Write answers, and the disk behind it. -/
def DS.write (D : DS) (i : Int) (l : List Int) : Int × DS :=
  if l.length ≠ 512 then (2, D) else if ¬ (0 ≤ i ∧ i < D.n) then (3, D) else if D.step.1 then (0, { D.step.2 with waits := D.step.2.waits ++ [(i, l)] }) else (9, D.step.2)

theorem flush_all {w : World} {B b : Nat} {own : List Nat} {D : DS} (h : Disk w B b own D) (hs : D.steps < 1000) :
    Calls Try.prog 92 #[.pointer (some ⟨b, 0, none⟩)] w (Did w B b own D.flush.1 D.flush.2) := by
  obtain ⟨bs, sc, wv, hd, rfl⟩ := h
  cases hp : D.step.1 with
  | true =>
    refine (flush_yes hd hs hp).mono ?_
    rintro e w' ⟨rfl, hd', hk⟩
    simp only [DS.flush, hp, if_true]
    refine ⟨rfl, _, ⟨bs, sc, _, hd', rfl⟩, hk.mono (fun k _ h => by simp only [List.mem_cons, List.not_mem_nil, or_false] at h ⊢; rcases h with h | h; exact .inl h; exact .inr (.inl h)), fun k hk => .inl ?_⟩
    simp only [Value.ownBlock, Option.toList_none, List.mem_cons, List.not_mem_nil, or_false] at hk ⊢
    rcases hk with h | h
    · exact .inl h
    · exact .inr (.inl h)
  | false =>
    refine (flush_power hd hs hp).mono ?_
    rintro e w' ⟨rfl, hd', hk⟩
    simp only [DS.flush, hp]
    exact ⟨rfl, _, ⟨bs, sc, _, hd', rfl⟩, hk.mono (fun k _ h => by simp only [List.mem_cons, List.not_mem_nil, or_false] at h; simp [h]), fun k hk => .inl hk⟩

/-- A slice of bytes that a call is handed. -/
def BytesAt (w : World) (a : Option Addr) (len : Nat) (l : List Int) : Prop := l.length = len ∧ (0 < len → ∃ x, a = some x ∧ ∀ j v, (bc l)[j]? = some v → w.cell? (x.add j) = some v)

theorem write_all {w : World} {B b : Nat} {own : List Nat} {D : DS} (h : Disk w B b own D) (hs : D.steps < 1000) (hwl : D.waits.length < 200) (i : Int) (a : Option Addr) (len cap : Nat) (l : List Int) (hm : len ≤ maxLen) (hl : BytesAt w a len l) (ha : ∀ x, a = some x → x.block ∉ own) :
    Calls Try.prog 21 #[.pointer (some ⟨b, 0, none⟩), .int .i64 i, .slice a len cap] w (Did w B b own (D.write i l).1 (D.write i l).2) := by
  obtain ⟨bs, sc, wv, hd, rfl⟩ := h
  obtain ⟨hl1, hl2⟩ := hl
  have hBw : B ≤ w.heap.size := Nat.le_trans hd.hB (Nat.le_of_lt (hd.lt b (by simp)).2)
  by_cases h1 : len = 512
  · subst h1
    by_cases h2 : 0 ≤ i ∧ i < D.n
    · obtain ⟨q, rfl⟩ : ∃ q : Nat, i = q := ⟨i.toNat, by omega⟩
      obtain ⟨x, rfl, hx⟩ := hl2 (by omega)
      cases hp : D.step.1 with
      | true =>
        refine (write_yes hd q x cap l hl1 hx (fun e => ha x rfl (by rw [e]; simp)) (by omega) hs hp hwl hBw).mono ?_
        rintro e w' ⟨rfl, wv', hd', hk, hfr⟩
        have e1 : D.write q l = (0, { D.step.2 with waits := D.step.2.waits ++ [((q : Int), l)] }) := by simp only [DS.write, hl1, ne_eq, not_true_eq_false, if_false, h2, hp, if_true]; simp
        rw [e1]
        refine ⟨rfl, _, ⟨bs, sc, wv', hd', rfl⟩, hk.mono (fun k _ h => by simp only [List.mem_cons] at h ⊢; rcases h with h | h; exact .inl h; exact .inr (.inr h)), fun k hk => ?_⟩
        simp only [List.mem_cons, Option.mem_toList] at hk ⊢
        rcases hk with h | h | h
        · exact .inl (.inl h)
        · exact .inl (.inr (.inl h))
        · rcases hfr k h with h | h
          · exact .inl (.inr (.inr h))
          · exact .inr h
      | false =>
        refine (write_power hd q (some x) cap (by omega) hs hp).mono ?_
        rintro e w' ⟨rfl, hd', hk⟩
        have e1 : D.write q l = (9, D.step.2) := by simp only [DS.write, hl1, ne_eq, not_true_eq_false, if_false, h2, hp]; simp
        rw [e1]
        exact ⟨rfl, _, ⟨bs, sc, wv, hd', rfl⟩, hk.mono (fun k _ h => by simp only [List.mem_cons, List.not_mem_nil, or_false] at h; simp [h]), fun k hk => .inl hk⟩
    · refine (write_range hd i a cap h2).mono ?_
      rintro e w' ⟨rfl, rfl⟩
      have e1 : D.write i l = (3, D) := by simp only [DS.write, hl1, ne_eq, not_true_eq_false, if_false, h2]; simp
      rw [e1]
      exact ⟨rfl, _, ⟨bs, sc, wv, hd, rfl⟩, Kept.refl _ _, fun k hk => .inl hk⟩
  · refine (write_len hd i a len cap h1 hm).mono ?_
    rintro e w' ⟨rfl, rfl⟩
    have e1 : D.write i l = (2, D) := by simp only [DS.write, hl1, ne_eq, h1, not_false_eq_true, if_true]
    rw [e1]
    exact ⟨rfl, _, ⟨bs, sc, wv, hd, rfl⟩, Kept.refl _ _, fun k hk => .inl hk⟩

theorem fuse_all {w : World} {B b : Nat} {own : List Nat} {D : DS} (h : Disk w B b own D) (n : Int) (hn : n ≤ 9223372036854775807) :
    Calls Try.prog 17 #[.pointer (some ⟨b, 0, none⟩), .int .i64 n] w fun e w' => e = .returned (.tuple #[]) ∧ Disk w' B b own (D.fused n) ∧ Kept own w w' := by
  obtain ⟨bs, sc, wv, hd, rfl⟩ := h
  refine (fuse_any hd n hn).mono ?_
  rintro e w' ⟨rfl, hd', hk⟩
  exact ⟨rfl, ⟨bs, sc, wv, hd', rfl⟩, hk.mono (fun k _ h => by simp only [List.mem_cons, List.not_mem_nil, or_false] at h; simp [h])⟩

/-- What a call keeps below B. -/
theorem Disk.below {w w' w0 : World} {B b : Nat} {own : List Nat} {D : DS} (h : Disk w B b own D) (hk : Kept own w w') (hb : Below B w0 w) (hB : B ≤ w0.heap.size) : Below B w0 w' :=
  below_kept hb hk (fun i hi => (h.lt i hi).1) (Nat.le_trans hB hb.size)
end Go.Proofs.Ytambgimfbdecpaa
