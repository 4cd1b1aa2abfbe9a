/- What this text holds: calls and keeps that came in as arguments, read off their data. -/
import Derived.Test.YtahhhpmpgkfkdaaPlay
import Derived.ProofKit
import Derived.OpenShut
import Derived.ShutString
import Derived.ChangeOld
import Derived.Below
import Derived.Deep.SlicePairs
namespace Go.Proofs.Ytahhhpmpgkfkdaa
open Go.ChangeShapes Go.WideShapes Go.ChangeAt Go.RowKit
set_option linter.unusedVariables false

theorem play_any (n : Int) (a : Option Addr) (len cap : Nat) (l : List ActV) (w : World) (h : ActsOk w a len l) : Calls Try.prog 22 #[.int .i64 n, .slice a len cap] w (PlayPost w n) := by
  by_cases hn : n < 1 ∨ 4096 < n
  · exact play_none n _ w hn
  · obtain ⟨m, rfl⟩ : ∃ m : Nat, n = m := ⟨n.toNat, by omega⟩
    exact play_some m a len cap l w (by omega) (by omega) h

theorem KeepsOk.later {w w' : World} {ka : Option Addr} {klen : Nat} {ks : List (Int × Int)} (h : KeepsOk w ka klen ks) {B : Nat} (hb : Below B w w') (hB : B = w.heap.size := by rfl) : KeepsOk w' ka klen ks := by
  subst hB
  exact h.below hb

theorem read_length {w : World} {B b bs sc : Nat} {wv : Value} {D : DS} (h : DiskAt w B b bs sc wv D) (i : Nat) (hi : i < D.n) : (D.read i).length = 512 := by
  have h0 := sec_length D.secs i D.n h.good.len hi
  have hw : ∀ x ∈ D.waits, x.2.length = 512 := fun x hx => (h.good.w x hx).2.2
  unfold DS.read
  generalize sec D.secs i = s at h0
  generalize D.waits = ws at hw
  induction ws generalizing s with
  | nil => exact h0
  | cons x ws ih =>
    show (lastW ws i (if x.1 = i then x.2 else s)).length = 512
    refine ih _ ?_ (fun y hy => hw y (by simp [hy]))
    split
    · exact hw x (by simp)
    · exact h0

theorem cells3 : Try.prog.cellsOf 3 = 1 := by kernel_rfl
theorem cells5 : Try.prog.cellsOf 5 = 1 := by kernel_rfl
theorem cells33 : Try.prog.cellsOf 33 = 1 := by kernel_rfl
theorem cells35 : Try.prog.cellsOf 35 = 5 := by kernel_rfl

section
variable {H : Type} {enc : TypeId × Value → H} {W : World} {held : Bool}

/-- Keeps. -/
theorem open_keeps {fuel : Nat} {ka : Option Addr} {klen kcap : Nat} {x : DataW H × List MemPlace} (h : DataW.trod enc Try.prog W 0 (fun _ => true) held fuel 33 [.slice ka klen kcap] = some x) : ∃ ks, KeepsOk W ka klen ks := by
  rcases Deep.open_slice_pairs Try.underlying33 Try.underlying55 (by kernel_rfl) rfl rfl (by kernel_rfl) (by kernel_rfl) h with ⟨hcs, _⟩ | ⟨a, len, cap, m, n, V0, V1, D0, D1, P0, P1, hcs, _, hl, hm, hmm, _, hx⟩
  · simp at hcs
    obtain ⟨rfl, rfl, rfl⟩ := hcs
    exact ⟨[], rfl, by unfold maxLen; omega, .inl rfl⟩
  · simp only [List.cons.injEq, Value.slice.injEq, and_true] at hcs
    obtain ⟨rfl, rfl, rfl⟩ := hcs
    simp only [if_true] at hmm
    subst hmm
    have hint : ∀ i, i < m → ∃ p : Int × Int, V0 i = .int .i64 p.1 ∧ V1 i = .int .i64 p.2 := fun i hi => by
      obtain ⟨_, _, h3, h4⟩ := hx i hi
      obtain ⟨y0, e0, _⟩ := DataW.trod_int Try.underlying3 h3
      obtain ⟨y1, e1, _⟩ := DataW.trod_int Try.underlying3 h4
      simp at e0 e1
      exact ⟨(y0, y1), e0, e1⟩
    obtain ⟨f, hf⟩ := Deep.choose_lt hint
    refine ⟨(List.range klen).map f, by simp, by omega, ?_⟩
    by_cases h0 : klen = 0
    · exact .inl h0
    · right
      obtain ⟨kb, ko, sp⟩ := a
      have hsp : sp = none := by
        have := (hx 0 (by omega)).1
        simp only [Nat.zero_mul, Addr.add, if_true, World.cell?] at this
        cases sp with
        | none => rfl
        | some s => split at this <;> simp at this
      subst hsp
      refine ⟨kb, ko, rfl, fun j hj => ?_⟩
      simp only [List.length_map, List.length_range] at hj
      obtain ⟨h1, h2, _, _⟩ := hx j (by omega)
      obtain ⟨e0, e1⟩ := hf j (by omega)
      rw [Addr.add_mid] at h1 h2
      rw [e0] at h1
      rw [e1] at h2
      simp only [List.getElem_map, List.getElem_range]
      exact ⟨h1, by rw [← Nat.add_assoc] at h2; exact h2⟩

/-- One call. -/
theorem open_act {n : Nat} {cs : List Value} {y : DataW H × List MemPlace} (hl : cs.length = 5) (h : DataW.trod enc Try.prog W 0 (fun _ => true) held n 35 cs = some y) :
    ∃ v : ActV, cs = [.int .i64 v.kind, .int .i64 v.at_, .int .i64 v.n, .int .u8 v.by_, .slice v.ka v.klen v.kcap] ∧ -9223372036854775808 ≤ v.n ∧ v.n ≤ 9223372036854775807 ∧ KeepsOk W v.ka v.klen v.ks := by
  obtain ⟨xs, k, hk, hxy, _, hxl, hf⟩ := DataW.trod_struct Try.underlying35 h
  have hxl5 : xs.length = 5 := hxl
  match cs, hl, xs, hxl5 with
  | [v0, v1, v2, v3, v4], _, [y0, y1, y2, y3, y4], _ =>
    have g0 : DataW.trod enc Try.prog W 0 (fun _ => true) held k 3 [v0] = some y0 := by
      have h9 : DataW.trod enc Try.prog W 0 (fun _ => true) held k 3 (([v0, v1, v2, v3, v4].drop 0).take (Try.prog.cellsOf 3)) = [y0, y1, y2, y3, y4][0]? := hf 0 _ rfl
      rw [cells3] at h9
      exact h9
    have g1 : DataW.trod enc Try.prog W 0 (fun _ => true) held k 3 [v1] = some y1 := by
      have h9 : DataW.trod enc Try.prog W 0 (fun _ => true) held k 3 (([v0, v1, v2, v3, v4].drop 1).take (Try.prog.cellsOf 3)) = [y0, y1, y2, y3, y4][1]? := hf 1 _ rfl
      rw [cells3] at h9
      exact h9
    have g2 : DataW.trod enc Try.prog W 0 (fun _ => true) held k 3 [v2] = some y2 := by
      have h9 : DataW.trod enc Try.prog W 0 (fun _ => true) held k 3 (([v0, v1, v2, v3, v4].drop 2).take (Try.prog.cellsOf 3)) = [y0, y1, y2, y3, y4][2]? := hf 2 _ rfl
      rw [cells3] at h9
      exact h9
    have g3 : DataW.trod enc Try.prog W 0 (fun _ => true) held k 5 [v3] = some y3 := by
      have h9 : DataW.trod enc Try.prog W 0 (fun _ => true) held k 5 (([v0, v1, v2, v3, v4].drop 3).take (Try.prog.cellsOf 5)) = [y0, y1, y2, y3, y4][3]? := hf 3 _ rfl
      rw [cells5] at h9
      exact h9
    have g4 : DataW.trod enc Try.prog W 0 (fun _ => true) held k 33 [v4] = some y4 := by
      have h9 : DataW.trod enc Try.prog W 0 (fun _ => true) held k 33 (([v0, v1, v2, v3, v4].drop 4).take (Try.prog.cellsOf 33)) = [y0, y1, y2, y3, y4][4]? := hf 4 _ rfl
      rw [cells33] at h9
      exact h9
    obtain ⟨i0, e0, _, _⟩ := DataW.trod_int Try.underlying3 g0
    obtain ⟨i1, e1, _, _⟩ := DataW.trod_int Try.underlying3 g1
    obtain ⟨i2, e2, _, w2⟩ := DataW.trod_int Try.underlying3 g2
    obtain ⟨i3, e3, _, _⟩ := DataW.trod_int Try.underlying5 g3
    obtain ⟨ka, klen, kcap, e4⟩ : ∃ a l c, v4 = .slice a l c := by
      rcases Deep.open_slice Try.underlying33 g4 with ⟨hcs, _⟩ | ⟨a, len, cap, m, n, D, Pl, hcs, _⟩
      · simp at hcs; exact ⟨_, _, _, hcs⟩
      · simp at hcs; exact ⟨_, _, _, hcs⟩
    simp only [List.cons.injEq, and_true] at e0 e1 e2 e3
    subst e0 e1 e2 e3 e4
    obtain ⟨ks, hks⟩ := open_keeps g4
    have hb : -9223372036854775808 ≤ i2 ∧ i2 ≤ 9223372036854775807 := by simpa [Lit.wf, IntKind.min, IntKind.max, IntKind.signed, IntKind.bits] using w2
    exact ⟨⟨i0, i1, i2, i3, ka, klen, kcap, ks⟩, rfl, hb.1, hb.2, hks⟩

/-- Calls. -/
theorem open_acts {fuel : Nat} {a : Option Addr} {len cap : Nat} {x : DataW H × List MemPlace} (h : DataW.trod enc Try.prog W 0 (fun _ => true) held fuel 22 [.slice a len cap] = some x) : ∃ l, ActsOk W a len l := by
  rcases Deep.open_slice Try.underlying22 h with ⟨hcs, _⟩ | ⟨a', len', cap', m, n, D, Pl, hcs, _, hl, hm, hmm, _, hx⟩
  · simp at hcs
    obtain ⟨rfl, rfl, rfl⟩ := hcs
    exact ⟨[], rfl, by unfold maxLen; omega, .inl rfl⟩
  · simp only [List.cons.injEq, Value.slice.injEq, and_true] at hcs
    obtain ⟨rfl, rfl, rfl⟩ := hcs
    simp only [if_true] at hmm
    subst hmm
    rw [cells35] at hx
    have hact : ∀ i, i < m → ∃ v : ActV, W.cell? (a'.add (i * 5)) = some (.int .i64 v.kind) ∧ W.cell? (a'.add (i * 5 + 1)) = some (.int .i64 v.at_) ∧ W.cell? (a'.add (i * 5 + 2)) = some (.int .i64 v.n) ∧
        W.cell? (a'.add (i * 5 + 3)) = some (.int .u8 v.by_) ∧ W.cell? (a'.add (i * 5 + 4)) = some (.slice v.ka v.klen v.kcap) ∧ -9223372036854775808 ≤ v.n ∧ v.n ≤ 9223372036854775807 ∧ KeepsOk W v.ka v.klen v.ks := fun i hi => by
      obtain ⟨cs', h1, h2⟩ := hx i hi
      obtain ⟨_, hlen, hcell⟩ := World.cells?_some h1
      obtain ⟨v, rfl, b1, b2, hk⟩ := open_act hlen h2
      refine ⟨v, ?_, ?_, ?_, ?_, ?_, b1, b2, hk⟩
      · have := hcell 0 (by omega); rw [Deep.add_add] at this; simpa using this
      · have := hcell 1 (by omega); rw [Deep.add_add] at this; simpa using this
      · have := hcell 2 (by omega); rw [Deep.add_add] at this; simpa using this
      · have := hcell 3 (by omega); rw [Deep.add_add] at this; simpa using this
      · have := hcell 4 (by omega); rw [Deep.add_add] at this; simpa using this
    have hinh : Inhabited ActV := ⟨⟨0, 0, 0, 0, none, 0, 0, []⟩⟩
    obtain ⟨f, hf⟩ := Deep.choose_lt hact
    refine ⟨(List.range len).map f, by simp, by omega, ?_⟩
    by_cases h0 : len = 0
    · exact .inl h0
    · right
      obtain ⟨ab, ao, sp⟩ := a'
      have hsp : sp = none := by
        have := (hf 0 (by omega)).1
        simp only [Nat.zero_mul, Addr.add, if_true, World.cell?] at this
        cases sp with
        | none => rfl
        | some s => split at this <;> simp at this
      subst hsp
      refine ⟨ab, ao, rfl, fun j hj => ?_⟩
      simp only [List.length_map, List.length_range] at hj
      obtain ⟨k0, k1, k2, k3, k4, b1, b2, hk⟩ := hf j (by omega)
      rw [Addr.add_mid] at k0 k1 k2 k3 k4
      simp only [List.getElem_map, List.getElem_range]
      exact ⟨k0, by rw [← Nat.add_assoc] at k1; exact k1, by rw [← Nat.add_assoc] at k2; exact k2, by rw [← Nat.add_assoc] at k3; exact k3, by rw [← Nat.add_assoc] at k4; exact k4, b1, b2, hk⟩
end
end Go.Proofs.Ytahhhpmpgkfkdaa
