/- What this text holds: how a message and a number that come in lie in memory. -/
import Derived.Test.YtaniljfjmbifnaaGreatDoorHFrame
import Derived.Test.YtaniljfjmbifnaaGreatDoorKX6
import Derived.Deep.SlicePairs
import Derived.SliceStrings
import Derived.ProofKit
import Derived.OpenShut
import Derived.Below
namespace Go.Proofs.YtaniljfjmbifnaaGreatDoor.H
open Go.ChangeShapes Go.WideShapes Go.ChangeAt Go.RowKit
set_option linter.unusedVariables false
set_option linter.unusedSimpArgs false

/-- What an int keeps. -/
def I64 (n : Int) : Prop := -9223372036854775808 ≤ n ∧ n ≤ 9223372036854775807
theorem laidOut : laidOutB Tryz.prog = true := by kernel_rfl
theorem cells3 : Tryz.prog.cellsOf 3 = 1 := by kernel_rfl
theorem cells9 : Tryz.prog.cellsOf 9 = 1 := by kernel_rfl
theorem cells29 : Tryz.prog.cellsOf 29 = 1 := by kernel_rfl
theorem cells31 : Tryz.prog.cellsOf 31 = 7 := by kernel_rfl
theorem cells33 : Tryz.prog.cellsOf 33 = 12 := by kernel_rfl
/-- Texts lie in a slice. -/
structure TextsOk (W : World) (a : Option Addr) (len cap : Nat) (l : List Bs) : Prop where
  rl : RL W (.slice a len cap) 1 (l.map sR)
  len_ : l.length = len
  small : len ≤ maxLen
  each : ∀ x ∈ l, x.length ≤ maxLen
theorem spot_none {W : World} {kb ko : Nat} {sp : Option Nat} {v : Value} (h : W.cell? ((⟨kb, ko, sp⟩ : Addr).add 0) = some v) : sp = none := by
  simp only [Addr.add, if_true, World.cell?] at h
  cases sp with
  | none => rfl
  | some s => split at h <;> simp at h
theorem open_texts {H : Type} {enc : TypeId × Value → H} {W : World} {held : Bool} {fuel : Nat} {a : Option Addr} {len cap : Nat} {x : DataW H × List MemPlace} (h : DataW.trod enc Tryz.prog W 0 (fun _ => true) held fuel 29 [.slice a len cap] = some x) :
    ∃ l : List Bs, TextsOk W a len cap l := by
  rcases Go.ChangeShapes.open_strings Tryz.underlying29 Tryz.underlying9 cells9 h with ⟨hcs, _⟩ | ⟨a', len', cap', ss, hcs, _, hl, hm, hz, _, hc, hw⟩
  · simp only [List.cons.injEq, Value.slice.injEq, and_true] at hcs
    obtain ⟨rfl, rfl, rfl⟩ := hcs
    exact ⟨[], ⟨fun r hr => by simp at hr, none, 0, rfl, Nat.le_refl _, .inl rfl⟩, rfl, by unfold maxLen; omega, fun s hs => nomatch hs⟩
  · simp only [List.cons.injEq, Value.slice.injEq, and_true] at hcs
    obtain ⟨rfl, rfl, rfl⟩ := hcs
    simp only [if_true] at hz
    have hlen : ((ss.take len).map (·.data.toList)).length = len := by rw [List.length_map, List.length_take]; omega
    refine ⟨(ss.take len).map (·.data.toList), ⟨?_, some a', cap, by rw [List.length_map, hlen], by rw [List.length_map, hlen]; exact hl, ?_⟩, hlen, by omega, ?_⟩
    · intro r hr
      obtain ⟨e, _, rfl⟩ := List.mem_map.1 hr
      rfl
    · by_cases h0 : len = 0
      · left; exact List.eq_nil_of_length_eq_zero (by rw [List.length_map, hlen]; exact h0)
      · right
        obtain ⟨kb, ko, sp⟩ := a'
        obtain rfl := spot_none (hc 0 (by omega))
        refine ⟨kb, ko, rfl, fun j i r y hj hi => ?_, ?_⟩
        · rw [List.getElem?_map, List.getElem?_map] at hj
          obtain ⟨q, hq, rfl⟩ := Option.map_eq_some_iff.1 hj
          obtain ⟨s, hs, rfl⟩ := Option.map_eq_some_iff.1 hq
          rw [List.getElem?_take] at hs
          split at hs
          · have := hc j (by omega)
            rw [Addr.add_mid, List.getD_eq_getElem?_getD, hs] at this
            match i, hi with
            | 0, hi =>
              simp [sR] at hi
              subst hi
              rw [Nat.mul_one, Nat.add_zero, this, str_of]
              rfl
            | (i + 1), hi => simp [sR] at hi
          · simp at hs
        · have := hc 0 (by omega)
          rw [Addr.add_mid] at this
          exact World.block_lt_of_cell? W _ this
    · intro y hy
      obtain ⟨s, hs, rfl⟩ := List.mem_map.1 hy
      have := hw s (List.mem_of_mem_take hs)
      rw [← Go.Lib.size_eq]
      exact this


section
variable {H : Type} {enc : TypeId × Value → H} {W : World} {held : Bool}
theorem open_i {n : Nat} {v : Value} {y : DataW H × List MemPlace} (h : DataW.trod enc Tryz.prog W 0 (fun _ => true) held n 3 [v] = some y) : ∃ i : Int, v = .int .i64 i ∧ I64 i := by
  obtain ⟨i, e, _, w⟩ := DataW.trod_int Tryz.underlying3 h
  simp only [List.cons.injEq, and_true] at e
  exact ⟨i, e, bounds_i64 w⟩
theorem open_sl {t e : TypeId} (ht : Tryz.prog.underlying t = some (.slice e)) {n : Nat} {v : Value} {y : DataW H × List MemPlace} (h : DataW.trod enc Tryz.prog W 0 (fun _ => true) held n t [v] = some y) : ∃ a len cap, v = .slice a len cap := by
  rcases DataW.trod_slice ht h with ⟨hcs, rfl⟩ | ⟨a', len', cap', elems, rest, n, rfl, hcs, _⟩
  · simp at hcs; exact ⟨_, _, _, hcs⟩
  · simp at hcs; exact ⟨_, _, _, hcs⟩
set_option maxRecDepth 100000 in
theorem open_day (n : Nat) (cs : List Value) (y : DataW H × List MemPlace) (hl : cs.length = 7) (h : DataW.trod enc Tryz.prog W 0 (fun _ => true) held n 31 cs = some y) :
    ∃ d1 d2 d3 d4 d5 d6 d7 : Int, cs = [.int .i64 d1, .int .i64 d2, .int .i64 d3, .int .i64 d4, .int .i64 d5, .int .i64 d6, .int .i64 d7] ∧ I64 d1 ∧ I64 d2 ∧ I64 d3 ∧ I64 d4 ∧ I64 d5 ∧ I64 d6 ∧ I64 d7 := by
  obtain ⟨xs, k, hk, hxy, _, hxl, hf⟩ := DataW.trod_struct Tryz.underlying31 h
  have hxl5 : xs.length = 7 := hxl
  match cs, hl, xs, hxl5 with
  | [v0, v1, v2, v3, v4, v5, v6], _, [y0, y1, y2, y3, y4, y5, y6], _ =>
    have g0 : DataW.trod enc Tryz.prog W 0 (fun _ => true) held k 3 [v0] = some y0 := by
      have h9 : DataW.trod enc Tryz.prog W 0 (fun _ => true) held k 3 (([v0, v1, v2, v3, v4, v5, v6].drop 0).take (Tryz.prog.cellsOf 3)) = [y0, y1, y2, y3, y4, y5, y6][0]? := hf 0 _ rfl
      rw [cells3] at h9
      exact h9
    have g1 : DataW.trod enc Tryz.prog W 0 (fun _ => true) held k 3 [v1] = some y1 := by
      have h9 : DataW.trod enc Tryz.prog W 0 (fun _ => true) held k 3 (([v0, v1, v2, v3, v4, v5, v6].drop 1).take (Tryz.prog.cellsOf 3)) = [y0, y1, y2, y3, y4, y5, y6][1]? := hf 1 _ rfl
      rw [cells3] at h9
      exact h9
    have g2 : DataW.trod enc Tryz.prog W 0 (fun _ => true) held k 3 [v2] = some y2 := by
      have h9 : DataW.trod enc Tryz.prog W 0 (fun _ => true) held k 3 (([v0, v1, v2, v3, v4, v5, v6].drop 2).take (Tryz.prog.cellsOf 3)) = [y0, y1, y2, y3, y4, y5, y6][2]? := hf 2 _ rfl
      rw [cells3] at h9
      exact h9
    have g3 : DataW.trod enc Tryz.prog W 0 (fun _ => true) held k 3 [v3] = some y3 := by
      have h9 : DataW.trod enc Tryz.prog W 0 (fun _ => true) held k 3 (([v0, v1, v2, v3, v4, v5, v6].drop 3).take (Tryz.prog.cellsOf 3)) = [y0, y1, y2, y3, y4, y5, y6][3]? := hf 3 _ rfl
      rw [cells3] at h9
      exact h9
    have g4 : DataW.trod enc Tryz.prog W 0 (fun _ => true) held k 3 [v4] = some y4 := by
      have h9 : DataW.trod enc Tryz.prog W 0 (fun _ => true) held k 3 (([v0, v1, v2, v3, v4, v5, v6].drop 4).take (Tryz.prog.cellsOf 3)) = [y0, y1, y2, y3, y4, y5, y6][4]? := hf 4 _ rfl
      rw [cells3] at h9
      exact h9
    have g5 : DataW.trod enc Tryz.prog W 0 (fun _ => true) held k 3 [v5] = some y5 := by
      have h9 : DataW.trod enc Tryz.prog W 0 (fun _ => true) held k 3 (([v0, v1, v2, v3, v4, v5, v6].drop 5).take (Tryz.prog.cellsOf 3)) = [y0, y1, y2, y3, y4, y5, y6][5]? := hf 5 _ rfl
      rw [cells3] at h9
      exact h9
    have g6 : DataW.trod enc Tryz.prog W 0 (fun _ => true) held k 3 [v6] = some y6 := by
      have h9 : DataW.trod enc Tryz.prog W 0 (fun _ => true) held k 3 (([v0, v1, v2, v3, v4, v5, v6].drop 6).take (Tryz.prog.cellsOf 3)) = [y0, y1, y2, y3, y4, y5, y6][6]? := hf 6 _ rfl
      rw [cells3] at h9
      exact h9
    obtain ⟨n0, e0, w0⟩ := open_i g0
    obtain ⟨n1, e1, w1⟩ := open_i g1
    obtain ⟨n2, e2, w2⟩ := open_i g2
    obtain ⟨n3, e3, w3⟩ := open_i g3
    obtain ⟨n4, e4, w4⟩ := open_i g4
    obtain ⟨n5, e5, w5⟩ := open_i g5
    obtain ⟨n6, e6, w6⟩ := open_i g6
    subst e0 e1 e2 e3 e4 e5 e6
    exact ⟨n0, n1, n2, n3, n4, n5, n6, rfl, w0, w1, w2, w3, w4, w5, w6⟩
/-- A message that comes in. -/
def MailOk (W : World) (fa : Option Addr) (fn fc : Nat) (l : List Bs) (text : Bs) : Prop := TextsOk W fa fn fc l ∧ text.length ≤ maxLen
set_option maxRecDepth 100000 in
theorem open_mail (n : Nat) (cs : List Value) (y : DataW H × List MemPlace) (hl : cs.length = 12) (h : DataW.trod enc Tryz.prog W 0 (fun _ => true) held n 33 cs = some y) :
    ∃ (uid : Int) (fa : Option Addr) (fn fc : Nat) (l : List Bs) (d1 d2 d3 d4 d5 d6 d7 : Int) (text : Bs) (size id : Int), cs = [.int .i64 uid, .slice fa fn fc, .int .i64 d1, .int .i64 d2, .int .i64 d3, .int .i64 d4, .int .i64 d5, .int .i64 d6, .int .i64 d7, .string (str text), .int .i64 size, .int .i64 id] ∧ MailOk W fa fn fc l text ∧ I64 uid ∧ (I64 d1 ∧ I64 d2 ∧ I64 d3 ∧ I64 d4 ∧ I64 d5 ∧ I64 d6 ∧ I64 d7) ∧ I64 size ∧ I64 id := by
  obtain ⟨xs, k, hk, hxy, _, hxl, hf⟩ := DataW.trod_struct Tryz.underlying33 h
  have hxl5 : xs.length = 6 := hxl
  match cs, hl, xs, hxl5 with
  | [v0, v1, v2, v3, v4, v5, v6, v7, v8, v9, v10, v11], _, [y0, y1, y2, y3, y4, y5], _ =>
    have g0 : DataW.trod enc Tryz.prog W 0 (fun _ => true) held k 3 [v0] = some y0 := by
      have h9 : DataW.trod enc Tryz.prog W 0 (fun _ => true) held k 3 (([v0, v1, v2, v3, v4, v5, v6, v7, v8, v9, v10, v11].drop 0).take (Tryz.prog.cellsOf 3)) = [y0, y1, y2, y3, y4, y5][0]? := hf 0 _ rfl
      rw [cells3] at h9
      exact h9
    have g1 : DataW.trod enc Tryz.prog W 0 (fun _ => true) held k 29 [v1] = some y1 := by
      have h9 : DataW.trod enc Tryz.prog W 0 (fun _ => true) held k 29 (([v0, v1, v2, v3, v4, v5, v6, v7, v8, v9, v10, v11].drop 1).take (Tryz.prog.cellsOf 29)) = [y0, y1, y2, y3, y4, y5][1]? := hf 1 _ rfl
      rw [cells29] at h9
      exact h9
    have g2 : DataW.trod enc Tryz.prog W 0 (fun _ => true) held k 31 [v2, v3, v4, v5, v6, v7, v8] = some y2 := by
      have h9 : DataW.trod enc Tryz.prog W 0 (fun _ => true) held k 31 (([v0, v1, v2, v3, v4, v5, v6, v7, v8, v9, v10, v11].drop 2).take (Tryz.prog.cellsOf 31)) = [y0, y1, y2, y3, y4, y5][2]? := hf 2 _ rfl
      rw [cells31] at h9
      exact h9
    have g3 : DataW.trod enc Tryz.prog W 0 (fun _ => true) held k 9 [v9] = some y3 := by
      have h9 : DataW.trod enc Tryz.prog W 0 (fun _ => true) held k 9 (([v0, v1, v2, v3, v4, v5, v6, v7, v8, v9, v10, v11].drop 9).take (Tryz.prog.cellsOf 9)) = [y0, y1, y2, y3, y4, y5][3]? := hf 3 _ rfl
      rw [cells9] at h9
      exact h9
    have g4 : DataW.trod enc Tryz.prog W 0 (fun _ => true) held k 3 [v10] = some y4 := by
      have h9 : DataW.trod enc Tryz.prog W 0 (fun _ => true) held k 3 (([v0, v1, v2, v3, v4, v5, v6, v7, v8, v9, v10, v11].drop 10).take (Tryz.prog.cellsOf 3)) = [y0, y1, y2, y3, y4, y5][4]? := hf 4 _ rfl
      rw [cells3] at h9
      exact h9
    have g5 : DataW.trod enc Tryz.prog W 0 (fun _ => true) held k 3 [v11] = some y5 := by
      have h9 : DataW.trod enc Tryz.prog W 0 (fun _ => true) held k 3 (([v0, v1, v2, v3, v4, v5, v6, v7, v8, v9, v10, v11].drop 11).take (Tryz.prog.cellsOf 3)) = [y0, y1, y2, y3, y4, y5][5]? := hf 5 _ rfl
      rw [cells3] at h9
      exact h9
    obtain ⟨n0, e0, w0⟩ := open_i g0
    subst e0
    obtain ⟨fa, fn, fc, e1⟩ := open_sl Tryz.underlying29 g1
    subst e1
    obtain ⟨l, hT⟩ := open_texts g1
    obtain ⟨d1, d2, d3, d4, d5, d6, d7, e2, wd⟩ := open_day k _ y2 rfl g2
    simp only [List.cons.injEq, and_true] at e2
    obtain ⟨rfl, rfl, rfl, rfl, rfl, rfl, rfl⟩ := e2
    obtain ⟨s3, e3, _, w3⟩ := DataW.trod_string Tryz.underlying9 g3
    simp only [List.cons.injEq, and_true] at e3
    subst e3
    obtain ⟨n4, e4, w4⟩ := open_i g4
    subst e4
    obtain ⟨n5, e5, w5⟩ := open_i g5
    subst e5
    have hs3 : s3.size = s3.data.toList.length := Go.Lib.size_eq s3
    exact ⟨n0, fa, fn, fc, l, d1, d2, d3, d4, d5, d6, d7, s3.data.toList, n4, n5, by simp [str_of], ⟨hT, by omega⟩, w0, wd, w4, w5⟩
end
end Go.Proofs.YtaniljfjmbifnaaGreatDoor.H
