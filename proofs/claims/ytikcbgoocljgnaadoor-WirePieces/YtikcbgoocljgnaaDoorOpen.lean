/- What this text holds: how what comes in lies in memory: texts, numbers, tails, commands. -/
import Derived.Test.YtikcbgoocljgnaaDoorFrame
import Derived.Deep.SlicePairs
import Derived.ProofKit
import Derived.OpenShut
import Derived.Below
namespace Go.Proofs.YtikcbgoocljgnaaDoor
open Go.ChangeShapes Go.WideShapes Go.ChangeAt Go.RowKit
set_option linter.unusedVariables false
set_option linter.unusedSimpArgs false

theorem laidOut : laidOutB Tryd.prog = true := by kernel_rfl
theorem cells3 : Tryd.prog.cellsOf 3 = 1 := by kernel_rfl
theorem cells9 : Tryd.prog.cellsOf 9 = 1 := by kernel_rfl
theorem cells34 : Tryd.prog.cellsOf 34 = 1 := by kernel_rfl
theorem cells36 : Tryd.prog.cellsOf 36 = 2 := by kernel_rfl
theorem cells50 : Tryd.prog.cellsOf 50 = 3 := by kernel_rfl
def I64 (n : Int) : Prop := -9223372036854775808 ≤ n ∧ n ≤ 9223372036854775807
/-- Numbers, tails. -/
def eI : En Int := { enc := fun c => [.int .i64 c], k := 1, T := 3, t := 23, by_ := 8, z := .int .i64 0, len := fun _ => rfl, one := fun x v hv => by simp at hv; rw [hv]; rfl, ut := Tryd.underlying23, inf := by kernel_rfl, hz := rfl, hk := by omega, hby := by omega }
abbrev Tl := Bs × Bs × Int
def eT : En Tl := { enc := fun c => [.string (str c.1), .string (str c.2.1), .int .i64 c.2.2], k := 3, T := 50, t := 22, by_ := 40, z := .agg #[.string ⟨#[]⟩, .string ⟨#[]⟩, .int .i64 0], len := fun _ => rfl, one := fun x v hv => by simp at hv; rcases hv with rfl | rfl | rfl <;> rfl, ut := Tryd.underlying22, inf := by kernel_rfl, hz := rfl, hk := by omega, hby := by omega }
section
variable {H : Type} {enc : TypeId × Value → H} {W : World} {held : Bool}

set_option maxRecDepth 100000 in
theorem open_gen {α : Type} [Inhabited α] (E : En α) (hc : Tryd.prog.cellsOf E.T = E.k) (P : α → Prop) (hone : ∀ (fuel : Nat) (cl : List Value) (x : DataW H × List MemPlace), cl.length = E.k → DataW.trod enc Tryd.prog W 0 (fun _ => true) held fuel E.T cl = some x → ∃ s, cl = E.enc s ∧ P s)
    {fuel : Nat} {cl : List Value} {x : DataW H × List MemPlace} (h : DataW.trod enc Tryd.prog W 0 (fun _ => true) held fuel E.t cl = some x) : ∃ a c l, cl = [.slice a l.length c] ∧ GL E W (.slice a l.length c) l ∧ ∀ s ∈ l, P s := by
  rcases Deep.open_slice E.ut h with ⟨hcs, _⟩ | ⟨a', len', cap', m, n, D, Pl, hcs, _, hl, hm, hmm, _, hx⟩
  · exact ⟨none, 0, [], hcs, (GO.nil E W 0).gl, fun s hs => by simp at hs⟩
  · simp only [if_true] at hmm
    subst hmm
    rw [hc] at hx
    have hact : ∀ i, i < m → ∃ s : α, (∀ j v, (E.enc s)[j]? = some v → W.cell? (a'.add (i * E.k + j)) = some v) ∧ P s := by
      intro i hi
      obtain ⟨cs', h1, h2⟩ := hx i hi
      obtain ⟨_, hlen, hcell⟩ := World.cells?_some h1
      obtain ⟨s, rfl, hw⟩ := hone _ _ _ hlen h2
      refine ⟨s, fun j v hj => ?_, hw⟩
      have hjl : j < (E.enc s).length := (List.getElem?_eq_some_iff.1 hj).1
      have := hcell j (by rw [← E.len s]; exact hjl)
      rw [Deep.add_add] at this
      rw [this]
      exact hj
    obtain ⟨f, hf⟩ := Deep.choose_lt hact
    refine ⟨some a', m, (List.range len').map f, by rw [hcs]; simp, ⟨_, _, rfl, by simp; omega, ?_⟩, fun s hs => by
      simp only [List.mem_map, List.mem_range] at hs
      obtain ⟨i, hi, rfl⟩ := hs
      exact (hf i (by omega)).2⟩
    by_cases h0 : len' = 0
    · left; subst h0; rfl
    · right
      obtain ⟨ab, ao, sp⟩ := a'
      have h00 : ∃ v, (E.enc (f 0))[0]? = some v := ⟨_, List.getElem?_eq_getElem (by rw [E.len]; exact E.hk)⟩
      obtain ⟨v0, hv0⟩ := h00
      have hz := (hf 0 (by omega)).1 0 v0 hv0
      have hsp : sp = none := by
        have := hz
        simp only [Nat.zero_mul, Nat.add_zero, Addr.add, if_true, World.cell?] at this
        cases sp with
        | none => rfl
        | some s => split at this <;> simp at this
      subst hsp
      rw [Addr.add_mid] at hz
      refine ⟨ab, ao, rfl, fun j i s v h1 h2 => ?_, World.block_lt_of_cell? W _ hz⟩
      have hj : j < len' := by have := (List.getElem?_eq_some_iff.1 h1).1; simpa using this
      simp only [List.getElem?_map, List.getElem?_range hj, Option.map_some, Option.some.injEq] at h1
      subst h1
      have := (hf j (by omega)).1 i v h2
      rw [Addr.add_mid] at this
      exact this
theorem one_str (fuel : Nat) (cl : List Value) (x : DataW H × List MemPlace) (hl : cl.length = eS.k) (h : DataW.trod enc Tryd.prog W 0 (fun _ => true) held fuel eS.T cl = some x) : ∃ s, cl = eS.enc s ∧ s.length ≤ maxLen := by
  obtain ⟨s, e, _, hs⟩ := DataW.trod_string Tryd.underlying9 h
  exact ⟨s.data.toList, by rw [e]; show _ = [Value.string (str s.data.toList)]; rw [str_of], hs⟩
theorem one_int (fuel : Nat) (cl : List Value) (x : DataW H × List MemPlace) (hl : cl.length = eI.k) (h : DataW.trod enc Tryd.prog W 0 (fun _ => true) held fuel eI.T cl = some x) : ∃ s, cl = eI.enc s ∧ I64 s := by
  obtain ⟨n, e, _, hs⟩ := DataW.trod_int Tryd.underlying3 h
  exact ⟨n, e, bounds_i64 hs⟩
set_option maxRecDepth 100000 in
theorem one_tail (fuel : Nat) (cl : List Value) (x : DataW H × List MemPlace) (hl : cl.length = eT.k) (h : DataW.trod enc Tryd.prog W 0 (fun _ => true) held fuel eT.T cl = some x) : ∃ s, cl = eT.enc s ∧ (s.1.length ≤ maxLen ∧ s.2.1.length ≤ maxLen ∧ I64 s.2.2) := by
  obtain ⟨xs, k, hk, hxy, _, hxl, hf⟩ := DataW.trod_struct Tryd.underlying50 h
  have hxl5 : xs.length = 3 := hxl
  have hl3 : cl.length = 3 := hl
  match cl, hl3, xs, hxl5 with
  | [v0, v1, v2], _, [y0, y1, y2], _ =>
    have g0 : DataW.trod enc Tryd.prog W 0 (fun _ => true) held k 9 [v0] = some y0 := by
      have h9 : DataW.trod enc Tryd.prog W 0 (fun _ => true) held k 9 (([v0, v1, v2].drop 0).take (Tryd.prog.cellsOf 9)) = [y0, y1, y2][0]? := hf 0 _ rfl
      rw [cells9] at h9
      exact h9
    have g1 : DataW.trod enc Tryd.prog W 0 (fun _ => true) held k 9 [v1] = some y1 := by
      have h9 : DataW.trod enc Tryd.prog W 0 (fun _ => true) held k 9 (([v0, v1, v2].drop 1).take (Tryd.prog.cellsOf 9)) = [y0, y1, y2][1]? := hf 1 _ rfl
      rw [cells9] at h9
      exact h9
    have g2 : DataW.trod enc Tryd.prog W 0 (fun _ => true) held k 3 [v2] = some y2 := by
      have h9 : DataW.trod enc Tryd.prog W 0 (fun _ => true) held k 3 (([v0, v1, v2].drop 2).take (Tryd.prog.cellsOf 3)) = [y0, y1, y2][2]? := hf 2 _ rfl
      rw [cells3] at h9
      exact h9
    obtain ⟨s0, e0, hs0⟩ := one_str k _ _ rfl g0
    obtain ⟨s1, e1, hs1⟩ := one_str k _ _ rfl g1
    obtain ⟨n2, e2, hs2⟩ := one_int k _ _ rfl g2
    simp only [eS, eI, List.cons.injEq, and_true] at e0 e1 e2
    subst e0 e1 e2
    exact ⟨(s0, s1, n2), rfl, hs0, hs1, hs2⟩
/-- A command that came in. -/
def RawOk (W : World) (vt vl : Value) (T L : List Bs) : Prop := GL eS W vt T ∧ GL eS W vl L ∧ (∀ s ∈ T, s.length ≤ maxLen) ∧ (∀ s ∈ L, s.length ≤ maxLen)
set_option maxRecDepth 100000 in
theorem open_raw {fuel : Nat} {cs : Array Value} {x : DataW H × List MemPlace} (hsz : cs.size = 2) (h : DataW.trod enc Tryd.prog W 0 (fun _ => true) held fuel 36 cs.toList = some x) : ∃ vt vl T L, cs = #[vt, vl] ∧ RawOk W vt vl T L := by
  obtain ⟨xs, k, hk, hxy, _, hxl, hf⟩ := DataW.trod_struct Tryd.underlying36 h
  have hxl5 : xs.length = 2 := hxl
  obtain ⟨cl⟩ := cs
  have hl : cl.length = 2 := hsz
  match cl, hl, xs, hxl5 with
  | [v0, v1], _, [y0, y1], _ =>
    have g0 : DataW.trod enc Tryd.prog W 0 (fun _ => true) held k 34 [v0] = some y0 := by
      have h9 : DataW.trod enc Tryd.prog W 0 (fun _ => true) held k 34 (([v0, v1].drop 0).take (Tryd.prog.cellsOf 34)) = [y0, y1][0]? := hf 0 _ rfl
      rw [cells34] at h9
      exact h9
    have g1 : DataW.trod enc Tryd.prog W 0 (fun _ => true) held k 34 [v1] = some y1 := by
      have h9 : DataW.trod enc Tryd.prog W 0 (fun _ => true) held k 34 (([v0, v1].drop 1).take (Tryd.prog.cellsOf 34)) = [y0, y1][1]? := hf 1 _ rfl
      rw [cells34] at h9
      exact h9
    obtain ⟨a0, c0, T, e0, k0, m0⟩ := open_gen eS cells9 (fun s => s.length ≤ maxLen) one_str g0
    obtain ⟨a1, c1, L, e1, k1, m1⟩ := open_gen eS cells9 (fun s => s.length ≤ maxLen) one_str g1
    simp only [List.cons.injEq, and_true] at e0 e1
    subst e0 e1
    exact ⟨_, _, T, L, rfl, k0, k1, m0, m1⟩
/-- Tails, numbers that came in. -/
def TailsOk (W : World) (a : Option Addr) (len cap : Nat) (l : List Tl) : Prop := GL eT W (.slice a len cap) l ∧ l.length = len ∧ ∀ s ∈ l, (s.1.length ≤ maxLen ∧ s.2.1.length ≤ maxLen ∧ I64 s.2.2)
def NumsOk (W : World) (a : Option Addr) (len cap : Nat) (l : List Int) : Prop := GL eI W (.slice a len cap) l ∧ l.length = len ∧ ∀ s ∈ l, I64 s
theorem open_tails {fuel : Nat} {a : Option Addr} {len cap : Nat} {x : DataW H × List MemPlace} (h : DataW.trod enc Tryd.prog W 0 (fun _ => true) held fuel 22 [.slice a len cap] = some x) : ∃ l, TailsOk W a len cap l := by
  obtain ⟨a0, c0, l, e0, k0, m0⟩ := open_gen eT cells50 _ one_tail h
  simp only [List.cons.injEq, Value.slice.injEq, and_true] at e0
  obtain ⟨rfl, rfl, rfl⟩ := e0
  exact ⟨l, k0, rfl, m0⟩
theorem open_nums {fuel : Nat} {a : Option Addr} {len cap : Nat} {x : DataW H × List MemPlace} (h : DataW.trod enc Tryd.prog W 0 (fun _ => true) held fuel 23 [.slice a len cap] = some x) : ∃ l, NumsOk W a len cap l := by
  obtain ⟨a0, c0, l, e0, k0, m0⟩ := open_gen eI cells3 _ one_int h
  simp only [List.cons.injEq, Value.slice.injEq, and_true] at e0
  obtain ⟨rfl, rfl, rfl⟩ := e0
  exact ⟨l, k0, rfl, m0⟩
end
end Go.Proofs.YtikcbgoocljgnaaDoor
