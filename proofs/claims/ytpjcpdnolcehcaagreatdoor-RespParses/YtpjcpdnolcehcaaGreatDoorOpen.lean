/- What this text holds: how values, lines and numbers that come in lie in memory. -/
import Derived.Test.YtpjcpdnolcehcaaGreatDoorM32
import Derived.Deep.SlicePairs
import Derived.ProofKit
import Derived.OpenShut
import Derived.Below
namespace Go.Proofs.YtpjcpdnolcehcaaGreatDoor
open Go.ChangeShapes Go.WideShapes Go.ChangeAt Go.RowKit
set_option linter.unusedVariables false
set_option linter.unusedSimpArgs false

theorem laidOut : laidOutB Tryz.prog = true := by kernel_rfl
theorem cells3 : Tryz.prog.cellsOf 3 = 1 := by kernel_rfl
theorem cells9' : Tryz.prog.cellsOf 9 = 1 := by kernel_rfl
theorem cells26 : Tryz.prog.cellsOf 26 = 1 := by kernel_rfl
theorem cells40 : Tryz.prog.cellsOf 40 = 1 := by kernel_rfl
theorem cells43 : Tryz.prog.cellsOf 43 = 5 := by kernel_rfl
theorem cells28 : Tryz.prog.cellsOf 28 = 5 := by kernel_rfl
mutual
/-- What each value that comes in keeps. -/
def FitV : Vl → Prop
  | .mk k x n kids frm => I64 n ∧ x.length ≤ maxLen ∧ (∀ m ∈ frm, I64 m) ∧ FitL kids ∧ kids.length ≤ maxLen ∧ frm.length ≤ maxLen
def FitL : List Vl → Prop
  | [] => True
  | v :: l => FitV v ∧ FitL l
end
theorem FitL.of : ∀ {l : List Vl}, (∀ v ∈ l, FitV v) → FitL l
  | [], _ => trivial
  | v :: l, h => ⟨h v (by simp), FitL.of (fun u hu => h u (by simp [hu]))⟩
theorem FitL.mem : ∀ {l : List Vl}, FitL l → ∀ v ∈ l, FitV v
  | v :: l, h, u, hu => by
    rcases List.mem_cons.1 hu with rfl | hu
    · exact h.1
    · exact FitL.mem h.2 u hu
def FitN (n : Ln) : Prop := FitL n.vals ∧ FitL n.code ∧ n.tag.length ≤ maxLen ∧ n.st.length ≤ maxLen ∧ n.x.length ≤ maxLen ∧ n.vals.length ≤ maxLen ∧ n.code.length ≤ maxLen
section
variable {H : Type} {enc : TypeId × Value → H} {W : World} {held : Bool}

theorem open_gen {α β : Type} (E : En α) (hk : Tryz.prog.cellsOf E.T = E.k) (Q : α → β → Prop) {n0 : Nat}
    (hel : ∀ n, n < n0 → ∀ cs y, cs.length = E.k → DataW.trod enc Tryz.prog W 0 (fun _ => true) held n E.T cs = some y → ∃ x b, cs = E.enc x ∧ Q x b)
    {a : Option Addr} {len cap : Nat} {y : DataW H × List MemPlace} (h : DataW.trod enc Tryz.prog W 0 (fun _ => true) held n0 E.t [.slice a len cap] = some y) :
    ∃ ps : List (α × β), LAt E W (· < W.heap.size) (.slice a len cap) (ps.map (·.1)) ∧ ps.length = len ∧ len ≤ maxLen ∧ ∀ p ∈ ps, Q p.1 p.2 := by
  rcases DataW.trod_slice E.ut h with ⟨hcs, rfl⟩ | ⟨a', len', cap', elems, rest, n, rfl, hcs, rfl, _, hl, hm, hlen, hel', _, _⟩
  · simp at hcs
    obtain ⟨rfl, rfl, rfl⟩ := hcs
    exact ⟨[], LAt.nil E W _, rfl, by omega, by simp⟩
  · simp only [List.cons.injEq, Value.slice.injEq, and_true] at hcs
    obtain ⟨rfl, rfl, rfl⟩ := hcs
    rw [hk] at hel'
    have hact : ∀ i, i < len → ∃ x : α × β, (∀ j v, (E.enc x.1)[j]? = some v → W.cell? (a'.add (i * E.k + j)) = some v) ∧ Q x.1 x.2 := by
      intro i hi
      have h9 := hel' i hi
      have hi' : i < elems.length := by omega
      rw [List.getElem?_eq_getElem hi'] at h9
      obtain ⟨cs', h1, h2⟩ := Option.bind_eq_some_iff.1 h9
      obtain ⟨_, hlen', hcell⟩ := World.cells?_some h1
      obtain ⟨x, b, rfl, hq⟩ := hel n (by omega) cs' _ hlen' h2
      refine ⟨(x, b), fun j v hv => ?_, hq⟩
      obtain ⟨hj, hv⟩ := List.getElem?_eq_some_iff.1 hv
      have := hcell j (by rw [← E.len x]; exact hj)
      rw [Deep.add_add] at this
      rw [this]
      exact List.getElem?_eq_some_iff.2 ⟨hj, hv⟩
    by_cases h0 : len = 0
    · subst h0
      exact ⟨[], ⟨⟨_, _, rfl, by simp, .inl rfl⟩, fun h => absurd rfl h⟩, rfl, by omega, by simp⟩
    · obtain ⟨z, _⟩ := hact 0 (by omega)
      have hinh : Inhabited (α × β) := ⟨z⟩
      obtain ⟨f, hf⟩ := Deep.choose_lt hact
      obtain ⟨ab, ao, sp⟩ := a'
      have h00 : ∃ v, (E.enc (f 0).1)[0]? = some v := ⟨_, List.getElem?_eq_getElem (by rw [E.len]; exact E.hk)⟩
      obtain ⟨v0, hv0⟩ := h00
      have hz := (hf 0 (by omega)).1 0 v0 hv0
      have hsp : sp = none := by
        have := hz
        simp only [Nat.zero_mul, Addr.add, Nat.add_zero, World.cell?] at this
        cases sp with
        | none => rfl
        | some s => simp at this; split at this <;> simp at this
      subst hsp
      rw [Addr.add_mid] at hz
      refine ⟨(List.range len).map f, ⟨⟨_, _, by rw [List.length_map, List.length_map, List.length_range], by simp; omega, .inr ⟨ab, ao, rfl, fun j i s v h1 h2 => ?_, World.block_lt_of_cell? W _ hz⟩⟩, fun _ g hg => ?_⟩, by simp, by omega, fun p hp => ?_⟩
      · have hj : j < len := by have := (List.getElem?_eq_some_iff.1 h1).1; simpa using this
        simp only [List.getElem?_map, List.getElem?_range hj, Option.map_some, Option.some.injEq] at h1
        subst h1
        have := (hf j hj).1 i v h2
        rw [Addr.add_mid] at this
        exact this
      · have e : ab = g := by simpa [blk] using hg
        subst e
        exact World.block_lt_of_cell? W _ hz
      · simp only [List.mem_map, List.mem_range] at hp
        obtain ⟨i, hi, rfl⟩ := hp
        exact (hf i hi).2
theorem open_is {n0 : Nat} {a : Option Addr} {len cap : Nat} {y : DataW H × List MemPlace} (h : DataW.trod enc Tryz.prog W 0 (fun _ => true) held n0 40 [.slice a len cap] = some y) :
    ∃ l : List Int, LAt eI W (· < W.heap.size) (.slice a len cap) l ∧ l.length = len ∧ len ≤ maxLen ∧ ∀ n ∈ l, I64 n := by
  obtain ⟨ps, h1, h2, h3, h4⟩ := open_gen (β := Unit) eI cells3 (fun x _ => I64 x) (fun n _ cs y hl hy => by
    match cs, hl with
    | [v0], _ =>
      obtain ⟨n0, e0, _, w0⟩ := DataW.trod_int Tryz.underlying3 hy
      simp only [List.cons.injEq, and_true] at e0
      subst e0
      exact ⟨n0, (), rfl, bounds_i64 w0⟩) h
  exact ⟨ps.map (·.1), h1, by simpa using h2, h3, fun n hn => by
    obtain ⟨p, hp, rfl⟩ := List.mem_map.1 hn
    exact h4 p hp⟩
theorem slice_of {t e : TypeId} (ht : Tryz.prog.underlying t = some (.slice e)) {n : Nat} {v : Value} {y : DataW H × List MemPlace} (h : DataW.trod enc Tryz.prog W 0 (fun _ => true) held n t [v] = some y) : ∃ a len cap, v = .slice a len cap := by
  rcases DataW.trod_slice ht h with ⟨hcs, rfl⟩ | ⟨a', len', cap', elems, rest, n, rfl, hcs, _⟩
  · simp at hcs; exact ⟨_, _, _, hcs⟩
  · simp at hcs; exact ⟨_, _, _, hcs⟩
set_option maxRecDepth 100000 in
theorem open_val : ∀ (n : Nat) (cs : List Value) (y : DataW H × List MemPlace), cs.length = 5 → DataW.trod enc Tryz.prog W 0 (fun _ => true) held n 43 cs = some y →
    ∃ (r : Rw) (v : Vl), cs = r.c ∧ VAt W (· < W.heap.size) r v ∧ FitV v := by
  intro n
  induction n using Nat.strongRecOn with
  | _ n ih =>
  intro cs y hl h
  obtain ⟨xs, k, hk, hxy, _, hxl, hf⟩ := DataW.trod_struct Tryz.underlying43 h
  have hxl5 : xs.length = 5 := hxl
  match cs, hl, xs, hxl5 with
  | [v0, v1, v2, v3, v4], _, [y0, y1, y2, y3, y4], _ =>
    have g0 : DataW.trod enc Tryz.prog W 0 (fun _ => true) held k 3 [v0] = some y0 := by
      have h9 : DataW.trod enc Tryz.prog W 0 (fun _ => true) held k 3 (([v0, v1, v2, v3, v4].drop 0).take (Tryz.prog.cellsOf 3)) = [y0, y1, y2, y3, y4][0]? := hf 0 _ rfl
      rw [cells3] at h9
      exact h9
    have g1 : DataW.trod enc Tryz.prog W 0 (fun _ => true) held k 9 [v1] = some y1 := by
      have h9 : DataW.trod enc Tryz.prog W 0 (fun _ => true) held k 9 (([v0, v1, v2, v3, v4].drop 1).take (Tryz.prog.cellsOf 9)) = [y0, y1, y2, y3, y4][1]? := hf 1 _ rfl
      rw [cells9'] at h9
      exact h9
    have g2 : DataW.trod enc Tryz.prog W 0 (fun _ => true) held k 3 [v2] = some y2 := by
      have h9 : DataW.trod enc Tryz.prog W 0 (fun _ => true) held k 3 (([v0, v1, v2, v3, v4].drop 2).take (Tryz.prog.cellsOf 3)) = [y0, y1, y2, y3, y4][2]? := hf 2 _ rfl
      rw [cells3] at h9
      exact h9
    have g3 : DataW.trod enc Tryz.prog W 0 (fun _ => true) held k 26 [v3] = some y3 := by
      have h9 : DataW.trod enc Tryz.prog W 0 (fun _ => true) held k 26 (([v0, v1, v2, v3, v4].drop 3).take (Tryz.prog.cellsOf 26)) = [y0, y1, y2, y3, y4][3]? := hf 3 _ rfl
      rw [cells26] at h9
      exact h9
    have g4 : DataW.trod enc Tryz.prog W 0 (fun _ => true) held k 40 [v4] = some y4 := by
      have h9 : DataW.trod enc Tryz.prog W 0 (fun _ => true) held k 40 (([v0, v1, v2, v3, v4].drop 4).take (Tryz.prog.cellsOf 40)) = [y0, y1, y2, y3, y4][4]? := hf 4 _ rfl
      rw [cells40] at h9
      exact h9
    obtain ⟨n0, e0, _, w0⟩ := DataW.trod_int Tryz.underlying3 g0
    simp only [List.cons.injEq, and_true] at e0
    subst e0
    obtain ⟨s1, e1, _, w1⟩ := DataW.trod_string Tryz.underlying9 g1
    simp only [List.cons.injEq, and_true] at e1
    subst e1
    obtain ⟨n2, e2, _, w2⟩ := DataW.trod_int Tryz.underlying3 g2
    simp only [List.cons.injEq, and_true] at e2
    subst e2
    obtain ⟨a3, l3, c3, rfl⟩ := slice_of Tryz.underlying26 g3
    obtain ⟨a4, l4, c4, rfl⟩ := slice_of Tryz.underlying40 g4
    obtain ⟨ks, k1, k2, k3, k4⟩ := open_gen (β := Vl) eV cells43 (fun r v => VAt W (· < W.heap.size) r v ∧ FitV v) (fun m hm cs' y' hl' hy' => by
      obtain ⟨r, v, h1, h2⟩ := ih m (by omega) cs' y' hl' hy'
      exact ⟨r, v, h1, h2⟩) g3
    obtain ⟨fs, f1, f2, f3, f4⟩ := open_is g4
    have hs1 : s1.size = s1.data.toList.length := Go.Lib.size_eq s1
    refine ⟨⟨n0, s1.data.toList, n2, (a3, l3, c3), (a4, l4, c4)⟩, .mk n0 s1.data.toList n2 (ks.map (fun p : Rw × Vl => p.2)) fs, ?_, ⟨⟨rfl, rfl, rfl, f1⟩, VsAt.of k1 (fun p hp => (k4 p hp).1)⟩, bounds_i64 w2, by omega, f4, FitL.of (fun v hv => ?_), by rw [List.length_map]; omega, by omega⟩
    · simp [Rw.c, Sl.v, str_of]
    · obtain ⟨p, hp, rfl⟩ := List.mem_map.1 hv
      exact (k4 p hp).2
theorem open_vals {n0 : Nat} {a : Option Addr} {len cap : Nat} {y : DataW H × List MemPlace} (h : DataW.trod enc Tryz.prog W 0 (fun _ => true) held n0 26 [.slice a len cap] = some y) :
    ∃ ks : List Vl, VsAt W (· < W.heap.size) (.slice a len cap) ks ∧ ks.length = len ∧ len ≤ maxLen ∧ FitL ks := by
  obtain ⟨ps, h1, h2, h3, h4⟩ := open_gen (β := Vl) eV cells43 (fun r v => VAt W (· < W.heap.size) r v ∧ FitV v) (fun m _ cs' y' hl' hy' => by
    obtain ⟨r, v, h1, h2⟩ := open_val m cs' y' hl' hy'
    exact ⟨r, v, h1, h2⟩) h
  refine ⟨ps.map (·.2), VsAt.of h1 (fun p hp => (h4 p hp).1), by rw [List.length_map]; exact h2, h3, FitL.of (fun v hv => ?_)⟩
  obtain ⟨p, hp, rfl⟩ := List.mem_map.1 hv
  exact (h4 p hp).2
set_option maxRecDepth 100000 in
theorem open_line (n : Nat) (cs : List Value) (y : DataW H × List MemPlace) (hl : cs.length = 5) (h : DataW.trod enc Tryz.prog W 0 (fun _ => true) held n 28 cs = some y) :
    ∃ (r : Lw) (v : Ln), cs = r.c ∧ LnAt W (· < W.heap.size) r v ∧ FitN v := by
  obtain ⟨xs, k, hk, hxy, _, hxl, hf⟩ := DataW.trod_struct Tryz.underlying28 h
  have hxl5 : xs.length = 5 := hxl
  match cs, hl, xs, hxl5 with
  | [v0, v1, v2, v3, v4], _, [y0, y1, y2, y3, y4], _ =>
    have g0 : DataW.trod enc Tryz.prog W 0 (fun _ => true) held k 9 [v0] = some y0 := by
      have h9 : DataW.trod enc Tryz.prog W 0 (fun _ => true) held k 9 (([v0, v1, v2, v3, v4].drop 0).take (Tryz.prog.cellsOf 9)) = [y0, y1, y2, y3, y4][0]? := hf 0 _ rfl
      rw [cells9'] at h9
      exact h9
    have g1 : DataW.trod enc Tryz.prog W 0 (fun _ => true) held k 26 [v1] = some y1 := by
      have h9 : DataW.trod enc Tryz.prog W 0 (fun _ => true) held k 26 (([v0, v1, v2, v3, v4].drop 1).take (Tryz.prog.cellsOf 26)) = [y0, y1, y2, y3, y4][1]? := hf 1 _ rfl
      rw [cells26] at h9
      exact h9
    have g2 : DataW.trod enc Tryz.prog W 0 (fun _ => true) held k 9 [v2] = some y2 := by
      have h9 : DataW.trod enc Tryz.prog W 0 (fun _ => true) held k 9 (([v0, v1, v2, v3, v4].drop 2).take (Tryz.prog.cellsOf 9)) = [y0, y1, y2, y3, y4][2]? := hf 2 _ rfl
      rw [cells9'] at h9
      exact h9
    have g3 : DataW.trod enc Tryz.prog W 0 (fun _ => true) held k 26 [v3] = some y3 := by
      have h9 : DataW.trod enc Tryz.prog W 0 (fun _ => true) held k 26 (([v0, v1, v2, v3, v4].drop 3).take (Tryz.prog.cellsOf 26)) = [y0, y1, y2, y3, y4][3]? := hf 3 _ rfl
      rw [cells26] at h9
      exact h9
    have g4 : DataW.trod enc Tryz.prog W 0 (fun _ => true) held k 9 [v4] = some y4 := by
      have h9 : DataW.trod enc Tryz.prog W 0 (fun _ => true) held k 9 (([v0, v1, v2, v3, v4].drop 4).take (Tryz.prog.cellsOf 9)) = [y0, y1, y2, y3, y4][4]? := hf 4 _ rfl
      rw [cells9'] at h9
      exact h9
    obtain ⟨s0, e0, _, w0⟩ := DataW.trod_string Tryz.underlying9 g0
    simp only [List.cons.injEq, and_true] at e0
    subst e0
    obtain ⟨s2, e2, _, w2⟩ := DataW.trod_string Tryz.underlying9 g2
    simp only [List.cons.injEq, and_true] at e2
    subst e2
    obtain ⟨s4, e4, _, w4⟩ := DataW.trod_string Tryz.underlying9 g4
    simp only [List.cons.injEq, and_true] at e4
    subst e4
    obtain ⟨a1, l1, c1, rfl⟩ := slice_of Tryz.underlying26 g1
    obtain ⟨a3, l3, c3, rfl⟩ := slice_of Tryz.underlying26 g3
    obtain ⟨ks, k1, k2, k3, k4⟩ := open_vals g1
    obtain ⟨cs, f1, f2, f3, f4⟩ := open_vals g3
    have hs0 : s0.size = s0.data.toList.length := Go.Lib.size_eq s0
    have hs2 : s2.size = s2.data.toList.length := Go.Lib.size_eq s2
    have hs4 : s4.size = s4.data.toList.length := Go.Lib.size_eq s4
    refine ⟨⟨s0.data.toList, (a1, l1, c1), s2.data.toList, (a3, l3, c3), s4.data.toList⟩, ⟨s0.data.toList, ks, s2.data.toList, cs, s4.data.toList⟩, ?_, ⟨rfl, rfl, rfl, k1, f1⟩, k4, f4, by show s0.data.toList.length ≤ _; omega, by show s2.data.toList.length ≤ _; omega, by show s4.data.toList.length ≤ _; omega, by show ks.length ≤ _; omega, by show cs.length ≤ _; omega⟩
    simp [Lw.c, Sl.v, str_of]
theorem open_lines {n0 : Nat} {a : Option Addr} {len cap : Nat} {y : DataW H × List MemPlace} (h : DataW.trod enc Tryz.prog W 0 (fun _ => true) held n0 22 [.slice a len cap] = some y) :
    ∃ ls : List Ln, LsAt W (· < W.heap.size) (.slice a len cap) ls ∧ ls.length = len ∧ len ≤ maxLen ∧ ∀ l ∈ ls, FitN l := by
  obtain ⟨ps, h1, h2, h3, h4⟩ := open_gen (β := Ln) eL cells28 (fun r v => LnAt W (· < W.heap.size) r v ∧ FitN v) (fun m _ cs' y' hl' hy' => by
    obtain ⟨r, v, h1, h2⟩ := open_line m cs' y' hl' hy'
    exact ⟨r, v, h1, h2⟩) h
  refine ⟨ps.map (·.2), ⟨ps, h1, rfl, fun p hp => (h4 p hp).1⟩, by rw [List.length_map]; exact h2, h3, fun v hv => ?_⟩
  obtain ⟨p, hp, rfl⟩ := List.mem_map.1 hv
  exact (h4 p hp).2
end
def IsOk (W : World) (a : Option Addr) (len cap : Nat) (l : List Int) : Prop := LAt eI W (· < W.heap.size) (.slice a len cap) l ∧ l.length = len ∧ len ≤ maxLen ∧ ∀ n ∈ l, I64 n
def ValsOk' (W : World) (a : Option Addr) (len cap : Nat) (ks : List Vl) : Prop := VsAt W (· < W.heap.size) (.slice a len cap) ks ∧ ks.length = len ∧ len ≤ maxLen ∧ FitL ks
def LinesOk' (W : World) (a : Option Addr) (len cap : Nat) (ls : List Ln) : Prop := LsAt W (· < W.heap.size) (.slice a len cap) ls ∧ ls.length = len ∧ len ≤ maxLen ∧ ∀ l ∈ ls, FitN l
end Go.Proofs.YtpjcpdnolcehcaaGreatDoor
