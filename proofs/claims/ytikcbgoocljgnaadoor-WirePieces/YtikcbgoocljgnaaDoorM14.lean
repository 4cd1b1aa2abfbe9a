/- What this text holds: a byte of a line. -/
import Derived.Test.YtikcbgoocljgnaaDoorM13b
namespace Go.Proofs.YtikcbgoocljgnaaDoor
open Go.RowKit
set_option linter.unusedVariables false
set_option linter.unusedSimpArgs false

def addF (F : Fd) (c : UInt8) : Fd := { F with under := F.under ++ [c] }
def ofLineP (F : Fd) (c : UInt8) : Out :=
  if c = 10 then endLineP F
  else if 4000 < F.size + (sufT (F.under ++ [c]) 13).length then ⟨{ Fd.zero with nx := .pline }, 3, F.texts ++ [(F.under ++ [c]).take 4000], F.lits⟩
  else ⟨addF F c, 0, [], []⟩
theorem FTo.below {w w1 w2 : World} {b : Nat} {own : List Nat} {F : Fd} (h : FTo w b own F w1) (hb : Below w1.heap.size w1 w2) : FTo w b own F w2 := by
  obtain ⟨o, f, k, g⟩ := h
  exact ⟨o, f.below hb, k.trans (Kept.ofBelow hb own) (fun _ _ h => h), g⟩
set_option maxRecDepth 100000 in
theorem results22_run {w : World} {A : Nat} {v0 v1 v2 : Value} (tmps : Array Value) (h2 : tmps[4]? = some (.pointer (some ⟨A, 0, none⟩))) (h : w.heap[A]? = some (.cells #[v0, v1, v2] 41 (0, 0))) :
    (results Tryd.f22 tmps).run Tryd.prog w = .ok (.agg #[v0, v1, v2]) w := by
  obtain ⟨x0, x1, x2, _⟩ := row41 h
  simp [results, Tryd.results22, go_sem, h2, x0, x1, x2]
/-- The first bytes as a string. -/
theorem conv_take {w : World} {a : Option Addr} {n c : Nat} {l : Bs} (h : GO eB w 0 (.slice a n c) l) (m : Nat) (hm : m ≤ l.length) (h1 : 0 < l.length) : (convert 31 9 (.slice a m c)).run Tryd.prog w = .ok (.string (str (l.take m))) w := by
  rcases id h.2 with ⟨e, h0⟩ | ⟨g, cap, cur, e, _, hg, _, _, _, hx⟩
  · omega
  · simp only [Value.slice.injEq] at e
    obtain ⟨rfl, rfl, rfl⟩ := e
    have hc := World.ownsRow.cells h rfl
    have hl : (l.take m).length = m := by rw [List.length_take]; omega
    have := run_convert_bytes_arg w 31 5 Tryd.underlying31 Tryd.underlying5 g 0 m c ((l.take m).map fun b => (b.toNat : Int)) (by simpa using hl) (fun i hi => by
      have hi2 : i < l.length := by omega
      have := hc i (.int .u8 (l[i].toNat)) (by
        have := eB.cs_at l i 0 l[i] (.int .u8 (l[i].toNat)) (List.getElem?_eq_getElem hi2) rfl
        simpa [eB] using this)
      rw [Addr.add_mid] at this
      rw [this]
      simp [List.getElem?_take, hi, hi2]) 9 Tryd.underlying9
    rw [this]
    have e : strOfNums ((l.take m).map fun b => (b.toNat : Int)) = str (l.take m) := by
      unfold strOfNums str
      rw [List.map_map]
      have : ((fun n : Int => UInt8.ofNat n.toNat) ∘ fun b : UInt8 => (b.toNat : Int)) = id := by funext x; simp
      rw [this, List.map_id]
    rw [e]
/-- A byte more of the line: what is known of it. -/
theorem add_byte {w : World} {b : Nat} {vt vl vu : Value} {F : Fd} (f : FIn w b vt vl vu F) (c : UInt8) (h4 : F.under.length ≤ 1000000) :
    ∃ v' w1, (Builtin.append_ #[31, 31] 31 #[vu, .slice (some ⟨w.heap.size, 0, none⟩) 1 1]).run Tryd.prog (w.alloc (.cells #[.int .u8 (c.toNat : Int)] 5)) = .ok v' w1 ∧ GO eB w1 0 v' (F.under ++ [c]) ∧ w1.cell? ⟨b, 3, none⟩ = some vu ∧ w1.frozen? ⟨b, 3, none⟩ = false ∧ FTo w b (own3 b vt vl vu) (addF F c) (w1.setCell ⟨b, 3, none⟩ v') := by
  obtain ⟨v', w1, hr, ho, hk, hn⟩ := go_one_kept eB f.u (by omega) c w.heap.size rfl
  have r1 := f.r4.byte hk ho
  have r2 := r1.set 3 v'
  refine ⟨v', w1, hr, ho, r1.cell 3 rfl, r1.free 3, ?_⟩
  have hb : b ∈ own3 b vt vl vu := own3_mem.2 (.inl rfl)
  have k1 : Kept (own3 b vt vl vu) w w1 := hk.mono (fun i _ hi => own3_mem.2 (.inr (.inr (.inr (by rwa [Option.mem_toList] at hi)))))
  refine ⟨own3 b vt vl v', ⟨vt, vl, v', r2.fin (addF F c) rfl rfl rfl rfl f.tl, rfl⟩, k1.trans (Kept.setCell _ _ _ _ hb) (fun _ _ h => h), fun g hg => ?_⟩
  rcases own3_mem.1 hg with e | e | e | e
  · exact .inl (own3_mem.2 (.inl e))
  · exact .inl (own3_mem.2 (.inr (.inl e)))
  · exact .inl (own3_mem.2 (.inr (.inr (.inl e))))
  · rcases hn g e with q | q
    · exact .inl (own3_mem.2 (.inr (.inr (.inr q))))
    · exact .inr q
set_option maxRecDepth 100000 in
set_option maxHeartbeats 2000000 in
theorem ofLine_end {w : World} {b : Nat} {own : List Nat} {F : Fd} (h : FAt w b own F) (h1 : F.texts.length ≤ 900) (h2 : F.lits.length ≤ 900) (h3 : F.size ≤ 1000000) (h4 : F.under.length ≤ 1000000) :
    Calls Tryd.prog 22 #[.pointer (some ⟨b, 0, none⟩), .int .u8 10] w (StepO w b own (endLineP F)) := by
  have hn := h.nR
  have HM := hid (Mid.new h)
  have HC := hid (endLine_any h.al h1 h2 h3 h4)
  generalize endLineP F = O at *
  clear h
  go_enter Tryd.func22, Tryd.ntmps22
  go_wp2_with fail
  refine HC.out.mono ?_
  intro e w3 st
  obtain ⟨vT, vL, rfl, gt, gl, hR, u1, u2⟩ := HM.out.step hn st
  obtain ⟨aT, kT, hvT⟩ := gt.slice (n := O.t.length) rfl
  obtain ⟨aL, kL, hvL⟩ := gl.slice (n := O.l.length) rfl
  subst hvT hvL
  obtain ⟨r0, r1, r2, s0, s1, s2⟩ := row41 hR
  have HU := hid u1
  have HS := hid u2
  clear st gt gl hR u1 u2
  go_wp2_with fail
  exact bodyPost_ret (results22_run _ rfl HU.out) rfl HS.out
set_option maxRecDepth 100000 in
set_option maxHeartbeats 2000000 in
theorem ofLine_more {w : World} {b : Nat} {own : List Nat} {F : Fd} (h : FAt w b own F) (c : UInt8) (hc : c ≠ 10) (h3 : F.size ≤ 1000000) (h4 : F.under.length ≤ 900000) (hs : ¬ 4000 < F.size + (sufT (F.under ++ [c]) 13).length) :
    Calls Tryd.prog 22 #[.pointer (some ⟨b, 0, none⟩), .int .u8 c.toNat] w (StepTo w b own (addF F c) 0 [] []) := by
  have hn := h.nR
  have HM := hid (Mid.new h)
  obtain ⟨vt, vl, vu, f, rfl⟩ := h.al
  obtain ⟨v', w1, hr, ho, d3, f3, g1⟩ := add_byte f c (by omega)
  have c3 : (w.alloc (.cells #[.int .i64 0, .slice none 0 0, .slice none 0 0] 41)).cell? ⟨b, 3, none⟩ = some vu := f.r4.cell 3 rfl
  have HR : Hid ((Builtin.append_ #[31, 31] 31 #[vu, .slice (some ⟨w.heap.size + 1, 0, none⟩) 1 1]).run Tryd.prog ((w.alloc (.cells #[.int .i64 0, .slice none 0 0, .slice none 0 0] 41)).alloc (.cells #[.int .u8 (c.toNat : Int)] 5)) = .ok v' w1) := by
    rw [World.size_alloc] at hr
    exact hr
  have a10 : ((c.toNat : Int) == 10) = false := no_c hc
  obtain ⟨own1, hf1, hk1, ho1⟩ := g1
  have HL := hid (long_any hf1 (by simp [addF]) (by show (F.under ++ [c]).length ≤ 1000000; simp; omega) (by show F.size ≤ 100000000; omega))
  have hd : decide (4000 < (addF F c).size + (sufT (addF F c).under 13).length) = false := by
    have e : decide (4000 < F.size + (sufT (F.under ++ [c]) 13).length) = false := by simpa using hs
    exact e
  rw [hd] at HL
  have HG := hid (show FTo (w.alloc (.cells #[.int .i64 0, .slice none 0 0, .slice none 0 0] 41)) b (own3 b vt vl vu) (addF F c) (w1.setCell ⟨b, 3, none⟩ v') from ⟨own1, hf1, hk1, ho1⟩)
  obtain ⟨a0, k0, hv0⟩ := f.u.slice (n := F.under.length) rfl
  obtain ⟨a1, k1, hv1⟩ := ho.slice (n := F.under.length + 1) (by simp)
  subst hv0 hv1
  clear f hf1 hk1 ho1 hr ho h hd hs
  go_enter Tryd.func22, Tryd.ntmps22
  go_wp2_with (at_builtin; refine wpList_append_run rfl rfl HR.out ?_)
  refine HL.out.mono ?_
  rintro e w2 ⟨rfl, hb2⟩
  obtain ⟨vT, vL, hq, _, _, hR, u1, u2⟩ := HM.out.step hn (FTo.step (k := 0) (HG.out.below hb2))
  simp only [Ending.returned.injEq, Value.agg.injEq, Array.mk.injEq, List.cons.injEq, and_true, true_and] at hq
  obtain ⟨rfl, rfl⟩ := hq
  obtain ⟨r0, r1, r2, s0, s1, s2⟩ := row41 hR
  have HU := hid u1
  have HS := hid u2
  clear hb2 hR u1 u2
  go_wp2_with fail
  exact bodyPost_ret (results22_run _ rfl HU.out) rfl HS.out
/-- A byte of a line (a line that is too long is still to be walked). -/
def OfLineOk : Prop := ∀ {w : World} {b : Nat} {own : List Nat} {F : Fd}, FAt w b own F → ∀ (c : UInt8), F.texts.length ≤ 900 → F.lits.length ≤ 900 → F.size ≤ 1000000 → F.under.length ≤ 900000 → Calls Tryd.prog 22 #[.pointer (some ⟨b, 0, none⟩), .int .u8 c.toNat] w (StepO w b own (ofLineP F c))
end Go.Proofs.YtikcbgoocljgnaaDoor
