/- What this text holds: parts with their kids in memory; kids of one's own. -/
import Derived.Test.YtgolcmafbenjbaaGreatDoorN13
namespace Go.Proofs.YtgolcmafbenjbaaGreatDoor
open Go.RowKit
set_option linter.unusedVariables false
set_option linter.unusedSimpArgs false

theorem RL.keptN {S : List Nat} {k : Nat} {w w' : World} {v : Value} {l : List (List Bs)} (h : RL w v k l) (hk : Kept S w w') (hn : ∀ g, blk v = some g → l ≠ [] → g ∉ S) : RL w' v k l := by
  obtain ⟨hw, a, c, rfl, hc, h⟩ := h
  refine ⟨hw, a, c, rfl, hc, ?_⟩
  rcases h with h | ⟨g, o, rfl, h, hg⟩
  · exact .inl h
  · by_cases h0 : l = []
    · exact .inl h0
    · exact .inr ⟨g, o, rfl, fun j i r p h1 h2 => hk.cell (h j i r p h1 h2) (hn g rfl h0), Nat.lt_of_lt_of_le hg hk.size⟩
theorem RL.blt {k : Nat} {w : World} {v : Value} {l : List (List Bs)} (h : RL w v k l) (h0 : l ≠ []) : ∀ g, blk v = some g → g < w.heap.size := by
  obtain ⟨hw, a, c, rfl, hc, h⟩ := h
  intro g hg
  rcases h with h | ⟨g', o, rfl, h, hl⟩
  · exact absurd h h0
  · simp [blk] at hg
    omega
theorem PdAt.kept {S : List Nat} {w w' : World} {N : Nat → Prop} {d : Pd} {vp vi vd : Value} (h : PdAt w N d vp vi vd) (hk : Kept S w w') (hS : ∀ i ∈ S, ¬ N i) : PdAt w' N d vp vi vd :=
  ⟨h.ps.keptN hk (fun g hg h0 hm => hS g hm (h.bp g hg (by simpa using h0))), h.id.keptN hk (fun g hg h0 hm => hS g hm (h.bi g hg (by simpa using h0))), h.desc.keptN hk (fun g hg h0 hm => hS g hm (h.bd g hg (by simpa using h0))), h.bp, h.bi, h.bd⟩
theorem PdAt.mono {w : World} {N N' : Nat → Prop} {d : Pd} {vp vi vd : Value} (h : PdAt w N d vp vi vd) (hN : ∀ q, q < w.heap.size → N q → N' q) : PdAt w N' d vp vi vd :=
  ⟨h.ps, h.id, h.desc, fun q hq h0 => hN q (h.ps.blt (by simpa using h0) q hq) (h.bp q hq h0), fun q hq h0 => hN q (h.id.blt (by simpa using h0) q hq) (h.bi q hq h0), fun q hq h0 => hN q (h.desc.blt (by simpa using h0) q hq) (h.bd q hq h0)⟩
/-- Kids lie in memory, n parts within one another at the most. -/
def KsAt (w : World) (N : Nat → Prop) : Nat → Value → List Pt → Prop
  | 0, v, ks => ks = [] ∧ v = nilV
  | n + 1, v, ks => ∃ a c, v = .slice a ks.length c ∧ ks.length ≤ c ∧ (ks = [] ∨ ∃ g o, a = some ⟨g, o, none⟩ ∧ g < w.heap.size ∧ N g ∧
      ∀ j k, ks[j]? = some k → ∃ vp vi vd vk, (∀ i x, (ptC k.d vp vi vd vk)[i]? = some x → w.cell? ⟨g, o + j * 11 + i, none⟩ = some x) ∧ PdAt w N k.d vp vi vd ∧ KsAt w N n vk k.kids)
theorem KsAt.kept {S : List Nat} {w w' : World} {N : Nat → Prop} (hk : Kept S w w') (hS : ∀ i ∈ S, ¬ N i) : ∀ {n : Nat} {v : Value} {ks : List Pt}, KsAt w N n v ks → KsAt w' N n v ks
  | 0, v, ks, h => h
  | n + 1, v, ks, h => by
    obtain ⟨a, c, rfl, hc, h⟩ := h
    refine ⟨a, c, rfl, hc, ?_⟩
    rcases h with h | ⟨g, o, rfl, hg, hN, h⟩
    · exact .inl h
    · refine .inr ⟨g, o, rfl, Nat.lt_of_lt_of_le hg hk.size, hN, fun j k hj => ?_⟩
      obtain ⟨vp, vi, vd, vk, h1, h2, h3⟩ := h j k hj
      exact ⟨vp, vi, vd, vk, fun i x hx => hk.cell (h1 i x hx) (fun hm => hS g hm hN), h2.kept hk hS, KsAt.kept hk hS h3⟩
theorem KsAt.mono {w : World} {N N' : Nat → Prop} (hN : ∀ q, q < w.heap.size → N q → N' q) : ∀ {n : Nat} {v : Value} {ks : List Pt}, KsAt w N n v ks → KsAt w N' n v ks
  | 0, v, ks, h => h
  | n + 1, v, ks, h => by
    obtain ⟨a, c, rfl, hc, h⟩ := h
    refine ⟨a, c, rfl, hc, ?_⟩
    rcases h with h | ⟨g, o, rfl, hg, hNg, h⟩
    · exact .inl h
    · refine .inr ⟨g, o, rfl, hg, hN g hg hNg, fun j k hj => ?_⟩
      obtain ⟨vp, vi, vd, vk, h1, h2, h3⟩ := h j k hj
      exact ⟨vp, vi, vd, vk, h1, h2.mono hN, KsAt.mono hN h3⟩
theorem KsAt.slice {w : World} {N : Nat → Prop} : ∀ {n : Nat} {v : Value} {ks : List Pt}, KsAt w N n v ks → ∃ a c, v = .slice a ks.length c ∧ ks.length ≤ c
  | 0, v, ks, h => by obtain ⟨rfl, rfl⟩ := h; exact ⟨none, 0, rfl, Nat.le_refl _⟩
  | n + 1, v, ks, h => by obtain ⟨a, c, rfl, hc, _⟩ := h; exact ⟨a, c, rfl, hc⟩
theorem KsAt.nil (w : World) (N : Nat → Prop) : ∀ (n : Nat), KsAt w N n nilV []
  | 0 => ⟨rfl, rfl⟩
  | n + 1 => ⟨none, 0, rfl, Nat.le_refl _, .inl rfl⟩
/-- A part and its kids lie in memory. -/
structure PtAt (w : World) (N : Nat → Prop) (n : Nat) (p : Pt) (vp vi vd vk : Value) : Prop where
  d : PdAt w N p.d vp vi vd
  k : KsAt w N n vk p.kids
theorem PtAt.kept {S : List Nat} {w w' : World} {N : Nat → Prop} {n : Nat} {p : Pt} {vp vi vd vk : Value} (h : PtAt w N n p vp vi vd vk) (hk : Kept S w w') (hS : ∀ i ∈ S, ¬ N i) : PtAt w' N n p vp vi vd vk := ⟨h.d.kept hk hS, KsAt.kept hk hS h.k⟩
theorem PtAt.later {w w' : World} {N : Nat → Prop} {n : Nat} {p : Pt} {vp vi vd vk : Value} (h : PtAt w N n p vp vi vd vk) (hb : Below w.heap.size w w') : PtAt w' N n p vp vi vd vk := h.kept (Kept.ofBelow hb []) (by simp)
theorem PtAt.mono {w : World} {N N' : Nat → Prop} {n : Nat} {p : Pt} {vp vi vd vk : Value} (h : PtAt w N n p vp vi vd vk) (hN : ∀ q, q < w.heap.size → N q → N' q) : PtAt w N' n p vp vi vd vk := ⟨h.d.mono hN, KsAt.mono hN h.k⟩

/-- A kid with the values of its lists. -/
structure Rw where
  p : Pt
  vp : Value
  vi : Value
  vd : Value
  vk : Value
def Rw.c (r : Rw) : List Value := (ptC r.p.d r.vp r.vi r.vd r.vk).toList
theorem Rw.len (r : Rw) : r.c.length = 11 := rfl
def rowC (l : List Rw) : List Value := l.flatMap Rw.c
theorem rowC_len : ∀ (l : List Rw), (rowC l).length = l.length * 11
  | [] => rfl
  | r :: l => by
    have := rowC_len l
    have e : rowC (r :: l) = r.c ++ rowC l := by simp [rowC]
    rw [e, List.length_append, Rw.len, this, List.length_cons]
    omega
theorem rowC_at : ∀ (l : List Rw) (j i : Nat) (r : Rw) (x : Value), l[j]? = some r → r.c[i]? = some x → (rowC l)[j * 11 + i]? = some x
  | [], j, i, r, x, h, _ => by simp at h
  | q :: l, 0, i, r, x, h, hx => by
    simp at h
    subst h
    have e : rowC (q :: l) = q.c ++ rowC l := by simp [rowC]
    have : i < q.c.length := by rw [List.getElem?_eq_some_iff] at hx; exact hx.1
    rw [e, Nat.zero_mul, Nat.zero_add, List.getElem?_append_left this]
    exact hx
  | q :: l, j + 1, i, r, x, h, hx => by
    have := rowC_at l j i r x (by simpa using h) hx
    have e : rowC (q :: l) = q.c ++ rowC l := by simp [rowC]
    rw [e, List.getElem?_append_right (by rw [Rw.len]; omega), Rw.len, show (j + 1) * 11 + i - 11 = j * 11 + i by omega]
    exact this
/-- Kids of one's own. -/
structure KO (w : World) (B n : Nat) (v : Value) (rows : List Rw) : Prop where
  o : w.ownsRow B 33 11 v rows.length (rowC rows)
  each : ∀ r ∈ rows, PtAt w (fun q => B ≤ q ∧ v.ownBlock ≠ some q) n r.p r.vp r.vi r.vd r.vk
theorem KO.nil (w : World) (B n : Nat) : KO w B n nilV [] := ⟨⟨rfl, .inl ⟨rfl, rfl⟩⟩, by simp⟩
theorem KO.kept {S : List Nat} {w w' : World} {B n : Nat} {v : Value} {rows : List Rw} (h : KO w B n v rows) (hk : Kept S w w') (hS : ∀ i ∈ S, i < B) : KO w' B n v rows := by
  refine ⟨ownsRow_block h.o (fun g hg => hk.block g (World.ownsRow.lt h.o g hg).2 (fun hm => ?_)), fun r hr => (h.each r hr).kept hk (fun i hi hN => ?_)⟩
  · have := hS g hm
    have := (World.ownsRow.lt h.o g hg).1
    omega
  · have := hS i hi
    have := hN.1
    omega
theorem KO.sliceN {w : World} {B n : Nat} {v : Value} {rows : List Rw} (h : KO w B n v rows) {k : Nat} (hn : rows.length = k) : ∃ a c, v = .slice a k c := by
  subst hn
  rcases h.o.2 with ⟨h1, h2⟩ | ⟨g, cap, cur, h1, _⟩
  · exact ⟨none, 0, by rw [h1, h2]⟩
  · exact ⟨_, _, h1⟩
theorem KO.ks {w : World} {B n : Nat} {v : Value} {rows : List Rw} (h : KO w B n v rows) : KsAt w (B ≤ ·) (n + 1) v (rows.map Rw.p) := by
  rcases id h.o.2 with ⟨rfl, h0⟩ | ⟨g, cap, cur, rfl, hB, hg, hc, _⟩
  · have := List.eq_nil_of_length_eq_zero h0
    subst this
    exact KsAt.nil _ _ _
  · refine ⟨_, cap, by rw [List.length_map], by rw [List.length_map]; exact hc, .inr ⟨g, 0, rfl, lt_of_some hg, hB, fun j k hj => ?_⟩⟩
    rw [List.getElem?_map, Option.map_eq_some_iff] at hj
    obtain ⟨r, hr, rfl⟩ := hj
    have hp := (h.each r (List.mem_of_getElem? hr)).mono (N' := (B ≤ ·)) (fun q _ hq => hq.1)
    refine ⟨r.vp, r.vi, r.vd, r.vk, fun i x hx => ?_, hp.d, hp.k⟩
    have := World.ownsRow.cells h.o rfl (j * 11 + i) x (rowC_at rows j i r x hr (by simpa [Rw.c] using hx))
    rw [Addr.add_mid] at this
    rw [Nat.zero_add] at this ⊢
    exact this
theorem Tryz.info33 : (Tryz.prog.info? 33).map (fun i => (i.zero, i.size, i.bytes)) = some (some (.agg #[.string ⟨#[]⟩, .string ⟨#[]⟩, .slice none 0 0, .slice none 0 0, .slice none 0 0, .string ⟨#[]⟩, .int .i64 0, .int .i64 0, .int .i64 0, .int .i64 0, .slice none 0 0]), 11, 176) := by kernel_rfl
end Go.Proofs.YtgolcmafbenjbaaGreatDoor
