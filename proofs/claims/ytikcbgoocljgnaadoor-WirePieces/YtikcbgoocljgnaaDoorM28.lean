/- What this text holds: a feed and what it told, between the calls of a statement; bytes that a text is turned to. -/
import Derived.Test.YtikcbgoocljgnaaDoorM25
import Derived.Lib.ConvBytes
namespace Go.Proofs.YtikcbgoocljgnaaDoor
open Go.RowKit
set_option linter.unusedVariables false
set_option linter.unusedSimpArgs false

/-- A feed that a call made itself. -/
structure FS (w0 w : World) (b : Nat) (own : List Nat) (F : Fd) : Prop where
  f : FAt w b own F
  n : ∀ g ∈ own, w0.heap.size ≤ g
  k : Below w0.heap.size w0 w
  s : Sound F
theorem FS.later {w0 w w' : World} {b : Nat} {own : List Nat} {F : Fd} (h : FS w0 w b own F) (hb : Below w.heap.size w w') : FS w0 w' b own F :=
  ⟨h.f.below hb, h.n, h.k.trans (hb.mono h.k.size), h.s⟩
theorem EvL.later {w w' : World} {v : Value} {own : List Nat} {L : List Ev} (h : EvL w v own L) (hb : Below w.heap.size w w') : EvL w' v own L :=
  h.kept (Kept.ofBelow hb own) (fun g hg => .inl hg)
/-- What Take leaves. -/
def TkIs (w0 w : World) (b : Nat) (own : List Nat) (F : Fd) (L : List Ev) (e : Ending) (w' : World) : Prop :=
  ∃ v own', e = .returned v ∧ FS w0 w' b own' F ∧ EvL w' v own' L ∧ (∀ u M, EvL w u own M → EvL w' u own' M) ∧ Kept own w w' ∧ (∀ g ∈ own', g ∈ own ∨ w.heap.size ≤ g)
theorem take_fs {w0 w : World} {b : Nat} {own : List Nat} {F : Fd} (h : FS w0 w b own F) (g o c : Nat) (s : Bs) (hc : s.length ≤ c) (hb : GA eB w g o s) (hno : g ∉ own) (hgl : g < w.heap.size) (hsl : s.length ≤ 1000000) :
    Calls Tryd.prog 12 #[.pointer (some ⟨b, 0, none⟩), .slice (some ⟨g, o, none⟩) s.length c] w (TkIs w0 w b own (takeP F s).1 (takeP F s).2) := by
  refine (take_any ofLine_ok sound_step h.f h.s g o c s hc hb hno hgl hsl).mono ?_
  rintro e w' ⟨v, own', rfl, hv, hf, hk, ho⟩
  refine ⟨v, own', rfl, ⟨hf, fun g hg => ?_, h.k.trans (hk.below h.n h.k.size), sound_take s F h.s⟩, hv, fun u M hu => hu.kept hk ho, hk, ho⟩
  rcases ho g hg with e | e
  · exact h.n g e
  · exact Nat.le_trans h.k.size e
theorem fs_new (w : World) : Calls Tryd.prog 11 #[] w fun e w' => e = .returned (.pointer (some ⟨w.heap.size, 0, none⟩)) ∧ FS w w' w.heap.size [w.heap.size] Fd.zero := by
  refine (new_any w).mono ?_
  rintro e w' ⟨rfl, hf, hb⟩
  exact ⟨rfl, hf, fun g hg => by rw [List.mem_singleton] at hg; omega, hb, sound_zero⟩
/-- The world behind a text that was turned to bytes. -/
abbrev strW (w : World) (s : Bs) : World := Go.Lib.bytesWorld w 5 (str s)
theorem strW_below (w : World) (s : Bs) : Below w.heap.size w (strW w s) := Go.Lib.bytesWorld_below w 5 (str s)
theorem strW_ga (w : World) (s : Bs) : GA eB (strW w s) w.heap.size 0 s := by
  intro j i x v h1 h2
  have hj : j < s.length := (List.getElem?_eq_some_iff.1 h1).1
  have hc := Go.Lib.bytesWorld_cell w 5 (str s) j (by rw [str_size]; exact hj)
  match i, h2 with
  | 0, h2 =>
    simp [eB] at h2
    subst h2
    simp only [eB, Nat.mul_one, Nat.add_zero, Nat.zero_add]
    rw [hc, str_data]
    simp [List.getD, h1]
  | i + 1, h2 => simp [eB] at h2
theorem strW_conv (w : World) (s : Bs) : (convert 9 31 (.string (str s))).run Tryd.prog w = .ok (.slice (some ⟨w.heap.size, 0, none⟩) s.length (grownCap w s.length 0 5)) (strW w s) := by
  have := Go.Lib.run_convert_string_bytes (P := Tryd.prog) w 9 31 5 (str s) Tryd.underlying9 Tryd.underlying31 Tryd.underlying5
  rw [str_size] at this
  exact this
/-- A feed takes a text. -/
theorem take_text {w0 w : World} {b : Nat} {own : List Nat} {F : Fd} (h : FS w0 w b own F) (s : Bs) (hsl : s.length ≤ 1000000) :
    Calls Tryd.prog 12 #[.pointer (some ⟨b, 0, none⟩), .slice (some ⟨w.heap.size, 0, none⟩) s.length (grownCap w s.length 0 5)] (strW w s) (TkIs w0 w b own (takeP F s).1 (takeP F s).2) := by
  have hb := strW_below w s
  have hlt : w.heap.size < (strW w s).heap.size := by rw [Go.Lib.bytesWorld_size]; omega
  refine (take_fs (h.later hb) w.heap.size 0 (grownCap w s.length 0 5) s (grownCap_ge _ _ _ _) (strW_ga w s) (fun e => by have := h.f.lt _ e; omega) hlt hsl).mono ?_
  rintro e w' ⟨v, own', rfl, hf, hv, hu, hk, ho⟩
  exact ⟨v, own', rfl, hf, hv, fun u M hm => hu u M (hm.later hb), (Kept.ofBelow hb own).trans hk (fun _ _ h => h), fun g hg => by rcases ho g hg with e | e; exact .inl e; right; omega⟩
/-- One event, or none. -/
theorem ev_one {w : World} {v : Value} {own : List Nat} {k : Int} {T L : List Bs} (h : EvL w v own [(k, T, L)]) : ∃ g c, v = .slice (some ⟨g, 0, none⟩) 1 c ∧ w.cell? ⟨g, 0, none⟩ = some (.int .i64 k) := by
  obtain ⟨es, h1, h2, h3, h4⟩ := h
  match es, h3 with
  | [e], _ =>
    obtain ⟨g, c, hv, _⟩ := ownsRow_some h1 (by simp)
    obtain ⟨a1, _⟩ := h4 0 e (k, T, L) rfl rfl
    obtain ⟨a, c', hv', _, hr⟩ := h1.gl
    rcases hr with hr | ⟨g', o', ha, hga, _⟩
    · simp at hr
    · rw [hv] at hv'
      simp only [Value.slice.injEq] at hv'
      obtain ⟨rfl, _, rfl⟩ := hv'
      simp only [Option.some.injEq, Addr.mk.injEq] at ha
      obtain ⟨rfl, rfl, _⟩ := ha
      have := (hga.e 0 e rfl).1
      refine ⟨g, c, hv, ?_⟩
      rw [show (0 + 0 * 3 : Nat) = 0 from rfl] at this
      rw [this, a1]
theorem ev_len {w : World} {v : Value} {own : List Nat} {L : List Ev} (h : EvL w v own L) : ∃ a c, v = .slice a L.length c := by
  obtain ⟨es, h1, h2, h3, h4⟩ := h
  exact h1.slice h3
end Go.Proofs.YtikcbgoocljgnaaDoor
