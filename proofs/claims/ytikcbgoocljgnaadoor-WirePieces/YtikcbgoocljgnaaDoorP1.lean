/- What this text holds: plain facts of a feed: lines, literals, commands, the way out. -/
import Derived.Test.YtikcbgoocljgnaaDoorM16
import Derived.Test.YtikcbgoocljgnaaDoorM22
import Derived.Lib.ItoaNum
namespace Go.Proofs.YtikcbgoocljgnaaDoor
set_option linter.unusedVariables false
set_option linter.unusedSimpArgs false

theorem suf_snoc (l : Bs) (d c : UInt8) : Go.Lib.hasSuffix (l ++ [d]) [c] = (d == c) := by
  simp only [Go.Lib.hasSuffix, List.isSuffixOf, List.reverse_append, List.reverse_cons, List.reverse_nil, List.nil_append, List.singleton_append, List.isPrefixOf, Bool.and_true]
  exact BEq.comm
theorem suf_nil (c : UInt8) : Go.Lib.hasSuffix [] [c] = false := by simp [Go.Lib.hasSuffix, List.isSuffixOf, List.isPrefixOf]
theorem sufB_snoc (l : Bs) (c : UInt8) : sufB (l ++ [c]) c = true := by unfold sufB; rw [suf_snoc]; simp
theorem sufB_other (l : Bs) {d c : UInt8} (h : d ≠ c) : sufB (l ++ [d]) c = false := by unfold sufB; rw [suf_snoc]; simpa using h
theorem sufT_snoc (l : Bs) (c : UInt8) : sufT (l ++ [c]) c = l := by
  unfold sufT Go.Lib.trimSuffix
  rw [suf_snoc]
  simp
theorem sufT_other (l : Bs) {d c : UInt8} (h : d ≠ c) : sufT (l ++ [d]) c = l ++ [d] := by
  unfold sufT Go.Lib.trimSuffix
  rw [suf_snoc, if_neg (by simpa using h)]
theorem sufT_nil' (c : UInt8) : sufT [] c = [] := by
  unfold sufT Go.Lib.trimSuffix
  rw [suf_nil]
  simp
theorem sufT_no {l : Bs} {c : UInt8} (h : l.getLast? ≠ some c) : sufT l c = l := by
  rcases List.eq_nil_or_concat l with rfl | ⟨m, d, rfl⟩
  · exact sufT_nil' c
  · rw [List.concat_eq_append] at *
    exact sufT_other m (fun e => h (by simp [e]))
theorem sufB_no {l : Bs} {c : UInt8} (h : l.getLast? ≠ some c) : sufB l c = false := by
  rcases List.eq_nil_or_concat l with rfl | ⟨m, d, rfl⟩
  · exact suf_nil c
  · rw [List.concat_eq_append] at *
    exact sufB_other m (fun e => h (by simp [e]))
/-- A list that does not end with } has no mark. -/
theorem mark_no {l : Bs} (h : l.getLast? ≠ some 125) : markP l = none := by
  unfold markP
  rw [sufB_no h]
  simp
/-- Digits behind a sign that is none. -/
theorem trimD_app (l : Bs) (d : UInt8) (dg : Bs) (hd : d ∉ dgs) (hg : ∀ c ∈ dg, c ∈ dgs) : trimD (l ++ [d] ++ dg) = l ++ [d] := by
  unfold trimD Go.Lib.trimRightS
  rw [List.reverse_append, List.dropWhile_append_of_pos (fun c hc => by simpa using hg c (List.mem_reverse.1 hc)), List.reverse_append, List.reverse_singleton, List.singleton_append, List.dropWhile_cons_of_neg (by simpa using hd), ← List.singleton_append, List.reverse_append, List.reverse_reverse]
  rfl
/-- A text and its mark. -/
def markB (dg : Bs) : Bs := [123] ++ dg ++ [43, 125]
theorem mark_yes (t dg : Bs) (hg : ∀ c ∈ dg, c ∈ dgs) (h0 : dg ≠ []) (h6 : dg.length ≤ 6) : markP (t ++ markB dg) = some (t, numV dg, true) := by
  have e1 : t ++ markB dg = (t ++ [123] ++ dg ++ [43]) ++ [125] := by simp [markB]
  have e2 : sufT (t ++ markB dg) 125 = t ++ [123] ++ dg ++ [43] := by rw [e1, sufT_snoc]
  have e3 : sufT (t ++ [123] ++ dg ++ [43]) 43 = t ++ [123] ++ dg := sufT_snoc _ _
  have e4 : trimD (t ++ [123] ++ dg) = t ++ [123] := trimD_app t 123 dg (by decide) hg
  have e5 : (t ++ [123] ++ dg).drop (t ++ [123]).length = dg := List.drop_left
  unfold markP
  rw [e2, e3, e4, e5, sufT_snoc, sufB_snoc, show sufB (t ++ markB dg) 125 = true by rw [e1, sufB_snoc], sufB_snoc]
  simp [h0, h6]

/-- A byte of a command's first line. -/
theorem take_no (F : Fd) (h : F.nx = .no) (s : Bs) (hs : s ≠ []) : takeP F s = takeP { F with nx := .line } s := by
  cases s with
  | nil => exact absurd rfl hs
  | cons c s => simp [takeP, stepP, h]
/-- Bytes of a line that is not too long. -/
theorem take_line : ∀ (s : Bs) (F : Fd), F.nx = .line → 10 ∉ s → F.size + (F.under ++ s).length ≤ 4000 → takeP F s = ({ F with under := F.under ++ s }, [])
  | [], F, h, _, _ => by simp [takeP]
  | c :: s, F, h, h10, hl => by
    have hc : c ≠ 10 := fun e => h10 (by simp [e])
    have hl' : F.size + F.under.length + (s.length + 1) ≤ 4000 := by simp at hl; omega
    have hst : stepP F c = ⟨addF F c, 0, [], []⟩ := by
      have := sufT_len (F.under ++ [c]) 13
      have e : (F.under ++ [c]).length = F.under.length + 1 := by simp
      simp only [stepP, h]
      unfold ofLineP
      rw [if_neg hc, if_neg (by omega)]
    rw [takeP, hst]
    have ih := take_line s (addF F c) h (fun e => h10 (by simp [e])) (by simp [addF]; omega)
    simp only [evOf, if_true, List.nil_append]
    rw [ih]
    simp [addF]
/-- A line with its end. -/
theorem take_end (s : Bs) (F : Fd) (h : F.nx = .line) (h10 : 10 ∉ s) (hl : F.size + (F.under ++ s).length ≤ 4000) :
    takeP F (s ++ [13, 10]) = ((endLineP { F with under := F.under ++ s ++ [13] }).f, evOf (endLineP { F with under := F.under ++ s ++ [13] })) := by
  rw [take_app, take_line s F h h10 hl]
  have h1 : stepP { F with under := F.under ++ s } 13 = ⟨{ F with under := F.under ++ s ++ [13] }, 0, [], []⟩ := by
    simp only [stepP, h]
    unfold ofLineP
    rw [if_neg (by decide), if_neg (by simp only [sufT_snoc]; omega)]
    rfl
  have h2 : stepP { F with under := F.under ++ s ++ [13] } 10 = endLineP { F with under := F.under ++ s ++ [13] } := by
    simp only [stepP, h]
    unfold ofLineP
    rw [if_pos rfl]
  simp only [takeP, h1, h2, evOf, if_true, List.nil_append, List.append_nil]
/-- The last line. -/
theorem take_last (s : Bs) (F : Fd) (h : F.nx = .line) (hu : F.under = []) (h10 : 10 ∉ s) (hl : F.size + s.length ≤ 4000) (hm : markP s = none) :
    takeP F (s ++ [13, 10]) = (Fd.zero, [(1, F.texts ++ [s], F.lits)]) := by
  rw [take_end s F h h10 (by rw [hu]; simpa using hl)]
  have : endLineP { F with under := F.under ++ s ++ [13] } = ⟨Fd.zero, 1, F.texts ++ [s], F.lits⟩ := by
    unfold endLineP
    simp only [sufT_snoc, hu, List.nil_append, hm]
  rw [this]
  rfl
/-- A literal. -/
theorem take_lit : ∀ (x : Bs) (F : Fd), F.nx = .lit → F.left = x.length → x ≠ [] → takeP F x = ({ F with lits := F.lits ++ [F.under ++ x], under := [], left := 0, nx := .line }, [])
  | [], F, _, _, h0 => absurd rfl h0
  | c :: x, F, h, hl, _ => by
    have hl' : F.left - 1 = x.length := by rw [hl]; simp
    have hst : stepP F c = ⟨ofLiteralF F c, 0, [], []⟩ := by simp only [stepP, h]
    rw [takeP, hst]
    simp only [evOf, if_true, List.nil_append]
    by_cases hx : x = []
    · subst hx
      have : F.left - 1 = 0 := by rw [hl']; rfl
      simp only [takeP]
      unfold ofLiteralF
      rw [if_pos this]
      simp [endLitF, keepLitF, litF1, this]
    · have : ¬ F.left - 1 = 0 := by rw [hl']; simpa using hx
      unfold ofLiteralF
      rw [if_neg this, take_lit x (litF1 F c) h hl' hx]
      simp [litF1]
/-- A line with a mark that goes on, and its literal. -/
theorem take_marked (s dg x : Bs) (F : Fd) (h : F.nx = .line) (hu : F.under = []) (h10 : 10 ∉ s) (hg : ∀ c ∈ dg, c ∈ dgs) (h0 : dg ≠ []) (h6 : dg.length ≤ 6) (hn : numV dg = x.length) (hx : x.length ≤ 50000) (hl : F.size + (s ++ markB dg).length ≤ 4000) (h20 : F.lits.length < 20) (hlf : F.left = 0) :
    takeP F (s ++ markB dg ++ [13, 10] ++ x) = ({ F with texts := F.texts ++ [s], lits := F.lits ++ [x], size := F.size + (s ++ markB dg).length }, []) := by
  have h10' : (10 : UInt8) ∉ s ++ markB dg := by
    intro e
    simp only [markB, List.mem_append, List.mem_cons, List.not_mem_nil, or_false] at e
    rcases e with e | (e | e) | e | e
    · exact h10 e
    · exact absurd e (by decide)
    · exact absurd (hg _ e) (by decide)
    · exact absurd e (by decide)
    · exact absurd e (by decide)
  rw [take_app, take_end (s ++ markB dg) F h h10' (by rw [hu]; simpa using hl)]
  have hr : refB { F with under := F.under ++ (s ++ markB dg) ++ [13] } (numV dg) = false := by
    unfold refB
    simp only [hn, Bool.or_eq_false_iff, decide_eq_false_iff_not]
    omega
  have e : endLineP { F with under := F.under ++ (s ++ markB dg) ++ [13] } = ⟨awaitF (keepF { F with under := F.under ++ (s ++ markB dg) ++ [13] } s (s ++ markB dg)) x.length, 0, [], []⟩ := by
    unfold endLineP
    simp only [sufT_snoc]
    rw [hu, List.nil_append, mark_yes s dg hg h0 h6]
    simp only
    rw [hu, List.nil_append] at hr
    rw [hr, hn]
    simp
  rw [e]
  simp only [evOf, if_true, List.nil_append]
  by_cases hx0 : x = []
  · subst hx0
    simp only [takeP, List.length_nil]
    unfold awaitF
    rw [if_pos rfl]
    simp [endLitF, keepLitF, keepF, h, hu, hlf]
  · unfold awaitF
    rw [if_neg (by simpa using hx0), take_lit x _ rfl rfl hx0]
    simp [keepF, h, hu, hlf]
/-- A command's bytes, given how lengths are written. -/
def bytesP (dec : Nat → Bs) : List Bs → List Bs → Bs
  | t :: ts, x :: ls => t ++ markB (dec x.length) ++ [13, 10] ++ x ++ bytesP dec ts ls
  | t :: _, [] => t ++ [13, 10]
  | [], _ => []
theorem bytes_ne (dec : Nat → Bs) (ts ls : List Bs) (h : ts.length = ls.length + 1) : bytesP dec ts ls ≠ [] := by
  cases ts with
  | nil => simp at h
  | cons t ts => cases ls <;> simp [bytesP]
/-- A line that is a command's text. -/
def okT (t : Bs) : Prop := 10 ∉ t ∧ t.getLast? ≠ some 13 ∧ markP t = none
def lens (l : List Bs) : Nat := (l.map List.length).sum
theorem take_bytes (dec : Nat → Bs) (hd : ∀ n, n ≤ 50000 → (∀ c ∈ dec n, c ∈ dgs) ∧ dec n ≠ [] ∧ (dec n).length ≤ 5 ∧ numV (dec n) = n) :
    ∀ (ls ts : List Bs) (F : Fd), F.nx = .line → F.under = [] → F.left = 0 → ts.length = ls.length + 1 → F.many = 0 → F.ending = false → (∀ t ∈ ts, okT t) → (∀ x ∈ ls, x.length ≤ 50000) → F.lits.length + ls.length ≤ 20 → F.size + lens ts + 8 * ls.length ≤ 4000 →
      takeP F (bytesP dec ts ls) = (Fd.zero, [(1, F.texts ++ ts, F.lits ++ ls)])
  | [], ts, F, h, hu, hlf, hlen, hm, he, hok, hx, h20, hs => by
    match ts, hlen with
    | [t], _ =>
      obtain ⟨h10, h13, hmk⟩ := hok t (by simp)
      simp only [bytesP, List.append_nil]
      exact take_last t F h hu h10 (by simp [lens] at hs; omega) hmk
  | x :: ls, ts, F, h, hu, hlf, hlen, hm, he, hok, hx, h20, hs => by
    match ts, hlen with
    | t :: ts, hlen =>
      obtain ⟨h10, h13, hmk⟩ := hok t (by simp)
      obtain ⟨d1, d2, d3, d4⟩ := hd x.length (hx x (by simp))
      have hz : (t ++ markB (dec x.length)).length ≤ t.length + 8 := by simp [markB]; omega
      have hs' : F.size + (t.length + lens ts) + 8 * (ls.length + 1) ≤ 4000 := by simpa [lens] using hs
      have h20' : F.lits.length + (ls.length + 1) ≤ 20 := by simpa using h20
      rw [bytesP, take_app, take_marked t (dec x.length) x F h hu h10 d1 d2 (by omega) d4 (hx x (by simp)) (by omega) (by omega) hlf]
      simp only [List.nil_append]
      rw [take_bytes dec hd ls ts { F with texts := F.texts ++ [t], lits := F.lits ++ [x], size := F.size + (t ++ markB (dec x.length)).length } h hu hlf (by simpa using hlen) hm he (fun t ht => hok t (by simp [ht])) (fun x' hx' => hx x' (by simp [hx'])) (by simp; omega) (by simp only; omega)]
      simp
/-- Of a command's bytes comes that command. -/
theorem take_back (dec : Nat → Bs) (hd : ∀ n, n ≤ 50000 → (∀ c ∈ dec n, c ∈ dgs) ∧ dec n ≠ [] ∧ (dec n).length ≤ 5 ∧ numV (dec n) = n) (ls ts : List Bs) (hlen : ts.length = ls.length + 1) (hok : ∀ t ∈ ts, okT t) (hx : ∀ x ∈ ls, x.length ≤ 50000) (h20 : ls.length ≤ 20) (hs : lens ts + 8 * ls.length ≤ 4000) :
    takeP Fd.zero (bytesP dec ts ls) = (Fd.zero, [(1, ts, ls)]) := by
  rw [take_no Fd.zero rfl _ (bytes_ne dec ts ls hlen), take_bytes dec hd ls ts { Fd.zero with nx := .line } rfl rfl rfl hlen rfl rfl hok hx (by simpa [Fd.zero] using h20) (by simpa [Fd.zero] using hs)]
  simp [Fd.zero]
theorem take_one (t : Bs) (ht : okT t) (hl : t.length ≤ 4000) : takeP Fd.zero (t ++ [13, 10]) = (Fd.zero, [(1, [t], [])]) := by
  rw [take_no Fd.zero rfl _ (by simp), take_last t { Fd.zero with nx := .line } rfl rfl ht.1 (by simpa [Fd.zero] using hl) ht.2.2]
  simp [Fd.zero]
end Go.Proofs.YtikcbgoocljgnaaDoor
