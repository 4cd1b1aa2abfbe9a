/- What this text holds: plain facts of a feed: the way out; lines that are too long; digits. -/
import Derived.Test.YtikcbgoocljgnaaDoorP1
namespace Go.Proofs.YtikcbgoocljgnaaDoor
set_option linter.unusedVariables false
set_option linter.unusedSimpArgs false

theorem dig_mem (d : Nat) (h : d < 10) : UInt8.ofNat (48 + d) ∈ dgs ∧ Go.Lib.digitVal (UInt8.ofNat (48 + d)) = some d := by
  match d, h with
  | 0, _ => decide
  | 1, _ => decide
  | 2, _ => decide
  | 3, _ => decide
  | 4, _ => decide
  | 5, _ => decide
  | 6, _ => decide
  | 7, _ => decide
  | 8, _ => decide
  | 9, _ => decide
  | n + 10, h => omega
theorem dec_app : ∀ (l m : Bs) (a : Nat), Go.Lib.decFrom a (l ++ m) = (Go.Lib.decFrom a l).bind fun n => Go.Lib.decFrom n m
  | [], m, a => rfl
  | c :: l, m, a => by
    rw [List.cons_append, Go.Lib.decFrom, Go.Lib.decFrom]
    cases Go.Lib.digitVal c with
    | none => rfl
    | some d => exact dec_app l m _
theorem digs (n : Nat) : (∀ c ∈ Go.Lib.decDigits n, c ∈ dgs) ∧ Go.Lib.decDigits n ≠ [] ∧ Go.Lib.decFrom 0 (Go.Lib.decDigits n) = some n ∧ ∀ k, n < 10 ^ (k + 1) → (Go.Lib.decDigits n).length ≤ k + 1 := by
  induction n using Nat.strongRecOn with
  | _ n ih =>
    rw [Go.Lib.decDigits]
    by_cases h : n < 10
    · rw [dif_pos h]
      obtain ⟨h1, h2⟩ := dig_mem n h
      refine ⟨by simpa using h1, by simp, ?_, fun k _ => by simp⟩
      rw [Go.Lib.decFrom, h2]
      simp [Go.Lib.decFrom]
    · rw [dif_neg h]
      obtain ⟨i1, i2, i3, i4⟩ := ih (n / 10) (by omega)
      obtain ⟨h1, h2⟩ := dig_mem (n % 10) (by omega)
      refine ⟨fun c hc => ?_, by simp, ?_, fun k hk => ?_⟩
      · rcases List.mem_append.1 hc with e | e
        · exact i1 c e
        · rw [List.mem_singleton] at e; rw [e]; exact h1
      · rw [dec_app, i3, Option.bind_some, Go.Lib.decFrom, h2]
        simp only [Go.Lib.decFrom]
        congr 1
        omega
      · cases k with
        | zero => omega
        | succ k =>
          have := i4 k (by rw [Nat.pow_succ] at hk ⊢; omega)
          simp
          omega
theorem digs_ok (n : Nat) (h : n ≤ 50000) : (∀ c ∈ Go.Lib.decDigits n, c ∈ dgs) ∧ Go.Lib.decDigits n ≠ [] ∧ (Go.Lib.decDigits n).length ≤ 5 ∧ numV (Go.Lib.decDigits n) = n := by
  obtain ⟨h1, h2, h3, h4⟩ := digs n
  exact ⟨h1, h2, h4 4 (by omega), by unfold numV; rw [h3]; rfl⟩

/-- n times one byte. -/
def many (n : Nat) (c : UInt8) : Bs := List.replicate n c
theorem many_len (n : Nat) (c : UInt8) : (many n c).length = n := by simp [many]
theorem many_succ (n : Nat) (c : UInt8) : many (n + 1) c = c :: many n c := rfl
theorem many_add (m n : Nat) (c : UInt8) : many (m + n) c = many m c ++ many n c := by simp [many, List.replicate_append_replicate]
theorem many_no (n : Nat) {c d : UInt8} (h : d ≠ c) : d ∉ many n c := fun e => h (List.eq_of_mem_replicate e)
theorem many_last (n : Nat) (c : UInt8) (l : Bs) : (l ++ many (n + 1) c).getLast? = some c := by
  rw [many, List.replicate_succ', ← List.append_assoc]
  simp
theorem many_last' (n : Nat) {c d : UInt8} (h : d ≠ c) : (many n c).getLast? ≠ some d := fun e => many_no n h (List.mem_of_getLast? e)
theorem take_pline : ∀ (s : Bs) (F : Fd), F.nx = .pline → 10 ∉ s → takeP F s = (F, [])
  | [], F, _, _ => rfl
  | c :: s, F, h, h10 => by
    have hst : stepP F c = ⟨F, 0, [], []⟩ := by
      simp only [stepP, h]
      unfold pastLineF
      rw [if_neg (fun e => h10 (by simp [e]))]
    rw [takeP, hst, take_pline s F h (fun e => h10 (by simp [e]))]
    rfl
theorem pline_end (F : Fd) (h : F.nx = .pline) : takeP F [10] = (Fd.zero, []) := by
  simp [takeP, stepP, h, pastLineF, evOf]
/-- A line of x: too long, or still a line. -/
theorem take_xs : ∀ (k : Nat) (F : Fd), F.nx = .line → (takeP F (many k 120)).1.nx = .pline ∨ (takeP F (many k 120)).1 = { F with under := F.under ++ many k 120 }
  | 0, F, h => by right; simp [many, takeP]
  | k + 1, F, h => by
    rw [many_succ, takeP]
    by_cases hs : 4000 < F.size + (sufT (F.under ++ [120]) 13).length
    · have hst : (stepP F 120).f = { Fd.zero with nx := .pline } := by
        simp only [stepP, h]
        unfold ofLineP
        rw [if_neg (by decide), if_pos hs]
      left
      rw [hst, take_pline _ _ rfl (many_no k (by decide))]
    · have hst : (stepP F 120).f = addF F 120 := by
        simp only [stepP, h]
        unfold ofLineP
        rw [if_neg (by decide), if_neg hs]
      rw [hst]
      rcases take_xs k (addF F 120) h with e | e
      · exact .inl e
      · right
        simp only
        rw [e]
        simp [addF]
theorem xs_end (k : Nat) (F : Fd) (h : F.nx = .line) (hk : 1 ≤ k ∨ F.under = []) : (takeP (takeP F (many k 120)).1 [10]).1 = Fd.zero := by
  rcases take_xs k F h with e | e
  · rw [pline_end _ e]
  · have hst : stepP (takeP F (many k 120)).1 10 = endLineP (takeP F (many k 120)).1 := by
      rw [e]
      simp only [stepP, h]
      unfold ofLineP
      rw [if_pos rfl]
    have hl : (F.under ++ many k 120).getLast? ≠ some 125 ∧ (F.under ++ many k 120).getLast? ≠ some 13 := by
      cases k with
      | zero =>
        rcases hk with hk | hk
        · omega
        · rw [hk]; simp [many]
      | succ k => rw [many_last]; decide
    have : (endLineP (takeP F (many k 120)).1).f = Fd.zero := by
      rw [e]
      unfold endLineP
      simp only [sufT_no hl.2, mark_no hl.1]
    simp only [takeP, hst, this]
/-- A literal that is let go. -/
def Way (F : Fd) (m : Nat) : Prop := F.nx = .pline ∨ (F.nx = .plit ∧ m ≤ F.many ∧ (F.ending = true → m = 0))
theorem way_step (F : Fd) (m : Nat) (h : Way F m) : Way (stepP F 120).f (m + 1) := by
  rcases h with h | ⟨h, h1, h2⟩
  · left
    simp only [stepP, h]
    unfold pastLineF
    rw [if_neg (by decide)]
    exact h
  · simp only [stepP, h]
    have hf : (foundP F.many F.ending 120).1 = false ∧ m + 1 ≤ (foundP F.many F.ending 120).2.1 ∧ (foundP F.many F.ending 120).2.2 = false := by
      unfold foundP
      rw [if_neg (by decide), if_neg (fun e => absurd e.1 (by decide))]
      cases he : F.ending with
      | false => simp; omega
      | true => have := h2 he; simp; omega
    obtain ⟨f1, f2, f3⟩ := hf
    unfold pastLitF
    rw [f1, if_neg (by simp)]
    by_cases hl : F.left - 1 = 0
    · rw [if_pos hl]; exact .inl rfl
    · rw [if_neg hl]
      exact .inr ⟨h, f2, fun e => by simp only [f3] at e; cases e⟩
theorem way_many : ∀ (k : Nat) (F : Fd) (m : Nat), Way F m → Way (takeP F (many k 120)).1 (m + k)
  | 0, F, m, h => h
  | k + 1, F, m, h => by
    rw [many_succ, takeP, show m + (k + 1) = (m + 1) + k by omega]
    exact way_many k _ (m + 1) (way_step F m h)
theorem way_end (F : Fd) (m : Nat) (hm : 50000 ≤ m) (h : Way F m) : (takeP F [10]).1 = Fd.zero := by
  rcases h with h | ⟨h, h1, h2⟩
  · rw [pline_end F h]
  · simp only [takeP, stepP, h]
    unfold pastLitF foundP
    rw [if_pos rfl]
    simp only [decide_eq_true_eq]
    rw [if_pos (by omega)]
/-- Behind MaxLiteral bytes x and a line end a feed is without bytes. -/
theorem out_zero (F : Fd) (hn : F.nx ≠ .no) (hl : F.nx = .lit → 1 ≤ F.left ∧ F.left ≤ 50000) : (takeP (takeP F (many 50000 120)).1 [10]).1 = Fd.zero := by
  cases h : F.nx with
  | no => exact absurd h hn
  | line => exact xs_end 50000 F h (.inl (by omega))
  | lit =>
    obtain ⟨h1, h2⟩ := hl h
    have e : many 50000 120 = many F.left 120 ++ many (50000 - F.left) 120 := by rw [← many_add]; congr 1; omega
    rw [e, take_app, take_lit (many F.left 120) F h (by rw [many_len]) (by intro e; have := congrArg List.length e; rw [many_len] at this; simp at this; omega)]
    exact xs_end _ _ rfl (.inr rfl)
  | pline => exact way_end _ (0 + 50000) (by omega) (way_many 50000 F 0 (.inl h))
  | plit => exact way_end _ (0 + 50000) (by omega) (way_many 50000 F 0 (.inr ⟨h, by omega, fun _ => rfl⟩))
/-- A feed to which nothing is to be done is one without bytes. -/
def Idl (F : Fd) : Prop := F.nx = .no → F = Fd.zero
theorem idl_of {F : Fd} (h : F.nx ≠ .no) : Idl F := fun e => absurd e h
theorem idl_step (F : Fd) (c : UInt8) (h : Idl F) : Idl (stepP F c).f := by
  have hline : ∀ G : Fd, G.nx = .line → Idl (ofLineP G c).f := by
    intro G hG
    unfold ofLineP
    split
    · unfold endLineP
      split
      · exact fun _ => rfl
      · split
        · unfold refuseF
          simp only
          split
          · refine idl_of ?_
            show (if _ then Nx.pline else Nx.plit) ≠ Nx.no
            split <;> simp
          · exact fun _ => rfl
        · refine idl_of ?_
          simp only
          unfold awaitF
          split <;> simp [endLitF]
    · split
      · exact idl_of (by simp)
      · exact idl_of (by simp [addF, hG])
  unfold stepP
  split
  · exact hline _ rfl
  · rename_i hx; exact hline F hx
  · rename_i hx
    refine idl_of ?_
    simp only
    unfold ofLiteralF
    split
    · simp [endLitF]
    · simp [litF1, hx]
  · rename_i hx
    simp only
    unfold pastLineF
    split
    · exact fun _ => rfl
    · exact idl_of (by simp [hx])
  · rename_i hx
    simp only
    unfold pastLitF
    split
    · exact fun _ => rfl
    · split
      · exact idl_of (by simp)
      · exact idl_of (by simp [hx])
theorem idl_take : ∀ (s : Bs) (F : Fd), Idl F → Idl (takeP F s).1
  | [], F, h => h
  | c :: s, F, h => idl_take s _ (idl_step F c h)
/-- A line that is too long by so many bytes. -/
theorem take_long (n : Nat) : takeP Fd.zero (many (4000 + (n + 1)) 97 ++ [13, 10]) = (Fd.zero, [(3, [many 4000 97], [])]) := by
  rw [many_add, take_no Fd.zero rfl _ (by simp), List.append_assoc, take_app, take_line (many 4000 97) { Fd.zero with nx := .line } rfl (many_no _ (by decide)) (by simp [Fd.zero, many_len]), many_succ n 97, List.cons_append]
  have hst : stepP { { Fd.zero with nx := .line } with under := [] ++ many 4000 97 } 97 = ⟨{ Fd.zero with nx := .pline }, 3, [many 4000 97], []⟩ := by
    simp only [stepP]
    unfold ofLineP
    rw [if_neg (by decide), if_pos (by rw [sufT_other _ (by decide)]; simp [Fd.zero, many_len])]
    simp only [List.nil_append]
    rw [List.take_left' (many_len _ _)]
    simp [Fd.zero]
  have e1 : takeP { Fd.zero with nx := .pline } (many n 97 ++ [13, 10]) = (Fd.zero, []) := by
    have h10 : (10 : UInt8) ∉ many n 97 ++ [13] := by
      intro e
      rcases List.mem_append.1 e with e | e
      · exact many_no n (by decide) e
      · simp at e
    have e2 := take_pline (many n 97 ++ [13]) { Fd.zero with nx := .pline } rfl h10
    rw [show many n 97 ++ [13, 10] = (many n 97 ++ [13]) ++ [10] by simp, take_app, e2, pline_end _ rfl]
    rfl
  have hz : (Fd.zero.under ++ many 4000 97) = [] ++ many 4000 97 := rfl
  rw [takeP]
  simp only [hz]
  rw [hst]
  simp only [e1]
  rfl
theorem take_a (n : Nat) (h : n ≤ 4000) : takeP Fd.zero (many n 97 ++ [13, 10]) = (Fd.zero, [(1, [many n 97], [])]) :=
  take_one _ ⟨many_no n (by decide), many_last' n (by decide), mark_no (many_last' n (by decide))⟩ (by rw [many_len]; exact h)
end Go.Proofs.YtikcbgoocljgnaaDoor
