/- What this text holds: plain facts of a set's text: how it is read from its beginning on, how it is read in pieces, and that both are the same. -/
import Derived.Test.YtiiegjdclpkeeaaDoorP1
import Derived.Lib.ItoaNum
import Derived.Lib.AtoiAll
namespace Go.Proofs.YtiiegjdclpkeeaaDoor
set_option linter.unusedVariables false
set_option linter.unusedSimpArgs false

abbrev Bs := List UInt8
def dgB (c : UInt8) : Bool := decide (48 ≤ c.toNat) && decide (c.toNat ≤ 57)
def valF (n : Nat) (l : Bs) : Nat := l.foldl (fun n c => 10 * n + (c.toNat - 48)) n
def valN (l : Bs) : Nat := valF 0 l
def mi : Int := 9223372036854775807
def numC (l : Bs) : Int := min (valN l : Int) mi
/-- A number of a span, and what is left. -/
def endP (l : Bs) : Option (Int × Bs) :=
  if l.head? = some 42 then some (0, l.drop 1)
  else if l.takeWhile dgB = [] ∨ (l.takeWhile dgB).head? = some 48 then none
  else some (numC (l.takeWhile dgB), l.dropWhile dgB)
def spanP (l : Bs) : Option (Sp × Bs) :=
  match endP l with
  | none => none
  | some (a, r) => if r.head? = some 58 then (match endP (r.drop 1) with | none => none | some (b, r2) => some ((a, b), r2)) else some ((a, a), r)
def setP : Nat → Bs → Option (List Sp)
  | 0, _ => none
  | k + 1, l => match spanP l with
    | none => none
    | some (s, r) => if r.head? = some 44 then (setP k (r.drop 1)).map (s :: ·) else if r = [] then some [s] else none
def farB (s : Sp) : Bool := decide (mx < s.1) || decide (mx < s.2)
/-- What Parse answers. -/
def parV (s : Bs) : List Sp × Int :=
  match setP (s.length + 1) s with
  | none => ([], 11)
  | some S => if S.any farB then ([], 3) else if 1000 < S.length then ([], 5) else (S, 0)
/-- The document's number. -/
def numR (t : Bs) : Int :=
  if t = [42] then 0 else if t = [] ∨ t.head? = some 48 then -1
  else if t.all dgB then (if mx < (valN t : Int) then -2 else (valN t : Int)) else -1
/-- The document's pieces. -/
def splB (c : UInt8) : Bs → List Bs
  | [] => [[]]
  | x :: l => if x = c then [] :: splB c l else match splB c l with | [] => [[x]] | p :: ps => (x :: p) :: ps
def docSp (p : Bs) : Option Sp :=
  if 2 < (splB 58 p).length then none
  else if numR ((splB 58 p).headD []) = -1 ∨ numR ((splB 58 p).getLastD []) = -1 then none
  else some (numR ((splB 58 p).headD []), numR ((splB 58 p).getLastD []))
def docL : List Bs → Option (List Sp)
  | [] => some []
  | p :: ps => match docSp p with | none => none | some s => (docL ps).map (s :: ·)
def gr2 (s : Sp) : Bool := decide (s.1 = -2) || decide (s.2 = -2)
def parR (s : Bs) : List Sp × Int :=
  match docL (splB 44 s) with
  | none => ([], 11)
  | some L => if L.any gr2 then ([], 3) else if 1000 < L.length then ([], 5) else (L, 0)

theorem splB_ne (c : UInt8) (l : Bs) : splB c l ≠ [] := by
  cases l with
  | nil => simp [splB]
  | cons x l => unfold splB; split
                · simp
                · split <;> simp
theorem splB_cut (c : UInt8) : ∀ (l : Bs), splB c l = l.takeWhile (· != c) :: (match l.dropWhile (· != c) with | [] => [] | _ :: r => splB c r)
  | [] => by simp [splB]
  | x :: l => by
    by_cases h : x = c
    · subst h; simp [splB]
    · rw [splB, if_neg h, splB_cut c l]
      have hx : (x != c) = true := by simpa using h
      simp [List.takeWhile_cons, List.dropWhile_cons, hx]
theorem dropWhile_head {α} (p : α → Bool) : ∀ (l : List α), (l.dropWhile p = []) ∨ ∃ x r, l.dropWhile p = x :: r ∧ p x = false
  | [] => .inl rfl
  | a :: l => by
    by_cases h : p a = true
    · rw [List.dropWhile_cons_of_pos h]; exact dropWhile_head p l
    · rw [List.dropWhile_cons_of_neg h]; exact .inr ⟨a, l, rfl, by simpa using h⟩
theorem takeWhile_all {α} (p : α → Bool) : ∀ (l : List α), ∀ x ∈ l.takeWhile p, p x = true
  | [], x, h => by simp at h
  | a :: l, x, h => by
    by_cases ha : p a = true
    · rw [List.takeWhile_cons_of_pos ha] at h
      rcases List.mem_cons.1 h with rfl | h
      · exact ha
      · exact takeWhile_all p l x h
    · rw [List.takeWhile_cons_of_neg ha] at h; simp at h
theorem takeWhile_app_of {α} (p : α → Bool) (l r : List α) (hr : ∀ x, r.head? = some x → p x = false) : (l ++ r).takeWhile p = l.takeWhile p ∧ (l ++ r).dropWhile p = l.dropWhile p ++ r := by
  induction l with
  | nil =>
    cases r with
    | nil => simp
    | cons x r => have := hr x rfl; simp [List.takeWhile_cons, List.dropWhile_cons, this]
  | cons a l ih =>
    by_cases ha : p a = true
    · simp [List.takeWhile_cons, List.dropWhile_cons, ha, ih]
    · simp [List.takeWhile_cons, List.dropWhile_cons, ha]
theorem endP_nil : endP [] = none := by simp [endP]
theorem endP_app (p r : Bs) (hr : ∀ x, r.head? = some x → x ≠ 42 ∧ dgB x = false) : endP (p ++ r) = (endP p).map fun x => (x.1, x.2 ++ r) := by
  cases p with
  | nil =>
    rw [endP_nil, List.nil_append]
    have ht : r.takeWhile dgB = [] := by
      cases r with
      | nil => rfl
      | cons x r => rw [List.takeWhile_cons_of_neg (by simp [(hr x rfl).2])]
    unfold endP
    rw [if_neg (fun e => (hr _ e).1 rfl), if_pos (.inl ht)]
    rfl
  | cons a p =>
    unfold endP
    obtain ⟨h1, h2⟩ := takeWhile_app_of dgB (a :: p) r (fun x hx => (hr x hx).2)
    rw [h1, h2]
    simp only [List.cons_append, List.head?_cons, List.drop_succ_cons, List.drop_zero]
    split
    · rfl
    · split <;> rfl
theorem valF_ge : ∀ (l : Bs) (n : Nat), n ≤ valF n l
  | [], n => Nat.le_refl _
  | c :: l, n => by
    have := valF_ge l (10 * n + (c.toNat - 48))
    show n ≤ valF (10 * n + (c.toNat - 48)) l
    omega
theorem numC_pos (l : Bs) : 0 ≤ numC l := by unfold numC mi; omega
theorem numC_far (l : Bs) : mx < numC l ↔ mx < (valN l : Int) := by unfold numC mi mx; omega
theorem endP_pos {l r : Bs} {v : Int} (h : endP l = some (v, r)) : 0 ≤ v := by
  unfold endP at h
  split at h
  · simp at h; omega
  · split at h
    · simp at h
    · simp at h; rw [← h.1]; exact numC_pos _
theorem endP_suf {l r : Bs} {v : Int} (h : endP l = some (v, r)) : ∃ d, l = d ++ r ∧ d ≠ [] := by
  unfold endP at h
  split at h
  · rename_i h0
    cases l with
    | nil => simp at h0
    | cons a l => simp at h; exact ⟨[a], by simp [h.2], by simp⟩
  · split at h
    · simp at h
    · rename_i h1
      simp at h
      exact ⟨l.takeWhile dgB, by rw [← h.2, List.takeWhile_append_dropWhile], fun e => h1 (.inl e)⟩
def cl (v : Int) : Int := if mx < v then -2 else v
def clS (s : Sp) : Sp := (cl s.1, cl s.2)
theorem cl_ne {v : Int} (h : 0 ≤ v) : cl v ≠ -1 := by unfold cl; split <;> omega
theorem numR_yes {t : Bs} {v : Int} (h : endP t = some (v, [])) : numR t = cl v := by
  unfold endP at h
  split at h
  · rename_i h0
    simp at h
    cases t with
    | nil => simp at h0
    | cons a t =>
      simp at h0 h
      obtain ⟨rfl, rfl⟩ := h
      subst h0
      simp [numR, cl, mx]
  · rename_i h0
    split at h
    · simp at h
    · rename_i h1
      simp only [Option.some.injEq, Prod.mk.injEq] at h
      have ht : t.takeWhile dgB = t := by
        have := List.takeWhile_append_dropWhile (p := dgB) (l := t)
        rw [h.2, List.append_nil] at this; exact this
      rw [ht] at h1 h
      have ha : t.all dgB = true := by
        rw [List.all_eq_true]
        intro x hx
        rw [← ht] at hx
        exact takeWhile_all dgB t x hx
      unfold numR
      rw [if_neg (by rintro rfl; simp at h0), if_neg h1, if_pos ha, ← h.1]
      unfold cl
      simp only [numC_far]
      split
      · rfl
      · unfold numC; have : ¬ mx < (valN t : Int) := by assumption
        unfold mx at this; unfold mi; omega
theorem numR_no {t : Bs} (h : ∀ v, endP t ≠ some (v, [])) : numR t = -1 := by
  unfold numR
  by_cases h0 : t = [42]
  · exact absurd (by subst h0; rfl) (h 0)
  · rw [if_neg h0]
    by_cases h1 : t = [] ∨ t.head? = some 48
    · rw [if_pos h1]
    · rw [if_neg h1]
      by_cases ha : t.all dgB = true
      · exfalso
        have ht : t.takeWhile dgB = t ∧ t.dropWhile dgB = [] := by
          rw [List.all_eq_true] at ha
          clear h h0 h1
          induction t with
          | nil => simp
          | cons a t ih =>
            have := ih (fun x hx => ha x (List.mem_cons_of_mem _ hx))
            have ha' := ha a (by simp)
            simp [List.takeWhile_cons, List.dropWhile_cons, ha', this]
        refine h (numC t) ?_
        unfold endP
        rw [ht.1, ht.2, if_neg ?_, if_neg h1]
        intro e
        cases t with
        | nil => simp at e
        | cons a t =>
          simp at e
          subst e
          simp [dgB] at ha
      · rw [if_neg ha]
theorem tw_no {c : UInt8} {l : Bs} {x : UInt8} (h : x ∈ l.takeWhile (· != c)) : x ≠ c := by
  have := takeWhile_all _ _ _ h
  simpa using this
theorem head_mem {l : Bs} {x : UInt8} (h : l.head? = some x) : x ∈ l := by
  cases l with
  | nil => simp at h
  | cons a l => simp at h; simp [h]
theorem dw_head {c : UInt8} {l : Bs} {x : UInt8} (h : (l.dropWhile (· != c)).head? = some x) : x = c := by
  rcases dropWhile_head (· != c) l with e | ⟨y, r, e, hy⟩
  · rw [e] at h; simp at h
  · rw [e] at h; simp at h hy; rw [← h, hy]
/-- A whole piece: read to its end. -/
def whole (o : Option (Sp × Bs)) : Option Sp := match o with | some (s, []) => some (clS s) | _ => none
theorem whole_app {s : Sp} {q : Bs} (h : q ≠ []) : whole (some (s, q)) = none := by
  cases q with
  | nil => exact absurd rfl h
  | cons a q => rfl
theorem doc_span (p : Bs) : docSp p = whole (spanP p) := by
  have hs := splB_cut 58 p
  have hp : p.takeWhile (· != 58) ++ p.dropWhile (· != 58) = p := List.takeWhile_append_dropWhile
  have hd := @dw_head 58 p
  have hn : ∀ x ∈ p.takeWhile (· != 58), x ≠ 58 := fun x hx => tw_no hx
  generalize p.takeWhile (· != 58) = p1 at *
  generalize p.dropWhile (· != 58) = rest at *
  have he := endP_app p1 rest (fun x hx => by rw [hd hx]; exact ⟨by decide, by decide⟩)
  rw [hp] at he
  unfold spanP
  rw [he]
  rcases h1 : endP p1 with _ | ⟨a, q⟩
  · have hr := numR_no (t := p1) (by simp [h1])
    simp only [Option.map_none, whole]
    unfold docSp
    rw [hs, List.headD_cons, hr]
    simp
  · simp only [Option.map_some]
    by_cases hq : q = []
    · subst hq
      have hr := numR_yes h1
      have ha := cl_ne (endP_pos h1)
      rw [List.nil_append]
      cases rest with
      | nil =>
        simp only [List.head?_nil, reduceCtorEq, if_false, whole]
        unfold docSp
        rw [hs]
        simp [hr, ha, clS]
      | cons c r =>
        have := hd (x := c) rfl
        subst this
        simp only [List.head?_cons, if_true, List.drop_succ_cons, List.drop_zero]
        simp only at hs
        have hs2 := splB_cut 58 r
        have hp2 : r.takeWhile (· != 58) ++ r.dropWhile (· != 58) = r := List.takeWhile_append_dropWhile
        have hd2 := @dw_head 58 r
        generalize r.takeWhile (· != 58) = p2 at *
        generalize r.dropWhile (· != 58) = rest2 at *
        have he2 := endP_app p2 rest2 (fun x hx => by rw [hd2 hx]; exact ⟨by decide, by decide⟩)
        rw [hp2] at he2
        cases rest2 with
        | nil =>
          rw [List.append_nil] at hp2
          subst hp2
          unfold docSp
          rw [hs, hs2]
          rcases h2 : endP p2 with _ | ⟨b, q2⟩
          · have hr2 := numR_no (t := p2) (by simp [h2])
            simp [hr, hr2, whole]
          · by_cases hq2 : q2 = []
            · subst hq2
              have hr2 := numR_yes h2
              have hb := cl_ne (endP_pos h2)
              simp [hr, hr2, whole, ha, hb, clS]
            · have hr2 := numR_no (t := p2) (by intro v e; rw [h2] at e; simp at e; exact hq2 e.2)
              rw [whole_app hq2]
              simp [hr, hr2]
        | cons c2 r3 =>
          have hl : 2 < (splB 58 p).length := by
            rw [hs, hs2]
            have := splB_ne 58 r3
            have := List.length_pos_iff.2 this
            simp; omega
          unfold docSp
          rw [if_pos hl, he2]
          rcases h2 : endP p2 with _ | ⟨b, q2⟩
          · rfl
          · simp only [Option.map_some]
            rw [whole_app (by simp)]
    · have hr := numR_no (t := p1) (by intro v e; rw [h1] at e; simp at e; exact hq e.2)
      obtain ⟨d, hd1, _⟩ := endP_suf h1
      have hh : (q ++ rest).head? ≠ some 58 := by
        cases q with
        | nil => exact absurd rfl hq
        | cons x q =>
          simp only [List.cons_append, List.head?_cons, ne_eq, Option.some.injEq]
          exact hn x (by rw [hd1]; simp)
      rw [if_neg hh, whole_app (by simp [hq])]
      unfold docSp
      rw [hs, List.headD_cons, hr]
      simp
theorem span_app (p r : Bs) (hr : ∀ x, r.head? = some x → x = 44) : spanP (p ++ r) = (spanP p).map fun x => (x.1, x.2 ++ r) := by
  have hr' : ∀ x, r.head? = some x → x ≠ 42 ∧ dgB x = false := fun x hx => by rw [hr x hx]; exact ⟨by decide, by decide⟩
  unfold spanP
  rw [endP_app p r hr']
  rcases h1 : endP p with _ | ⟨a, q⟩
  · rfl
  · simp only [Option.map_some]
    cases q with
    | nil =>
      rw [List.nil_append, if_neg (fun e => by have := hr _ e; simp at this)]
      rfl
    | cons x q =>
      simp only [List.cons_append, List.head?_cons, List.drop_succ_cons, List.drop_zero]
      by_cases hx : x = 58
      · subst hx
        simp only [if_true]
        rw [endP_app q r hr']
        rcases h2 : endP q with _ | ⟨b, q2⟩ <;> rfl
      · rw [if_neg (by simpa using hx), if_neg (by simpa using hx)]
        rfl
theorem span_suf {l r : Bs} {s : Sp} (h : spanP l = some (s, r)) : ∃ d, l = d ++ r ∧ d ≠ [] := by
  unfold spanP at h
  rcases h1 : endP l with _ | ⟨a, q⟩
  · rw [h1] at h; simp at h
  · rw [h1] at h
    obtain ⟨d, hd, hn⟩ := endP_suf h1
    simp only at h
    split at h
    · rcases h2 : endP (q.drop 1) with _ | ⟨b, q2⟩
      · rw [h2] at h; simp at h
      · rw [h2] at h
        simp at h
        obtain ⟨d2, hd2, _⟩ := endP_suf h2
        refine ⟨d ++ q.take 1 ++ d2, ?_, by simp [hn]⟩
        rw [← h.2, List.append_assoc, List.append_assoc, ← hd2, List.take_append_drop, hd]
    · simp at h
      exact ⟨d, by rw [← h.2]; exact hd, hn⟩
theorem span_pos {l r : Bs} {s : Sp} (h : spanP l = some (s, r)) : 0 ≤ s.1 ∧ 0 ≤ s.2 := by
  unfold spanP at h
  rcases h1 : endP l with _ | ⟨a, q⟩
  · rw [h1] at h; simp at h
  · rw [h1] at h
    have ha := endP_pos h1
    simp only at h
    split at h
    · rcases h2 : endP (q.drop 1) with _ | ⟨b, q2⟩
      · rw [h2] at h; simp at h
      · rw [h2] at h
        simp at h
        have hb := endP_pos h2
        rw [← h.1]; exact ⟨ha, hb⟩
    · simp at h
      rw [← h.1]; exact ⟨ha, ha⟩
theorem doc_set : ∀ (k : Nat) (s : Bs), s.length < k → docL (splB 44 s) = (setP k s).map fun l => l.map clS
  | 0, s, h => by omega
  | k + 1, s, h => by
    have hs := splB_cut 44 s
    have hp : s.takeWhile (· != 44) ++ s.dropWhile (· != 44) = s := List.takeWhile_append_dropWhile
    have hd := @dw_head 44 s
    have hn : ∀ x ∈ s.takeWhile (· != 44), x ≠ 44 := fun x hx => tw_no hx
    generalize s.takeWhile (· != 44) = p at *
    generalize s.dropWhile (· != 44) = rest at *
    have he := span_app p rest (fun x hx => hd hx)
    rw [hp] at he
    rw [hs, docL, doc_span p, setP, he]
    rcases h1 : spanP p with _ | ⟨a, q⟩
    · rfl
    · simp only [Option.map_some]
      by_cases hq : q = []
      · subst hq
        simp only [whole, List.nil_append]
        cases rest with
        | nil => simp [docL]
        | cons c r =>
          have := hd (x := c) rfl
          subst this
          have hlen : r.length < k := by
            have := congrArg List.length hp
            simp at this; omega
          simp only [List.head?_cons, if_true, List.drop_succ_cons, List.drop_zero]
          rw [doc_set k r hlen]
          rcases setP k r with _ | S <;> simp
      · obtain ⟨d, hd1, _⟩ := span_suf h1
        rw [whole_app hq]
        have hh : (q ++ rest).head? ≠ some 44 := by
          cases q with
          | nil => exact absurd rfl hq
          | cons x q =>
            simp only [List.cons_append, List.head?_cons, ne_eq, Option.some.injEq]
            exact hn x (by rw [hd1]; simp)
        rw [if_neg hh, if_neg (by simp [hq])]
        rfl
theorem set_pos : ∀ (k : Nat) (s : Bs) (S : List Sp), setP k s = some S → ∀ x ∈ S, 0 ≤ x.1 ∧ 0 ≤ x.2
  | 0, s, S, h => by simp [setP] at h
  | k + 1, s, S, h => by
    rw [setP] at h
    rcases h1 : spanP s with _ | ⟨a, q⟩
    · rw [h1] at h; simp at h
    · rw [h1] at h
      simp only at h
      have ha := span_pos h1
      split at h
      · rcases h2 : setP k (q.drop 1) with _ | T
        · rw [h2] at h; simp at h
        · rw [h2] at h; simp at h
          subst h
          intro x hx
          rcases List.mem_cons.1 hx with rfl | hx
          · exact ha
          · exact set_pos k _ T h2 x hx
      · split at h
        · simp at h; subst h
          intro x hx
          simp at hx; subst hx; exact ha
        · simp at h
theorem far_gr {s : Sp} (h : 0 ≤ s.1 ∧ 0 ≤ s.2) : gr2 (clS s) = farB s := by
  unfold gr2 farB clS cl
  by_cases h1 : mx < s.1 <;> by_cases h2 : mx < s.2 <;> simp [h1, h2] <;> omega
theorem cl_id {s : Sp} (h : farB s = false) : clS s = s := by
  unfold farB at h
  simp at h
  unfold clS cl
  rw [if_neg (by omega), if_neg (by omega)]
/-- Both ways read the same. -/
theorem par_is (s : Bs) : parR s = parV s := by
  unfold parR parV
  rw [doc_set (s.length + 1) s (by omega)]
  rcases h : setP (s.length + 1) s with _ | S
  · rfl
  · simp only [Option.map_some]
    have hp := set_pos _ _ _ h
    have e : (S.map clS).any gr2 = S.any farB := by
      rw [List.any_map]
      clear h
      induction S with
      | nil => rfl
      | cons a S ih =>
        simp only [List.any_cons, Function.comp_apply]
        rw [far_gr (hp a (by simp)), ih (fun x hx => hp x (List.mem_cons_of_mem _ hx))]
    rw [e]
    by_cases hf : S.any farB = true
    · simp [hf]
    · simp only [hf, if_false, List.length_map]
      have : S.map clS = S := by
        rw [List.any_eq_true] at hf
        refine (List.map_congr_left (g := id) fun a ha => ?_).trans (List.map_id _)
        exact cl_id (by cases h3 : farB a with | false => rfl | true => exact absurd ⟨a, ha, h3⟩ hf)
      rw [this]
end Go.Proofs.YtiiegjdclpkeeaaDoor
