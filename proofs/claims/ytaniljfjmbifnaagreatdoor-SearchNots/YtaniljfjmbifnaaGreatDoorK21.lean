/- What this text holds: keys as plain trees, what they answer, how much they are, how they lie in memory. -/
import Derived.Test.YtaniljfjmbifnaaGreatDoorKX6
import Derived.Test.YtaniljfjmbifnaaGreatDoorSX
namespace Go.Proofs.YtaniljfjmbifnaaGreatDoor.H
open Go.RowKit
set_option linter.unusedVariables false
set_option linter.unusedSimpArgs false

/-- A key. -/
inductive Kv where
  | mk (op t f : Bs) (n : Int) (set : List S.Sp) (kids : List Kv)
def notN : Bs := [78, 79, 84]
def orN : Bs := [79, 82]
def andN : Bs := [65, 78, 68]
section
variable (q : Bs → Bs → Bs → Int → List S.Sp → Bool)
mutual
/-- What a key answers, where q is what keys answer that have no kids. -/
def matchB : Kv → Bool
  | .mk op t f n set kids => if op = notN then nots kids else if op = orN then someB true kids else if op = andN then !someB false kids else q op t f n set
def nots : List Kv → Bool
  | [] => false
  | k :: l => !matchB k
def someB (z : Bool) : List Kv → Bool
  | [] => false
  | k :: l => (matchB k == z) || someB z l
end
end
theorem matchB_eq (q : Bs → Bs → Bs → Int → List S.Sp → Bool) (op t f : Bs) (n : Int) (set : List S.Sp) (kids : List Kv) :
    matchB q (.mk op t f n set kids) = if op = notN then nots q kids else if op = orN then someB q true kids else if op = andN then !someB q false kids else q op t f n set := by
  rw [matchB]
theorem someB_nil (q : Bs → Bs → Bs → Int → List S.Sp → Bool) (z : Bool) : someB q z [] = false := by rw [someB]
theorem someB_cons (q : Bs → Bs → Bs → Int → List S.Sp → Bool) (z : Bool) (k : Kv) (l : List Kv) : someB q z (k :: l) = ((matchB q k == z) || someB q z l) := by rw [someB]
theorem nots_nil (q : Bs → Bs → Bs → Int → List S.Sp → Bool) : nots q [] = false := by rw [nots]
theorem nots_cons (q : Bs → Bs → Bs → Int → List S.Sp → Bool) (k : Kv) (l : List Kv) : nots q (k :: l) = !matchB q k := by rw [nots]
theorem nots_take (q : Bs → Bs → Bs → Int → List S.Sp → Bool) (l : List Kv) : nots q l = someB q false (l.take 1) := by
  cases l with
  | nil => rw [nots_nil, List.take_nil, someB_nil]
  | cons k l => rw [nots_cons, List.take_succ_cons, List.take_zero, someB_cons, someB_nil]; cases matchB q k <;> rfl
theorem someB_any (q : Bs → Bs → Bs → Int → List S.Sp → Bool) (z : Bool) (l : List Kv) : someB q z l = l.any fun k => matchB q k == z := by
  induction l with
  | nil => rw [someB_nil]; rfl
  | cons k l ih => rw [someB_cons, ih]; rfl
/-- Texts, sets and kids of a key, and of those in it, are not too many; and how deep they lie. -/
def Fit : Nat → Kv → Prop
  | 0, .mk op t f n set kids => t.length ≤ 1000 ∧ f.length ≤ 1000 ∧ set.length ≤ 1000 ∧ kids = []
  | h + 1, .mk op t f n set kids => t.length ≤ 1000 ∧ f.length ≤ 1000 ∧ set.length ≤ 1000 ∧ kids.length ≤ 1000 ∧ ∀ k ∈ kids, Fit h k
theorem Fit.all {h : Nat} {op t f : Bs} {n : Int} {set : List S.Sp} {kids : List Kv} (hf : Fit h (.mk op t f n set kids)) : t.length ≤ 1000 ∧ f.length ≤ 1000 ∧ set.length ≤ 1000 ∧ kids.length ≤ 1000 := by
  cases h with
  | zero => obtain ⟨h1, h2, h3, rfl⟩ := hf; exact ⟨h1, h2, h3, by simp⟩
  | succ h => obtain ⟨h1, h2, h3, h4, _⟩ := hf; exact ⟨h1, h2, h3, h4⟩
theorem Fit.kid {h : Nat} {op t f : Bs} {n : Int} {set : List S.Sp} {kids : List Kv} (hf : Fit h (.mk op t f n set kids)) : ∀ k ∈ kids, ∃ h', h = h' + 1 ∧ Fit h' k := by
  intro k hk
  cases h with
  | zero => obtain ⟨_, _, _, rfl⟩ := hf; cases hk
  | succ h => exact ⟨h, rfl, hf.2.2.2.2 k hk⟩
theorem Fit.more : ∀ (h : Nat) (v : Kv), Fit h v → Fit (h + 1) v
  | 0, .mk op t f n set kids, hf => by obtain ⟨h1, h2, h3, rfl⟩ := hf; exact ⟨h1, h2, h3, by simp, fun k hk => by cases hk⟩
  | h + 1, .mk op t f n set kids, hf => ⟨hf.1, hf.2.1, hf.2.2.1, hf.2.2.2.1, fun k hk => Fit.more h k (hf.2.2.2.2 k hk)⟩
theorem Fit.le {h : Nat} {v : Kv} (hf : Fit h v) : ∀ (m : Nat), h ≤ m → Fit m v := by
  intro m hm
  obtain ⟨d, rfl⟩ := Nat.exists_eq_add_of_le hm
  clear hm
  induction d with
  | zero => exact hf
  | succ d ih => exact Fit.more _ _ ih
mutual
/-- How much a key is. -/
def wtV : Kv → Nat → Nat
  | .mk op t f n set kids, d => if 20 < d ∨ 200 < kids.length ∨ 200 < set.length then 100000 else min (wtL kids (d + 1) (1 + set.length + min t.length 100000 + min f.length 100000)) 100000
def wtL : List Kv → Nat → Nat → Nat
  | [], d, n => n
  | k :: l, d, n => wtL l d (if n < 100000 then n + wtV k d else n)
end
theorem wtV_eq (op t f : Bs) (n : Int) (set : List S.Sp) (kids : List Kv) (d : Nat) : wtV (.mk op t f n set kids) d = if 20 < d ∨ 200 < kids.length ∨ 200 < set.length then 100000 else min (wtL kids (d + 1) (1 + set.length + min t.length 100000 + min f.length 100000)) 100000 := by rw [wtV]
theorem wtL_nil (d n : Nat) : wtL [] d n = n := by rw [wtL]
theorem wtL_cons (k : Kv) (l : List Kv) (d n : Nat) : wtL (k :: l) d n = wtL l d (if n < 100000 then n + wtV k d else n) := by rw [wtL]
theorem wtL_app (l m : List Kv) (d n : Nat) : wtL (l ++ m) d n = wtL m d (wtL l d n) := by
  induction l generalizing n with
  | nil => rw [wtL_nil]; rfl
  | cons k l ih => rw [List.cons_append, wtL_cons, ih, wtL_cons]
theorem wtL_next (l : List Kv) (d n j : Nat) (hj : j < l.length) : wtL (l.take (j + 1)) d n = if wtL (l.take j) d n < 100000 then wtL (l.take j) d n + wtV l[j] d else wtL (l.take j) d n := by
  rw [List.take_succ_eq_append_getElem hj, wtL_app, wtL_cons, wtL_nil]
theorem wtV_le (v : Kv) (d : Nat) : wtV v d ≤ 100000 := by
  obtain ⟨op, t, f, n, set, kids⟩ := v
  rw [wtV_eq]; split <;> omega
theorem wtL_le (l : List Kv) (d n : Nat) (hn : n ≤ 300000) : wtL l d n ≤ 300000 := by
  induction l generalizing n with
  | nil => rw [wtL_nil]; exact hn
  | cons k l ih =>
    rw [wtL_cons]
    have := wtV_le k d
    exact ih _ (by split <;> omega)
theorem wtL_ge (l : List Kv) (d n : Nat) : n ≤ wtL l d n := by
  induction l generalizing n with
  | nil => rw [wtL_nil]; exact Nat.le_refl _
  | cons k l ih => rw [wtL_cons]; exact Nat.le_trans (by split <;> omega) (ih _)
theorem wtL_mem (l : List Kv) (d n : Nat) (h : wtL l d n ≤ 600) : ∀ k ∈ l, wtV k d ≤ 600 := by
  induction l generalizing n with
  | nil => intro k hk; cases hk
  | cons k l ih =>
    rw [wtL_cons] at h
    have h1 := Nat.le_trans (wtL_ge l d (if n < 100000 then n + wtV k d else n)) h
    intro u hu
    rcases List.mem_cons.1 hu with rfl | hu
    · split at h1 <;> omega
    · exact ih _ h u hu
theorem wt_fit : ∀ (h : Nat) (v : Kv) (d : Nat), d + h = 20 → wtV v d ≤ 600 → Fit h v
  | h, .mk op t f n set kids, d, hd, hw => by
    rw [wtV_eq] at hw
    split at hw
    · omega
    · rename_i hc
      have hc : d ≤ 20 ∧ kids.length ≤ 200 ∧ set.length ≤ 200 := by omega
      have h1 := wtL_ge kids (d + 1) (1 + set.length + min t.length 100000 + min f.length 100000)
      have h2 := wtL_mem kids (d + 1) (1 + set.length + min t.length 100000 + min f.length 100000) (by omega)
      cases h with
      | zero =>
        refine ⟨by omega, by omega, by omega, ?_⟩
        cases kids with
        | nil => rfl
        | cons k l =>
          have h3 := h2 k (List.mem_cons_self ..)
          obtain ⟨op', t', f', n', set', kids'⟩ := k
          rw [wtV_eq, if_pos (by omega)] at h3
          omega
      | succ h => exact ⟨by omega, by omega, by omega, by omega, fun k hk => wt_fit h k (d + 1) (by omega) (h2 k hk)⟩
/-- Keys, as they lie in a slice. -/
def eK : S.En Ky := { enc := Ky.c, k := 6, T := 28, t := 26, by_ := 104, z := .agg #[.string ⟨#[]⟩, .string ⟨#[]⟩, .string ⟨#[]⟩, .int .i64 0, .slice none 0 0, .slice none 0 0], len := fun _ => rfl, one := fun x v hv => by simp [Ky.c, sv] at hv; rcases hv with rfl | rfl | rfl | rfl | rfl | rfl <;> rfl, ut := Tryz.underlying26, inf := by kernel_rfl, hz := rfl, hk := by omega, hby := by omega }
/-- A key lies in memory. -/
inductive KOk (W : World) : Ky → Kv → Prop
  | mk (r : Ky) (set : List S.Sp) (rows : List (Ky × Kv)) (hs : S.GL S.eSp W (sv r.set) set) (hk : S.GL eK W (sv r.kids) (rows.map (·.1))) (hr : ∀ p ∈ rows, KOk W p.1 p.2) : KOk W r (.mk r.op r.text r.field r.n set (rows.map (·.2)))
theorem KOk.later {W W' : World} {r : Ky} {v : Kv} (h : KOk W r v) (hb : Below W.heap.size W W') : KOk W' r v := by
  induction h with
  | mk r set rows hs hk hr ih => exact .mk r set rows (hs.later hb) (hk.later hb) ih
end Go.Proofs.YtaniljfjmbifnaaGreatDoor.H
