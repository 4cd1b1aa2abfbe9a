/- What this text holds: how much values and lines are, and how long they are told. -/
import Derived.Test.YtpjcpdnolcehcaaGreatDoorOpen
import Derived.Test.YtpjcpdnolcehcaaGreatDoorP5
namespace Go.Proofs.YtpjcpdnolcehcaaGreatDoor
open Go.RowKit
set_option linter.unusedVariables false
set_option linter.unusedSimpArgs false

def wtM (n : Nat) (v : Vl) : Nat := n + min v.x.length 100000 + min v.frm.length 100000
def wtS (f : List Vl → Nat) (n : Nat) (v : Vl) : Nat := if wtM n v < 100000 then wtM n v + f v.kids else wtM n v
def wtL : Nat → List Vl → Nat
  | 0, _ => 100000
  | e + 1, ks => if 1000 < ks.length then 100000 else min (ks.foldl (wtS (wtL e)) ks.length) 100000
theorem wtL_le : ∀ e ks, wtL e ks ≤ 100000
  | 0, _ => Nat.le_refl _
  | e + 1, ks => by
    simp only [wtL]
    split
    · exact Nat.le_refl _
    · exact Nat.min_le_right _ _
theorem wtM_le (n : Nat) (v : Vl) : n ≤ wtM n v ∧ wtM n v ≤ n + 200000 := by unfold wtM; omega
theorem wtS_le {f : List Vl → Nat} (hf : ∀ ks, f ks ≤ 100000) (n : Nat) (v : Vl) : n ≤ wtS f n v ∧ wtS f n v ≤ n + 300000 := by
  have h1 := wtM_le n v
  have h2 := hf v.kids
  unfold wtS
  split <;> omega
theorem fold_le {f : List Vl → Nat} (hf : ∀ ks, f ks ≤ 100000) : ∀ (l : List Vl) (n : Nat), n ≤ l.foldl (wtS f) n ∧ l.foldl (wtS f) n ≤ n + 300000 * l.length
  | [], n => by simp
  | v :: l, n => by
    have h1 := wtS_le hf n v
    have h2 := fold_le hf l (wtS f n v)
    simp only [List.foldl_cons, List.length_cons]
    omega
mutual
/-- How much a value is: one, its letters, its numbers, and its kids. -/
def masV : Vl → Nat
  | .mk k x n kids frm => 1 + x.length + frm.length + masL kids
def masL : List Vl → Nat
  | [] => 0
  | v :: l => masV v + masL l
end
theorem masV_eq (v : Vl) : masV v = 1 + v.x.length + v.frm.length + masL v.kids := by cases v; rfl
theorem fold_mas {f : List Vl → Nat} (h0 : ∀ ks, f ks ≤ 100000) (hf : ∀ ks, f ks < 100000 → f ks = masL ks) : ∀ (l : List Vl) (n : Nat), l.foldl (wtS f) n < 100000 → l.foldl (wtS f) n + l.length = n + masL l
  | [], n, _ => by simp [masL]
  | v :: l, n, h => by
    simp only [List.foldl_cons] at h ⊢
    have h1 := (fold_le h0 l (wtS f n v)).1
    have ih := fold_mas h0 hf l (wtS f n v) h
    have hv := masV_eq v
    have hm := hf v.kids
    have h2 : wtS f n v < 100000 := by omega
    have h3 : wtS f n v + 1 = n + masV v := by
      revert h2
      unfold wtS wtM
      split
      · intro h2
        have := hm (by omega)
        omega
      · intro h2
        omega
    simp only [masL, List.length_cons]
    omega
theorem wt_mas : ∀ e ks, wtL e ks < 100000 → wtL e ks = masL ks
  | 0, ks, h => by simp [wtL] at h
  | e + 1, ks, h => by
    simp only [wtL] at h ⊢
    split at h
    · omega
    · rename_i hk
      rw [if_neg hk]
      have h1 : ks.foldl (wtS (wtL e)) ks.length < 100000 := by omega
      have := fold_mas (wtL_le e) (wt_mas e) ks ks.length h1
      omega
mutual
theorem sz_masV : ∀ v : Vl, szV v ≤ masV v
  | .mk k x n kids frm => by
    have := sz_masL kids
    simp only [szV, masV]
    omega
theorem sz_masL : ∀ l : List Vl, szL l ≤ masL l
  | [] => by simp [szL, masL]
  | v :: l => by
    have := sz_masV v
    have := sz_masL l
    simp only [szL, masL]
    omega
end
mutual
theorem ht_masV : ∀ v : Vl, htV v ≤ masV v
  | .mk k x n kids frm => by
    have := ht_masL kids
    simp only [htV, masV]
    omega
theorem ht_masL : ∀ l : List Vl, htL l ≤ masL l
  | [] => by simp [htL, masL]
  | v :: l => by
    have := ht_masV v
    have := ht_masL l
    simp only [htL, masL]
    omega
end
theorem len_mas (l : List Vl) : l.length ≤ masL l := Nat.le_trans (sz_len l) (sz_masL l)
mutual
theorem num_masV : ∀ v : Vl, FitV v → masV v ≤ 1000000 → NumV v
  | .mk k x n kids frm, h, hm => by
    obtain ⟨h1, h2, h3, h4, h5, h6⟩ := h
    simp only [masV] at hm
    have := len_mas kids
    exact ⟨h1, by omega, h3, num_masL kids h4 (by omega), by omega, by omega⟩
theorem num_masL : ∀ l : List Vl, FitL l → masL l ≤ 1000000 → NumL l
  | [], _, _ => trivial
  | v :: l, h, hm => by
    simp only [masL] at hm
    exact ⟨num_masV v h.1 (by omega), num_masL l h.2 (by omega)⟩
end
theorem decP_len2 {n : Int} (h : I64 n) : (decP n).length ≤ 20 := by
  by_cases h0 : 0 ≤ n
  · exact decP_len h0 h.2
  · unfold decP Go.Lib.itoa
    rw [if_pos (by omega)]
    have := dec_len 18 n.natAbs (by have := h.1; omega)
    simp only [List.length_cons]
    omega
theorem esc_len : ∀ s : Bs, s.length ≤ (escP s).length ∧ (escP s).length ≤ 2 * s.length
  | [] => by simp [escP]
  | c :: s => by
    have ih := esc_len s
    have e : escP (c :: s) = (if c == 34 || c == 92 then [92, c] else [c]) ++ escP s := rfl
    rw [e, List.length_append, List.length_cons]
    split <;> simp <;> omega
theorem strP_len (s : Bs) (h : s.length ≤ 1000000000) : s.length ≤ (strP s).length ∧ (strP s).length ≤ 2 * s.length + 24 ∧ (strP s).length ≤ s.length + 230 := by
  have he := esc_len s
  unfold strP
  split
  · rename_i hq
    have h100 : s.length ≤ 100 := by
      unfold quoB at hq
      simp only [Bool.and_eq_true, decide_eq_true_eq] at hq
      exact hq.1
    simp only [List.length_append, List.length_cons, List.length_nil]
    omega
  · have := decP_len (n := (s.length : Int)) (by omega) (by omega)
    simp only [List.length_append, List.length_cons, List.length_nil]
    omega
theorem fromP_len : ∀ l : List Int, (∀ n ∈ l, I64 n) → (fromP l).length ≤ 22 * l.length
  | [], _ => by simp [fromP]
  | n :: l, h => by
    have h1 := decP_len2 (h n (by simp))
    have h2 := fromP_len l (fun m hm => h m (by simp [hm]))
    have e : fromP (n :: l) = ([60] ++ decP n ++ [62]) ++ fromP l := rfl
    rw [e]
    simp only [List.length_append, List.length_cons, List.length_nil]
    omega
theorem toldL_le (l : List Vl) : (toldL l).length ≤ (toldS l).length := by simp [toldL]
mutual
theorem told_mas : ∀ v : Vl, NumV v → (told v).length + 1 ≤ 60 * masV v
  | .mk k x n kids frm, h => by
    obtain ⟨h1, h2, h3, h4, h5, h6⟩ := h
    have i1 := toldS_mas kids h4
    have i2 := decP_len2 h1
    have i3 := (strP_len x h2).2.1
    have i4 := fromP_len frm h3
    have i5 := toldL_le kids
    unfold toldL at i5
    simp only [told, masV]
    split
    · show nilT.length + 1 ≤ _
      have : nilT.length = 3 := rfl
      omega
    · split
      · omega
      · split
        · omega
        · split
          · omega
          · split
            · simp only [List.length_append, List.length_cons, List.length_nil]; omega
            · split
              · simp only [List.length_append, List.length_cons, List.length_nil]; omega
              · simp only [List.length_nil]; omega
theorem toldS_mas : ∀ l : List Vl, NumL l → (toldS l).length ≤ 60 * masL l
  | [], _ => by simp [toldS, masL]
  | v :: l, h => by
    have i1 := told_mas v h.1
    have i2 := toldS_mas l h.2
    simp only [toldS, masL, List.length_append, List.length_cons, List.length_nil]
    omega
end
/-- How much a line is. -/
def masN (n : Ln) : Nat := n.tag.length + n.x.length + n.st.length + masL n.vals + masL n.code
theorem lineT_mas (n : Ln) (h : NumN n) : (lineT n).length ≤ 60 * masN n + 10 := by
  obtain ⟨h1, h2, _⟩ := h
  have i1 := toldS_mas n.vals h1
  have i2 := toldS_mas n.code h2
  have i3 := toldL_le n.vals
  have i4 := toldL_le n.code
  have i5 : (codeP n.code).length ≤ (toldL n.code).length + 3 := by
    unfold codeP
    split
    · simp
    · simp only [List.length_append, List.length_cons, List.length_nil]; omega
  unfold lineT masN
  split
  · simp only [List.length_append, List.length_cons, List.length_nil]; omega
  · split
    · simp only [List.length_append, List.length_cons, List.length_nil]; omega
    · simp only [List.length_append, List.length_cons, List.length_nil]; omega
def fwS (n : Nat) (l : Ln) : Nat := n + min l.tag.length 10000 + min l.x.length 10000 + min l.st.length 10000 + wtL 41 l.vals + wtL 41 l.code
def fewB (ls : List Ln) : Bool := decide (ls.length ≤ 40) && decide ((ls.take 41).foldl fwS 0 ≤ 5000)
theorem fwS_le (n : Nat) (l : Ln) : n ≤ fwS n l ∧ fwS n l ≤ n + 230000 := by
  have h1 := wtL_le 41 l.vals
  have h2 := wtL_le 41 l.code
  unfold fwS
  omega
theorem fw_le : ∀ (l : List Ln) (n : Nat), n ≤ l.foldl fwS n ∧ l.foldl fwS n ≤ n + 230000 * l.length
  | [], n => by simp
  | v :: l, n => by
    have h1 := fwS_le n v
    have h2 := fw_le l (fwS n v)
    simp only [List.foldl_cons, List.length_cons]
    omega
def masA : List Ln → Nat
  | [] => 0
  | l :: ls => masN l + masA ls
theorem fw_mas : ∀ (l : List Ln) (n : Nat), l.foldl fwS n ≤ 5000 → n + masA l ≤ 5000
  | [], n, h => by simpa [masA] using h
  | v :: l, n, h => by
    simp only [List.foldl_cons] at h
    have h1 := (fw_le l (fwS n v)).1
    have ih := fw_mas l (fwS n v) h
    have h3 : n + masN v ≤ fwS n v := by
      have h5 : fwS n v ≤ 5000 := by omega
      have w1 := wt_mas 41 v.vals
      have w2 := wt_mas 41 v.code
      revert h5
      unfold fwS masN
      intro h5
      have w1 := w1 (by omega)
      have w2 := w2 (by omega)
      omega
    simp only [masA]
    omega
theorem masA_mem : ∀ {ls : List Ln} {l : Ln}, l ∈ ls → masN l ≤ masA ls
  | m :: ls, l, h => by
    simp only [masA]
    rcases List.mem_cons.1 h with rfl | h
    · omega
    · have := masA_mem h
      omega
theorem masA_app : ∀ a b : List Ln, masA (a ++ b) = masA a + masA b
  | [], b => by simp [masA]
  | l :: a, b => by simp [masA, masA_app a b]; omega
theorem num_masN {l : Ln} (hf : FitN l) (hm : masN l ≤ 1000000) : NumN l := by
  obtain ⟨h1, h2, h3, h4, h5, h6, h7⟩ := hf
  unfold masN at hm
  have := len_mas l.vals
  have := len_mas l.code
  exact ⟨num_masL _ h1 (by omega), num_masL _ h2 (by omega), by omega, by omega, by omega, by omega, by omega⟩
theorem told_masA : ∀ ls : List Ln, (∀ l ∈ ls, NumN l) → (ls.flatMap lineT).length ≤ 60 * masA ls + 10 * ls.length
  | [], _ => by simp
  | l :: ls, h => by
    have h1 := lineT_mas l (h l (by simp))
    have h2 := told_masA ls (fun m hm => h m (by simp [hm]))
    simp only [List.flatMap_cons, List.length_append, masA, List.length_cons]
    omega
/-- What few lines are. -/
theorem few_use {ls : List Ln} (h : fewB ls = true) (hf : ∀ l ∈ ls, FitN l) : ls.length ≤ 40 ∧ masA ls ≤ 5000 ∧ (∀ l ∈ ls, NumN l) ∧ (ls.flatMap lineT).length ≤ 300400 := by
  unfold fewB at h
  simp only [Bool.and_eq_true, decide_eq_true_eq] at h
  obtain ⟨h1, h2⟩ := h
  rw [List.take_of_length_le (by omega)] at h2
  have h3 := fw_mas ls 0 h2
  have h4 : ∀ l ∈ ls, NumN l := fun l hl => num_masN (hf l hl) (by have := masA_mem hl; omega)
  have h5 := told_masA ls h4
  exact ⟨h1, by omega, h4, by omega⟩
end Go.Proofs.YtpjcpdnolcehcaaGreatDoor
