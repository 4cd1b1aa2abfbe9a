/- What this text holds: the addresses of two texts with a comma between; a name that is quoted. Plain facts. -/
import Derived.Test.YtemgpghjolpneaaDoorP2
namespace Go.Proofs.YtemgpghjolpneaaDoor
set_option linter.unusedVariables false
set_option linter.unusedSimpArgs false

def plainC (c : UInt8) : Bool := c != 34 && c != 40 && c != 60
def plainP (s : Bs) : Bool := s.all plainC
theorem plain_cons {c : UInt8} {s : Bs} (h : plainP (c :: s) = true) : c ≠ 34 ∧ c ≠ 40 ∧ c ≠ 60 ∧ plainP s = true := by
  unfold plainP at h ⊢
  rw [List.all_cons, Bool.and_eq_true] at h
  have := h.1
  unfold plainC at this
  simp at this
  exact ⟨this.1.1, this.1.2, this.2, h.2⟩
theorem par_plain {c : UInt8} (h1 : c ≠ 34) (h2 : c ≠ 40) (s : Bs) : parP c s = ([c], s) := by unfold parP; rw [if_neg h1, if_neg h2]
theorem pie_comma : ∀ (a d r : Bs), plainP a = true → (∀ c ∈ a, c ≠ 44) → pieP none d (a ++ 44 :: r) = (none, d ++ a, r)
  | [], d, r, _, _ => by simp [pieP_comma]
  | c :: a, d, r, h, hc => by
    obtain ⟨h1, h2, h3, h4⟩ := plain_cons h
    rw [List.cons_append, pieP_step none d c _ (hc c List.mem_cons_self) h3, par_plain h1 h2, pie_comma a (d ++ [c]) r h4 (fun x hx => hc x (List.mem_cons_of_mem _ hx))]
    simp
theorem pie_end : ∀ (a d : Bs), plainP a = true → (∀ c ∈ a, c ≠ 44) → pieP none d a = (none, d ++ a, [])
  | [], d, _, _ => by simp [pieP_nil]
  | c :: a, d, h, hc => by
    obtain ⟨h1, h2, h3, h4⟩ := plain_cons h
    rw [pieP_step none d c _ (hc c List.mem_cons_self) h3, par_plain h1 h2, pie_end a (d ++ [c]) h4 (fun x hx => hc x (List.mem_cons_of_mem _ hx))]
    simp
theorem ad_nil : adOf none [] = noAd := by decide +kernel
theorem comma_split : ∀ s : Bs, (∀ c ∈ s, c ≠ 44) ∨ ∃ a r, s = a ++ 44 :: r ∧ ∀ c ∈ a, c ≠ 44
  | [] => .inl (by simp)
  | c :: s => by
    by_cases hc : c = 44
    · exact .inr ⟨[], s, by rw [hc]; rfl, by simp⟩
    · rcases comma_split s with h | ⟨a, r, rfl, h⟩
      · exact .inl fun x hx => by rcases List.mem_cons.1 hx with rfl | hx; exact hc; exact h x hx
      · exact .inr ⟨c :: a, r, rfl, fun x hx => by rcases List.mem_cons.1 hx with rfl | hx; exact hc; exact h x hx⟩
theorem ads_comma : ∀ (n : Nat) (s t : Bs), s.length ≤ n → plainP s = true → adsP (s ++ 44 :: t) = adsP s ++ adsP t
  | n, s, t, hn, hp => by
    rcases comma_split s with h | ⟨a, r, rfl, h⟩
    · have h1 := pie_comma s [] t hp h
      have h2 := pie_end s [] hp h
      rw [adsP_step (s ++ 44 :: t) (by simp), h1]
      by_cases h0 : s = []
      · subst h0
        simp only [List.nil_append, ad_nil, if_true, adsP_nil]
      · rw [adsP_step s h0, h2, adsP_nil, List.append_nil]
    · have hpa : plainP a = true := by
        unfold plainP at hp ⊢
        rw [List.all_append, Bool.and_eq_true] at hp
        exact hp.1
      have hpr : plainP r = true := by
        unfold plainP at hp ⊢
        rw [List.all_append, List.all_cons, Bool.and_eq_true, Bool.and_eq_true] at hp
        exact hp.2.2
      cases n with
      | zero => simp at hn
      | succ n =>
        have ih := ads_comma n r t (by simp at hn; omega) hpr
        rw [List.append_assoc, List.cons_append, adsP_step (a ++ 44 :: (r ++ 44 :: t)) (by simp), pie_comma a [] _ hpa h, ih, adsP_step (a ++ 44 :: r) (by simp), pie_comma a [] _ hpa h, List.append_assoc]

/-- Each byte behind a \\. -/
def esc (s : Bs) : Bs := s.flatMap fun c => [92, c]
theorem esc_len (s : Bs) : (esc s).length = 2 * s.length := by
  induction s with
  | nil => rfl
  | cons c s ih => unfold esc at ih ⊢; rw [List.flatMap_cons, List.length_append, ih]; simp; omega
theorem esc_next (s : Bs) (k : Nat) (hk : k < s.length) : esc (s.take (k + 1)) = esc (s.take k) ++ [92, s[k]] := by
  unfold esc
  rw [List.take_succ_eq_append_getElem hk, List.flatMap_append]
  rfl
theorem quo_esc : ∀ (s r : Bs), quoP (esc s ++ 34 :: r) = (s, r)
  | [], r => by show quoP (34 :: r) = _; rw [quoP.eq_def]; simp
  | c :: s, r => by
    show quoP (92 :: c :: (esc s ++ 34 :: r)) = _
    rw [quoP.eq_def]
    simp [quo_esc s r]
def boxS : Bs := [98, 111, 120, 64, 104, 111, 115, 116, 62]
def qtd (s : Bs) : Bs := 34 :: (esc s ++ 34 :: 32 :: 60 :: boxS)
theorem ang_box : angP boxS = ([98, 111, 120, 64, 104, 111, 115, 116], []) := by decide +kernel
theorem trim_box : trimA [98, 111, 120, 64, 104, 111, 115, 116] = [98, 111, 120, 64, 104, 111, 115, 116] := by decide +kernel
theorem last_box : lastAt [98, 111, 120, 64, 104, 111, 115, 116] = some 3 := by decide +kernel
theorem qtd_ads (s : Bs) : adsP (qtd s) = [(trimA (s ++ [32]), [98, 111, 120], [104, 111, 115, 116])] := by
  have hp : pieP none [] (qtd s) = (some (trimA (s ++ [32]), [98, 111, 120, 64, 104, 111, 115, 116]), [], []) := by
    unfold qtd
    rw [pieP_step none [] 34 _ (by decide) (by decide)]
    have e1 : parP 34 (esc s ++ 34 :: 32 :: 60 :: boxS) = (s, 32 :: 60 :: boxS) := by unfold parP; rw [if_pos rfl, quo_esc]
    rw [e1, List.nil_append, pieP_step none s 32 _ (by decide) (by decide), par_plain (by decide) (by decide), pieP_angle, ang_box, trim_box, pieP_nil]
    rfl
  have ha : adOf (some (trimA (s ++ [32]), [98, 111, 120, 64, 104, 111, 115, 116])) [] = (trimA (s ++ [32]), [98, 111, 120], [104, 111, 115, 116]) := by
    show partedP (trimA (s ++ [32])) [98, 111, 120, 64, 104, 111, 115, 116] = _
    unfold partedP
    rw [last_box]
    rfl
  rw [adsP_step (qtd s) (by simp [qtd]), hp, ha, if_neg (by simp [noAd]), adsP_nil]
  rfl
def bl (c : UInt8) : Bool := [9, 10, 13, 32].contains c
theorem dw_pre (p : UInt8 → Bool) : ∀ (x y : Bs), ∃ z, (x ++ y).dropWhile p = x.dropWhile p ++ z
  | [], y => ⟨y.dropWhile p, rfl⟩
  | c :: x, y => by
    rw [List.cons_append, List.dropWhile_cons, List.dropWhile_cons]
    split
    · exact dw_pre p x y
    · exact ⟨y, rfl⟩
theorem trimR_pre (p : UInt8 → Bool) (s : Bs) : ∃ y, s = (s.reverse.dropWhile p).reverse ++ y := by
  refine ⟨(s.reverse.takeWhile p).reverse, ?_⟩
  rw [← List.reverse_append, List.takeWhile_append_dropWhile, List.reverse_reverse]
theorem trim_name (s : Bs) : ∃ z, s.dropWhile bl = trimA (s ++ [32]) ++ z := by
  have e : trimA (s ++ [32]) = (s.reverse.dropWhile bl).reverse.dropWhile bl := by
    unfold trimA Go.Lib.trimS Go.Lib.trimLeftS Go.Lib.trimRightS
    rw [List.reverse_append]
    rfl
  obtain ⟨y, hy⟩ := trimR_pre bl s
  obtain ⟨z, hz⟩ := dw_pre bl (s.reverse.dropWhile bl).reverse y
  rw [← hy] at hz
  exact ⟨z, by rw [e]; exact hz⟩
end Go.Proofs.YtemgpghjolpneaaDoor
