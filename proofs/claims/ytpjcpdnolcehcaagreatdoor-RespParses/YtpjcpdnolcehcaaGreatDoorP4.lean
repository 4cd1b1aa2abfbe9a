/- What this text holds: right lines are read as they were told. -/
import Derived.Test.YtpjcpdnolcehcaaGreatDoorP3
import Derived.Test.YtpjcpdnolcehcaaGreatDoorM28
namespace Go.Proofs.YtpjcpdnolcehcaaGreatDoor
open Go.RowKit
set_option linter.unusedVariables false
set_option linter.unusedSimpArgs false

theorem tw_all2 (p : UInt8 → Bool) : ∀ (x t : Bs), x.all p = true → (∀ c r, t = c :: r → p c = false) → (x ++ t).takeWhile p = x ∧ (x ++ t).dropWhile p = t
  | [], t, _, h => by
    cases t with
    | nil => simp
    | cons c r => have := h c r rfl; simp [this]
  | a :: x, t, ha, h => by
    simp only [List.all_cons, Bool.and_eq_true] at ha
    obtain ⟨h1, h2⟩ := tw_all2 p x t ha.2 h
    simp [ha.1, h1, h2]
/-- What may stand behind a value. -/
def Stop (t : Bs) : Prop := t = [] ∨ ∃ c r, t = c :: r ∧ (c = 32 ∨ c = 41 ∨ c = 93 ∨ c = 13)
theorem Stop.no {t : Bs} (h : Stop t) : ∀ c r, t = c :: r → letB c = false ∧ c ≠ 91 ∧ c ≠ 60 := by
  rintro c r rfl
  rcases h with h | ⟨c', r', e, h⟩
  · cases h
  · cases e
    rcases h with rfl | rfl | rfl | rfl <;> decide
theorem need_not {c : UInt8} {t : Bs} (h : ∀ d r, t = d :: r → d ≠ c) : needP [c] t = none := by
  cases t with
  | nil => rfl
  | cons d r => rw [need1, if_neg (fun e => h d r rfl e.symm)]
theorem need_yes1 (c : UInt8) (t : Bs) : needP [c] (c :: t) = some t := by rw [need1, if_pos rfl]
theorem dg_let {c : UInt8} (h : dgB c = true) : letB c = true := by
  have h1 : 48 ≤ c.toNat ∧ c.toNat ≤ 57 := by simpa [dgB] using h
  have h2 : (32 ≤ c.toNat ∧ c.toNat ≤ 126) := by omega
  have e : ∀ n : Nat, n < 256 → (n < 48 ∨ 57 < n) → c ≠ UInt8.ofNat n := by
    rintro n hn hr rfl
    rw [UInt8.toNat_ofNat'] at h1
    omega
  have a1 := e 32 (by omega) (by omega)
  have a2 := e 40 (by omega) (by omega)
  have a3 := e 41 (by omega) (by omega)
  have a4 := e 123 (by omega) (by omega)
  have a5 := e 125 (by omega) (by omega)
  have a6 := e 34 (by omega) (by omega)
  have a7 := e 91 (by omega) (by omega)
  have a8 := e 93 (by omega) (by omega)
  have a9 := e 60 (by omega) (by omega)
  have a10 := e 62 (by omega) (by omega)
  simp only [UInt8.reduceOfNat] at a1 a2 a3 a4 a5 a6 a7 a8 a9 a10
  simp [letB, plB, notB, h2, a1, a2, a3, a4, a5, a6, a7, a8, a9, a10]
theorem let_not {c : UInt8} (h : letB c = true) : c ≠ 34 ∧ c ≠ 123 ∧ c ≠ 40 ∧ c ≠ 41 ∧ c ≠ 93 ∧ c ≠ 32 ∧ c ≠ 13 ∧ c ≠ 91 := by
  refine ⟨?_, ?_, ?_, ?_, ?_, ?_, ?_, ?_⟩ <;> rintro rfl <;> revert h <;> decide
theorem atom_parts {x : Bs} (h : atomB x = true) : x ≠ [] ∧ x.all letB = true ∧ x.all dgB = false ∧ x ≠ nilT := by
  unfold atomB at h
  simp only [Bool.and_eq_true, Bool.not_eq_true'] at h
  refine ⟨by have := h.1.1.1; simpa using this, h.1.1.2, h.1.2, ?_⟩
  rintro rfl
  have := h.2
  revert this
  decide
/-- How a value begins. -/
def Beg (s : Bs) : Prop := ∃ c r, s = c :: r ∧ (c = 34 ∨ c = 123 ∨ c = 40 ∨ letB c = true)
theorem Beg.app {s : Bs} (h : Beg s) (t : Bs) : Beg (s ++ t) := by
  obtain ⟨c, r, rfl, h⟩ := h
  exact ⟨c, r ++ t, rfl, h⟩
theorem Beg.no {s : Bs} (h : Beg s) {c : UInt8} (hc : c = 41 ∨ c = 93 ∨ c = 13 ∨ c = 32) : needP [c] s = none := by
  obtain ⟨d, r, rfl, h⟩ := h
  rw [need1, if_neg]
  rintro rfl
  rcases hc with rfl | rfl | rfl | rfl <;> rcases h with h | h | h | h <;> revert h <;> decide
theorem beg_all {x : Bs} (h0 : x ≠ []) (h : x.all letB = true) : Beg x := by
  cases x with
  | nil => exact absurd rfl h0
  | cons c x =>
    simp only [List.all_cons, Bool.and_eq_true] at h
    exact ⟨c, x, rfl, .inr (.inr (.inr h.1))⟩
theorem all_let {x : Bs} (h : x.all dgB = true) : x.all letB = true := by
  rw [List.all_eq_true] at h ⊢
  exact fun c hc => dg_let (h c hc)
theorem beg_told {d : Nat} {v : Vl} (h : rightB d v = true) : Beg (told v) := by
  obtain ⟨_, h⟩ := right_kind h
  rcases h with hk | ⟨hk, h1⟩ | ⟨hk, h1⟩ | hk | ⟨hk, h1, h2⟩ | ⟨hk, h1, h2, h3, h4⟩
  · rw [told_0 hk]; exact ⟨78, [73, 76], rfl, .inr (.inr (.inr (by decide)))⟩
  · rw [told_1 hk]; exact beg_all (decP_ne h1) (all_let (decP_all h1))
  · rw [told_2 hk]; exact beg_all (atom_parts h1).1 (atom_parts h1).2.1
  · rw [told_3 hk]
    unfold strP
    split
    · exact ⟨34, _, rfl, .inl rfl⟩
    · exact ⟨123, _, rfl, .inr (.inl rfl)⟩
  · rw [told_4 hk]; exact ⟨40, _, rfl, .inr (.inr (.inl rfl))⟩
  · rw [told_5 hk]
    have := beg_all (atom_parts h1).1 (atom_parts h1).2.1
    simpa [List.append_assoc] using this.app _
theorem body_word {kid : UInt8 → Bs → Option (List Vl × Bs)} {s : Bs} (h : ∀ c r, s = c :: r → letB c = true) : bodyP kid s = wordP kid s := by
  unfold bodyP
  rw [need_not (c := 34) (fun d r e => (let_not (h d r e)).1), need_not (c := 123) (fun d r e => (let_not (h d r e)).2.1), need_not (c := 40) (fun d r e => (let_not (h d r e)).2.2.1)]
theorem head_all {x t : Bs} (h0 : x ≠ []) (h : x.all letB = true) : ∀ c r, x ++ t = c :: r → letB c = true := by
  intro c r e
  cases x with
  | nil => exact absurd rfl h0
  | cons a x =>
    simp only [List.all_cons, Bool.and_eq_true] at h
    cases e
    exact h.1
theorem quoted_back : ∀ (x t : Bs), quotedP (escP x ++ 34 :: t) = some (x, t)
  | [], t => by
    show quotedP (34 :: t) = _
    unfold quotedP
    simp
  | c :: x, t => by
    have ih := quoted_back x t
    by_cases h : (c == 34 || c == 92) = true
    · have e0 : escP (c :: x) = (if c == 34 || c == 92 then [92, c] else [c]) ++ escP x := rfl
      have e : escP (c :: x) ++ 34 :: t = 92 :: c :: (escP x ++ 34 :: t) := by rw [e0, if_pos h]; rfl
      rw [e]
      unfold quotedP
      rw [if_neg (by decide), if_pos rfl]
      simp [ih]
    · have e0 : escP (c :: x) = (if c == 34 || c == 92 then [92, c] else [c]) ++ escP x := rfl
      have e : escP (c :: x) ++ 34 :: t = c :: (escP x ++ 34 :: t) := by rw [e0, if_neg h]; rfl
      rw [e]
      have h' : c ≠ 34 ∧ c ≠ 92 := by simpa using h
      conv => lhs; unfold quotedP
      rw [if_neg h'.1, if_neg h'.2, ih]
      rfl
theorem number_back {n : Int} (h : 0 ≤ n) (h2 : n ≤ 9223372036854775807) (t : Bs) (ht : ∀ c r, t = c :: r → dgB c = false) : numberP (decP n ++ t) = some (n, t) := by
  obtain ⟨e1, e2⟩ := tw_all2 dgB (decP n) t (decP_all h) ht
  unfold numberP
  rw [e1, e2, numP_dec h h2]
  rfl
theorem needP_app (x t : Bs) : needP x (x ++ t) = some t := by
  unfold needP
  rw [if_pos (by rw [List.isPrefixOf_iff_prefix]; exact List.prefix_append _ _)]
  simp
theorem counted_back (x t : Bs) (hx : x.length ≤ 1000000000) : countedP (decP x.length ++ [125, 13, 10] ++ x ++ t) = some (x, t) := by
  unfold countedP
  rw [List.append_assoc, List.append_assoc, number_back (by omega) (by omega) _ (by intro c r e; cases e; decide)]
  simp only
  rw [needP_app]
  simp only
  rw [if_pos (by simp; omega)]
  simp
theorem string_back (kid : UInt8 → Bs → Option (List Vl × Bs)) (x t : Bs) (hx : x.length ≤ 1000000000) : bodyP kid (strP x ++ t) = some (.mk 3 x 0 [] [], t) := by
  unfold strP
  split
  · have e : [34] ++ escP x ++ [34] ++ t = 34 :: (escP x ++ 34 :: t) := by simp
    rw [e]
    unfold bodyP
    rw [need_yes1]
    simp only
    rw [quoted_back]
    rfl
  · have e : [123] ++ decP x.length ++ [125, 13, 10] ++ x ++ t = 123 :: (decP x.length ++ [125, 13, 10] ++ x ++ t) := by simp
    rw [e]
    unfold bodyP
    rw [need1, if_neg (by decide), need_yes1]
    simp only
    rw [counted_back x t hx]
    rfl
theorem from_back (x : Bs) (l : List Vl) (f : List Int) (t : Bs) (hf : frB f = true) (hi : ∀ m ∈ f, I64 m) (ht : Stop t) : sectP x (some (l, fromP f ++ t)) = some (.mk 5 x 0 l f, t) := by
  obtain ⟨h1, h2⟩ := fr_one hf
  rcases f with _ | ⟨n, f⟩
  · show sectP x (some (l, t)) = _
    unfold sectP
    simp only
    rw [need_not (fun d r e => (ht.no d r e).2.2)]
  · have : f = [] := by cases f with
      | nil => rfl
      | cons a f => simp at h1
    subst this
    have e : fromP [n] ++ t = 60 :: (decP n ++ 62 :: t) := by simp [fromP]
    rw [e]
    unfold sectP
    simp only
    rw [need_yes1]
    simp only
    rw [number_back (h2 n (by simp)) (hi n (by simp)).2 _ (by intro c r e; cases e; decide)]
    simp only
    rw [need_yes1]
    rfl
/-- What comes back of values so many lists deep. -/
def VBack (e : Nat) : Prop := ∀ (d : Nat) (v : Vl) (t : Bs), d + e = 30 → rightB d v = true → NumV v → Stop t → valueP e (told v ++ t) = some (v, t)
theorem values_back {e d : Nat} (hV : VBack e) (hd : d + e = 30) : ∀ (ks : List Vl) (f : Nat) (t : Bs), ks ≠ [] → rightsB d ks = true → NumL ks → ks.length ≤ f → Stop t → needP [32] t = none → valuesP (valueP e) f (toldL ks ++ t) = some (ks, t)
  | [], f, t, h, _, _, _, _, _ => absurd rfl h
  | v :: ks, 0, t, _, _, _, hf, _, _ => by simp at hf
  | v :: ks, f + 1, t, _, hr, hn, hf, ht, h32 => by
    simp only [rightsB, Bool.and_eq_true] at hr
    rw [toldL_cons]
    cases ks with
    | nil =>
      rw [show told v ++ toldS [] ++ t = told v ++ t by simp [toldS]]
      unfold valuesP
      rw [hV d v t hd hr.1 hn.1 ht]
      simp only
      rw [h32]
    | cons u ks =>
      have e1 : told v ++ toldS (u :: ks) ++ t = told v ++ (32 :: (toldL (u :: ks) ++ t)) := by rw [toldL_cons]; simp [toldS]
      rw [e1]
      unfold valuesP
      rw [hV d v _ hd hr.1 hn.1 (.inr ⟨32, _, rfl, .inl rfl⟩)]
      simp only
      rw [need_yes1]
      simp only
      rw [values_back hV hd (u :: ks) f t (by simp) hr.2 hn.2 (by simp at hf ⊢; omega) ht h32]
      rfl
theorem beg_list {d : Nat} {ks : List Vl} (h0 : ks ≠ []) (h : rightsB d ks = true) : Beg (toldL ks) := by
  cases ks with
  | nil => exact absurd rfl h0
  | cons v ks =>
    simp only [rightsB, Bool.and_eq_true] at h
    rw [toldL_cons]
    exact (beg_told h.1).app _
theorem kids_back {e d : Nat} (hV : VBack e) (hd : d + 1 + e = 30) (c : UInt8) (hc : c = 41 ∨ c = 93) (ks : List Vl) (t : Bs) (hr : rightsB (d + 1) ks = true) (hn : NumL ks) : kidP (e + 1) c (toldL ks ++ c :: t) = some (ks, t) := by
  rw [kidP_succ]
  unfold kidF
  by_cases h0 : ks = []
  · subst h0
    show (match needP [c] (c :: t) with | some r => some ([], r) | none => _) = _
    rw [need_yes1]
  · have hb := (beg_list h0 hr).app (c :: t)
    rw [hb.no (by rcases hc with h | h <;> simp [h])]
    simp only
    unfold valsP
    rw [values_back hV hd ks _ (c :: t) h0 hr hn (by have := toldL_len ks; simp; omega) (.inr ⟨c, t, rfl, by rcases hc with h | h <;> simp [h]⟩) (by rw [need1, if_neg]; rintro rfl; rcases hc with h | h <;> revert h <;> decide)]
    simp only
    rw [need_yes1]
    rfl
theorem vl_eta {v : Vl} : v = .mk v.k v.x v.n v.kids v.frm := by cases v; rfl
theorem bare_parts {v : Vl} (h : bareB v = true) : (v.k = 5 ∨ v.k = 2 ∨ v.k = 3 ∨ v.x = []) ∧ (v.k = 1 ∨ v.n = 0) ∧ (v.k = 5 ∨ v.k = 4 ∨ v.kids = []) ∧ (v.k = 5 ∨ v.frm = []) := by
  unfold bareB at h
  simp only [Bool.and_eq_true, Bool.or_eq_true, beq_iff_eq, List.isEmpty_iff] at h
  obtain ⟨⟨⟨h1, h2⟩, h3⟩, h4⟩ := h
  exact ⟨by rcases h1 with ((h | h) | h) | h <;> simp [h], h2, by rcases h3 with (h | h) | h <;> simp [h], h4⟩
theorem word_plain {kid : UInt8 → Bs → Option (List Vl × Bs)} {x t : Bs} (h : x.all letB = true) (ht : Stop t) : wordP kid (x ++ t) = if x.all dgB then (numP x).map fun n => (.mk 1 [] n [] [], t) else if x = nilT then some (.mk 0 [] 0 [] [], t) else some (.mk 2 x 0 [] [], t) := by
  obtain ⟨e1, e2⟩ := tw_all2 letB x t h (fun c r e => (ht.no c r e).1)
  unfold wordP
  rw [e1, e2, need_not (fun d r e => (ht.no d r e).2.1)]
theorem value_core (e d : Nat) (v : Vl) (t : Bs) (hK : d < 30 → ∀ (c : UInt8) (t : Bs), (c = 41 ∨ c = 93) → rightsB (d + 1) v.kids = true → NumL v.kids → kidP e c (toldL v.kids ++ c :: t) = some (v.kids, t))
    (hr : rightB d v = true) (hn : NumV v) (ht : Stop t) : valueP e (told v ++ t) = some (v, t) := by
  obtain ⟨hb, h⟩ := right_kind hr
  obtain ⟨b1, b2, b3, b4⟩ := bare_parts hb
  obtain ⟨nk, nn, nx, nf⟩ := num_kids hn
  rw [valueP_is]
  have hv := @vl_eta v
  rcases h with hk | ⟨hk, h1⟩ | ⟨hk, h1⟩ | hk | ⟨hk, h1, h2⟩ | ⟨hk, h1, h2, h3, h4⟩
  · rw [hk] at b1 b2 b3 b4
    have c1 : v.x = [] := by simpa using b1
    have c2 : v.n = 0 := by simpa using b2
    have c3 : v.kids = [] := by simpa using b3
    have c4 : v.frm = [] := by simpa using b4
    rw [told_0 hk, body_word (head_all (by decide) (by decide)), word_plain (by decide) ht, if_neg (by decide), if_pos rfl]
    rw [hv, hk, c1, c2, c3, c4]
  · rw [hk] at b1 b3 b4
    have c1 : v.x = [] := by simpa using b1
    have c3 : v.kids = [] := by simpa using b3
    have c4 : v.frm = [] := by simpa using b4
    have hl := all_let (decP_all h1)
    rw [told_1 hk, body_word (head_all (decP_ne h1) hl), word_plain hl ht, if_pos (decP_all h1), numP_dec h1 nn.2]
    rw [hv, hk, c1, c3, c4]
    rfl
  · rw [hk] at b2 b3 b4
    have c2 : v.n = 0 := by simpa using b2
    have c3 : v.kids = [] := by simpa using b3
    have c4 : v.frm = [] := by simpa using b4
    obtain ⟨a1, a2, a3, a4⟩ := atom_parts h1
    rw [told_2 hk, body_word (head_all a1 a2), word_plain a2 ht, if_neg (by rw [a3]; simp), if_neg a4]
    rw [hv, hk, c2, c3, c4]
    rfl
  · rw [hk] at b2 b3 b4
    have c2 : v.n = 0 := by simpa using b2
    have c3 : v.kids = [] := by simpa using b3
    have c4 : v.frm = [] := by simpa using b4
    rw [told_3 hk, string_back _ _ _ nx]
    rw [hv, hk, c2, c3, c4]
    rfl
  · rw [hk] at b1 b2 b4
    have c1 : v.x = [] := by simpa using b1
    have c2 : v.n = 0 := by simpa using b2
    have c4 : v.frm = [] := by simpa using b4
    have e1 : told v ++ t = 40 :: (toldL v.kids ++ 41 :: t) := by rw [told_4 hk]; simp
    rw [e1]
    unfold bodyP
    rw [need1, if_neg (by decide), need1, if_neg (by decide), need_yes1]
    simp only
    rw [hK h1 41 t (.inl rfl) h2 nk]
    simp only [Option.map_some]
    rw [hv, hk, c1, c2, c4]
    rfl
  · rw [hk] at b2
    have c2 : v.n = 0 := by simpa using b2
    obtain ⟨a1, a2, a3, a4⟩ := atom_parts h1
    have e1 : told v ++ t = v.x ++ (91 :: (toldL v.kids ++ 93 :: (fromP v.frm ++ t))) := by rw [told_5 hk]; simp
    rw [e1, body_word (head_all a1 a2)]
    obtain ⟨e2, e3⟩ := tw_all2 letB v.x (91 :: (toldL v.kids ++ 93 :: (fromP v.frm ++ t))) a2 (by intro c r e; cases e; decide)
    unfold wordP
    rw [e2, e3, need_yes1]
    simp only
    rw [hK h3 93 _ (.inr rfl) h4 nk, from_back _ _ _ _ h2 nf ht]
    conv => rhs; rw [hv, hk, c2]
theorem value_back : ∀ e, VBack e := by
  intro e
  induction e with
  | zero =>
    intro d v t hd hr hn ht
    exact value_core 0 d v t (fun h => by omega) hr hn ht
  | succ e ih =>
    intro d v t hd hr hn ht
    exact value_core (e + 1) d v t (fun h c t hc hr hn => kids_back ih (by omega) c hc _ t hr hn) hr hn ht
theorem vals_back (ks : List Vl) (t : Bs) (h0 : ks ≠ []) (hr : rightsB 0 ks = true) (hn : NumL ks) (ht : Stop t) (h32 : needP [32] t = none) : valsP 30 (toldL ks ++ t) = some (ks, t) :=
  values_back (value_back 30) (d := 0) (by omega) ks _ t h0 hr hn (by have := toldL_len ks; simp; omega) ht h32
end Go.Proofs.YtpjcpdnolcehcaaGreatDoor
