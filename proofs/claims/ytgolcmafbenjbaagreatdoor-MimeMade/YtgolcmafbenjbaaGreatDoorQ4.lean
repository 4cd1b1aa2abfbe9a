/- What this text holds: a message within a message, as deep as one likes (plain facts for the law of nested messages). -/
import Derived.Test.YtgolcmafbenjbaaGreatDoorQ2
namespace Go.Proofs.YtgolcmafbenjbaaGreatDoor
set_option linter.unusedVariables false
set_option linter.unusedSimpArgs false

/-- The header of a message within which another one lies; that of the one within. -/
def hMsg : Bs := [67, 111, 110, 116, 101, 110, 116, 45, 84, 121, 112, 101, 58, 32, 109, 101, 115, 115, 97, 103, 101, 47, 114, 102, 99, 56, 50, 50, 13, 10, 13, 10]
def hSub : Bs := [83, 117, 98, 106, 101, 99, 116, 58, 32, 105, 110, 13, 10, 13, 10]
def nest (s : Bs) : Nat → Bs
  | 0 => hSub ++ s
  | k + 1 => hMsg ++ nest s k
theorem nest_len (s : Bs) : ∀ k, (nest s k).length = 32 * k + 15 + s.length
  | 0 => by simp [nest, hSub]; omega
  | k + 1 => by rw [nest, List.length_append, nest_len s k]; simp [hMsg]; omega
theorem hdr_two (x : Bs) : hdr ([13, 10] ++ x) = 2 := by
  rw [hdr_step _ (by simp), show ln ([13, 10] ++ x) = 2 from rfl]
  exact if_pos rfl
theorem hdr_msg (x : Bs) : hdr (hMsg ++ x) = 32 := by
  rw [hdr_step _ (by simp [hMsg]), show ln (hMsg ++ x) = 30 from rfl, show emp ((hMsg ++ x).take 30) = false from rfl, show (hMsg ++ x).drop 30 = [13, 10] ++ x from rfl, hdr_two]
  rfl
theorem hdr_sub (x : Bs) : hdr (hSub ++ x) = 15 := by
  rw [hdr_step _ (by simp [hSub]), show ln (hSub ++ x) = 13 from rfl, show emp ((hSub ++ x).take 13) = false from rfl, show (hSub ++ x).drop 13 = [13, 10] ++ x from rfl, hdr_two]
  rfl
theorem of_msg (x : Bs) : fieldsOf (hMsg ++ x) = fieldsP hMsg := by
  unfold fieldsOf
  rw [hdr_msg]
  rfl
theorem of_sub (x : Bs) : fieldsOf (hSub ++ x) = fieldsP hSub := by
  unfold fieldsOf
  rw [hdr_sub]
  rfl
theorem kind_msg (dg : Bool) : kindOfM (fieldsP hMsg) dg = (wMess, wRfc, []) := by cases dg <;> decide +kernel
theorem kind_sub : kindOfM (fieldsP hSub) false = (wText, wPlain, []) := by decide +kernel
theorem inn_at (m : Bs) (a b k : Nat) : inn m (a + k) b = (inn m a b).drop k := by
  unfold inn
  rw [List.drop_take, List.drop_drop, show b - (a + k) = b - a - k by omega]
theorem inn_to (m : Bs) (a b k : Nat) (h : a + k ≤ b) : inn m a (a + k) = (inn m a b).take k := by
  unfold inn
  rw [List.take_take, show a + k - a = k by omega, Nat.min_eq_left (by omega)]
theorem inn_msg {m : Bs} {a b : Nat} {x : Bs} (h : inn m a b = hMsg ++ x) : inn m (a + 32) b = x := by
  rw [inn_at, h]
  rfl
theorem part_msg {m : Bs} {a b : Nat} {x : Bs} (dg : Bool) (h : inn m a b = hMsg ++ x) : (partM m a b dg).ty = wMess ∧ (partM m a b dg).sub = wRfc ∧ (partM m a b dg).fr = a + 32 ∧ (partM m a b dg).to = b := by
  unfold partM
  rw [h, of_msg, kind_msg, hdr_msg]
  exact ⟨rfl, rfl, rfl, rfl⟩
theorem part_sub {m : Bs} {a b : Nat} {x : Bs} (h : inn m a b = hSub ++ x) : (partM m a b false).ty = wText ∧ (partM m a b false).hd = a ∧ (partM m a b false).fr = a + 15 ∧ (partM m a b false).to = b := by
  unfold partM
  rw [h, of_sub, kind_sub, hdr_sub]
  exact ⟨rfl, rfl, rfl, rfl⟩
/-- So many messages within one another. -/
def Chain : Nat → Pt → Prop
  | 0, p => p.kids = []
  | c + 1, p => ∃ q, p.kids = [q] ∧ Chain c q
theorem dig_msg {d : Pd} (h : d.ty = wMess) : isDig d = false := by
  unfold isDig isMulti
  rw [h]
  rfl
theorem texts_msg {m : Bs} {d : Pd} (h1 : d.ty = wMess) (h2 : d.sub = wRfc) : textsM m d = [(d.fr, d.to)] := by
  unfold textsM isLetter
  rw [h1, h2]
  rfl
theorem texts_sub {m : Bs} {d : Pd} (h1 : d.ty = wText) : textsM m d = [] := by
  unfold textsM isLetter isMulti
  rw [h1]
  rfl
/-- A message with one within it, told. -/
theorem tell_msg {m : Bs} {a b : Nat} {x : Bs} (j : Nat) (dg : Bool) (many : Nat) (h : inn m a b = hMsg ++ x) (hm : many ≤ 58) :
    (tellM m (j + 1) a b dg many).1 = .mk (partM m a b dg) [(tellM m j (a + 32) b false (many + 1)).1] := by
  obtain ⟨h1, h2, h3, h4⟩ := part_msg dg h
  simp only [tellM]
  rw [texts_msg h1 h2, dig_msg h1, kidsF, if_neg (by omega), h3, h4]
  rfl
theorem tell_sub {m : Bs} {a b : Nat} {x : Bs} (j : Nat) (many : Nat) (h : inn m a b = hSub ++ x) : (tellM m j a b false many).1 = .mk (partM m a b false) [] := by
  cases j with
  | zero => rfl
  | succ j =>
    simp only [tellM]
    rw [texts_sub (part_sub h).1]
    rfl
theorem tell_chain (m s : Bs) : ∀ (j a b k many : Nat), inn m a b = nest s k → many + j ≤ 58 → Chain (min k j) (tellM m j a b false many).1
  | 0, a, b, k, many, h, hm => by
    rw [Nat.min_zero]
    rfl
  | j + 1, a, b, 0, many, h, hm => by
    rw [Nat.zero_min, tell_sub (j + 1) many h]
    rfl
  | j + 1, a, b, k + 1, many, h, hm => by
    rw [nest] at h
    rw [tell_msg j false many h (by omega), show min (k + 1) (j + 1) = min k j + 1 by omega]
    exact ⟨_, rfl, tell_chain m s j (a + 32) b k (many + 1) (inn_msg h) (by omega)⟩
theorem not_parted {p : Pt} (h : p.d.ty = wMess) : partedB p = false := by
  unfold partedB isMulti
  rw [h]
  rfl
theorem num_one {p : Pt} (h : p.d.ty = wMess) : numberedM p 1 = some p := by
  unfold numberedM
  rw [not_parted h]
  rfl
theorem within_one {p q : Pt} (h1 : p.d.ty = wMess) (h2 : p.d.sub = wRfc) (hk : p.kids = [q]) : mailedM p = some q ∧ withinM p = some q := by
  have h : mailedM p = some q := by
    unfold mailedM isLetter
    rw [h1, h2, hk]
    rfl
  refine ⟨h, ?_⟩
  unfold withinM
  rw [not_parted h1]
  exact h
theorem tell_at (m s : Bs) : ∀ (c j a b many : Nat) (p : Pt), c + 1 ≤ j → inn m a b = nest s (c + 1) → a + 32 * (c + 1) + 15 ≤ b → many + j ≤ 58 →
    ∃ q z, atG p (some (tellM m j a b false many).1) (List.replicate (c + 1) 1) = some q ∧ mailedM q = some z ∧ inn m z.d.hd z.d.fr = hSub ∧ inn m z.d.fr z.d.to = s
  | c, 0, a, b, many, p, hj, h, hab, hm => by omega
  | 0, j + 1, a, b, many, p, hj, h, hab, hm => by
    rw [nest] at h
    have hi : inn m (a + 32) b = hSub ++ s := inn_msg h
    have e := tell_msg j false many h (by omega)
    obtain ⟨h1, h2, _, _⟩ := part_msg false h
    obtain ⟨g1, g2, g3, g4⟩ := part_sub hi
    have e2 := tell_sub j (many + 1) hi
    rw [e2] at e
    generalize (tellM m (j + 1) a b false many).1 = T at *
    subst e
    obtain ⟨w1, w2⟩ := within_one (p := .mk (partM m a b false) [.mk (partM m (a + 32) b false) []]) h1 h2 rfl
    refine ⟨_, _, ?_, w1, ?_, ?_⟩
    · simp only [List.replicate, atG]
      rw [num_one (p := .mk (partM m a b false) [.mk (partM m (a + 32) b false) []]) h1]
    · show inn m (partM m (a + 32) b false).hd (partM m (a + 32) b false).fr = hSub
      rw [g2, g3, inn_to m (a + 32) b 15 (by omega), hi]
      rfl
    · show inn m (partM m (a + 32) b false).fr (partM m (a + 32) b false).to = s
      rw [g3, g4, inn_at, hi]
      rfl
  | c + 1, j + 1, a, b, many, p, hj, h, hab, hm => by
    rw [nest] at h
    have hi : inn m (a + 32) b = nest s (c + 1) := inn_msg h
    have e := tell_msg j false many h (by omega)
    obtain ⟨h1, h2, _, _⟩ := part_msg false h
    generalize hT : (tellM m (j + 1) a b false many).1 = T at *
    subst e
    obtain ⟨w1, w2⟩ := within_one (p := .mk (partM m a b false) [(tellM m j (a + 32) b false (many + 1)).1]) h1 h2 rfl
    obtain ⟨q, z, i1, i2⟩ := tell_at m s c j (a + 32) b (many + 1) (.mk (partM m a b false) [(tellM m j (a + 32) b false (many + 1)).1]) (by omega) hi (by omega) (by omega)
    refine ⟨q, z, ?_, i2⟩
    rw [List.replicate_succ, atG, num_one (p := .mk (partM m a b false) [(tellM m j (a + 32) b false (many + 1)).1]) h1]
    show atG _ (withinM _) _ = _
    rw [w2]
    exact i1
theorem inn_all (m : Bs) : inn m 0 m.length = m := by unfold inn; simp
theorem nest_chain (s : Bs) (n : Nat) : Chain (min n 7) (strucM (nest s n)) := tell_chain _ s 7 0 _ n 0 (inn_all _) (by omega)
theorem nest_secs (s : Bs) (n : Nat) (h1 : 1 ≤ n) (h7 : n ≤ 7) : headSM (nest s n) (List.replicate n 1) = some hSub ∧ textSM (nest s n) (List.replicate n 1) = some s := by
  obtain ⟨c, rfl⟩ : ∃ c, n = c + 1 := ⟨n - 1, by omega⟩
  have hl := nest_len s (c + 1)
  obtain ⟨q, z, h2, h3, h4, h5⟩ := tell_at (nest s (c + 1)) s c 7 0 (nest s (c + 1)).length 0 (strucM (nest s (c + 1))) (by omega) (inn_all _) (by omega) (by omega)
  have ha : atM (strucM (nest s (c + 1))) (List.replicate (c + 1) 1) = some q := h2
  have hp : ¬ List.replicate (c + 1) (1 : Int) = [] := by simp
  unfold headSM textSM headedM
  rw [ha]
  simp only [Option.bind_some, if_neg hp, h3, Option.map_some, h4, h5]
  exact ⟨trivial, trivial⟩
end Go.Proofs.YtgolcmafbenjbaaGreatDoor
