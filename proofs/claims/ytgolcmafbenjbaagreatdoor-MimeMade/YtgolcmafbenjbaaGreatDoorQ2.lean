/- What this text holds: how many parts there are, and which sections the places tell (plain facts for the law of places). -/
import Derived.Test.YtgolcmafbenjbaaGreatDoorN30
import Derived.Test.YtgolcmafbenjbaaGreatDoorN29
import Derived.Test.YtgolcmafbenjbaaGreatDoorQ1
namespace Go.Proofs.YtgolcmafbenjbaaGreatDoor
set_option linter.unusedVariables false
set_option linter.unusedSimpArgs false

theorem kids_cnt (m : Bs) (n : Nat) (dg : Bool) (h : ∀ (a b : Nat) (dg : Bool) (many : Nat), many ≤ 59 → (tellM m n a b dg many).2 = many + cntD n (tellM m n a b dg many).1) : ∀ (l : List (Nat × Nat)) (k : Nat), k ≤ 60 → (kidsF (tellM m n) dg l k).2 = k + ((kidsF (tellM m n) dg l k).1.map (cntD n)).sum
  | [], k, hk => by simp [kidsF]
  | t :: l, k, hk => by
    simp only [kidsF]
    split
    · simp
    · have h1 := tell_many m n t.1 t.2 dg k (by omega)
      have h2 := h t.1 t.2 dg k (by omega)
      have h3 := kids_cnt m n dg h l _ h1.2
      simp only [List.map_cons, List.sum_cons]
      omega
theorem tell_cnt (m : Bs) : ∀ (n a b : Nat) (dg : Bool) (many : Nat), many ≤ 59 → (tellM m n a b dg many).2 = many + cntD n (tellM m n a b dg many).1
  | 0, a, b, dg, many, h => rfl
  | n + 1, a, b, dg, many, h => by
    have := kids_cnt m n (isDig (partM m a b dg)) (tell_cnt m n) (textsM m (partM m a b dg)) (many + 1) (by omega)
    simp only [tellM, cntD, Pt.kids]
    omega
theorem struc_cnt (s : Bs) : 1 ≤ cntD 7 (strucM s) ∧ cntD 7 (strucM s) ≤ 60 := by
  have h1 := tell_many s 7 0 s.length false 0 (by omega)
  have h2 := tell_cnt s 7 0 s.length false 0 (by omega)
  unfold strucM
  omega
theorem struc_d (s : Bs) : (strucM s).d = partM s 0 s.length false := tell_d s 7 0 s.length false 0
theorem struc_hd (s : Bs) : (strucM s).d.hd = 0 := by rw [struc_d]; rfl
theorem struc_to (s : Bs) : (strucM s).d.to = s.length := by rw [struc_d]; rfl
theorem inn_take (s : Bs) (b : Nat) : inn s 0 b = s.take b := by unfold inn; simp
theorem inn_drop (s : Bs) (a : Nat) : inn s a s.length = s.drop a := by unfold inn; rw [List.take_of_length_le (by simp)]
theorem sec_head (s : Bs) : headSM s [] = some (s.take (strucM s).d.fr) := by
  simp [headSM, atM, atG, headedM, struc_hd, inn_take]
theorem sec_text (s : Bs) : textSM s [] = some (s.drop (strucM s).d.fr) := by
  simp [textSM, atM, atG, headedM, struc_to, inn_drop]
theorem sec_body (s : Bs) : ((atM (strucM s) []).map fun p => bodyM s p []) = some s := by
  simp [atM, atG, bodyM]
theorem sec_one (s : Bs) (h : partedB (strucM s) = false) : ((atM (strucM s) [1]).map fun p => bodyM s p [1]) = some (s.drop (strucM s).d.fr) := by
  simp [atM, atG, bodyM, numberedM, h, struc_to, inn_drop]
theorem sec_two (s : Bs) (h : partedB (strucM s) = false) : ((atM (strucM s) [2]).map fun p => bodyM s p [2]) = none := by
  simp [atM, atG, bodyM, numberedM, h]
theorem num_kid {P : Pt} (h : partedB P = true) (i : Nat) (k : Pt) (hk : P.kids[i]? = some k) : numberedM P ((i : Int) + 1) = some k := by
  have hi : i < P.kids.length := (List.getElem?_eq_some_iff.1 hk).1
  unfold numberedM
  rw [if_pos h, if_neg (by omega), show ((i : Int) + 1 - 1).toNat = i by omega, hk]
theorem sec_kid (s : Bs) (h : partedB (strucM s) = true) (i : Nat) (k : Pt) (hk : (strucM s).kids[i]? = some k) : ((atM (strucM s) [(i : Int) + 1]).map fun p => bodyM s p [(i : Int) + 1]) = some (inn s k.d.fr k.d.to) := by
  simp [atM, atG, bodyM, num_kid h i k hk]
theorem sec_mime (s : Bs) (h : partedB (strucM s) = true) (i : Nat) (k : Pt) (hk : (strucM s).kids[i]? = some k) : mimeM s [(i : Int) + 1] = some (inn s k.d.hd k.d.fr) := by
  simp [mimeM, atM, atG, num_kid h i k hk]
theorem sec_over (s : Bs) (h : partedB (strucM s) = true) : ((atM (strucM s) [((strucM s).kids.length : Int) + 1]).map fun p => bodyM s p [((strucM s).kids.length : Int) + 1]) = none := by
  have : numberedM (strucM s) (((strucM s).kids.length : Int) + 1) = none := by
    unfold numberedM
    rw [if_pos h, if_pos (by omega)]
  simp [atM, atG, this]
end Go.Proofs.YtgolcmafbenjbaaGreatDoor
