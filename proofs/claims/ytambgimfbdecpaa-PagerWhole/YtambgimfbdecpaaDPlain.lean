/- What this text holds: plain facts on sectors and on what is laid over them. -/
import Derived.Test.YtambgimfbdecpaaDCrash
namespace Go.Proofs.Ytambgimfbdecpaa
set_option linter.unusedVariables false

theorem getElem?_splice (l : List Int) (o : Nat) (b : List Int) (h : o + b.length ≤ l.length) (p : Nat) :
    (splice l o b)[p]? = if o ≤ p ∧ p < o + b.length then b[p - o]? else l[p]? := by
  unfold splice
  rw [List.getElem?_append, List.length_take, Nat.min_eq_left (by omega)]
  by_cases h1 : p < o
  · rw [if_pos h1, if_neg (by omega), List.getElem?_take, if_pos h1]
  · rw [if_neg h1, List.getElem?_append]
    by_cases h2 : p < o + b.length
    · rw [if_pos (by omega), if_pos ⟨by omega, h2⟩]
    · rw [if_neg (by omega), if_neg (by omega), List.getElem?_drop]
      congr 1
      omega

theorem getElem?_sec (l : List Int) (i m : Nat) : (sec l i)[m]? = if m < 512 then l[i * 512 + m]? else none := by
  unfold sec
  rw [List.getElem?_take]
  split
  · rw [List.getElem?_drop]
  · rfl

theorem sec_layS_same (l : List Int) (n i : Nat) (b : List Int) (hl : l.length = n * 512) (hi : i < n) (hb : b.length ≤ 512) : sec (layS l i b) i = b ++ (sec l i).drop b.length := by
  apply List.ext_getElem?
  intro m
  rw [getElem?_sec, List.getElem?_append, List.getElem?_drop, getElem?_sec]
  unfold layS
  by_cases hm : m < 512
  · rw [if_pos hm, getElem?_splice _ _ _ (by omega)]
    by_cases h2 : m < b.length
    · rw [if_pos ⟨by omega, by omega⟩, if_pos h2]
      congr 1; omega
    · rw [if_neg (by omega), if_neg h2, if_pos (by omega)]
      congr 1; omega
  · rw [if_neg hm, if_neg (by omega), if_neg (by omega)]

theorem sec_layS_other (l : List Int) (n i j : Nat) (b : List Int) (hl : l.length = n * 512) (hi : i < n) (hb : b.length ≤ 512) (hij : j ≠ i) : sec (layS l i b) j = sec l j := by
  apply List.ext_getElem?
  intro m
  rw [getElem?_sec, getElem?_sec]
  unfold layS
  by_cases hm : m < 512
  · rw [if_pos hm, if_pos hm, getElem?_splice _ _ _ (by omega), if_neg]
    intro h
    rcases Nat.lt_or_gt_of_ne hij with h' | h'
    · have : (j + 1) * 512 ≤ i * 512 := Nat.mul_le_mul_right _ h'
      omega
    · have : (i + 1) * 512 ≤ j * 512 := Nat.mul_le_mul_right _ h'
      omega
  · rw [if_neg hm, if_neg hm]

theorem sec_rep (n i : Nat) (c : Int) (hi : i < n) : sec (rep (n * 512) c) i = rep 512 c := by
  unfold sec rep
  rw [List.drop_replicate, List.take_replicate]
  congr 1
  have : (i + 1) * 512 ≤ n * 512 := Nat.mul_le_mul_right _ hi
  omega
theorem rep_take (n m : Nat) (c : Int) (h : m ≤ n) : (rep n c).take m = rep m c := by
  unfold rep; rw [List.take_replicate, Nat.min_eq_left h]
theorem rep_drop (n m : Nat) (c : Int) : (rep n c).drop m = rep (n - m) c := by
  unfold rep; rw [List.drop_replicate]

/-- A string of bytes. -/
def strOf (l : List Int) : ByteArray := l.foldl (fun r n => r.push (UInt8.ofNat n.toNat)) ByteArray.empty

def aD0 : DS := DS.blank 4
def aD1 : DS := { aD0.step.2 with waits := aD0.step.2.waits ++ [(((1 : Nat) : Int), rep 512 120)] }
theorem aD0_step : aD0.step.1 = true := by simp [aD0, DS.blank, DS.step]
theorem aD0_steps : aD0.steps = 0 := rfl
theorem aD1_is : aD1 = { n := 4, secs := rep (4 * 512) 0, waits := [(1, rep 512 120)], fuse := -1, gone := false, steps := 1 } := by
  unfold aD1 aD0 DS.blank DS.step
  rfl
theorem aD1_read : aD1.read 1 = rep 512 120 := by rw [aD1_is]; rfl
theorem aD1_read0 : (aD1.crash []).read 1 = rep 512 0 := by
  rw [aD1_is]
  simp only [DS.read, DS.crash, lastW, List.foldl_nil]
  exact sec_rep 4 1 0 (by omega)
theorem aD1_read3 : (aD1.crash [(0, 3)]).read 1 = rep 3 120 ++ rep 509 0 := by
  rw [aD1_is]
  have e : keep1 [(1, rep 512 120)] (rep (4 * 512) 0) (0, 3) = layS (rep (4 * 512) 0) 1 ((rep 512 120).take 3) := keep1_in _ _ _ 0 (by simp) 1 3 rfl rfl rfl
  simp only [DS.read, DS.crash, lastW, List.foldl_nil, List.foldl_cons]
  rw [e, sec_layS_same _ 4 1 _ (rep_length _ _) (by omega) (by rw [rep_take _ _ _ (by omega), rep_length]; omega), sec_rep 4 1 0 (by omega), rep_take _ _ _ (by omega), rep_length, rep_drop]
theorem strOf_data (l : List Int) : ∀ r : ByteArray, (l.foldl (fun r n => r.push (UInt8.ofNat n.toNat)) r).data.toList = r.data.toList ++ l.map fun n => UInt8.ofNat n.toNat := by
  induction l with
  | nil => intro r; simp
  | cons x l ih => intro r; rw [List.foldl_cons, ih]; simp
theorem strOf_toList (l : List Int) : (strOf l).data.toList = l.map fun n => UInt8.ofNat n.toNat := by
  unfold strOf; rw [strOf_data]; rfl
theorem strOf_append (l m : List Int) : strOf (l ++ m) = strOf l ++ strOf m := by
  apply ByteArray.ext
  apply Array.toList_inj.1
  rw [strOf_toList, ByteArray.data_append, Array.toList_append, strOf_toList, strOf_toList, List.map_append]
theorem str_xxx : (⟨#[120, 120, 120]⟩ : ByteArray) ++ strOf (rep 509 0) = strOf (rep 3 120 ++ rep 509 0) := by
  rw [strOf_append]
  rfl
end Go.Proofs.Ytambgimfbdecpaa
