/- What this text holds: bytes, numbers and strings; a node's content as plain data; the document's numbers. -/
import Derived.Test.YtkipigbfbhecjaaN5
namespace Go.Proofs.Ytkipigbfbhecjaa
open Go.RowKit
set_option linter.unusedVariables false
set_option linter.unusedSimpArgs false

/-- Bytes lie in memory, from a place on. -/
def BAt (w : World) (a : Option Addr) (l : List Int) : Prop := ∀ j x, l[j]? = some x → ∃ p, a = some p ∧ w.cell? (p.add j) = some (.int .u8 x)
/-- A string's bytes. -/
def bOf (s : ByteArray) : List Int := s.data.toList.map fun b => (b.toNat : Int)
theorem bOf_length (s : ByteArray) : (bOf s).length = s.size := by rw [bOf, List.length_map]; rfl
theorem bOf_at (s : ByteArray) (k : Nat) (hk : k < s.size) : (bOf s)[k]? = some (((s.data[k]'hk).toNat : Nat) : Int) := by
  have hk' : k < s.data.size := hk
  simp only [bOf, List.getElem?_map, Array.getElem?_toList, Array.getElem?_eq_getElem hk', Option.map_some]
theorem bOf_range (s : ByteArray) : ∀ x ∈ bOf s, 0 ≤ x ∧ x < 256 := by
  intro x hx
  simp only [bOf, List.mem_map] at hx
  obtain ⟨b, _, rfl⟩ := hx
  have := b.toNat_lt
  omega
/-- The number of some bytes, the highest first. -/
def val (l : List Int) : Int := l.foldl (fun n c => n * 256 + c) 0
theorem val_snoc (l : List Int) (x : Int) : val (l ++ [x]) = val l * 256 + x := by simp [val]
theorem val_take (l : List Int) (k : Nat) (hk : k < l.length) : val (l.take (k + 1)) = val (l.take k) * 256 + l[k] := by
  rw [List.take_succ_eq_append_getElem hk, val_snoc]
/-- Each is a byte. -/
def Byt (l : List Int) : Prop := ∀ x ∈ l, 0 ≤ x ∧ x < 256
theorem Byt.take {l : List Int} (h : Byt l) (k : Nat) : Byt (l.take k) := fun x hx => h x (List.mem_of_mem_take hx)
theorem Byt.drop {l : List Int} (h : Byt l) (k : Nat) : Byt (l.drop k) := fun x hx => h x (List.mem_of_mem_drop hx)
theorem val_range (l : List Int) (h : Byt l) : ∀ k, k ≤ l.length → 0 ≤ val (l.take k) ∧ val (l.take k) < 256 ^ k := by
  intro k
  induction k with
  | zero => intro _; simp [val]
  | succ k ih =>
    intro hk
    have hk' : k < l.length := by omega
    have h1 := ih (by omega)
    have h2 := h l[k] (List.getElem_mem hk')
    rw [val_take l k hk', Int.pow_succ]
    omega
theorem pow7 : ∀ k < 8, (256 : Int) ^ k ≤ 72057594037927936 := by decide
theorem pow_lt {x : Int} (k : Nat) (hk : k < 8) (h : x < 256 ^ k) : x < 72057594037927936 := Int.lt_of_lt_of_le h (pow7 k hk)
theorem val_take_le (l : List Int) (h : Byt l) : ∀ k, val (l.take k) ≤ val l := by
  have hx : ∀ m k, k + m = l.length → val (l.take k) ≤ val l := by
    intro m
    induction m with
    | zero => intro k hk; rw [List.take_of_length_le (by omega)]; exact Int.le_refl _
    | succ m ih =>
      intro k hk
      have hk' : k < l.length := by omega
      have h1 := ih (k + 1) (by omega)
      have h2 := h l[k] (List.getElem_mem hk')
      have h3 := val_range l h k (by omega)
      rw [val_take l k hk'] at h1
      omega
  intro k
  by_cases hk : k ≤ l.length
  · exact hx (l.length - k) k (by omega)
  · rw [List.take_of_length_le (by omega)]; exact Int.le_refl _
/-- A number's bytes, the highest first. -/
def numB : Nat → Int → List Int
  | 0, _ => []
  | k + 1, n => (n / 256 ^ k % 256) :: numB k n
theorem numB_length (k : Nat) (n : Int) : (numB k n).length = k := by
  induction k with
  | zero => rfl
  | succ k ih => simp [numB, ih]
theorem strOf_bOf (s : ByteArray) : strOf (bOf s) = s := by
  apply ByteArray.ext
  apply Array.toList_inj.1
  rw [strOf_toList, bOf, List.map_map]
  have e : ((fun n : Int => UInt8.ofNat n.toNat) ∘ fun b : UInt8 => (b.toNat : Int)) = id := by
    funext b
    simp
  rw [e, List.map_id]
theorem bOf_strOf (l : List Int) (h : Byt l) : bOf (strOf l) = l := by
  unfold bOf
  rw [strOf_toList, List.map_map]
  have e : ∀ x ∈ l, ((fun b : UInt8 => (b.toNat : Int)) ∘ fun n : Int => UInt8.ofNat n.toNat) x = x := by
    intro x hx
    have := h x hx
    simp only [Function.comp, UInt8.toNat_ofNat']
    omega
  rw [List.map_congr_left e, List.map_id']
theorem BAt.cells {w : World} {p : Addr} {l : List Int} (h : BAt w (some p) l) : ∀ j v, (bc l)[j]? = some v → w.cell? (p.add j) = some v := by
  intro j v hv
  simp only [bc, List.getElem?_map, Option.map_eq_some_iff] at hv
  obtain ⟨x, hx, rfl⟩ := hv
  obtain ⟨q, hq, hcc⟩ := h j x hx
  obtain rfl := Option.some.inj hq
  exact hcc
/-- Bytes as a string. -/
theorem conv_bytes {w : World} {a : Option Addr} {m c : Nat} {l : List Int} (h : BAt w a l) (hm : l.length = m) :
    (convert 78 9 (.slice a m c)).run Try.prog w = .ok (.string (strOf l)) w := by
  rw [run_convert_bytes_string w 78 9 5 _ _ _ Try.underlying78 Try.underlying5 Try.underlying9]
  cases a with
  | none =>
    have e : l = [] := by
      cases l with
      | nil => rfl
      | cons x l => obtain ⟨p, hp, _⟩ := h 0 x rfl; cases hp
    subst e
    simp [Conv.bytesToString, strOf]
  | some p =>
    have hl := run_loadCells_list (P := Try.prog) w p (bc l) h.cells
    rw [bc_length, hm] at hl
    exact run_bytesToString w p m c l hl
theorem BAt.sub {w : World} {p : Addr} {l : List Int} (h : BAt w (some p) l) (o m : Nat) : BAt w (some (p.add o)) ((l.drop o).take m) := by
  intro j x hx
  rw [List.getElem?_take] at hx
  split at hx
  · rw [List.getElem?_drop] at hx
    obtain ⟨q, hq, hc⟩ := h (o + j) x hx
    obtain rfl := Option.some.inj hq
    exact ⟨_, rfl, by rw [Addr.add_add]; exact hc⟩
  · cases hx
theorem BAt.below {w w' : World} {a : Option Addr} {l : List Int} (h : BAt w a l) (hb : Below w.heap.size w w') : BAt w' a l := by
  intro j x hx
  obtain ⟨p, hp, hc⟩ := h j x hx
  exact ⟨p, hp, (hb.cell (World.block_lt_of_cell? w _ hc)).trans hc⟩
theorem val_numB (n : Int) (h0 : 0 ≤ n) : ∀ k, val (numB k n) = n % 256 ^ k := by
  have aux : ∀ k (x : Int), (numB k n).foldl (fun n c => n * 256 + c) x = x * 256 ^ k + n % 256 ^ k := by
    intro k
    induction k with
    | zero => intro x; simp [numB, Int.emod_one]
    | succ k ih =>
      intro x
      rw [numB, List.foldl_cons, ih, Int.pow_succ]
      have e1 : n % (256 ^ k * 256) = n % 256 ^ k + 256 ^ k * (n / 256 ^ k % 256) := by
        obtain ⟨m, rfl⟩ := Int.eq_ofNat_of_zero_le h0
        have h : ((m % (256 ^ k * 256) : Nat) : Int) = ((m % 256 ^ k + 256 ^ k * (m / 256 ^ k % 256) : Nat) : Int) := congrArg _ Nat.mod_mul
        have ep : ((256 ^ k : Nat) : Int) = (256 : Int) ^ k := Int.natCast_pow 256 k
        rw [Int.natCast_emod, Int.natCast_mul, Int.natCast_add, Int.natCast_mul, Int.natCast_emod, Int.natCast_emod, Int.natCast_ediv, ep] at h
        exact h
      rw [e1, Int.add_mul]
      have e2 : x * 256 * 256 ^ k = x * (256 ^ k * 256) := by rw [Int.mul_assoc, Int.mul_comm 256]
      have e3 : n / 256 ^ k % 256 * 256 ^ k = 256 ^ k * (n / 256 ^ k % 256) := Int.mul_comm _ _
      omega
  intro k
  have := aux k 0
  rw [Int.zero_mul, Int.zero_add] at this
  exact this
theorem val_numB' (n : Int) (k : Nat) (h0 : 0 ≤ n) (h1 : n < 256 ^ k) : val (numB k n) = n := by
  rw [val_numB n h0, Int.emod_eq_of_lt h0 h1]
theorem bAt_new (w : World) (l : List Int) : BAt (w.alloc (.cells (bc l).toArray 5)) (some ⟨w.heap.size, 0, none⟩) l := by
  intro j x hx
  refine ⟨_, rfl, ?_⟩
  rw [Addr.add_mid, Nat.zero_add]
  have hh := heap_alloc_new w (.cells (bc l).toArray 5)
  have e : (bc l)[j]? = some (.int .u8 x) := by rw [bc, List.getElem?_map, hx]; rfl
  simp only [World.cell?, hh]
  simpa using e
theorem conv_one (v : Int) (w : World) : (convert 78 9 (.slice (some ⟨w.heap.size, 0, none⟩) 1 1)).run Try.prog (w.alloc (.cells #[.int .u8 v] 5)) = .ok (.string (strOf [v])) (w.alloc (.cells #[.int .u8 v] 5)) :=
  conv_bytes (bAt_new w [v]) rfl
theorem strOf_cons (v : Int) (l : List Int) : strOf [v] ++ strOf l = strOf (v :: l) := by rw [← strOf_append]; rfl
set_option maxRecDepth 100000 in
set_option maxHeartbeats 1000000 in
theorem rnumber_any (x : Int) (n : Nat) (w : World) (h0 : 0 ≤ x) (h1 : x ≤ 9223372036854775807) (hn : n ≤ 8) :
    Calls Try.prog 59 #[.int .i64 x, .int .i64 n] w fun e w' => e = .returned (.string (strOf (numB n x))) ∧ Below w.heap.size w w' := by
  go_enter Try.func59, Try.ntmps59
  go_wp2_with fail
  go_loopw [0, 5, 6] (fun x' s i wr => ∃ k : Nat, k ≤ n ∧ i = .int .i64 k ∧ x' = .int .i64 (x / 256 ^ k) ∧ s = .string (strOf (numB k x)) ∧ Below w.heap.size w wr) (fun _ _ i _ => n - (intOf i).toNat)
  case atStart => exact ⟨0, by omega, rfl, by rw [Int.pow_zero, Int.ediv_one], rfl, Below.refl _ _⟩
  case round =>
    obtain ⟨k, hk, rfl, rfl, rfl, hb⟩ := hrel
    by_cases hlt : k < n
    · have hcv := fun v => conv_one v wr
      have hz1 : ∀ v : Int, (strOf [v]).size = 1 := fun v => strOf_size [v]
      have hz2 : (strOf (numB k x)).size = k := by rw [strOf_size, numB_length]
      have hy0 : 0 ≤ x / 256 ^ k := Int.ediv_nonneg h0 (Int.pow_nonneg (by decide))
      have hy1 : x / 256 ^ k ≤ 9223372036854775807 := Int.le_trans (Int.ediv_le_self _ h0) h1
      have hS := hid (show strOf [x / 256 ^ k % 256] ++ strOf (numB k x) = strOf (numB (k + 1) x) from strOf_cons _ _)
      have hY := hid (show x / 256 ^ k / 256 = x / 256 ^ (k + 1) by rw [Int.pow_succ, Int.ediv_ediv_of_nonneg (Int.pow_nonneg (by decide))])
      have HB := hid hb
      clear hb
      generalize strOf (numB k x) = S at hz2 hS ⊢
      generalize x / 256 ^ k = y at hy0 hy1 hS hY ⊢
      go_wp2_with fail
      exact ⟨⟨k + 1, by omega, by go_num, by rw [hY.out], by rw [hS.out], HB.out.alloc HB.out.size _⟩, by simp [intOf]; omega⟩
    · have e : k = n := by omega
      subst e
      go_wp2_with fail
      go_ret
      exact ⟨rfl, hb⟩
end Go.Proofs.Ytkipigbfbhecjaa
