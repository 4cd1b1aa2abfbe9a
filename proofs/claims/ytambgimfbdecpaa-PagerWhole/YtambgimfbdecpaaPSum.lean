/- What this text holds: the sum of bytes. -/
import Derived.Test.YtambgimfbdecpaaPBase
import Derived.Laws.BitsAllLaws
namespace Go.Proofs.Ytambgimfbdecpaa
open Go.RowKit
set_option linter.unusedVariables false

/-- The sum of bytes from place k on, as a number. -/
def sumRaw : Nat → List Int → Int
  | _, [] => 0
  | k, x :: l => ((k : Int) + 1) * x + sumRaw (k + 1) l
/-- The sum. -/
def sumL (l : List Int) : Int := sumRaw 0 l % 4294967296

theorem sumRaw_append (l m : List Int) : ∀ k, sumRaw k (l ++ m) = sumRaw k l + sumRaw (k + l.length) m := by
  induction l with
  | nil => intro k; simp [sumRaw]
  | cons x l ih => intro k; simp only [List.cons_append, sumRaw, ih, List.length_cons]; rw [show k + 1 + l.length = k + (l.length + 1) by omega]; omega
theorem sumL_nonneg (l : List Int) : 0 ≤ sumL l := Int.emod_nonneg _ (by decide)
theorem sumL_lt (l : List Int) : sumL l < 4294967296 := Int.emod_lt_of_pos _ (by decide)
theorem sumL_take (l : List Int) (k : Nat) (hk : k < l.length) : sumL (l.take (k + 1)) = (sumL (l.take k) + ((k : Int) + 1) * l[k]) % 4294967296 := by
  unfold sumL
  rw [List.take_succ_eq_append_getElem hk, sumRaw_append]
  simp only [sumRaw, List.length_take, Nat.zero_add, Nat.min_eq_left (Nat.le_of_lt hk), Int.add_zero]
  omega

/-- Bytes lie in memory, from a place on. -/
def BAt (w : World) (a : Option Addr) (l : List Int) : Prop := ∀ j x, l[j]? = some x → ∃ p, a = some p ∧ w.cell? (p.add j) = some (.int .u8 x)

set_option maxRecDepth 100000 in
set_option maxHeartbeats 1000000 in
theorem sum_any {w : World} {a : Option Addr} {l : List Int} {c : Nat} (h : BAt w a l) (hl : l.length ≤ 5000) :
    Calls Try.prog 90 #[.slice a l.length c] w fun e w' => e = .returned (.int .u32 (sumL l)) ∧ w' = w := by
  have H := hid h
  clear h
  go_enter Try.func90, Try.ntmps90
  go_wp2
  go_loop [3, 8] (fun s i => ∃ k : Nat, k ≤ l.length ∧ i = .int .i64 k ∧ s = .int .u32 (sumL (l.take k))) (fun _ i => l.length - (intOf i).toNat)
  case atStart => exact ⟨0, by omega, rfl, rfl⟩
  case round =>
    obtain ⟨k, hk, rfl, rfl⟩ := hrel
    by_cases hlt : k < l.length
    · obtain ⟨p, rfl, hc⟩ := H.out k l[k] (by simp)
      have s0 := sumL_nonneg (l.take k)
      have s1 := sumL_lt (l.take k)
      go_wp2
      go_round
      case rel =>
        refine ⟨k + 1, by omega, by go_num, ?_⟩
        rw [sumL_take _ _ hlt]
        congr 1
        have e1 : l[k] % 4294967296 * ((k : Int) + 1) % 4294967296 = (((k : Int) + 1) * l[k]) % 4294967296 := by rw [Int.mul_emod, Int.emod_emod, ← Int.mul_emod, Int.mul_comm]
        rw [e1]
        omega
      case measure => simp [intOf]; omega
    · have e : k = l.length := by omega
      subst e
      go_wp2
      go_ret
      exact ⟨rfl, rfl⟩

/-- A string's bytes. -/
def bOf (s : ByteArray) : List Int := s.data.toList.map fun b => (b.toNat : Int)
theorem bOf_length (s : ByteArray) : (bOf s).length = s.size := by rw [bOf, List.length_map]; rfl
theorem bOf_at (s : ByteArray) (k : Nat) (hk : k < s.size) : (bOf s)[k]? = some (((s.data[k]'hk).toNat : Nat) : Int) := by
  have hk' : k < s.data.size := hk
  simp only [bOf, List.getElem?_map, Array.getElem?_toList, Array.getElem?_eq_getElem hk', Option.map_some]
theorem bOf_range (s : ByteArray) : ∀ x ∈ bOf s, 0 ≤ x ∧ x < 256 := by
  intro x hx
  simp only [bOf, List.mem_map] at hx
  obtain ⟨b, _, rfl⟩ := hx
  have := b.toNat_lt
  omega

set_option maxRecDepth 100000 in
set_option maxHeartbeats 1000000 in
theorem rsum_any (s : ByteArray) (hs : s.size ≤ 5000) (w : World) :
    Calls Try.prog 100 #[.string s] w fun e w' => e = .returned (.int .u32 (sumL (bOf s))) ∧ w' = w := by
  go_enter Try.func100, Try.ntmps100
  go_wp2
  go_loop [3, 4] (fun s' i => ∃ k : Nat, k ≤ s.size ∧ i = .int .i64 k ∧ s' = .int .u32 (sumL ((bOf s).take k))) (fun _ i => s.size - (intOf i).toNat)
  case atStart => exact ⟨0, by omega, rfl, rfl⟩
  case round =>
    obtain ⟨k, hk, rfl, rfl⟩ := hrel
    by_cases hlt : k < s.size
    · have s0 := sumL_nonneg ((bOf s).take k)
      have s1 := sumL_lt ((bOf s).take k)
      go_wp2
      go_round
      case rel =>
        refine ⟨k + 1, by omega, by go_num, ?_⟩
        have hk2 : k < (bOf s).length := by rw [bOf_length]; exact hlt
        have e0 : (bOf s)[k] = ((s[k].toNat : Nat) : Int) := by
          have := bOf_at s k hlt
          rw [List.getElem?_eq_getElem hk2] at this
          exact Option.some.inj this
        rw [sumL_take _ _ hk2, e0]
        congr 1
        have e1 : ((k : Int) + 1) * ((s[k].toNat : Int) % 4294967296) % 4294967296 = (((k : Int) + 1) * (s[k].toNat : Int)) % 4294967296 := by rw [Int.mul_emod, Int.emod_emod, ← Int.mul_emod]
        rw [e1]
        omega
      case measure => simp [intOf]; omega
    · have e : k = s.size := by omega
      subst e
      go_wp2
      go_ret
      rw [List.take_of_length_le (by rw [bOf_length]; exact Nat.le_refl _)]
      exact ⟨rfl, rfl⟩

/-- The number of some bytes, the highest first. -/
def val (l : List Int) : Int := l.foldl (fun n c => n * 256 + c) 0
theorem val_snoc (l : List Int) (x : Int) : val (l ++ [x]) = val l * 256 + x := by simp [val]
theorem val_take (l : List Int) (k : Nat) (hk : k < l.length) : val (l.take (k + 1)) = val (l.take k) * 256 + l[k] := by
  rw [List.take_succ_eq_append_getElem hk, val_snoc]
/-- Each is a byte. -/
def Byt (l : List Int) : Prop := ∀ x ∈ l, 0 ≤ x ∧ x < 256
theorem Byt.take {l : List Int} (h : Byt l) (k : Nat) : Byt (l.take k) := fun x hx => h x (List.mem_of_mem_take hx)
theorem Byt.drop {l : List Int} (h : Byt l) (k : Nat) : Byt (l.drop k) := fun x hx => h x (List.mem_of_mem_drop hx)
theorem val_range (l : List Int) (h : Byt l) : ∀ k, k ≤ l.length → 0 ≤ val (l.take k) ∧ val (l.take k) < 256 ^ k := by
  intro k
  induction k with
  | zero => intro _; simp [val]
  | succ k ih =>
    intro hk
    have hk' : k < l.length := by omega
    have h1 := ih (by omega)
    have h2 := h l[k] (List.getElem_mem hk')
    rw [val_take l k hk', Int.pow_succ]
    omega

theorem pow7 : ∀ k < 8, (256 : Int) ^ k ≤ 72057594037927936 := by decide
theorem pow_lt {x : Int} (k : Nat) (hk : k < 8) (h : x < 256 ^ k) : x < 72057594037927936 := Int.lt_of_lt_of_le h (pow7 k hk)
theorem or_low (x c : Int) (h0 : 0 ≤ x) (h1 : x < 72057594037927936) (hc : 0 ≤ c ∧ c < 256) : bits .or .u64 (IntKind.u64.wrap (x * 256)) (IntKind.u64.wrap c) = x * 256 + c := by
  have e1 : IntKind.u64.wrap (x * 256) = x * 256 := by simp [IntKind.wrap, IntKind.bits, IntKind.signed]; omega
  have e2 : IntKind.u64.wrap c = c := by simp [IntKind.wrap, IntKind.bits, IntKind.signed]; omega
  rw [e1, e2, u64_or _ _ (by omega) (by omega) hc.1 (by omega)]
  have e3 : (x * 256).toNat = 2 ^ 8 * x.toNat := by omega
  rw [e3, ← Nat.two_pow_add_eq_or_of_lt (by omega)]
  omega

set_option maxRecDepth 100000 in
set_option maxHeartbeats 1000000 in
theorem number_any {w : World} {a : Option Addr} {l : List Int} {n c : Nat} (h : BAt w a l) (hb : Byt l) (hn : l.length = n) (hl : n ≤ 8) :
    Calls Try.prog 95 #[.slice a n c] w fun e w' => e = .returned (.int .u64 (val l)) ∧ w' = w := by
  subst hn
  have H := hid h
  have HB := hid hb
  clear h hb
  go_enter Try.func95, Try.ntmps95
  go_wp2
  go_loop [3, 8] (fun s i => ∃ k : Nat, k ≤ l.length ∧ i = .int .i64 k ∧ s = .int .u64 (val (l.take k))) (fun _ i => l.length - (intOf i).toNat)
  case atStart => exact ⟨0, by omega, rfl, rfl⟩
  case round =>
    obtain ⟨k, hk, rfl, rfl⟩ := hrel
    by_cases hlt : k < l.length
    · obtain ⟨p, rfl, hc⟩ := H.out k l[k] (by simp)
      have s0 := val_range l HB.out k hk
      go_wp2
      go_round
      case rel =>
        refine ⟨k + 1, by omega, by go_num, ?_⟩
        rw [val_take l k hlt, or_low _ _ s0.1 (pow_lt k (by omega) s0.2) (HB.out _ (List.getElem_mem hlt))]
      case measure => simp [intOf]; omega
    · have e : k = l.length := by omega
      subst e
      go_wp2
      go_ret
      exact ⟨rfl, rfl⟩

theorem val_take_le (l : List Int) (h : Byt l) : ∀ k, val (l.take k) ≤ val l := by
  have hx : ∀ m k, k + m = l.length → val (l.take k) ≤ val l := by
    intro m
    induction m with
    | zero => intro k hk; rw [List.take_of_length_le (by omega)]; exact Int.le_refl _
    | succ m ih =>
      intro k hk
      have hk' : k < l.length := by omega
      have h1 := ih (k + 1) (by omega)
      have h2 := h l[k] (List.getElem_mem hk')
      have h3 := val_range l h k (by omega)
      rw [val_take l k hk'] at h1
      omega
  intro k
  by_cases hk : k ≤ l.length
  · exact hx (l.length - k) k (by omega)
  · rw [List.take_of_length_le (by omega)]; exact Int.le_refl _

set_option maxRecDepth 100000 in
set_option maxHeartbeats 1000000 in
theorem rread_any (s : ByteArray) (hs : s.size ≤ 8) (hv : val (bOf s) ≤ 9223372036854775807) (w : World) :
    Calls Try.prog 99 #[.string s] w fun e w' => e = .returned (.int .i64 (val (bOf s))) ∧ w' = w := by
  have HV := hid hv
  clear hv
  go_enter Try.func99, Try.ntmps99
  go_wp2
  go_loop [3, 4] (fun s' i => ∃ k : Nat, k ≤ s.size ∧ i = .int .i64 k ∧ s' = .int .i64 (val ((bOf s).take k))) (fun _ i => s.size - (intOf i).toNat)
  case atStart => exact ⟨0, by omega, rfl, rfl⟩
  case round =>
    obtain ⟨k, hk, rfl, rfl⟩ := hrel
    by_cases hlt : k < s.size
    · have hk2 : k < (bOf s).length := by rw [bOf_length]; exact hlt
      have e0 : (bOf s)[k] = ((s[k].toNat : Nat) : Int) := by
        have := bOf_at s k hlt
        rw [List.getElem?_eq_getElem hk2] at this
        exact Option.some.inj this
      have s0 := val_range (bOf s) (bOf_range s) k (by omega)
      have s1 := val_take_le (bOf s) (bOf_range s) (k + 1)
      rw [val_take _ _ hk2, e0] at s1
      have s2 : val ((bOf s).take k) * 256 + (s[k].toNat : Int) ≤ 9223372036854775807 := Int.le_trans s1 HV.out
      have s3 : 0 ≤ val ((bOf s).take k) := s0.1
      have E0 := hid e0
      clear s0 s1 e0
      go_wp2
      go_round
      case rel =>
        refine ⟨k + 1, by omega, by go_num, ?_⟩
        rw [val_take _ k hk2, E0.out, Int.mul_comm]
      case measure => simp [intOf]; omega
    · have e : k = s.size := by omega
      subst e
      go_wp2
      go_ret
      rw [List.take_of_length_le (by rw [bOf_length]; exact Nat.le_refl _)]
      exact ⟨rfl, rfl⟩
end Go.Proofs.Ytambgimfbdecpaa
