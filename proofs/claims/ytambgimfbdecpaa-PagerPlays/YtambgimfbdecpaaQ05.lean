/- What this text holds: words for bytes that lie in memory, and what keeps them as they were; small moves for a region that leaves its order open. · What this text holds: the sum of bytes. · What this text holds: a sector under way: numbers and texts that are laid into it. -/
import Derived.Test.YtambgimfbdecpaaQ04
import Derived.WalkKit
import Derived.WalkSpells
import Derived.WalkLawsBesides
import Derived.Laws.BytesString
import Derived.Laws.BytesArg
import Derived.Laws.CopyOwn
import Derived.Laws.CopyRow
import Derived.Laws.OwnMore
import Derived.Deep.MidRow
import Derived.Deep.WholeRow
import Derived.Deep.RegionHeld3
import Derived.DataElems
import Derived.Laws.BitsAllLaws
namespace Go.Proofs.Ytambgimfbdecpaa
open Go.RowKit
set_option linter.unusedVariables false

section
variable {P : Program} {ops : Array Oper} {Q : Exit → Act → World → Prop} {md : Region.Mode} {S : World → Prop}

end

section
variable {P : Program} {ops : Array Oper} {Q : Exit → Act → World → Prop} {md : Region.Mode} {S : World → Prop}

end

theorem strOf_size (l : List Int) : (strOf l).size = l.length := by
  have := congrArg List.length (strOf_toList l)
  rw [List.length_map] at this
  exact this
end Go.Proofs.Ytambgimfbdecpaa
namespace Go.Proofs.Ytambgimfbdecpaa
open Go.RowKit
set_option linter.unusedVariables false

/-- The sum of bytes from place k on, as a number. -/
def sumRaw : Nat → List Int → Int
  | _, [] => 0
  | k, x :: l => ((k : Int) + 1) * x + sumRaw (k + 1) l
/-- The sum. -/
def sumL (l : List Int) : Int := sumRaw 0 l % 4294967296

theorem sumRaw_append (l m : List Int) : ∀ k, sumRaw k (l ++ m) = sumRaw k l + sumRaw (k + l.length) m := by
  induction l with
  | nil => intro k; simp [sumRaw]
  | cons x l ih => intro k; simp only [List.cons_append, sumRaw, ih, List.length_cons]; rw [show k + 1 + l.length = k + (l.length + 1) by omega]; omega
theorem sumL_nonneg (l : List Int) : 0 ≤ sumL l := Int.emod_nonneg _ (by decide)
theorem sumL_lt (l : List Int) : sumL l < 4294967296 := Int.emod_lt_of_pos _ (by decide)
theorem sumL_take (l : List Int) (k : Nat) (hk : k < l.length) : sumL (l.take (k + 1)) = (sumL (l.take k) + ((k : Int) + 1) * l[k]) % 4294967296 := by
  unfold sumL
  rw [List.take_succ_eq_append_getElem hk, sumRaw_append]
  simp only [sumRaw, List.length_take, Nat.zero_add, Nat.min_eq_left (Nat.le_of_lt hk), Int.add_zero]
  omega

/-- Bytes lie in memory, from a place on. -/
def BAt (w : World) (a : Option Addr) (l : List Int) : Prop := ∀ j x, l[j]? = some x → ∃ p, a = some p ∧ w.cell? (p.add j) = some (.int .u8 x)

set_option maxRecDepth 100000 in
set_option maxHeartbeats 1000000 in
theorem sum_any {w : World} {a : Option Addr} {l : List Int} {c : Nat} (h : BAt w a l) (hl : l.length ≤ 5000) :
    Calls Try.prog 90 #[.slice a l.length c] w fun e w' => e = .returned (.int .u32 (sumL l)) ∧ w' = w := by
  have H := hid h
  clear h
  go_enter Try.func90, Try.ntmps90
  go_wp2
  go_loop [3, 8] (fun s i => ∃ k : Nat, k ≤ l.length ∧ i = .int .i64 k ∧ s = .int .u32 (sumL (l.take k))) (fun _ i => l.length - (intOf i).toNat)
  case atStart => exact ⟨0, by omega, rfl, rfl⟩
  case round =>
    obtain ⟨k, hk, rfl, rfl⟩ := hrel
    by_cases hlt : k < l.length
    · obtain ⟨p, rfl, hc⟩ := H.out k l[k] (by simp)
      have s0 := sumL_nonneg (l.take k)
      have s1 := sumL_lt (l.take k)
      go_wp2
      go_round
      case rel =>
        refine ⟨k + 1, by omega, by go_num, ?_⟩
        rw [sumL_take _ _ hlt]
        congr 1
        have e1 : l[k] % 4294967296 * ((k : Int) + 1) % 4294967296 = (((k : Int) + 1) * l[k]) % 4294967296 := by rw [Int.mul_emod, Int.emod_emod, ← Int.mul_emod, Int.mul_comm]
        rw [e1]
        omega
      case measure => simp [intOf]; omega
    · have e : k = l.length := by omega
      subst e
      go_wp2
      go_ret
      exact ⟨rfl, rfl⟩

/-- A string's bytes. -/
def bOf (s : ByteArray) : List Int := s.data.toList.map fun b => (b.toNat : Int)
theorem bOf_length (s : ByteArray) : (bOf s).length = s.size := by rw [bOf, List.length_map]; rfl
theorem bOf_at (s : ByteArray) (k : Nat) (hk : k < s.size) : (bOf s)[k]? = some (((s.data[k]'hk).toNat : Nat) : Int) := by
  have hk' : k < s.data.size := hk
  simp only [bOf, List.getElem?_map, Array.getElem?_toList, Array.getElem?_eq_getElem hk', Option.map_some]
theorem bOf_range (s : ByteArray) : ∀ x ∈ bOf s, 0 ≤ x ∧ x < 256 := by
  intro x hx
  simp only [bOf, List.mem_map] at hx
  obtain ⟨b, _, rfl⟩ := hx
  have := b.toNat_lt
  omega

set_option maxRecDepth 100000 in
set_option maxHeartbeats 1000000 in
theorem rsum_any (s : ByteArray) (hs : s.size ≤ 5000) (w : World) :
    Calls Try.prog 100 #[.string s] w fun e w' => e = .returned (.int .u32 (sumL (bOf s))) ∧ w' = w := by
  go_enter Try.func100, Try.ntmps100
  go_wp2
  go_loop [3, 4] (fun s' i => ∃ k : Nat, k ≤ s.size ∧ i = .int .i64 k ∧ s' = .int .u32 (sumL ((bOf s).take k))) (fun _ i => s.size - (intOf i).toNat)
  case atStart => exact ⟨0, by omega, rfl, rfl⟩
  case round =>
    obtain ⟨k, hk, rfl, rfl⟩ := hrel
    by_cases hlt : k < s.size
    · have s0 := sumL_nonneg ((bOf s).take k)
      have s1 := sumL_lt ((bOf s).take k)
      go_wp2
      go_round
      case rel =>
        refine ⟨k + 1, by omega, by go_num, ?_⟩
        have hk2 : k < (bOf s).length := by rw [bOf_length]; exact hlt
        have e0 : (bOf s)[k] = ((s[k].toNat : Nat) : Int) := by
          have := bOf_at s k hlt
          rw [List.getElem?_eq_getElem hk2] at this
          exact Option.some.inj this
        rw [sumL_take _ _ hk2, e0]
        congr 1
        have e1 : ((k : Int) + 1) * ((s[k].toNat : Int) % 4294967296) % 4294967296 = (((k : Int) + 1) * (s[k].toNat : Int)) % 4294967296 := by rw [Int.mul_emod, Int.emod_emod, ← Int.mul_emod]
        rw [e1]
        omega
      case measure => simp [intOf]; omega
    · have e : k = s.size := by omega
      subst e
      go_wp2
      go_ret
      rw [List.take_of_length_le (by rw [bOf_length]; exact Nat.le_refl _)]
      exact ⟨rfl, rfl⟩

/-- The number of some bytes, the highest first. -/
def val (l : List Int) : Int := l.foldl (fun n c => n * 256 + c) 0
theorem val_snoc (l : List Int) (x : Int) : val (l ++ [x]) = val l * 256 + x := by simp [val]
theorem val_take (l : List Int) (k : Nat) (hk : k < l.length) : val (l.take (k + 1)) = val (l.take k) * 256 + l[k] := by
  rw [List.take_succ_eq_append_getElem hk, val_snoc]
/-- Each is a byte. -/
def Byt (l : List Int) : Prop := ∀ x ∈ l, 0 ≤ x ∧ x < 256
theorem Byt.take {l : List Int} (h : Byt l) (k : Nat) : Byt (l.take k) := fun x hx => h x (List.mem_of_mem_take hx)
theorem Byt.drop {l : List Int} (h : Byt l) (k : Nat) : Byt (l.drop k) := fun x hx => h x (List.mem_of_mem_drop hx)
theorem val_range (l : List Int) (h : Byt l) : ∀ k, k ≤ l.length → 0 ≤ val (l.take k) ∧ val (l.take k) < 256 ^ k := by
  intro k
  induction k with
  | zero => intro _; simp [val]
  | succ k ih =>
    intro hk
    have hk' : k < l.length := by omega
    have h1 := ih (by omega)
    have h2 := h l[k] (List.getElem_mem hk')
    rw [val_take l k hk', Int.pow_succ]
    omega

theorem pow7 : ∀ k < 8, (256 : Int) ^ k ≤ 72057594037927936 := by decide
theorem pow_lt {x : Int} (k : Nat) (hk : k < 8) (h : x < 256 ^ k) : x < 72057594037927936 := Int.lt_of_lt_of_le h (pow7 k hk)
theorem or_low (x c : Int) (h0 : 0 ≤ x) (h1 : x < 72057594037927936) (hc : 0 ≤ c ∧ c < 256) : bits .or .u64 (IntKind.u64.wrap (x * 256)) (IntKind.u64.wrap c) = x * 256 + c := by
  have e1 : IntKind.u64.wrap (x * 256) = x * 256 := by simp [IntKind.wrap, IntKind.bits, IntKind.signed]; omega
  have e2 : IntKind.u64.wrap c = c := by simp [IntKind.wrap, IntKind.bits, IntKind.signed]; omega
  rw [e1, e2, u64_or _ _ (by omega) (by omega) hc.1 (by omega)]
  have e3 : (x * 256).toNat = 2 ^ 8 * x.toNat := by omega
  rw [e3, ← Nat.two_pow_add_eq_or_of_lt (by omega)]
  omega

set_option maxRecDepth 100000 in
set_option maxHeartbeats 1000000 in
theorem number_any {w : World} {a : Option Addr} {l : List Int} {n c : Nat} (h : BAt w a l) (hb : Byt l) (hn : l.length = n) (hl : n ≤ 8) :
    Calls Try.prog 95 #[.slice a n c] w fun e w' => e = .returned (.int .u64 (val l)) ∧ w' = w := by
  subst hn
  have H := hid h
  have HB := hid hb
  clear h hb
  go_enter Try.func95, Try.ntmps95
  go_wp2
  go_loop [3, 8] (fun s i => ∃ k : Nat, k ≤ l.length ∧ i = .int .i64 k ∧ s = .int .u64 (val (l.take k))) (fun _ i => l.length - (intOf i).toNat)
  case atStart => exact ⟨0, by omega, rfl, rfl⟩
  case round =>
    obtain ⟨k, hk, rfl, rfl⟩ := hrel
    by_cases hlt : k < l.length
    · obtain ⟨p, rfl, hc⟩ := H.out k l[k] (by simp)
      have s0 := val_range l HB.out k hk
      go_wp2
      go_round
      case rel =>
        refine ⟨k + 1, by omega, by go_num, ?_⟩
        rw [val_take l k hlt, or_low _ _ s0.1 (pow_lt k (by omega) s0.2) (HB.out _ (List.getElem_mem hlt))]
      case measure => simp [intOf]; omega
    · have e : k = l.length := by omega
      subst e
      go_wp2
      go_ret
      exact ⟨rfl, rfl⟩

theorem val_take_le (l : List Int) (h : Byt l) : ∀ k, val (l.take k) ≤ val l := by
  have hx : ∀ m k, k + m = l.length → val (l.take k) ≤ val l := by
    intro m
    induction m with
    | zero => intro k hk; rw [List.take_of_length_le (by omega)]; exact Int.le_refl _
    | succ m ih =>
      intro k hk
      have hk' : k < l.length := by omega
      have h1 := ih (k + 1) (by omega)
      have h2 := h l[k] (List.getElem_mem hk')
      have h3 := val_range l h k (by omega)
      rw [val_take l k hk'] at h1
      omega
  intro k
  by_cases hk : k ≤ l.length
  · exact hx (l.length - k) k (by omega)
  · rw [List.take_of_length_le (by omega)]; exact Int.le_refl _

set_option maxRecDepth 100000 in
set_option maxHeartbeats 1000000 in
theorem rread_any (s : ByteArray) (hs : s.size ≤ 8) (hv : val (bOf s) ≤ 9223372036854775807) (w : World) :
    Calls Try.prog 99 #[.string s] w fun e w' => e = .returned (.int .i64 (val (bOf s))) ∧ w' = w := by
  have HV := hid hv
  clear hv
  go_enter Try.func99, Try.ntmps99
  go_wp2
  go_loop [3, 4] (fun s' i => ∃ k : Nat, k ≤ s.size ∧ i = .int .i64 k ∧ s' = .int .i64 (val ((bOf s).take k))) (fun _ i => s.size - (intOf i).toNat)
  case atStart => exact ⟨0, by omega, rfl, rfl⟩
  case round =>
    obtain ⟨k, hk, rfl, rfl⟩ := hrel
    by_cases hlt : k < s.size
    · have hk2 : k < (bOf s).length := by rw [bOf_length]; exact hlt
      have e0 : (bOf s)[k] = ((s[k].toNat : Nat) : Int) := by
        have := bOf_at s k hlt
        rw [List.getElem?_eq_getElem hk2] at this
        exact Option.some.inj this
      have s0 := val_range (bOf s) (bOf_range s) k (by omega)
      have s1 := val_take_le (bOf s) (bOf_range s) (k + 1)
      rw [val_take _ _ hk2, e0] at s1
      have s2 : val ((bOf s).take k) * 256 + (s[k].toNat : Int) ≤ 9223372036854775807 := Int.le_trans s1 HV.out
      have s3 : 0 ≤ val ((bOf s).take k) := s0.1
      have E0 := hid e0
      clear s0 s1 e0
      go_wp2
      go_round
      case rel =>
        refine ⟨k + 1, by omega, by go_num, ?_⟩
        rw [val_take _ k hk2, E0.out, Int.mul_comm]
      case measure => simp [intOf]; omega
    · have e : k = s.size := by omega
      subst e
      go_wp2
      go_ret
      rw [List.take_of_length_le (by rw [bOf_length]; exact Nat.le_refl _)]
      exact ⟨rfl, rfl⟩
end Go.Proofs.Ytambgimfbdecpaa
namespace Go.Proofs.Ytambgimfbdecpaa
open Go.RowKit
set_option linter.unusedVariables false

/-- A number's bytes, the highest first. -/
def numB : Nat → Int → List Int
  | 0, _ => []
  | k + 1, n => (n / 256 ^ k % 256) :: numB k n
theorem numB_length (k : Nat) (n : Int) : (numB k n).length = k := by
  induction k with
  | zero => rfl
  | succ k ih => simp [numB, ih]

/-- The cells of a sector under way. -/
def sc (l : List Int) (next : Nat) : List Value := bc l ++ [.int .i64 next]
structure StripAt (w : World) (b : Nat) (l : List Int) (next : Nat) : Prop where
  blk : w.heap[b]? = some (.cells (sc l next).toArray 142 (0, 0))
  len : l.length = 512
theorem StripAt.next_cell {w : World} {b : Nat} {l : List Int} {next : Nat} (h : StripAt w b l next) : w.cell? ⟨b, 512, none⟩ = some (.int .i64 next) := by
  have := h.len
  simp [World.cell?, h.blk, sc, bc_length, this]
theorem StripAt.free {w : World} {b : Nat} {l : List Int} {next : Nat} (h : StripAt w b l next) (k : Nat) : w.frozen? ⟨b, k, none⟩ = false := by
  simp [World.frozen?, h.blk]
theorem StripAt.byte {w : World} {b : Nat} {l : List Int} {next : Nat} (h : StripAt w b l next) (k : Nat) (hk : k < 512) : ∃ v, w.cell? ⟨b, k, none⟩ = some (.int .u8 v) := by
  have hl := h.len
  have hk' : k < l.length := by omega
  refine ⟨l[k], ?_⟩
  have e : (sc l next)[k]? = some (.int .u8 l[k]) := by
    unfold sc
    rw [List.getElem?_append_left (by rw [bc_length]; exact hk'), bc, List.getElem?_map, List.getElem?_eq_getElem hk', Option.map_some]
  simpa [World.cell?, h.blk] using e
theorem StripAt.setByte {w : World} {b : Nat} {l : List Int} {next : Nat} (h : StripAt w b l next) (k : Nat) (hk : k < 512) (x : Int) : StripAt (w.setCell ⟨b, k, none⟩ (.int .u8 x)) b (l.set k x) next := by
  have hl := h.len
  refine ⟨?_, by simp [hl]⟩
  rw [heap_setCell_same _ _ _ _ _ _ h.blk]
  have e : (sc l next).set k (.int .u8 x) = sc (l.set k x) next := by
    unfold sc bc
    rw [List.set_append_left _ _ (by simp [hl, hk]), List.map_set]
  rw [← e]
  simp
theorem StripAt.setNext {w : World} {b : Nat} {l : List Int} {next : Nat} (h : StripAt w b l next) (m : Nat) : StripAt (w.setCell ⟨b, 512, none⟩ (.int .i64 m)) b l m := by
  have hl := h.len
  refine ⟨?_, hl⟩
  rw [heap_setCell_same _ _ _ _ _ _ h.blk]
  have e : (sc l next).set 512 (.int .i64 m) = sc l m := by
    unfold sc
    rw [List.set_append_right _ _ (by simp [bc_length, hl])]
    simp [bc_length, hl]
  rw [← e]
  simp

theorem StripAt.drew {w : World} {b : Nat} {l : List Int} {next : Nat} (h : StripAt w b l next) : StripAt w.drew b l next := ⟨h.blk, h.len⟩

theorem splice_cons (l : List Int) (o : Nat) (x : Int) (m : List Int) (h : o + 1 + m.length ≤ l.length) : (splice l (o + 1) m).set o x = splice l o (x :: m) := by
  unfold splice
  rw [List.set_append_left _ _ (by simp; omega)]
  have e : l.take (o + 1) = l.take o ++ [l[o]] := List.take_succ_eq_append_getElem (by omega)
  rw [e, List.set_append_right _ _ (by simp; omega)]
  simp [Nat.min_eq_left (show o ≤ l.length by omega), show o + 1 + m.length = o + (m.length + 1) by omega]
theorem splice_nil (l : List Int) (o : Nat) : splice l o [] = l := by simp [splice]

theorem wrap_i64 (x : Int) (h0 : -9223372036854775808 ≤ x) (h1 : x ≤ 9223372036854775807) : IntKind.i64.wrap x = x := by simp [IntKind.wrap, IntKind.bits, IntKind.signed]; omega

theorem far_cell {w : World} {b o p : Nat} {v x : Value} (h : w.cell? ⟨b, p, none⟩ = some x) (hne : o ≠ p) : (w.setCell ⟨b, o, none⟩ v).drew.cell? ⟨b, p, none⟩ = some x := by
  show (w.setCell ⟨b, o, none⟩ v).cell? ⟨b, p, none⟩ = some x
  rw [World.cell?_setCell_other _ _ _ _ (fun e => hne (congrArg Addr.off e)), h]

set_option maxRecDepth 100000 in
set_option maxHeartbeats 1000000 in
theorem put_number {w : World} {b : Nat} {l : List Int} {next size : Nat} {n : Int} (h : StripAt w b l next) (hf : next + size ≤ 512) (hs : size ≤ 8) (h0 : 0 ≤ n) (hn : n < 18446744073709551616) :
    Calls Try.prog 88 #[.pointer (some ⟨b, 0, none⟩), .int .i64 size, .int .u64 n] w fun e w' => e = .returned (.tuple #[]) ∧ StripAt w' b (splice l next (numB size n)) (next + size) ∧ Kept [b] w w' := by
  have HL := hid h.len
  have H := hid h
  clear h
  go_enter Try.func88, Try.ntmps88
  go_wp2
  go_loopw [8] (fun i wr => ∃ k : Nat, k ≤ size ∧ i = .int .i64 k ∧ StripAt wr b (splice l (next + size - k) (numB k n)) next ∧ Kept [b] w wr) (fun i _ => size - (intOf i).toNat)
  case atStart => exact ⟨0, by omega, rfl, by rw [numB, splice_nil]; exact H.out, Kept.refl _ _⟩
  case round =>
    obtain ⟨k, hk, rfl, hh, hkp⟩ := hrel
    by_cases hlt : k < size
    · obtain ⟨v0, hc⟩ := hh.byte (next + size - 1 - k) (by omega)
      have hf1 := hh.free (next + size - 1 - k)
      have hc2 := hh.next_cell
      have HH := hid hh
      clear hh
      have hne : next + size - 1 - k ≠ 512 := by omega
      have hx : n / 2 ^ (8 * k) % 256 = n / 256 ^ k % 256 := by
        rw [Int.pow_mul]
        rfl
      have HX := hid hx
      clear hx
      have hw1 : IntKind.i64.wrap ((next : Int) + size) = next + size := wrap_i64 _ (by omega) (by omega)
      have hw2 : IntKind.i64.wrap ((next : Int) + size - 1) = next + size - 1 := wrap_i64 _ (by omega) (by omega)
      have hw3 : IntKind.i64.wrap ((next : Int) + size - 1 - k) = ((next + size - 1 - k : Nat) : Int) := by rw [wrap_i64 _ (by omega) (by omega)]; omega
      have hw4 : IntKind.i64.wrap (8 * (k : Int)) = 8 * k := wrap_i64 _ (by omega) (by omega)
      have hp : (0 : Int) ≤ 8 * k := by omega
      have hi0 : (0 : Int) ≤ ((next + size - 1 - k : Nat) : Int) := by omega
      have hi1 : ((next + size - 1 - k : Nat) : Int) < 512 := by omega
      go_wp2_with fail
      go_region_held3 (fun w' => w'.cell? ⟨b, 512, none⟩ = some (.int .i64 next)) (first | assumption | exact far_cell hc2 hne | go_keep) (fail)
      go_wp2
      go_roundw
      case rel =>
        rw [HX.out]
        refine ⟨k + 1, by omega, by go_num, ?_, (hkp.trans (Kept.setCell [b] _ _ _ (by simp)) (fun _ _ h => h)).trans (Kept.drew [b] _) (fun _ _ h => h)⟩
        have hh := (HH.out.setByte (next + size - 1 - k) (by omega) (n / 256 ^ k % 256)).drew
        rw [show next + size - k = next + size - 1 - k + 1 by omega, splice_cons _ _ _ _ (by have := HL.out; rw [numB_length]; omega), show next + size - 1 - k = next + size - (k + 1) by omega] at hh
        rw [show next + size - 1 - k = next + size - (k + 1) by omega]
        exact hh
      case measure => simp [intOf]; omega
    · have e : k = size := by omega
      subst e
      have hc2 := hh.next_cell
      have hf1 := hh.free 512
      have HH := hid hh
      clear hh
      go_wp2_with fail
      go_end0
      have e1 : next + k - k = next := by omega
      rw [e1] at HH
      exact ⟨rfl, HH.out.setNext (next + k), hkp.trans (Kept.setCell [b] _ _ _ (by simp)) (fun _ _ h => h)⟩
end Go.Proofs.Ytambgimfbdecpaa
