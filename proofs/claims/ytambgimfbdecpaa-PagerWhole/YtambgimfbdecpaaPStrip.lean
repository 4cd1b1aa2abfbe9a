/- What this text holds: a sector under way: numbers and texts that are laid into it. -/
import Derived.Test.YtambgimfbdecpaaPSum
namespace Go.Proofs.Ytambgimfbdecpaa
open Go.RowKit
set_option linter.unusedVariables false

/-- A number's bytes, the highest first. -/
def numB : Nat → Int → List Int
  | 0, _ => []
  | k + 1, n => (n / 256 ^ k % 256) :: numB k n
theorem numB_length (k : Nat) (n : Int) : (numB k n).length = k := by
  induction k with
  | zero => rfl
  | succ k ih => simp [numB, ih]

/-- The cells of a sector under way. -/
def sc (l : List Int) (next : Nat) : List Value := bc l ++ [.int .i64 next]
structure StripAt (w : World) (b : Nat) (l : List Int) (next : Nat) : Prop where
  blk : w.heap[b]? = some (.cells (sc l next).toArray 142 (0, 0))
  len : l.length = 512
theorem StripAt.next_cell {w : World} {b : Nat} {l : List Int} {next : Nat} (h : StripAt w b l next) : w.cell? ⟨b, 512, none⟩ = some (.int .i64 next) := by
  have := h.len
  simp [World.cell?, h.blk, sc, bc_length, this]
theorem StripAt.free {w : World} {b : Nat} {l : List Int} {next : Nat} (h : StripAt w b l next) (k : Nat) : w.frozen? ⟨b, k, none⟩ = false := by
  simp [World.frozen?, h.blk]
theorem StripAt.byte {w : World} {b : Nat} {l : List Int} {next : Nat} (h : StripAt w b l next) (k : Nat) (hk : k < 512) : ∃ v, w.cell? ⟨b, k, none⟩ = some (.int .u8 v) := by
  have hl := h.len
  have hk' : k < l.length := by omega
  refine ⟨l[k], ?_⟩
  have e : (sc l next)[k]? = some (.int .u8 l[k]) := by
    unfold sc
    rw [List.getElem?_append_left (by rw [bc_length]; exact hk'), bc, List.getElem?_map, List.getElem?_eq_getElem hk', Option.map_some]
  simpa [World.cell?, h.blk] using e
theorem StripAt.setByte {w : World} {b : Nat} {l : List Int} {next : Nat} (h : StripAt w b l next) (k : Nat) (hk : k < 512) (x : Int) : StripAt (w.setCell ⟨b, k, none⟩ (.int .u8 x)) b (l.set k x) next := by
  have hl := h.len
  refine ⟨?_, by simp [hl]⟩
  rw [heap_setCell_same _ _ _ _ _ _ h.blk]
  have e : (sc l next).set k (.int .u8 x) = sc (l.set k x) next := by
    unfold sc bc
    rw [List.set_append_left _ _ (by simp [hl, hk]), List.map_set]
  rw [← e]
  simp
theorem StripAt.setNext {w : World} {b : Nat} {l : List Int} {next : Nat} (h : StripAt w b l next) (m : Nat) : StripAt (w.setCell ⟨b, 512, none⟩ (.int .i64 m)) b l m := by
  have hl := h.len
  refine ⟨?_, hl⟩
  rw [heap_setCell_same _ _ _ _ _ _ h.blk]
  have e : (sc l next).set 512 (.int .i64 m) = sc l m := by
    unfold sc
    rw [List.set_append_right _ _ (by simp [bc_length, hl])]
    simp [bc_length, hl]
  rw [← e]
  simp

theorem StripAt.drew {w : World} {b : Nat} {l : List Int} {next : Nat} (h : StripAt w b l next) : StripAt w.drew b l next := ⟨h.blk, h.len⟩

theorem splice_cons (l : List Int) (o : Nat) (x : Int) (m : List Int) (h : o + 1 + m.length ≤ l.length) : (splice l (o + 1) m).set o x = splice l o (x :: m) := by
  unfold splice
  rw [List.set_append_left _ _ (by simp; omega)]
  have e : l.take (o + 1) = l.take o ++ [l[o]] := List.take_succ_eq_append_getElem (by omega)
  rw [e, List.set_append_right _ _ (by simp; omega)]
  simp [Nat.min_eq_left (show o ≤ l.length by omega), show o + 1 + m.length = o + (m.length + 1) by omega]
theorem splice_nil (l : List Int) (o : Nat) : splice l o [] = l := by simp [splice]

theorem wrap_i64 (x : Int) (h0 : -9223372036854775808 ≤ x) (h1 : x ≤ 9223372036854775807) : IntKind.i64.wrap x = x := by simp [IntKind.wrap, IntKind.bits, IntKind.signed]; omega

theorem far_cell {w : World} {b o p : Nat} {v x : Value} (h : w.cell? ⟨b, p, none⟩ = some x) (hne : o ≠ p) : (w.setCell ⟨b, o, none⟩ v).drew.cell? ⟨b, p, none⟩ = some x := by
  show (w.setCell ⟨b, o, none⟩ v).cell? ⟨b, p, none⟩ = some x
  rw [World.cell?_setCell_other _ _ _ _ (fun e => hne (congrArg Addr.off e)), h]

set_option maxRecDepth 100000 in
set_option maxHeartbeats 1000000 in
theorem put_number {w : World} {b : Nat} {l : List Int} {next size : Nat} {n : Int} (h : StripAt w b l next) (hf : next + size ≤ 512) (hs : size ≤ 8) (h0 : 0 ≤ n) (hn : n < 18446744073709551616) :
    Calls Try.prog 88 #[.pointer (some ⟨b, 0, none⟩), .int .i64 size, .int .u64 n] w fun e w' => e = .returned (.tuple #[]) ∧ StripAt w' b (splice l next (numB size n)) (next + size) ∧ Kept [b] w w' := by
  have HL := hid h.len
  have H := hid h
  clear h
  go_enter Try.func88, Try.ntmps88
  go_wp2
  go_loopw [8] (fun i wr => ∃ k : Nat, k ≤ size ∧ i = .int .i64 k ∧ StripAt wr b (splice l (next + size - k) (numB k n)) next ∧ Kept [b] w wr) (fun i _ => size - (intOf i).toNat)
  case atStart => exact ⟨0, by omega, rfl, by rw [numB, splice_nil]; exact H.out, Kept.refl _ _⟩
  case round =>
    obtain ⟨k, hk, rfl, hh, hkp⟩ := hrel
    by_cases hlt : k < size
    · obtain ⟨v0, hc⟩ := hh.byte (next + size - 1 - k) (by omega)
      have hf1 := hh.free (next + size - 1 - k)
      have hc2 := hh.next_cell
      have HH := hid hh
      clear hh
      have hne : next + size - 1 - k ≠ 512 := by omega
      have hx : n / 2 ^ (8 * k) % 256 = n / 256 ^ k % 256 := by
        rw [Int.pow_mul]
        rfl
      have HX := hid hx
      clear hx
      have hw1 : IntKind.i64.wrap ((next : Int) + size) = next + size := wrap_i64 _ (by omega) (by omega)
      have hw2 : IntKind.i64.wrap ((next : Int) + size - 1) = next + size - 1 := wrap_i64 _ (by omega) (by omega)
      have hw3 : IntKind.i64.wrap ((next : Int) + size - 1 - k) = ((next + size - 1 - k : Nat) : Int) := by rw [wrap_i64 _ (by omega) (by omega)]; omega
      have hw4 : IntKind.i64.wrap (8 * (k : Int)) = 8 * k := wrap_i64 _ (by omega) (by omega)
      have hp : (0 : Int) ≤ 8 * k := by omega
      have hi0 : (0 : Int) ≤ ((next + size - 1 - k : Nat) : Int) := by omega
      have hi1 : ((next + size - 1 - k : Nat) : Int) < 512 := by omega
      go_wp2_with fail
      go_region_held3 (fun w' => w'.cell? ⟨b, 512, none⟩ = some (.int .i64 next)) (first | assumption | exact far_cell hc2 hne | go_keep) (fail)
      go_wp2
      go_roundw
      case rel =>
        rw [HX.out]
        refine ⟨k + 1, by omega, by go_num, ?_, (hkp.trans (Kept.setCell [b] _ _ _ (by simp)) (fun _ _ h => h)).trans (Kept.drew [b] _) (fun _ _ h => h)⟩
        have hh := (HH.out.setByte (next + size - 1 - k) (by omega) (n / 256 ^ k % 256)).drew
        rw [show next + size - k = next + size - 1 - k + 1 by omega, splice_cons _ _ _ _ (by have := HL.out; rw [numB_length]; omega), show next + size - 1 - k = next + size - (k + 1) by omega] at hh
        rw [show next + size - 1 - k = next + size - (k + 1) by omega]
        exact hh
      case measure => simp [intOf]; omega
    · have e : k = size := by omega
      subst e
      have hc2 := hh.next_cell
      have hf1 := hh.free 512
      have HH := hid hh
      clear hh
      go_wp2_with fail
      go_end0
      have e1 : next + k - k = next := by omega
      rw [e1] at HH
      exact ⟨rfl, HH.out.setNext (next + k), hkp.trans (Kept.setCell [b] _ _ _ (by simp)) (fun _ _ h => h)⟩
end Go.Proofs.Ytambgimfbdecpaa
