/- What this text holds: small letters; bytes as the letters with their numbers. -/
import Derived.Test.YtaniljfjmbifnaaGreatDoorWM5
import Derived.Lib.ConvBytes
namespace Go.Proofs.YtaniljfjmbifnaaGreatDoor.W
open Go.RowKit
set_option linter.unusedVariables false
set_option linter.unusedSimpArgs false

/-- Bytes that a conversion made: they lie in their block, and may be written. -/
def UpAt (w : World) (g : Nat) (L : List UInt8) : Prop := ∃ (z : List Value) (lo hi : Nat), L.length ≤ lo ∧ w.heap[g]? = some (.cells (bu L ++ z).toArray 5 (lo, hi))
theorem UpAt.cell {w : World} {g : Nat} {L : List UInt8} (h : UpAt w g L) (k : Nat) (hk : k < L.length) : w.cell? ⟨g, k, none⟩ = some (.int .u8 L[k].toNat) ∧ w.frozen? ⟨g, k, none⟩ = false := by
  obtain ⟨z, lo, hi, hl, hg⟩ := h
  have hb : k < (bu L).length := by rw [bu_length]; exact hk
  constructor
  · simp [World.cell?, hg, List.getElem?_append_left hb]
    simp [bu, hk]
  · simp [World.frozen?, hg]
    intro; omega
theorem UpAt.set {w : World} {g : Nat} {L : List UInt8} (h : UpAt w g L) (k : Nat) (hk : k < L.length) (x : UInt8) : UpAt (w.setCell ⟨g, k, none⟩ (.int .u8 x.toNat)) g (L.set k x) := by
  obtain ⟨z, lo, hi, hl, hg⟩ := h
  refine ⟨z, lo, hi, by rw [List.length_set]; exact hl, ?_⟩
  have hset : (w.setCell ⟨g, k, none⟩ (.int .u8 x.toNat)).heap[g]? = some (.cells ((bu L ++ z).toArray.setIfInBounds k (.int .u8 x.toNat)) 5 (lo, hi)) := by
    have hlt := lt_of_some hg
    have hgg := (Array.getElem?_eq_some_iff.1 hg).2
    simp [World.setCell, Array.getElem?_modify, hg]
  rw [hset]
  have : (bu (L.set k x) ++ z) = (bu L ++ z).set k (.int .u8 x.toNat) := by
    rw [List.set_append_left _ _ (by rw [bu_length]; exact hk)]
    unfold bu
    rw [List.map_set]
  rw [this, List.setIfInBounds_toArray]
theorem UpAt.conv {w : World} {g c : Nat} {L : List UInt8} (h : UpAt w g L) : (convert 57 9 (.slice (some ⟨g, 0, none⟩) L.length c)).run Tryz.prog w = .ok (.string (str L)) w := by
  have := run_convert_bytes_arg w 57 5 Tryz.underlying57 Tryz.underlying5 g 0 L.length c (L.map fun b => (b.toNat : Int)) (by simp) (fun i hi => by
    have := (h.cell i hi).1
    rw [Nat.zero_add, this]
    simp [hi]) 9 Tryz.underlying9
  rw [this]
  have e : strOfNums (L.map fun b => (b.toNat : Int)) = str L := by
    unfold strOfNums str
    rw [List.map_map]
    have : ((fun n : Int => UInt8.ofNat n.toNat) ∘ fun b : UInt8 => (b.toNat : Int)) = id := by funext x; simp
    rw [this, List.map_id]
  rw [e]
theorem to_bytes (s : ByteArray) (w : World) : ∃ W c, (convert 9 57 (.string s)).run Tryz.prog w = .ok (.slice (some ⟨w.heap.size, 0, none⟩) s.size c) W ∧ UpAt W w.heap.size s.data.toList ∧ Below w.heap.size w W := by
  refine ⟨_, _, Go.Lib.run_convert_string_bytes w 9 57 5 s Tryz.underlying9 Tryz.underlying57 Tryz.underlying5, ?_, ?_⟩
  · refine ⟨List.replicate (grownCap w s.size 0 5 - s.size) (.int .u8 0), (Go.Lib.bytesCells w 5 s).size, (Go.Lib.bytesCells w 5 s).size + 1, ?_, ?_⟩
    rotate_left
    · rw [Go.Lib.bytesWorld_at_new]
      congr 2
      unfold Go.Lib.bytesCells bu
      apply Array.toList_inj.1
      simp
    · unfold Go.Lib.bytesCells
      simp
  · exact ⟨rfl, rfl, rfl, by rw [Go.Lib.bytesWorld_size]; omega, fun j hj => Go.Lib.bytesWorld_at_old w 5 s j hj⟩

def half (l : List UInt8) (k : Nat) : List UInt8 := (l.take k).map small ++ l.drop k
theorem half_len (l : List UInt8) (k : Nat) : (half l k).length = l.length := by
  unfold half
  rw [List.length_append, List.length_map, List.length_take, List.length_drop]
  omega
theorem half_at (l : List UInt8) (k : Nat) (hk : k < l.length) (hk2 : k < (half l k).length) : (half l k)[k] = l[k] := by
  have : (half l k)[k]? = some l[k] := by
    unfold half
    rw [List.getElem?_append_right (by rw [List.length_map, List.length_take]; omega), List.length_map, List.length_take, Nat.min_eq_left (by omega), Nat.sub_self, List.getElem?_drop, Nat.add_zero, List.getElem?_eq_getElem hk]
  rw [List.getElem?_eq_getElem hk2] at this
  exact Option.some.inj this
theorem half_next (l : List UInt8) (k : Nat) (hk : k < l.length) : half l (k + 1) = (half l k).set k (small l[k]) := by
  unfold half
  rw [List.set_append_right _ _ (by rw [List.length_map, List.length_take]; omega), List.length_map, List.length_take, Nat.min_eq_left (by omega), Nat.sub_self, List.take_succ_eq_append_getElem hk, List.map_append, List.append_assoc]
  congr 1
  rw [List.drop_eq_getElem_cons hk]
  rfl
theorem half_all (l : List UInt8) (k : Nat) (hk : l.length ≤ k) : half l k = l.map small := by
  unfold half
  rw [List.take_of_length_le hk, List.drop_eq_nil_of_le hk, List.append_nil]
theorem set_same (l : List UInt8) (k : Nat) (hk : k < l.length) : l.set k l[k] = l := by simp


set_option maxRecDepth 100000 in
set_option maxHeartbeats 1000000 in
theorem lower_any (l : Bs) (w : World) (hs : l.length ≤ 10000000) : Calls Tryz.prog 20 #[.string (str l)] w fun e w' => e = .returned (.string (str (low l))) ∧ Below w.heap.size w w' := by
  obtain ⟨W, c, hcv, hu, hb⟩ := to_bytes (str l) w
  rw [str_data] at hu
  rw [str_size] at hcv
  have HU := hid hu
  have HB := hid hb
  clear hu hb
  go_enter Tryz.func20, Tryz.ntmps20
  go_wp2_with fail
  go_loopw [10] (fun i wr => ∃ k : Nat, k ≤ l.length ∧ i = .int .i64 k ∧ UpAt wr w.heap.size (half l k) ∧ Below w.heap.size w wr) (fun i _ => l.length - (intOf i).toNat)
  case atStart => exact ⟨0, by omega, rfl, HU.out, HB.out⟩
  case round =>
    obtain ⟨k, hk, rfl, hr, hb⟩ := hrel
    have HR := hid hr
    have HBr := hid hb
    clear hr hb hcv
    by_cases hlt : k < l.length
    · have hlt' : (k : Int) < l.length := by omega
      have hkh : k < (half l k).length := by rw [half_len]; exact hlt
      obtain ⟨hc, hf⟩ := HR.out.cell k hkh
      rw [half_at _ _ hlt hkh] at hc
      have HST : Hid (UpAt (wr.setCell ⟨w.heap.size, k, none⟩ (.int .u8 (small l[k]).toNat)) w.heap.size (half l (k + 1))) := by
        rw [Hid, half_next l k hlt]
        exact HR.out.set k hkh _
      have HC := hid (small_any l[k] wr)
      generalize (small l[k]).toNat = y at HST HC
      generalize (l[k]).toNat = x at *
      go_wp2_with fail
      refine HC.out.mono ?_
      rintro e w2 ⟨rfl, rfl⟩
      go_wp2_with fail
      go_roundw
      case rel => exact ⟨k + 1, by omega, by go_num, HST.out, HBr.out.setCell (Nat.le_refl _) _⟩
      case measure => simp [intOf]; omega
    · have HA := hid (half_all l k (by omega))
      have hcv : (convert 57 9 (.slice (some ⟨w.heap.size, 0, none⟩) l.length c)).run Tryz.prog wr = .ok (.string (str (half l k))) wr := by
        have := HR.out.conv (c := c)
        rw [half_len] at this
        exact this
      go_wp2_with fail
      go_ret
      rw [HA.out]
      exact ⟨rfl, HBr.out⟩

theorem latin_next (l : Bs) (k : Nat) (hk : k < l.length) : latin (l.take (k + 1)) = latin (l.take k) ++ Go.Lib.encodeRune l[k].toNat := by
  unfold latin
  rw [List.take_succ_eq_append_getElem hk, List.flatMap_append]
  simp

set_option maxRecDepth 100000 in
set_option maxHeartbeats 1000000 in
theorem latin_any (l : Bs) (w : World) (hs : l.length ≤ 10000000) : Calls Tryz.prog 157 #[.string (str l)] w fun e w' => e = .returned (.string (str (latin l))) ∧ Below w.heap.size w w' := by
  have hsz := str_size l
  have HI : Hid (Go.Lib.IsBuilderF 131 5 w.heap.size w.heap.size (Go.Lib.byteCells (latin (l.take 0))) (w.alloc (.cells #[.pointer none, .slice none 0 0] 131))) := by
    left
    refine ⟨Nat.le_refl _, .slice none 0 0, heap_alloc_new _ _, ?_, by simp [Value.ownBlock]⟩
    exact World.ownsRowF_of ⟨by simp [Go.Lib.byteCells, latin], .inl ⟨rfl, by simp [Go.Lib.byteCells, latin]⟩⟩
  have HB0 : Hid (Below w.heap.size w (w.alloc (.cells #[.pointer none, .slice none 0 0] 131))) := (Below.refl _ _).alloc (Nat.le_refl _) _
  go_enter Tryz.func157, Tryz.ntmps157
  go_wp2_with fail
  go_loopw [7] (fun i wr => ∃ k : Nat, k ≤ l.length ∧ i = .int .i64 k ∧ Go.Lib.IsBuilderF 131 5 w.heap.size w.heap.size (Go.Lib.byteCells (latin (l.take k))) wr ∧ Below w.heap.size w wr) (fun i _ => l.length - (intOf i).toNat)
  case atStart => exact ⟨0, by omega, rfl, HI.out, HB0.out⟩
  case round =>
    obtain ⟨k, hk, rfl, hr, hb⟩ := hrel
    have HR := hid hr
    have HBr := hid hb
    have hln := latin_len (l.take k)
    rw [List.length_take] at hln
    clear hr hb
    by_cases hlt : k < l.length
    · have hlt' : (k : Int) < l.length := by omega
      have hlts : k < (str l).size := by omega
      have h8 := l[k].toNat_lt
      have g : ((str l)[k]'hlts) = l[k] := rfl
      have HN := hid (latin_next l k hlt)
      have HC : Hid (Calls Tryz.prog 200 #[.pointer (some ⟨w.heap.size, 0, none⟩), .int .i32 (l[k].toNat : Int)] wr fun e w' => (∃ v, e = .returned v) ∧ Go.Lib.IsBuilderF 131 5 w.heap.size w.heap.size (Go.Lib.byteCells (latin (l.take (k + 1)))) w' ∧ Below w.heap.size wr w') := by
        refine (Tryz.Builder_WriteRune_k w.heap.size w.heap.size _ l[k].toNat (by omega) (by omega) wr HR.out (by rw [Go.Lib.byteCells_length]; omega) HBr.out.size).mono ?_
        rintro e w' ⟨rfl, h1, h2, _⟩
        refine ⟨⟨_, rfl⟩, ?_, h2⟩
        rw [HN.out, Go.Lib.byteCells_append, Go.Lib.byteCells_encodeRune]
        exact .inr h1
      have hw32 : wrap32 (l[k].toNat : Int) = (l[k].toNat : Int) := by unfold wrap32; omega
      clear HN
      go_wp2_with fail
      refine HC.out.mono ?_
      rintro e w2 ⟨⟨v, rfl⟩, h2, hb2⟩
      have H2 := hid h2
      have HB2 := hid hb2
      clear h2 hb2
      go_wp2_with fail
      go_roundw
      case rel => exact ⟨k + 1, by omega, by go_num, H2.out, HBr.out.trans HB2.out⟩
      case measure => simp [intOf]; omega
    · have hlt' : ¬ (k : Int) < l.length := by omega
      have HA : Hid (l.take k = l) := List.take_of_length_le (by omega)
      go_wp2_with fail
      refine (Tryz.Builder_String_any_k w.heap.size w.heap.size _ wr HR.out HBr.out.size).mono ?_
      rintro e w2 ⟨rfl, _, hb2, _⟩
      have HB2 := hid hb2
      clear hb2
      go_wp2_with fail
      go_ret
      rw [HA.out]
      exact ⟨rfl, HBr.out.trans HB2.out⟩
end Go.Proofs.YtaniljfjmbifnaaGreatDoor.W
