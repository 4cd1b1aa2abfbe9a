/- What this text holds: bytes that a conversion made, written in place; the document's Lower. -/
import Derived.Test.YtnjdgbbdjkhpoaaDoorV7
import Derived.Lib.ConvBytes
import Derived.Laws.BytesArg
namespace Go.Proofs.YtnjdgbbdjkhpoaaDoor
open Go.RowKit
set_option linter.unusedVariables false
set_option linter.unusedSimpArgs false

/-- Cells of bytes. -/
def bu (l : List UInt8) : List Value := l.map fun b => .int .u8 b.toNat
theorem bu_length (l : List UInt8) : (bu l).length = l.length := by simp [bu]
/-- Bytes that a conversion made: they lie in their block, and may be written. -/
def UpAt (w : World) (g : Nat) (L : List UInt8) : Prop := ∃ (z : List Value) (lo hi : Nat), L.length ≤ lo ∧ w.heap[g]? = some (.cells (bu L ++ z).toArray 5 (lo, hi))
theorem UpAt.cell {w : World} {g : Nat} {L : List UInt8} (h : UpAt w g L) (k : Nat) (hk : k < L.length) : w.cell? ⟨g, k, none⟩ = some (.int .u8 L[k].toNat) ∧ w.frozen? ⟨g, k, none⟩ = false := by
  obtain ⟨z, lo, hi, hl, hg⟩ := h
  have hb : k < (bu L).length := by rw [bu_length]; exact hk
  constructor
  · simp [World.cell?, hg, List.getElem?_append_left hb]
    simp [bu, hk]
  · simp [World.frozen?, hg]
    intro; omega
theorem UpAt.set {w : World} {g : Nat} {L : List UInt8} (h : UpAt w g L) (k : Nat) (hk : k < L.length) (x : UInt8) : UpAt (w.setCell ⟨g, k, none⟩ (.int .u8 x.toNat)) g (L.set k x) := by
  obtain ⟨z, lo, hi, hl, hg⟩ := h
  refine ⟨z, lo, hi, by rw [List.length_set]; exact hl, ?_⟩
  have hset : (w.setCell ⟨g, k, none⟩ (.int .u8 x.toNat)).heap[g]? = some (.cells ((bu L ++ z).toArray.setIfInBounds k (.int .u8 x.toNat)) 5 (lo, hi)) := by
    have hlt := lt_of_some hg
    have hgg := (Array.getElem?_eq_some_iff.1 hg).2
    simp [World.setCell, Array.getElem?_modify, hg]
  rw [hset]
  have : (bu (L.set k x) ++ z) = (bu L ++ z).set k (.int .u8 x.toNat) := by
    rw [List.set_append_left _ _ (by rw [bu_length]; exact hk)]
    unfold bu
    rw [List.map_set]
  rw [this, List.setIfInBounds_toArray]
theorem UpAt.later {w w' : World} {g : Nat} {L : List UInt8} (h : UpAt w g L) (hb : w'.heap[g]? = w.heap[g]?) : UpAt w' g L := by
  obtain ⟨z, lo, hi, hl, hg⟩ := h
  exact ⟨z, lo, hi, hl, hb.trans hg⟩
theorem UpAt.conv {w : World} {g c : Nat} {L : List UInt8} (h : UpAt w g L) : (convert 41 9 (.slice (some ⟨g, 0, none⟩) L.length c)).run Tryd.prog w = .ok (.string (str L)) w := by
  have := run_convert_bytes_arg w 41 5 Tryd.underlying41 Tryd.underlying5 g 0 L.length c (L.map fun b => (b.toNat : Int)) (by simp) (fun i hi => by
    have := (h.cell i hi).1
    rw [Nat.zero_add, this]
    simp [hi]) 9 Tryd.underlying9
  rw [this]
  have e : strOfNums (L.map fun b => (b.toNat : Int)) = str L := by
    unfold strOfNums str
    rw [List.map_map]
    have : ((fun n : Int => UInt8.ofNat n.toNat) ∘ fun b : UInt8 => (b.toNat : Int)) = id := by funext x; simp
    rw [this, List.map_id]
  rw [e]
theorem to_bytes (s : ByteArray) (w : World) : ∃ W c, (convert 9 41 (.string s)).run Tryd.prog w = .ok (.slice (some ⟨w.heap.size, 0, none⟩) s.size c) W ∧ UpAt W w.heap.size s.data.toList ∧ Below w.heap.size w W := by
  refine ⟨_, _, Go.Lib.run_convert_string_bytes w 9 41 5 s Tryd.underlying9 Tryd.underlying41 Tryd.underlying5, ?_, ?_⟩
  · refine ⟨List.replicate (grownCap w s.size 0 5 - s.size) (.int .u8 0), (Go.Lib.bytesCells w 5 s).size, (Go.Lib.bytesCells w 5 s).size + 1, ?_, ?_⟩
    rotate_left
    · rw [Go.Lib.bytesWorld_at_new]
      congr 2
      unfold Go.Lib.bytesCells bu
      apply Array.toList_inj.1
      simp
    · unfold Go.Lib.bytesCells
      simp
  · exact ⟨rfl, rfl, rfl, by rw [Go.Lib.bytesWorld_size]; omega, fun j hj => Go.Lib.bytesWorld_at_old w 5 s j hj⟩

/-- The first k bytes turned, the rest as it was. -/
def half (f : Nat → UInt8 → UInt8) (l : List UInt8) (k : Nat) : List UInt8 := (l.take k).mapIdx f ++ l.drop k
theorem half_len (f : Nat → UInt8 → UInt8) (l : List UInt8) (k : Nat) : (half f l k).length = l.length := by
  unfold half
  rw [List.length_append, List.length_mapIdx, List.length_take, List.length_drop]
  omega
theorem half_at (f : Nat → UInt8 → UInt8) (l : List UInt8) (k : Nat) (hk : k < l.length) (hk2 : k < (half f l k).length) : (half f l k)[k] = l[k] := by
  have : (half f l k)[k]? = some l[k] := by
    unfold half
    rw [List.getElem?_append_right (by rw [List.length_mapIdx, List.length_take]; omega), List.length_mapIdx, List.length_take, Nat.min_eq_left (by omega), Nat.sub_self, List.getElem?_drop, Nat.add_zero, List.getElem?_eq_getElem hk]
  rw [List.getElem?_eq_getElem hk2] at this
  exact Option.some.inj this
theorem half_next (f : Nat → UInt8 → UInt8) (l : List UInt8) (k : Nat) (hk : k < l.length) : half f l (k + 1) = (half f l k).set k (f k l[k]) := by
  unfold half
  rw [List.set_append_right _ _ (by rw [List.length_mapIdx, List.length_take]; omega), List.length_mapIdx, List.length_take, Nat.min_eq_left (by omega), Nat.sub_self, List.take_succ_eq_append_getElem hk, List.mapIdx_append, List.append_assoc]
  congr 1
  have e : l.drop k = l[k] :: l.drop (k + 1) := List.drop_eq_getElem_cons hk
  rw [e, List.set_cons_zero]
  show f (0 + (l.take k).length) l[k] :: l.drop (k + 1) = _
  rw [List.length_take, Nat.min_eq_left (Nat.le_of_lt hk), Nat.zero_add]
theorem half_all (f : Nat → UInt8 → UInt8) (l : List UInt8) (k : Nat) (hk : l.length ≤ k) : half f l k = l.mapIdx f := by
  unfold half
  rw [List.take_of_length_le hk, List.drop_eq_nil_of_le hk, List.append_nil]
theorem half_same (f : Nat → UInt8 → UInt8) (l : List UInt8) (k : Nat) (hk : k < l.length) (h : f k l[k] = l[k]) : half f l (k + 1) = half f l k := by
  rw [half_next f l k hk, h]
  have hk2 : k < (half f l k).length := by rw [half_len]; exact hk
  have := half_at f l k hk hk2
  rw [← this]
  simp
theorem low_idx (l : Bs) : l.mapIdx (fun _ c => lowB c) = low l := by
  unfold low
  apply List.ext_getElem
  · simp
  · intro i h1 h2
    simp

set_option maxRecDepth 100000 in
set_option maxHeartbeats 1000000 in
theorem rlower_any (l : Bs) (w : World) (hs : l.length ≤ 10000000) : Calls Tryd.prog 54 #[.string (str l)] w fun e w' => e = .returned (.string (str (low l))) ∧ Below w.heap.size w w' := by
  obtain ⟨W, c, hcv, hu, hb⟩ := to_bytes (str l) w
  rw [str_data] at hu
  rw [str_size] at hcv
  have HU := hid hu
  have HB := hid hb
  clear hu hb
  go_enter Tryd.func54, Tryd.ntmps54
  go_wp2_with fail
  go_loopw [4] (fun i wr => ∃ k : Nat, k ≤ l.length ∧ i = .int .i64 k ∧ UpAt wr w.heap.size (half (fun _ c => lowB c) l k) ∧ Below w.heap.size w wr) (fun i _ => l.length - (intOf i).toNat)
  case atStart => exact ⟨0, by omega, rfl, HU.out, HB.out⟩
  case round =>
    obtain ⟨k, hk, rfl, hr, hb⟩ := hrel
    have HR := hid hr
    have HBr := hid hb
    clear hr hb hcv
    by_cases hlt : k < l.length
    · have hlt' : (k : Int) < l.length := by omega
      have hkh : k < (half (fun _ c => lowB c) l k).length := by rw [half_len]; exact hlt
      obtain ⟨hc, hf⟩ := HR.out.cell k hkh
      rw [half_at _ _ _ hlt hkh] at hc
      have h8 := l[k].toNat_lt
      by_cases hup : 65 ≤ l[k].toNat ∧ l[k].toNat ≤ 90
      · have e1 := lowB_up hup.1 hup.2
        have HST : Hid (UpAt (wr.setCell ⟨w.heap.size, k, none⟩ (.int .u8 ((l[k].toNat : Int) + 32))) w.heap.size (half (fun _ c => lowB c) l (k + 1))) := by
          rw [Hid, half_next _ l k hlt, show (l[k].toNat : Int) + 32 = (lowB l[k]).toNat by rw [e1]; omega]
          exact HR.out.set k hkh _
        have u1 : (65 : Int) ≤ l[k].toNat := by omega
        have u2 : (l[k].toNat : Int) ≤ 90 := by omega
        clear hup e1
        generalize (l[k]).toNat = x at *
        go_wp2_with fail
        go_roundw
        case rel => exact ⟨k + 1, by omega, by go_num, HST.out, HBr.out.setCell (Nat.le_refl _) _⟩
        case measure => simp [intOf]; omega
      · have HST : Hid (UpAt wr w.heap.size (half (fun _ c => lowB c) l (k + 1))) := by
          rw [Hid, half_same _ l k hlt (lowB_no (by omega))]
          exact HR.out
        by_cases hlo : 65 ≤ l[k].toNat
        · have u1 : (65 : Int) ≤ l[k].toNat := by omega
          have u2 : ¬ (l[k].toNat : Int) ≤ 90 := by omega
          clear hup
          generalize (l[k]).toNat = x at *
          go_wp2_with fail
          go_roundw
          case rel => exact ⟨k + 1, by omega, by go_num, HST.out, HBr.out⟩
          case measure => simp [intOf]; omega
        · have u1 : ¬ (65 : Int) ≤ l[k].toNat := by omega
          clear hup
          generalize (l[k]).toNat = x at *
          go_wp2_with fail
          go_roundw
          case rel => exact ⟨k + 1, by omega, by go_num, HST.out, HBr.out⟩
          case measure => simp [intOf]; omega
    · have HA : Hid (half (fun _ c => lowB c) l k = low l) := by unfold Hid; rw [half_all _ l k (by omega), low_idx]
      have hcv : (convert 41 9 (.slice (some ⟨w.heap.size, 0, none⟩) l.length c)).run Tryd.prog wr = .ok (.string (str (half (fun _ c => lowB c) l k))) wr := by
        have := HR.out.conv (c := c)
        rw [half_len] at this
        exact this
      go_wp2_with fail
      go_ret
      rw [HA.out]
      exact ⟨rfl, HBr.out⟩
end Go.Proofs.YtnjdgbbdjkhpoaaDoor
