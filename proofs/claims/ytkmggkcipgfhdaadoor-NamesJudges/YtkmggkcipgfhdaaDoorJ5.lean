/- What this text holds: a text in capitals, a name as it is kept: the document's answers. -/
import Derived.Test.YtkmggkcipgfhdaaDoorJ4
import Derived.Lib.ConvBytes
namespace Go.Proofs.YtkmggkcipgfhdaaDoor
open Go.RowKit
set_option linter.unusedVariables false
set_option linter.unusedSimpArgs false

/-- Bytes that a conversion made: they lie in their block, and may be written. -/
def UpAt (w : World) (g : Nat) (L : List UInt8) : Prop := ∃ (z : List Value) (lo hi : Nat), L.length ≤ lo ∧ w.heap[g]? = some (.cells (bu L ++ z).toArray 5 (lo, hi))
theorem UpAt.cell {w : World} {g : Nat} {L : List UInt8} (h : UpAt w g L) (k : Nat) (hk : k < L.length) : w.cell? ⟨g, k, none⟩ = some (.int .u8 L[k].toNat) ∧ w.frozen? ⟨g, k, none⟩ = false := by
  obtain ⟨z, lo, hi, hl, hg⟩ := h
  have hb : k < (bu L).length := by rw [bu_length]; exact hk
  constructor
  · simp [World.cell?, hg, List.getElem?_append_left hb]
    simp [bu, hk]
  · simp [World.frozen?, hg]
    intro; omega
theorem UpAt.set {w : World} {g : Nat} {L : List UInt8} (h : UpAt w g L) (k : Nat) (hk : k < L.length) (x : UInt8) : UpAt (w.setCell ⟨g, k, none⟩ (.int .u8 x.toNat)) g (L.set k x) := by
  obtain ⟨z, lo, hi, hl, hg⟩ := h
  refine ⟨z, lo, hi, by rw [List.length_set]; exact hl, ?_⟩
  have hset : (w.setCell ⟨g, k, none⟩ (.int .u8 x.toNat)).heap[g]? = some (.cells ((bu L ++ z).toArray.setIfInBounds k (.int .u8 x.toNat)) 5 (lo, hi)) := by
    have hlt := lt_of_some hg
    have hgg := (Array.getElem?_eq_some_iff.1 hg).2
    simp [World.setCell, Array.getElem?_modify, hg]
  rw [hset]
  have : (bu (L.set k x) ++ z) = (bu L ++ z).set k (.int .u8 x.toNat) := by
    rw [List.set_append_left _ _ (by rw [bu_length]; exact hk)]
    unfold bu
    rw [List.map_set]
  rw [this, List.setIfInBounds_toArray]
theorem UpAt.conv {w : World} {g c : Nat} {L : List UInt8} (h : UpAt w g L) : (convert 42 9 (.slice (some ⟨g, 0, none⟩) L.length c)).run Tryd.prog w = .ok (.string (str L)) w := by
  have := run_convert_bytes_arg w 42 5 Tryd.underlying42 Tryd.underlying5 g 0 L.length c (L.map fun b => (b.toNat : Int)) (by simp) (fun i hi => by
    have := (h.cell i hi).1
    rw [Nat.zero_add, this]
    simp [hi]) 9 Tryd.underlying9
  rw [this]
  have e : strOfNums (L.map fun b => (b.toNat : Int)) = str L := by
    unfold strOfNums str
    rw [List.map_map]
    have : ((fun n : Int => UInt8.ofNat n.toNat) ∘ fun b : UInt8 => (b.toNat : Int)) = id := by funext x; simp
    rw [this, List.map_id]
  rw [e]
theorem to_bytes (s : ByteArray) (w : World) : ∃ W c, (convert 9 42 (.string s)).run Tryd.prog w = .ok (.slice (some ⟨w.heap.size, 0, none⟩) s.size c) W ∧ UpAt W w.heap.size s.data.toList ∧ Below w.heap.size w W := by
  refine ⟨_, _, Go.Lib.run_convert_string_bytes w 9 42 5 s Tryd.underlying9 Tryd.underlying42 Tryd.underlying5, ?_, ?_⟩
  · refine ⟨List.replicate (grownCap w s.size 0 5 - s.size) (.int .u8 0), (Go.Lib.bytesCells w 5 s).size, (Go.Lib.bytesCells w 5 s).size + 1, ?_, ?_⟩
    rotate_left
    · rw [Go.Lib.bytesWorld_at_new]
      congr 2
      unfold Go.Lib.bytesCells bu
      apply Array.toList_inj.1
      simp
    · unfold Go.Lib.bytesCells
      simp
  · exact ⟨rfl, rfl, rfl, by rw [Go.Lib.bytesWorld_size]; omega, fun j hj => Go.Lib.bytesWorld_at_old w 5 s j hj⟩

def big (b : UInt8) : UInt8 := if 97 ≤ b.toNat ∧ b.toNat ≤ 122 then b - 32 else b
theorem big_nat (b : UInt8) : (big b).toNat = bigN b.toNat := by
  unfold big bigN
  by_cases h : 97 ≤ b.toNat ∧ b.toNat ≤ 122
  · rw [if_pos h, if_pos h, UInt8.toNat_sub_of_le]
    · rfl
    · rw [UInt8.le_iff_toNat_le]
      show 32 ≤ _
      omega
  · rw [if_neg h, if_neg h]
theorem inbox_big (l : List UInt8) : inboxB l = decide (l.map big = [73, 78, 66, 79, 88]) := by
  unfold inboxB
  have e : l.map (fun b => bigN b.toNat) = (l.map big).map UInt8.toNat := by
    rw [List.map_map]
    apply List.map_congr_left
    intro b _
    exact (big_nat b).symm
  rw [e, Bool.eq_iff_iff, beq_iff_eq, decide_eq_true_eq]
  constructor
  · intro h
    apply List.map_inj_right (fun a b h => UInt8.toNat_inj.1 h) |>.1
    rw [h]; rfl
  · intro h; rw [h]; rfl
def half (l : List UInt8) (k : Nat) : List UInt8 := (l.take k).map big ++ l.drop k
theorem half_len (l : List UInt8) (k : Nat) : (half l k).length = l.length := by
  unfold half
  rw [List.length_append, List.length_map, List.length_take, List.length_drop]
  omega
theorem half_at (l : List UInt8) (k : Nat) (hk : k < l.length) (hk2 : k < (half l k).length) : (half l k)[k] = l[k] := by
  have : (half l k)[k]? = some l[k] := by
    unfold half
    rw [List.getElem?_append_right (by rw [List.length_map, List.length_take]; omega), List.length_map, List.length_take, Nat.min_eq_left (by omega), Nat.sub_self, List.getElem?_drop, Nat.add_zero, List.getElem?_eq_getElem hk]
  rw [List.getElem?_eq_getElem hk2] at this
  exact Option.some.inj this
theorem half_next (l : List UInt8) (k : Nat) (hk : k < l.length) : half l (k + 1) = (half l k).set k (big l[k]) := by
  unfold half
  rw [List.set_append_right _ _ (by rw [List.length_map, List.length_take]; omega), List.length_map, List.length_take, Nat.min_eq_left (by omega), Nat.sub_self, List.take_succ_eq_append_getElem hk, List.map_append, List.append_assoc]
  congr 1
  rw [List.drop_eq_getElem_cons hk]
  rfl
theorem half_all (l : List UInt8) (k : Nat) (hk : l.length ≤ k) : half l k = l.map big := by
  unfold half
  rw [List.take_of_length_le hk, List.drop_eq_nil_of_le hk, List.append_nil]
theorem set_same (l : List UInt8) (k : Nat) (hk : k < l.length) : l.set k l[k] = l := by simp

set_option maxRecDepth 100000 in
set_option maxHeartbeats 1000000 in
theorem upper_any (s : ByteArray) (w : World) (hs : s.size ≤ 100000) : Calls Tryd.prog 52 #[.string s] w fun e w' => e = .returned (.string (str (s.data.toList.map big))) ∧ Below w.heap.size w w' := by
  obtain ⟨W, c, hcv, hu, hb⟩ := to_bytes s w
  have HU := hid hu
  have HB := hid hb
  have HL := hid (Go.Lib.size_eq s)
  clear hu hb
  go_enter Tryd.func52, Tryd.ntmps52
  go_wp2_with fail
  go_loopw [4] (fun i wr => ∃ k : Nat, k ≤ s.size ∧ i = .int .i64 k ∧ UpAt wr w.heap.size (half s.data.toList k) ∧ Below w.heap.size w wr) (fun i _ => s.size - (intOf i).toNat)
  case atStart => exact ⟨0, by omega, rfl, HU.out, HB.out⟩
  case round =>
    obtain ⟨k, hk, rfl, hr, hb⟩ := hrel
    have HR := hid hr
    have HBr := hid hb
    clear hr hb hcv
    by_cases hlt : k < s.size
    · have hlt' : (k : Int) < s.size := by omega
      have hkl : k < s.data.toList.length := by rw [← HL.out]; exact hlt
      have hkh : k < (half s.data.toList k).length := by rw [half_len]; exact hkl
      obtain ⟨hc, hf⟩ := HR.out.cell k hkh
      rw [half_at _ _ hkl hkh] at hc
      have HX := hid (half_next s.data.toList k hkl)
      have hx8 := (s.data.toList[k]).toNat_lt
      by_cases hlow : 97 ≤ (s.data.toList[k]).toNat ∧ (s.data.toList[k]).toNat ≤ 122
      · have hl1 : ((97 : Int) ≤ (s.data.toList[k]).toNat) := by omega
        have hl2 : (((s.data.toList[k]).toNat : Int) ≤ 122) := by omega
        have hnum : IntKind.u8.wrap (((s.data.toList[k]).toNat : Int) - 32) = ((big s.data.toList[k]).toNat : Int) := by
          rw [big_nat, IntKind.wrap_u8]
          unfold bigN
          rw [if_pos hlow]
          omega
        have HST : Hid (UpAt (wr.setCell ⟨w.heap.size, k, none⟩ (.int .u8 (big s.data.toList[k]).toNat)) w.heap.size (half s.data.toList (k + 1))) := by
          rw [Hid, HX.out]
          exact HR.out.set k hkh _
        clear hlow
        generalize (big s.data.toList[k]).toNat = y at hnum HST
        generalize (s.data.toList[k]).toNat = x at *
        go_wp2_with fail
        go_roundw
        case rel => exact ⟨k + 1, by omega, by go_num, HST.out, HBr.out.setCell (Nat.le_refl _) _⟩
        case measure => simp [intOf]; omega
      · have HK : Hid (half s.data.toList (k + 1) = half s.data.toList k) := by
          rw [Hid, HX.out]
          unfold big
          rw [if_neg hlow]
          have := set_same (half s.data.toList k) k hkh
          rw [half_at _ _ hkl hkh] at this
          exact this
        generalize (s.data.toList[k]).toNat = x at *
        rcases Nat.lt_or_ge x 97 with h1 | h1
        · have h1' : ¬ (97 : Int) ≤ x := by omega
          clear hlow
          go_wp2_with fail
          go_roundw
          case rel => exact ⟨k + 1, by omega, by go_num, by rw [HK.out]; exact HR.out, HBr.out⟩
          case measure => simp [intOf]; omega
        · have h1' : (97 : Int) ≤ x := by omega
          have h2' : ¬ (x : Int) ≤ 122 := by omega
          clear hlow
          go_wp2_with fail
          go_roundw
          case rel => exact ⟨k + 1, by omega, by go_num, by rw [HK.out]; exact HR.out, HBr.out⟩
          case measure => simp [intOf]; omega
    · have HA := hid (half_all s.data.toList k (by rw [← HL.out]; omega))
      have hcv : (convert 42 9 (.slice (some ⟨w.heap.size, 0, none⟩) s.size c)).run Tryd.prog wr = .ok (.string (str (half s.data.toList k))) wr := by
        have := HR.out.conv (c := c)
        rw [half_len, ← HL.out] at this
        exact this
      go_wp2_with fail
      go_ret
      rw [HA.out]
      exact ⟨rfl, HBr.out⟩
end Go.Proofs.YtkmggkcipgfhdaaDoor
