/- What this text holds: what matches a pattern: the program's answer. -/
import Derived.Test.YtkmggkcipgfhdaaDoorM10
namespace Go.Proofs.YtkmggkcipgfhdaaDoor
open Go.RowKit
set_option linter.unusedVariables false
set_option linter.unusedSimpArgs false

/-- What a byte makes of a row. -/
def st1 (F : Nat → Bool) (name : List UInt8) (c : UInt8) : Nat → Bool
  | 0 => false
  | k + 1 => F k && (name.getD k 0 == c)
def stTo (F : Nat → Bool) (name : List UInt8) (c : UInt8) (i : Nat) : Nat → Bool := fun k => if k ≤ i then F k else st1 F name c k
theorem stTo_next {F : Nat → Bool} {name : List UInt8} {c : UInt8} {m : Nat} {v : Bool} (h : st1 F name c (m + 1) = v) (j : Nat) : upd (stTo F name c (m + 1)) (m + 1) v j = stTo F name c m j := by
  by_cases e : j = m + 1
  · subst e
    show (if m + 1 = m + 1 then v else _) = (if m + 1 ≤ m then _ else _)
    rw [if_pos rfl, if_neg (by omega : ¬ m + 1 ≤ m), h]
  · simp only [upd, if_neg e, stTo]
    by_cases h : j ≤ m
    · simp [h, show j ≤ m + 1 by omega]
    · simp [h, show ¬ j ≤ m + 1 by omega]

set_option maxRecDepth 100000 in
set_option maxHeartbeats 1000000 in
theorem step_any {w : World} {B g cc : Nat} {F : Nat → Bool} (name : ByteArray) (hs : name.size ≤ 100000) (h : RAt w B g name.size F) (c : UInt8) :
    Calls Tryd.prog 56 #[.slice (some ⟨g, 0, none⟩) (name.size + 1) cc, .string name, .int .u8 c.toNat] w fun e w' => e = .returned (.tuple #[]) ∧ RAt w' B g name.size (st1 F name.data.toList c) ∧ Below B w w' := by
  have H := hid h
  have hB := h.base
  clear h
  go_enter Tryd.func56, Tryd.ntmps56
  go_wp2_with fail
  go_loopw [6] (fun i wr => ∃ k : Nat, k ≤ name.size ∧ i = .int .i64 k ∧ RAt wr B g name.size (stTo F name.data.toList c k) ∧ Below B w wr) (fun i _ => (intOf i).toNat)
  case atStart => exact ⟨name.size, by omega, rfl, H.out.congr (fun k hk => by simp [stTo, hk]), Below.refl _ _⟩
  case round =>
    obtain ⟨k, hk, rfl, hr, hb⟩ := hrel
    have HR := hid hr
    have HB := hid hb
    clear hr hb
    by_cases h0 : 0 < k
    · obtain ⟨m, rfl⟩ : ∃ m, k = m + 1 := ⟨k - 1, by omega⟩
      have h0' : (0 : Int) < ((m + 1 : Nat) : Int) := by omega
      have hm : m < name.size := by omega
      have hm' : (m : Int) < name.size := by omega
      have hm2 : ((m + 1 : Nat) : Int) < ((name.size + 1 : Nat) : Int) := by omega
      have hm3 : (m : Int) < ((name.size + 1 : Nat) : Int) := by omega
      have hsub : ((m + 1 : Nat) : Int) - 1 = m := by omega
      obtain ⟨c1, _⟩ := HR.out.cell (show m ≤ name.size by omega)
      obtain ⟨c2, f2⟩ := HR.out.cell (show m + 1 ≤ name.size by omega)
      have e1 : stTo F name.data.toList c (m + 1) m = F m := by simp [stTo]
      rw [e1] at c1
      have HG : Hid (name.data.toList.getD m 0 = name[m]) := by
        unfold Hid
        rw [List.getD_eq_getElem?_getD, List.getElem?_eq_getElem (by rw [← Go.Lib.size_eq]; exact hm)]
        rfl
      clear e1 h0
      have HEq : Hid (((name[m].toNat : Int) == (c.toNat : Int)) = (name[m] == c)) := by
        rw [Hid, Bool.eq_iff_iff, beq_iff_eq, beq_iff_eq]
        constructor
        · intro e; exact UInt8.toNat_inj.1 (by omega)
        · intro e; rw [e]
      rcases Bool.eq_false_or_eq_true (F m) with hF | hF
      · have HK : Hid (st1 F name.data.toList c (m + 1) = ((name[m].toNat : Int) == (c.toNat : Int))) := by rw [Hid, st1, HG.out, hF, HEq.out]; simp
        rw [hF] at c1
        clear hF
        go_wp2_with fail
        go_roundw
        case rel => exact ⟨m, by omega, rfl, (HR.out.set (m + 1) _).congr (fun j _ => stTo_next HK.out j), HB.out.setCell hB _⟩
        case measure => simp [intOf]
      · have HK : Hid (st1 F name.data.toList c (m + 1) = false) := by rw [Hid, st1, hF]; rfl
        rw [hF] at c1
        clear hF
        go_wp2_with fail
        go_roundw
        case rel => exact ⟨m, by omega, rfl, (HR.out.set (m + 1) _).congr (fun j _ => stTo_next HK.out j), HB.out.setCell hB _⟩
        case measure => simp [intOf]
    · obtain rfl : k = 0 := by omega
      obtain ⟨c1, f1⟩ := HR.out.cell (show 0 ≤ name.size by omega)
      go_wp2_with fail
      go_end0
      refine ⟨rfl, (HR.out.set 0 false).congr (fun j _ => ?_), HB.out.setCell hB _⟩
      cases j with
      | zero => simp [upd, st1]
      | succ j => simp [upd, stTo]

theorem take_next (name : List UInt8) (k : Nat) (h : k < name.length) : name.take (k + 1) = name.take k ++ [name.getD k 0] := by
  rw [List.take_succ_eq_append_getElem h, List.getD_eq_getElem?_getD, List.getElem?_eq_getElem h]
  rfl
/-- A star's row. -/
theorem sp_row (p name : List UInt8) (c : UInt8) (hc : c = 42 ∨ c = 37) : ∀ k, k ≤ name.length → sp (fun k => mB p (name.take k)) name (c == 37) k = mB (p ++ [c]) (name.take k)
  | 0, _ => by
    simp only [sp, List.take_zero]
    exact mB_eq (Mt.star0 p c hc).symm
  | k + 1, hk => by
    rw [sp, sp_row p name c hc k (by omega), take_next name k (by omega), Bool.eq_iff_iff, mB_true, Mt.star1 p c _ _ hc]
    simp only [Bool.or_eq_true, Bool.and_eq_true, mB_true, Bool.not_eq_true', Bool.and_eq_false_iff]
    constructor
    · rintro (h | ⟨h1, h2⟩)
      · exact .inl h
      · refine .inr ⟨h1, ?_⟩
        rintro ⟨rfl, e⟩
        rcases h2 with h | h
        · simp at h
        · rw [e] at h; simp at h
    · rintro (h | ⟨h1, h2⟩)
      · exact .inl h
      · refine .inr ⟨h1, ?_⟩
        by_cases e : c = 37
        · right
          rw [beq_eq_false_iff_ne]
          exact fun e2 => h2 ⟨e, e2⟩
        · left
          rw [beq_eq_false_iff_ne]
          exact e
/-- A byte's row. -/
theorem st_row (p name : List UInt8) (c : UInt8) (hc : ¬ (c = 42 ∨ c = 37)) : ∀ k, k ≤ name.length → st1 (fun k => mB p (name.take k)) name c k = mB (p ++ [c]) (name.take k)
  | 0, _ => by
    simp only [st1, List.take_zero]
    exact (mB_false.2 (Mt.byte0 p c hc)).symm
  | k + 1, hk => by
    rw [st1, take_next name k (by omega), Bool.eq_iff_iff, mB_true, Mt.byte1 p c _ _ hc]
    simp [mB_true]

theorem Tryd.info4 : (Tryd.prog.info? 4).map (fun i => (i.zero, i.size, i.bytes)) = some (some (.bool false), 1, 1) := by kernel_rfl
theorem made_row (n : Nat) (hn : n ≤ 100000) (w : World) : (Instr.makeSlice 64 (.int .i64 ((n : Int) + 1)) (.int .i64 ((n : Int) + 1))).run Tryd.prog w = .ok (.slice (some ⟨w.heap.size, 0, none⟩) (n + 1) (n + 1)) (w.alloc (.cells (rowC n fun _ => false) 4)) := by
  obtain ⟨i, hi, hz0, hz1, hz2⟩ := info_parts Tryd.info4
  have h := run_make (P := Tryd.prog) w 64 4 i _ Tryd.underlying64 hi hz0 .i64 .i64 (n + 1) (n + 1) (by omega) (by omega) (by rw [hz2]; omega) (by omega)
  rw [h, hz1, show ((n : Int) + 1).toNat = n + 1 by omega]
  have e : madeCells (Value.bool false).cells ((n + 1) * 1) = rowC n fun _ => false := by
    apply Array.toList_inj.1
    have h1 := madeCells_same 1 (n + 1) (.bool false) (by omega)
    have h2 : (Value.bool false).cells = Array.replicate 1 (.bool false) := rfl
    rw [h2, Nat.mul_one, h1]
    simp [rowC, List.map_const']
  rw [e]

set_option maxRecDepth 100000 in
set_option maxHeartbeats 1000000 in
theorem match_any (pat name : ByteArray) (w : World) (h1 : pat.size ≤ 100000) (h2 : name.size ≤ 100000) :
    Calls Tryd.prog 31 #[.string pat, .string name] w fun e w' => e = .returned (.bool (mB pat.data.toList name.data.toList)) ∧ Below w.heap.size w w' := by
  have hmk := made_row name.size h2 w
  have HA : Hid (RAt (w.alloc (.cells (rowC name.size fun _ => false) 4)) w.heap.size w.heap.size name.size fun _ => false) := ⟨heap_alloc_new _ _, Nat.le_refl _⟩
  have HB0 : Hid (Below w.heap.size w (w.alloc (.cells (rowC name.size fun _ => false) 4))) := (Below.refl _ _).alloc (Nat.le_refl _) _
  generalize w.alloc (.cells (rowC name.size fun _ => false) 4) = w1 at hmk HA HB0
  obtain ⟨c0, f0⟩ := HA.out.cell (show 0 ≤ name.size by omega)
  generalize hBe : w.heap.size = B at *
  have HBe := hid hBe
  clear hBe
  go_enter Tryd.func31, Tryd.ntmps31
  go_wp2_with fail
  go_loopw [15] (fun i wr => ∃ k : Nat, k ≤ pat.size ∧ i = .int .i64 k ∧ RAt wr B B name.size (fun j => mB (pat.data.toList.take k) (name.data.toList.take j)) ∧ Below B w wr) (fun i _ => pat.size - (intOf i).toNat)
  case atStart =>
    refine ⟨0, by omega, rfl, (HA.out.set 0 true).congr (fun j hj => ?_), HB0.out.setCell (Nat.le_refl _) _⟩
    by_cases e : j = 0
    · subst e
      exact (mB_true.2 (show Mt [] [] from rfl)).symm
    · simp only [upd, if_neg e]
      refine (mB_false.2 ?_).symm
      intro h
      have h3 : name.data.toList.take j = [] := h
      have := congrArg List.length h3
      rw [List.length_take, ← Go.Lib.size_eq, List.length_nil] at this
      omega
  case round =>
    obtain ⟨k, hk, rfl, hr, hb⟩ := hrel
    have HR := hid hr
    have HB := hid hb
    clear hr hb
    by_cases hlt : k < pat.size
    · have hlt' : (k : Int) < pat.size := by omega
      have HT : Hid (pat.data.toList.take (k + 1) = pat.data.toList.take k ++ [pat[k]]) := by
        rw [Hid, List.take_succ_eq_append_getElem (by rw [← Go.Lib.size_eq]; exact hlt)]
        rfl
      have hls : name.data.toList.length ≤ name.size := by rw [Go.Lib.size_eq]; exact Nat.le_refl _
      have hls2 : Hid (name.size ≤ name.data.toList.length) := by rw [Hid, Go.Lib.size_eq]; exact Nat.le_refl _
      clear hls
      by_cases hs : pat[k] = 42
      · have ha : ((pat[k].toNat : Int) == 42) = true := by rw [hs]; rfl
        have HRow := hid (sp_row (pat.data.toList.take k) name.data.toList 42 (.inl rfl))
        rw [hs] at HT
        clear hs
        go_wp2_with fail
        refine (spread_any name h2 HR.out false).mono ?_
        rintro e w2 ⟨rfl, hr2, hb2⟩
        have HR2 := hid hr2
        have HB2 := hid (HB.out.trans hb2)
        clear hr2 hb2
        go_wp2_with fail
        go_roundw
        case rel => exact ⟨k + 1, by omega, by go_num, HR2.out.congr (fun j hj => by rw [HT.out]; exact HRow.out j (Nat.le_trans hj hls2.out)), HB2.out⟩
        case measure => simp [intOf]; omega
      · have ha : ((pat[k].toNat : Int) == 42) = false := by
          rw [beq_eq_false_iff_ne]
          exact fun e => hs (UInt8.toNat_inj.1 (by show pat[k].toNat = 42; omega))
        by_cases hp : pat[k] = 37
        · have hb : ((pat[k].toNat : Int) == 37) = true := by rw [hp]; rfl
          have HRow := hid (sp_row (pat.data.toList.take k) name.data.toList 37 (.inr rfl))
          rw [hp] at HT
          clear hs hp
          go_wp2_with fail
          refine (spread_any name h2 HR.out true).mono ?_
          rintro e w2 ⟨rfl, hr2, hb2⟩
          have HR2 := hid hr2
          have HB2 := hid (HB.out.trans hb2)
          clear hr2 hb2
          go_wp2_with fail
          go_roundw
          case rel => exact ⟨k + 1, by omega, by go_num, HR2.out.congr (fun j hj => by rw [HT.out]; exact HRow.out j (Nat.le_trans hj hls2.out)), HB2.out⟩
          case measure => simp [intOf]; omega
        · have hb : ((pat[k].toNat : Int) == 37) = false := by
            rw [beq_eq_false_iff_ne]
            exact fun e => hp (UInt8.toNat_inj.1 (by show pat[k].toNat = 37; omega))
          have HRow := hid (st_row (pat.data.toList.take k) name.data.toList pat[k] (by rintro (h | h); exact hs h; exact hp h))
          clear hs hp
          go_wp2_with fail
          refine (step_any name h2 HR.out pat[k]).mono ?_
          rintro e w2 ⟨rfl, hr2, hb2⟩
          have HR2 := hid hr2
          have HB2 := hid (HB.out.trans hb2)
          clear hr2 hb2
          go_wp2_with fail
          go_roundw
          case rel => exact ⟨k + 1, by omega, by go_num, HR2.out.congr (fun j hj => by rw [HT.out]; exact HRow.out j (Nat.le_trans hj hls2.out)), HB2.out⟩
          case measure => simp [intOf]; omega
    · obtain ⟨c1, _⟩ := HR.out.cell (Nat.le_refl name.size)
      rw [List.take_of_length_le (by rw [← Go.Lib.size_eq]; omega), List.take_of_length_le (by rw [← Go.Lib.size_eq]; omega)] at c1
      have hlt2 : (name.size : Int) < ((name.size + 1 : Nat) : Int) := by omega
      go_wp2_with fail
      go_ret
      exact ⟨rfl, HB.out⟩
end Go.Proofs.YtkmggkcipgfhdaaDoor
