/- What this text holds: a run in base 64, as the document writes it. -/
import Derived.Test.YtkmggkcipgfhdaaDoorE1
namespace Go.Proofs.YtkmggkcipgfhdaaDoor
open Go.RowKit
set_option linter.unusedVariables false
set_option linter.unusedSimpArgs false

theorem bitsN_get (k v : Nat) : ∀ i, i < k → (bitsN k v)[i]? = some (v / 2 ^ (k - 1 - i) % 2) := by
  induction k with
  | zero => intro i h; omega
  | succ k ih =>
    intro i h
    cases i with
    | zero => simp [bitsN]
    | succ i =>
      rw [bitsN, List.getElem?_cons_succ, ih i (by omega)]
      congr 4
      omega
theorem bits16_next (u m : Nat) (h : m < 16) : (bitsN 16 u).take (m + 1) = (bitsN 16 u).take m ++ [u / 2 ^ (15 - m) % 2] := by
  have hl : m < (bitsN 16 u).length := by rw [bitsN_length]; exact h
  rw [List.take_succ_eq_append_getElem hl]
  congr 2
  have := bitsN_get 16 u m h
  rw [List.getElem?_eq_getElem hl] at this
  have e := Option.some.inj this
  rw [e]
theorem and1_i64 (n : Nat) (hn : n < 4294967296) : Go.bits .and .i64 (n : Int) 1 = ((n % 2 : Nat) : Int) := by
  have h1 : (BitVec.ofInt 64 (n : Int)).toNat = n := by
    rw [BitVec.ofInt_natCast, BitVec.toNat_ofNat]; exact Nat.mod_eq_of_lt (by omega)
  show IntKind.i64.wrap ((BitVec.ofInt 64 (n : Int) &&& BitVec.ofInt 64 1).toNat : Int) = _
  rw [BitVec.toNat_and, h1, show (BitVec.ofInt 64 1).toNat = 2 ^ 1 - 1 by decide, Nat.and_two_pow_sub_one_eq_mod, IntKind.wrap_i64]
  omega
theorem ubits_next (l : List Nat) (k : Nat) (h : k < l.length) : ubits (l.take (k + 1)) = ubits (l.take k) ++ bitsN 16 l[k] := by
  rw [List.take_succ_eq_append_getElem h, ubits_append]
  congr 1

theorem IO.slice3 {w : World} {B : Nat} {v : Value} {l : List Nat} (h : IO w B v l) : ∃ a n c, v = .slice a n c ∧ n = l.length := by
  obtain ⟨a, c, h⟩ := h.slice
  exact ⟨a, _, c, h, rfl⟩
theorem IL.cells {w : World} {a : Option Addr} {n c : Nat} {l : List Nat} (h : IL w (.slice a n c) l) (hl : 0 < l.length) : ∃ g o, a = some ⟨g, o, none⟩ ∧ ∀ (j : Nat) (x : Nat), l[j]? = some x → w.cell? ⟨g, o + j, none⟩ = some (.int .i64 (x : Int)) := by
  obtain ⟨a', c', e, h⟩ := h
  cases e
  rcases h with h | ⟨g, o, rfl, h⟩
  · subst h; simp at hl
  · exact ⟨g, o, rfl, h⟩
theorem IL.drewN {w : World} {v : Value} {l : List Nat} (h : IL w v l) (n : Nat) : IL (w.drewN n) v l := h
/-- How long a slice is. -/
def lenOf : Value → Nat
  | .slice _ n _ => n
  | _ => 0
/-- What a run is made of so far. -/
theorem grp_next (l : List Nat) (k : Nat) (h : 6 * k + 6 ≤ l.length) : grp (l.take (6 * k + 6)) = grp (l.take (6 * k)) ++ [let64 (valB ((l.drop (6 * k)).take 6))] := by
  have e : l.take (6 * k + 6) = l.take (6 * k) ++ (l.drop (6 * k)).take 6 := by rw [List.take_add]
  have hl : (l.take (6 * k)).length = 6 * k := by rw [List.length_take, Nat.min_eq_left (by omega)]
  have h6 : ((l.drop (6 * k)).take 6).length = 6 := by rw [List.length_take, List.length_drop]; omega
  have hr : rst (l.take (6 * k)) = [] := by
    have := rst_len _ (l.take (6 * k)) (Nat.le_refl _)
    rw [hl] at this
    exact List.eq_nil_of_length_eq_zero (by omega)
  have g := grp_six ((l.drop (6 * k)).take 6) (by rw [h6]; exact Nat.le_refl _)
  have d6 : ((l.drop (6 * k)).take 6).drop 6 = [] := List.drop_eq_nil_of_le (by rw [h6]; exact Nat.le_refl _)
  have t6 : ((l.drop (6 * k)).take 6).take 6 = (l.drop (6 * k)).take 6 := List.take_of_length_le (by rw [h6]; exact Nat.le_refl _)
  rw [e, (grp_append _ _).1, hr, List.nil_append, g.1, d6, t6]
  rfl

set_option maxRecDepth 100000 in
set_option maxHeartbeats 4000000 in
theorem shifted_any {w : World} {v : Value} {l : List Nat} (h : IL w v l) (hl : l.length ≤ 10000) (hu : ∀ u ∈ l, u < 65536) :
    Calls Tryd.prog 42 #[v] w fun e w' => e = .returned (.string (str (run64 l))) ∧ Below w.heap.size w w' := by
  obtain ⟨a, c, rfl, _⟩ := id h
  have H := hid h
  have HU := hid hu
  clear h hu
  generalize hn : l.length = n at *
  have HN := hid hn
  clear hn
  go_enter Tryd.func42, Tryd.ntmps42
  go_wp2_with fail
  go_loopw [3, 4] (fun b i wr => ∃ k : Nat, k ≤ n ∧ i = .int .i64 k ∧ IO wr w.heap.size b (ubits (l.take k)) ∧ Below w.heap.size w wr) (fun _ i _ => n - (intOf i).toNat)
  case atStart => exact ⟨0, by omega, rfl, io_nil _ _, Below.refl _ _⟩
  case round =>
    obtain ⟨k, hk, rfl, ho, hb⟩ := hrel
    have HO := hid ho
    have HB := hid hb
    obtain ⟨ba, bn, bc', rfl, hbn⟩ := ho.slice3
    have HBn := hid hbn
    clear ho hb hbn
    by_cases hlt : k < n
    · have hlt' : (k : Int) < n := by omega
      have hkl : k < l.length := by rw [HN.out]; exact hlt
      have HUn := hid (ubits_next l k hkl)
      have hul := HU.out _ (List.getElem_mem hkl)
      have HLen : Hid ((ubits (l.take k)).length ≤ 160000) := by
        rw [Hid, ubits_len, List.length_take]; omega
      obtain ⟨g, o, rfl, hcell0⟩ := H.out.at k hkl
      have HCell := hid hcell0
      clear hcell0
      generalize l[k]'hkl = u at HUn hul HCell
      go_wp2_with fail
      go_loopw [3, 5] (fun b j wr => ∃ J : Nat, J ≤ 16 ∧ j = .int .i64 ((J : Int) - 1) ∧ IO wr w.heap.size b (ubits (l.take k) ++ (bitsN 16 u).take (16 - J)) ∧ Below w.heap.size w wr) (fun _ j _ => (intOf j + 1).toNat)
      case atStart => exact ⟨16, by omega, rfl, by simpa using HO.out, HB.out⟩
      case round =>
        clear HO HB
        obtain ⟨J, hJ, rfl, ho, hb⟩ := hrel
        have HO := hid ho
        have HB := hid hb
        obtain ⟨bb, bm, bd, rfl, hbm⟩ := ho.slice3
        have HBm := hid hbm
        clear ho hb hbm
        cases J with
        | zero =>
          have hneg : ¬ (0 : Int) ≤ ((0 : Nat) : Int) - 1 := by omega
          go_wp2_with fail
          go_roundw
          case rel => exact ⟨k + 1, by omega, by go_num, by rw [HUn.out]; have := HO.out; rw [show (bitsN 16 u).take (16 - 0) = bitsN 16 u from List.take_of_length_le (by rw [bitsN_length]; exact Nat.le_refl _)] at this; exact this, HB.out⟩
          case measure => simp [intOf]; omega
        | succ J =>
          rw [show ((J + 1 : Nat) : Int) - 1 = (J : Int) by omega]
          have hJ0 : (0 : Int) ≤ J := by omega
          have hcell := (HB.out.cell (p := ⟨g, o + k, none⟩) (World.block_lt_of_cell? w _ HCell.out)).trans HCell.out
          have hdiv : u / 2 ^ J < 65536 := Nat.lt_of_le_of_lt (Nat.div_le_self _ _) hul
          have hand : Go.bits .and .i64 ((u : Int) / 2 ^ J) 1 = ((u / 2 ^ J % 2 : Nat) : Int) := by
            have := and1_i64 (u / 2 ^ J) (by omega)
            rw [← this]
            congr 1
          have HNx : Hid ((bitsN 16 u).take (16 - J) = (bitsN 16 u).take (16 - (J + 1)) ++ [u / 2 ^ J % 2]) := by
            have := bits16_next u (15 - J) (by omega)
            rw [Hid, show 16 - J = 15 - J + 1 by omega, show 16 - (J + 1) = 15 - J by omega, this, show 15 - (15 - J) = J by omega]
          obtain ⟨v', w2, hrun, ho2, hb2⟩ := io_more HO.out (by exact HB.out.size) (u / 2 ^ J % 2) (by have := HLen.out; rw [List.length_append, List.length_take, bitsN_length]; omega)
          have HRun := hid hrun
          have HO2 := hid ho2
          have HB2 := hid (HB.out.trans hb2)
          obtain ⟨be, bq, bf, rfl, hbq⟩ := ho2.slice3
          clear hrun ho2 hb2 hbq
          go_wp2_with (at_builtin; refine wpList_append_run rfl rfl HRun.out ?_)
          go_roundw
          case rel => exact ⟨J, by omega, rfl, by rw [HNx.out, ← List.append_assoc]; exact HO2.out, HB2.out⟩
          case measure => simp [intOf]
    · have HF : Hid (ubits (l.take k) = ubits l) := by rw [Hid, List.take_of_length_le (by rw [HN.out]; omega)]
      rw [HF.out] at HO
      have hul : (ubits l).length = 16 * n := by rw [ubits_len, HN.out]
      have HUL := hid hul
      clear hul HF
      go_wp2_with fail
      go_loopw [3] (fun b wr => ∃ m : Nat, m ≤ (6 - (ubits l).length % 6) % 6 ∧ IO wr w.heap.size b (ubits l ++ List.replicate m 0) ∧ Below w.heap.size w wr) (fun b _ => (6 - lenOf b % 6) % 6)
      case atStart => exact ⟨0, by omega, by simpa using HO.out, HB.out⟩
      case round =>
        clear HO HB
        obtain ⟨m, hm, ho, hb⟩ := hrel
        have HO := hid ho
        have HB := hid hb
        obtain ⟨ba, bk, bc', rfl, hbk⟩ := ho.slice3
        rw [List.length_append, List.length_replicate, HUL.out] at hbk
        have HBk := hid hbk
        rw [HUL.out] at hm
        clear ho hb
        by_cases hmm : (16 * n + m) % 6 = 0
        · have HPad : Hid (ubits l ++ List.replicate m 0 = ubits l ++ pad (ubits l)) := by
            rw [Hid, pad, HUL.out]
            congr 2
            omega
          have hmod : ¬ (0 : Int) < (bk : Int) % 6 := by omega
          have hbk2 : bk ≤ 170000 := by omega
          rw [HPad.out] at HO
          have HBits : Hid (Bits (ubits l ++ pad (ubits l))) := bits_append (ubits_bits _) (pad_bits _)
          have HLen : Hid ((ubits l ++ pad (ubits l)).length = bk) := by rw [← HPad.out, Hid, List.length_append, List.length_replicate, HUL.out, HBk.out]
          have H6 : Hid (bk % 6 = 0) := by rw [HBk.out]; exact hmm
          clear hbk hmm
          have HRun : Hid (run64 l = 38 :: grp (ubits l ++ pad (ubits l)) ++ [45]) := rfl
          generalize ubits l ++ pad (ubits l) = bs at *
          go_wp2_with fail
          clear hmod
          go_loopw [6, 7] (fun s i wr => ∃ k : Nat, 6 * k ≤ bk ∧ i = .int .i64 ((6 * k : Nat) : Int) ∧ s = .string (str (38 :: grp (bs.take (6 * k)))) ∧ IL wr (.slice ba bk bc') bs ∧ Below w.heap.size w wr) (fun _ i _ => bk - (intOf i).toNat)
          case atStart => exact ⟨0, by omega, rfl, rfl, HO.out.il, HB.out⟩
          case round =>
            clear HO HB
            obtain ⟨k, hk, rfl, rfl, hil, hb⟩ := hrel
            have HIL := hid hil
            have HB := hid hb
            clear hil hb
            by_cases hlt : 6 * k < bk
            · have h66 : 6 * k + 6 ≤ bk := by have := H6.out; omega
              have HGn := hid (grp_next bs k (by rw [HLen.out]; exact h66))
              obtain ⟨g, o, rfl, hcs⟩ := HIL.out.cells (by rw [HLen.out]; omega)
              have six : ∀ j, j < 6 → ∃ b, b < 2 ∧ bs[6 * k + j]? = some b ∧ wr.cell? ⟨g, o + (6 * k + j), none⟩ = some (.int .i64 (b : Int)) := fun j hj => by
                have hjl : 6 * k + j < bs.length := by rw [HLen.out]; omega
                exact ⟨_, HBits.out _ (List.getElem_mem hjl), List.getElem?_eq_getElem hjl, hcs _ _ (List.getElem?_eq_getElem hjl)⟩
              obtain ⟨b0, l0, g0, c0⟩ := six 0 (by omega)
              obtain ⟨b1, l1, g1, c1⟩ := six 1 (by omega)
              obtain ⟨b2, l2, g2, c2⟩ := six 2 (by omega)
              obtain ⟨b3, l3, g3, c3⟩ := six 3 (by omega)
              obtain ⟨b4, l4, g4, c4⟩ := six 4 (by omega)
              obtain ⟨b5, l5, g5, c5⟩ := six 5 (by omega)
              have HV : Hid (valB ((bs.drop (6 * k)).take 6) = 32 * b0 + 16 * b1 + 8 * b2 + 4 * b3 + 2 * b4 + b5) := by
                have e : (bs.drop (6 * k)).take 6 = [b0, b1, b2, b3, b4, b5] := by
                  apply List.ext_getElem?
                  intro j
                  by_cases hj : j < 6
                  · rw [List.getElem?_take_of_lt hj, List.getElem?_drop]
                    match j, hj with
                    | 0, _ => exact g0
                    | 1, _ => exact g1
                    | 2, _ => exact g2
                    | 3, _ => exact g3
                    | 4, _ => exact g4
                    | 5, _ => exact g5
                  · rw [List.getElem?_eq_none (by rw [List.length_take]; omega), List.getElem?_eq_none (by simp; omega)]
                rw [Hid, e]
                simp [valB]
                omega
              have HT6 : Hid (6 * (k + 1) = 6 * k + 6) := by rw [Hid]; omega
              clear six hcs g0 g1 g2 g3 g4 g5
              have HK : Hid (6 * k = 6 * k) := rfl
              generalize hq : 6 * k = q at *
              have HQ := hid hq
              clear hq
              have hq0 : (q : Int) < bk := by omega
              have hq1 : (q : Int) + 1 < bk := by omega
              have hq2 : (q : Int) + 2 < bk := by omega
              have hq3 : (q : Int) + 3 < bk := by omega
              have hq4 : (q : Int) + 4 < bk := by omega
              have hq5 : (q : Int) + 5 < bk := by omega
              rw [Nat.add_zero] at c0
              have hgl := grp_le (bs.take q)
              have hgl2 : (grp (bs.take q)).length ≤ 40000 := by
                rw [List.length_take] at hgl
                omega
              have hsz : (str (38 :: grp (bs.take q))).size ≤ 50000 := by rw [str_size, List.length_cons]; omega
              have wn1 : (0 : Int) ≤ (q : Int) + 1 := by omega
              have wk1 : q + 1 < bk := by omega
              have wn2 : (0 : Int) ≤ (q : Int) + 2 := by omega
              have wk2 : q + 2 < bk := by omega
              have wn3 : (0 : Int) ≤ (q : Int) + 3 := by omega
              have wk3 : q + 3 < bk := by omega
              have wn4 : (0 : Int) ≤ (q : Int) + 4 := by omega
              have wk4 : q + 4 < bk := by omega
              have wn5 : (0 : Int) ≤ (q : Int) + 5 := by omega
              have wk5 : q + 5 < bk := by omega
              have wk0 : q < bk := by omega
              have wt1 : ((q : Int) + 1).toNat = q + 1 := by omega
              have wt2 : ((q : Int) + 2).toNat = q + 2 := by omega
              have wt3 : ((q : Int) + 3).toNat = q + 3 := by omega
              have wt4 : ((q : Int) + 4).toNat = q + 4 := by omega
              have wt5 : ((q : Int) + 5).toNat = q + 5 := by omega
              have wstr : ∀ x : UInt8, (str (38 :: grp (bs.take q))).size + (str [x]).size ≤ 9223372036854775807 := fun x => by rw [str_size [x]]; simp only [List.length_cons, List.length_nil]; omega
              have wstr2 : ∀ (x : UInt8) (W : World), (Op.stringOp .add (str (38 :: grp (bs.take q))) (str [x])).run Tryd.prog W = .ok (.string (str (38 :: grp (bs.take q)) ++ str [x])) W := fun x W => run_string_add_sum W _ _ (wstr x)
              have wq1 : IntKind.i64.wrap ((q : Int) + 1) = (q : Int) + 1 := by rw [IntKind.wrap_i64]; omega
              have wq2 : IntKind.i64.wrap ((q : Int) + 2) = (q : Int) + 2 := by rw [IntKind.wrap_i64]; omega
              have wq3 : IntKind.i64.wrap ((q : Int) + 3) = (q : Int) + 3 := by rw [IntKind.wrap_i64]; omega
              have wq4 : IntKind.i64.wrap ((q : Int) + 4) = (q : Int) + 4 := by rw [IntKind.wrap_i64]; omega
              have wq5 : IntKind.i64.wrap ((q : Int) + 5) = (q : Int) + 5 := by rw [IntKind.wrap_i64]; omega
              have wm0 : IntKind.i64.wrap (32 * (b0 : Int)) = 32 * (b0 : Int) := by rw [IntKind.wrap_i64]; omega
              have wm1 : IntKind.i64.wrap (16 * (b1 : Int)) = 16 * (b1 : Int) := by rw [IntKind.wrap_i64]; omega
              have wm2 : IntKind.i64.wrap (8 * (b2 : Int)) = 8 * (b2 : Int) := by rw [IntKind.wrap_i64]; omega
              have wm3 : IntKind.i64.wrap (4 * (b3 : Int)) = 4 * (b3 : Int) := by rw [IntKind.wrap_i64]; omega
              have wm4 : IntKind.i64.wrap (2 * (b4 : Int)) = 2 * (b4 : Int) := by rw [IntKind.wrap_i64]; omega
              have ws1 : IntKind.i64.wrap (32 * (b0 : Int) + 16 * (b1 : Int)) = 32 * (b0 : Int) + 16 * (b1 : Int) := by rw [IntKind.wrap_i64]; omega
              have ws2 : IntKind.i64.wrap (32 * (b0 : Int) + 16 * (b1 : Int) + 8 * (b2 : Int)) = 32 * (b0 : Int) + 16 * (b1 : Int) + 8 * (b2 : Int) := by rw [IntKind.wrap_i64]; omega
              have ws3 : IntKind.i64.wrap (32 * (b0 : Int) + 16 * (b1 : Int) + 8 * (b2 : Int) + 4 * (b3 : Int)) = 32 * (b0 : Int) + 16 * (b1 : Int) + 8 * (b2 : Int) + 4 * (b3 : Int) := by rw [IntKind.wrap_i64]; omega
              have ws4 : IntKind.i64.wrap (32 * (b0 : Int) + 16 * (b1 : Int) + 8 * (b2 : Int) + 4 * (b3 : Int) + 2 * (b4 : Int)) = 32 * (b0 : Int) + 16 * (b1 : Int) + 8 * (b2 : Int) + 4 * (b3 : Int) + 2 * (b4 : Int) := by rw [IntKind.wrap_i64]; omega
              have ws5 : IntKind.i64.wrap (32 * (b0 : Int) + 16 * (b1 : Int) + 8 * (b2 : Int) + 4 * (b3 : Int) + 2 * (b4 : Int) + (b5 : Int)) = 32 * (b0 : Int) + 16 * (b1 : Int) + 8 * (b2 : Int) + 4 * (b3 : Int) + 2 * (b4 : Int) + (b5 : Int) := by rw [IntKind.wrap_i64]; omega
              go_wp2_with fail
              go_quiet ((go_at_call 62; exact Calls.quiet_of_same (letter62 _ (by omega) (by omega) _)))
              clear wq1 wq2 wq3 wq4 wq5 wm0 wm1 wm2 wm3 wm4 ws1 ws2 ws3 ws4 ws5 wstr wstr2 wn1 wn2 wn3 wn4 wn5 wt1 wt2 wt3 wt4 wt5
              have HStr : Hid (str (38 :: grp (bs.take q)) ++ str [let64 (32 * b0 + 16 * b1 + 8 * b2 + 4 * b3 + 2 * b4 + b5)] = str (38 :: grp (bs.take (6 * (k + 1))))) := by
                rw [Hid, app_str, str_data, str_data, HT6.out, HGn.out, HV.out]
                rfl
              go_wp2_with fail
              go_roundw
              case rel => exact ⟨k + 1, by rw [HT6.out]; omega, by rw [HT6.out]; go_num, by rw [← HStr.out], HIL.out.drewN _, below_drewN HB.out _⟩
              case measure => simp [intOf]; omega
            · have hqe : bs.take (6 * k) = bs := List.take_of_length_le (by rw [HLen.out]; omega)
              rw [hqe]
              have HF : Hid (str (38 :: grp bs) ++ (⟨#[45]⟩ : ByteArray) = str (run64 l)) := by
                rw [Hid, app_str, str_data, HRun.out]
              have hgl := grp_le bs
              have hsz : (str (38 :: grp bs)).size ≤ 50000 := by rw [str_size, List.length_cons]; have := HLen.out; omega
              clear hqe
              go_wp2_with fail
              go_ret
              rw [← HF.out]
              exact ⟨rfl, HB.out⟩
        · have hmod : (0 : Int) < (bk : Int) % 6 := by omega
          obtain ⟨v', w2, hrun, ho2, hb2⟩ := io_more HO.out HB.out.size 0 (by rw [List.length_append, List.length_replicate, HUL.out]; omega)
          rw [show ((0 : Nat) : Int) = 0 from rfl] at hrun
          have HRun := hid hrun
          have HO2 := hid ho2
          have HB2 := hid (HB.out.trans hb2)
          obtain ⟨be, bq, bf, rfl, hbq⟩ := ho2.slice3
          rw [List.length_append, List.length_append, List.length_replicate, HUL.out] at hbq
          have HBq := hid hbq
          have HMm := hid hmm
          clear hrun ho2 hb2 hbq hmm hbk
          go_wp2_with (at_builtin; refine wpList_append_run rfl rfl HRun.out ?_)
          go_roundw
          case rel => exact ⟨m + 1, by rw [HUL.out]; have := HMm.out; omega, by rw [List.replicate_succ', ← List.append_assoc]; exact HO2.out, HB2.out⟩
          case measure =>
            have e1 := HBq.out
            have e2 := HBk.out
            have e3 := HMm.out
            simp only [lenOf]
            simp only [List.length_cons, List.length_nil] at e1
            omega
end Go.Proofs.YtkmggkcipgfhdaaDoor
