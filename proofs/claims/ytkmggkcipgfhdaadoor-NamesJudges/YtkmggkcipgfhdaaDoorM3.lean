/- What this text holds: runs are opened and shut, letters written. -/
import Derived.Test.YtkmggkcipgfhdaaDoorM2
namespace Go.Proofs.YtkmggkcipgfhdaaDoor
open Go.RowKit
set_option linter.unusedVariables false
set_option linter.unusedSimpArgs false

theorem grp_len : ∀ (n : Nat) (l : List Nat), l.length ≤ n → (grp l).length * 6 ≤ l.length
  | 0, l, h => by
    have : l = [] := List.eq_nil_of_length_eq_zero (by omega)
    subst this
    simp [grp]
  | n + 1, l, h => by
    by_cases h6 : l.length < 6
    · rw [(rst_short l h6).2]; simp
    · rw [(grp_six l (by omega)).1]
      have := grp_len n (l.drop 6) (by rw [List.length_drop]; omega)
      rw [List.length_drop] at this
      simp only [List.length_cons]
      omega
theorem grp_le (l : List Nat) : (grp l).length * 6 ≤ l.length := grp_len _ l (Nat.le_refl _)

set_option maxRecDepth 100000 in
set_option maxHeartbeats 1000000 in
theorem unit_any {w : World} {B b : Nat} {s : St} (h : BAt w B b s) (hBw : B ≤ w.heap.size) (hs : s.bl.length < 6) (ho : s.out.length ≤ 10000000) (u : Nat) (hu : u < 65536) :
    Calls Tryd.prog 60 #[.pointer (some ⟨b, 0, none⟩), .int .i32 u] w fun e w' => e = .returned (.tuple #[]) ∧ BAt w' B b (s.unit u) ∧ Kp B b w w' := by
  have H := hid h
  have HBw := hid hBw
  clear h hBw
  go_enter Tryd.func60, Tryd.ntmps60
  go_wp2_with (first | (go_at_call 58; refine (push_any H.out u 16 (by omega) (by omega) (by omega)).mono ?_; rintro e w1 ⟨rfl, h1, hb1⟩; have H1 := hid h1; have HB1 := hid hb1; clear h1 hb1) | (go_at_call 59; refine (sixes_any H1.out (by have := HB1.out.size; have := HBw.out; omega) (by simp [bitsN_length]; omega) ho).mono ?_; rintro e w2 ⟨rfl, h2, hb2⟩; have H2 := hid h2; have HB2 := hid hb2; clear h2 hb2))
  go_end0
  exact ⟨rfl, H2.out, HB1.out.trans HB2.out⟩

theorem or_i32 (a n : Nat) (ha : a < 2000000) (hn : n < 1024) : Go.bits .or .i32 ((1024 * a : Nat) : Int) (n : Int) = ((1024 * a + n : Nat) : Int) := by
  have h1 : (BitVec.ofInt 32 ((1024 * a : Nat) : Int)).toNat = 1024 * a := by
    rw [BitVec.ofInt_natCast, BitVec.toNat_ofNat]; exact Nat.mod_eq_of_lt (by omega)
  have h2 : (BitVec.ofInt 32 (n : Int)).toNat = n := by
    rw [BitVec.ofInt_natCast, BitVec.toNat_ofNat]; exact Nat.mod_eq_of_lt (by omega)
  show IntKind.i32.wrap ((BitVec.ofInt 32 ((1024 * a : Nat) : Int) ||| BitVec.ofInt 32 (n : Int)).toNat : Int) = _
  rw [BitVec.toNat_or, h1, h2, show (1024 : Nat) = 2 ^ 10 by decide, ← Nat.two_pow_add_eq_or_of_lt (show n < 2 ^ 10 by omega), IntKind.wrap_i32]
  omega
theorem and_i32 (n : Nat) (hn : n < 2000000000) : Go.bits .and .i32 (n : Int) 1023 = ((n % 1024 : Nat) : Int) := by
  have h1 : (BitVec.ofInt 32 (n : Int)).toNat = n := by
    rw [BitVec.ofInt_natCast, BitVec.toNat_ofNat]; exact Nat.mod_eq_of_lt (by omega)
  show IntKind.i32.wrap ((BitVec.ofInt 32 (n : Int) &&& BitVec.ofInt 32 1023).toNat : Int) = _
  rw [BitVec.toNat_and, h1, show (BitVec.ofInt 32 1023).toNat = 2 ^ 10 - 1 by decide, Nat.and_two_pow_sub_one_eq_mod, IntKind.wrap_i32]
  omega
theorem unit_out (s : St) (u : Nat) : (s.unit u).out.length ≤ s.out.length + 4 ∨ 6 ≤ s.bl.length := by
  by_cases h : 6 ≤ s.bl.length
  · exact .inr h
  · left
    have := grp_le (s.bl ++ bitsN 16 u)
    simp only [St.unit, List.length_append, bitsN_length] at this ⊢
    omega

set_option maxRecDepth 100000 in
set_option maxHeartbeats 1000000 in
theorem units_any {w : World} {B b : Nat} {s : St} (h : BAt w B b s) (hBw : B ≤ w.heap.size) (hs : s.bl.length < 6) (ho : s.out.length ≤ 5000000) (r : Nat) (hr : r ≤ 1114111) :
    Calls Tryd.prog 38 #[.pointer (some ⟨b, 0, none⟩), .int .i32 r] w fun e w' => e = .returned (.tuple #[]) ∧ BAt w' B b (s.units r) ∧ Kp B b w w' := by
  have H := hid h
  have HBw := hid hBw
  clear h hBw
  by_cases h16 : (r : Int) < 65536
  · have HU : Hid (s.units r = s.unit r) := by simp [Hid, St.units, units, show r < 65536 by omega]
    go_enter Tryd.func38, Tryd.ntmps38
    go_wp2_with (first | (go_at_call 60; refine (unit_any H.out HBw.out hs (by omega) r (by omega)).mono ?_; rintro e w1 ⟨rfl, h1, hb1⟩; have H1 := hid h1; have HB1 := hid hb1; clear h1 hb1))
    refine bodyPost_ret (v := .tuple #[]) (by simp [results, Tryd.results38, go_sem]) rfl ⟨rfl, ?_, HB1.out⟩
    rw [HU.out]
    exact H1.out
  · have HU : Hid (s.units r = (s.unit (55296 + (r - 65536) / 1024)).unit (56320 + (r - 65536) % 1024)) := by simp [Hid, St.units, units, show ¬ r < 65536 by omega]
    have e1 : Go.bits .or .i32 55296 (((r : Int) - 65536) / 1024) = ((55296 + (r - 65536) / 1024 : Nat) : Int) := by
      have := or_i32 54 ((r - 65536) / 1024) (by omega) (by omega)
      rw [← this]
      congr 1
      omega
    have e2 : Go.bits .or .i32 56320 (Go.bits .and .i32 ((r : Int) - 65536) 1023) = ((56320 + (r - 65536) % 1024 : Nat) : Int) := by
      have := or_i32 55 ((r - 65536) % 1024) (by omega) (by omega)
      rw [← this, ← and_i32 (r - 65536) (by omega)]
      have : ((r - 65536 : Nat) : Int) = (r : Int) - 65536 := by omega
      rw [this]
      rfl
    have HE1 := hid e1
    have HE2 := hid e2
    have hu := unit_out s (55296 + (r - 65536) / 1024)
    clear e1 e2
    go_enter Tryd.func38, Tryd.ntmps38
    go_wp2_with fail
    rw [HE1.out]
    refine (unit_any H.out HBw.out hs (by omega) _ (by omega)).mono ?_
    rintro e w1 ⟨rfl, h1, hb1⟩
    have H1 := hid h1
    have HB1 := hid hb1
    clear h1 hb1
    go_wp2_with fail
    rw [HE2.out]
    refine (unit_any H1.out (by have := HB1.out.size; have := HBw.out; omega) (rst_lt _) (by omega) _ (by omega)).mono ?_
    rintro e w2 ⟨rfl, h2, hb2⟩
    have H2 := hid h2
    have HB2 := hid hb2
    clear h2 hb2
    go_wp2_with fail
    go_end0
    rw [HU.out]
    exact ⟨rfl, H2.out, HB1.out.trans HB2.out⟩

theorem BAt.flag {w : World} {B b : Nat} {s : St} (h : BAt w B b s) : w.cell? ⟨b, 3, none⟩ = some (.bool s.run) ∧ w.frozen? ⟨b, 3, none⟩ = false := by
  obtain ⟨v0, x, hb, _⟩ := h.at_
  exact ⟨by simp [World.cell?, hb], by simp [World.frozen?, hb]⟩
theorem BAt.mark {w : World} {B b : Nat} {s : St} (h : BAt w B b s) (r : Bool) : BAt (w.setCell ⟨b, 3, none⟩ (.bool r)) B b { s with run := r } := by
  obtain ⟨v0, x, hb, ho, hx⟩ := h.at_
  have hh : (w.setCell ⟨b, 3, none⟩ (.bool r)).heap[b]? = some (.cells #[v0, .int .u32 x, .int .i64 s.bl.length, .bool r] 47 (0, 0)) := by
    rw [heap_setCell_same _ _ _ _ _ _ hb]; rfl
  exact ⟨⟨v0, x, hh, bits_set hb ho _ hh (fun k hk => Below.heap_setCell _ _ _ _ hk), hx⟩, h.base, h.bits⟩
theorem add1 {w : World} {B b : Nat} {s : St} (h : BAt w B b s) (hBw : B ≤ w.heap.size) (c : UInt8) (k : Int) (hk : k = c.toNat) (h1 : s.out.length ≤ 100000000) :
    Calls Tryd.prog 44 #[.pointer (some ⟨b, 0, none⟩), .slice (some ⟨w.heap.size, 0, none⟩) 1 1] (w.alloc (.cells #[.int .u8 k] 5)) fun e w' => e = .returned (.tuple #[]) ∧ BAt w' B b { s with out := s.out ++ [c] } ∧ Kp B b w w' := by
  subst hk
  refine (add_any (h.alloc _) (by simp; omega) (src_one w c) h1 (by simp)).mono ?_
  rintro e w1 ⟨rfl, h1, hb1⟩
  exact ⟨rfl, h1, ((Kp.refl _ _ _).alloc hBw _).trans hb1⟩

set_option maxRecDepth 100000 in
set_option maxHeartbeats 1000000 in
theorem open_any {w : World} {B b : Nat} {s : St} (h : BAt w B b s) (hBw : B ≤ w.heap.size) (ho : s.out.length ≤ 10000000) :
    Calls Tryd.prog 37 #[.pointer (some ⟨b, 0, none⟩)] w fun e w' => e = .returned (.tuple #[]) ∧ BAt w' B b s.open ∧ Kp B b w w' := by
  have H := hid h
  have HBw := hid hBw
  obtain ⟨c3, f3⟩ := h.flag
  clear h hBw
  rcases Bool.eq_false_or_eq_true s.run with hr | hr
  · have HO : Hid (s.open = { s with run := true }) := by simp [Hid, St.open, hr]
    rw [hr] at c3
    clear hr
    go_enter Tryd.func37, Tryd.ntmps37
    go_wp2_with fail
    go_end0
    rw [HO.out]
    exact ⟨rfl, H.out.mark true, (Kp.refl _ _ _).setCell H.out.base _ _⟩
  · have HO : Hid (s.open = { s with out := s.out ++ [38], run := true }) := by simp [Hid, St.open, hr]
    rw [hr] at c3
    clear hr
    go_enter Tryd.func37, Tryd.ntmps37
    go_wp2_with (first | (go_at_call 44; refine (add1 H.out HBw.out 38 _ rfl (by omega)).mono ?_; rintro e w1 ⟨rfl, h1, hb1⟩; have H1 := hid h1; have HB1 := hid hb1; obtain ⟨d3, g3⟩ := h1.flag; clear h1 hb1))
    go_end0
    rw [HO.out]
    exact ⟨rfl, H1.out.mark true, HB1.out.setCell H.out.base _ _⟩

set_option maxRecDepth 100000 in
set_option maxHeartbeats 1000000 in
theorem plain_any {w : World} {B b : Nat} {s : St} (h : BAt w B b s) (hBw : B ≤ w.heap.size) (ho : s.out.length ≤ 10000000) (r : Nat) (hr : r < 128) :
    Calls Tryd.prog 36 #[.pointer (some ⟨b, 0, none⟩), .int .i32 r] w fun e w' => e = .returned (.tuple #[]) ∧ BAt w' B b (s.plain r) ∧ Kp B b w w' := by
  have H := hid h
  have HBw := hid hBw
  have HT : Hid ((r : Int) = (UInt8.ofNat r).toNat) := by simp [Hid, UInt8.toNat_ofNat]; omega
  clear h hBw
  by_cases h38 : r = 38
  · have HP : Hid (s.plain r = { s with out := (s.out ++ [UInt8.ofNat r]) ++ [45] }) := by subst h38; simp [Hid, St.plain, plainB]
    have h38' : (r : Int) = 38 := by omega
    have hb : ((r : Int) == 38) = true := by simp; omega
    clear h38 h38'
    go_enter Tryd.func36, Tryd.ntmps36
    go_wp2_with fail
    refine (add1 H.out HBw.out (UInt8.ofNat r) _ HT.out (by omega)).mono ?_
    rintro e w1 ⟨rfl, h1, hb1⟩
    have H1 := hid h1
    have HB1 := hid hb1
    clear h1 hb1
    go_wp2_with fail
    refine (add1 H1.out (by have := HB1.out.size; have := HBw.out; omega) 45 _ rfl (by simp; omega)).mono ?_
    rintro e w2 ⟨rfl, h2, hb2⟩
    have H2 := hid h2
    have HB2 := hid hb2
    clear h2 hb2
    go_wp2_with fail
    go_end0
    rw [HP.out]
    exact ⟨rfl, H2.out, HB1.out.trans HB2.out⟩
  · have HP : Hid (s.plain r = { s with out := s.out ++ [UInt8.ofNat r] }) := by simp [Hid, St.plain, plainB, h38]
    have hb : ((r : Int) == 38) = false := by simp; omega
    clear h38
    go_enter Tryd.func36, Tryd.ntmps36
    go_wp2_with (first | (go_at_call 44; refine (add1 H.out HBw.out (UInt8.ofNat r) _ HT.out (by omega)).mono ?_; rintro e w1 ⟨rfl, h1, hb1⟩; have H1 := hid h1; have HB1 := hid hb1; clear h1 hb1 H))
    go_end0
    rw [HP.out]
    exact ⟨rfl, H1.out, HB1.out⟩

theorem pad_small {l : List Nat} (h : l.length < 6) (h0 : 0 < l.length) : pad l = bitsN (6 - l.length) 0 := by
  have : ∀ k, bitsN k 0 = List.replicate k 0 := by
    intro k
    induction k with
    | zero => rfl
    | succ k ih => simp [bitsN, ih, List.replicate_succ]
  rw [this, pad, Nat.mod_eq_of_lt h, Nat.mod_eq_of_lt (by omega)]

set_option maxRecDepth 100000 in
set_option maxHeartbeats 1000000 in
theorem shut_any {w : World} {B b : Nat} {s : St} (h : BAt w B b s) (hBw : B ≤ w.heap.size) (hs : s.bl.length < 6) (ho : s.out.length ≤ 5000000) :
    Calls Tryd.prog 35 #[.pointer (some ⟨b, 0, none⟩)] w fun e w' => e = .returned (.tuple #[]) ∧ BAt w' B b s.shut ∧ Kp B b w w' := by
  have H := hid h
  have HBw := hid hBw
  obtain ⟨c3, f3⟩ := h.flag
  have c2 := h.count
  clear h hBw
  rcases Bool.eq_false_or_eq_true s.run with hr | hr
  · have H0 := hid (H.out.mark false)
    have HB0 : Hid (Kp B b w (w.setCell ⟨b, 3, none⟩ (.bool false))) := (Kp.refl _ _ _).setCell H.out.base _ _
    rw [hr] at c3
    by_cases h0 : 0 < s.bl.length
    · have HS : Hid (s.shut = { out := s.out ++ grp (s.bl ++ bitsN (6 - s.bl.length) 0) ++ [45], bl := rst (s.bl ++ bitsN (6 - s.bl.length) 0), run := false }) := by
        have hl : (s.bl ++ bitsN (6 - s.bl.length) 0).length = 6 := by simp [bitsN_length]; omega
        have hr6 : rst (s.bl ++ bitsN (6 - s.bl.length) 0) = [] := by
          rw [(grp_six _ (by omega)).2, List.drop_eq_nil_of_le (by omega)]; rfl
        simp only [Hid, St.shut, hr, if_true, pad_small hs h0, hr6]
      have hpos : (0 : Int) < s.bl.length := by omega
      have hsub : (6 : Int) - s.bl.length = ((6 - s.bl.length : Nat) : Int) := by omega
      have HSub := hid hsub
      clear hr hsub
      go_enter Tryd.func35, Tryd.ntmps35
      go_wp2_with fail
      rw [HSub.out]
      refine (push_any H0.out 0 (6 - s.bl.length) (by simp; omega) (by omega) (Nat.pow_pos (by omega))).mono ?_
      rintro e w1 ⟨rfl, h1, hb1⟩
      have H1 := hid h1
      have HB1 := hid (HB0.out.trans hb1)
      clear h1 hb1
      go_wp2_with fail
      refine (sixes_any H1.out (by have := HB1.out.size; have := HBw.out; omega) (by simp [bitsN_length]; omega) (by simp; omega)).mono ?_
      rintro e w2 ⟨rfl, h2, hb2⟩
      have H2 := hid h2
      have HB2 := hid (HB1.out.trans hb2)
      clear h2 hb2
      go_wp2_with fail
      have hg := grp_le (s.bl ++ bitsN (6 - s.bl.length) 0)
      simp only [List.length_append, bitsN_length] at hg
      refine (add1 H2.out (by have := HB2.out.size; have := HBw.out; omega) 45 _ rfl (by simp; omega)).mono ?_
      rintro e w3 ⟨rfl, h3, hb3⟩
      have H3 := hid h3
      have HB3 := hid (HB2.out.trans hb3)
      clear h3 hb3
      go_wp2_with fail
      go_end0
      rw [HS.out]
      exact ⟨rfl, H3.out, HB3.out⟩
    · have he : s.bl = [] := List.eq_nil_of_length_eq_zero (by omega)
      have HS : Hid (s.shut = { s with out := s.out ++ [45], run := false }) := by
        simp [Hid, St.shut, hr, he, pad, grp]
      rw [he] at c2
      clear hr h0 he
      go_enter Tryd.func35, Tryd.ntmps35
      go_wp2_with fail
      have C := add1 H0.out (by have := HB0.out.size; have := HBw.out; omega) 45 _ rfl (by simp; omega)
      rw [show (w.setCell ⟨b, 3, none⟩ (.bool false)).heap.size = w.heap.size by simp [World.setCell]] at C
      refine C.mono ?_
      clear C
      rintro e w3 ⟨rfl, h3, hb3⟩
      have H3 := hid h3
      have HB3 := hid (HB0.out.trans hb3)
      clear h3 hb3
      go_wp2_with fail
      go_end0
      rw [HS.out]
      exact ⟨rfl, H3.out, HB3.out⟩
  · have HS : Hid (s.shut = s) := by simp [Hid, St.shut, hr]
    rw [hr] at c3
    clear hr
    go_enter Tryd.func35, Tryd.ntmps35
    go_wp2_with fail
    refine bodyPost_ret (v := .tuple #[]) (by simp [results, Tryd.results35, go_sem]) rfl ⟨rfl, ?_, Kp.refl _ _ _⟩
    rw [HS.out]
    exact H.out
end Go.Proofs.YtkmggkcipgfhdaaDoor
