/- What this text holds: a disk of the program and one of the document, side by side, and each call of both. · What this text holds: the document's own numbers and noughts. · What this text holds: the document's own sectors. · What this text holds: sealing, whatever is sealed. · What this text holds: what the document says of any bytes, as a sector. -/
import Derived.Test.YtambgimfbdecpaaQ21
namespace Go.Proofs.Ytambgimfbdecpaa
open Go.RowKit
set_option linter.unusedVariables false

def RDid (w : World) (B b : Nat) (own : List Nat) (r : Int) (D' : DS) (e : Ending) (w' : World) : Prop :=
  e = .returned (.int .i64 r) ∧ ∃ own', RDisk w' B b own' D' ∧ Kept own w w' ∧ ∀ k ∈ own', k ∈ own ∨ w.heap.size ≤ k

theorem rflush_all {w : World} {B b : Nat} {own : List Nat} {D : DS} (h : RDisk w B b own D) (hs : D.steps < 1000) :
    Calls Try.prog 44 #[.pointer (some ⟨b, 0, none⟩)] w (RDid w B b own D.flush.1 D.flush.2) := by
  obtain ⟨bs, sc, wv, hd, rfl⟩ := h
  cases hp : D.step.1 with
  | true =>
    refine (rflush_yes hd hs hp).mono ?_
    rintro e w' ⟨rfl, hd', hk⟩
    simp only [DS.flush, hp, if_true]
    refine ⟨rfl, _, ⟨bs, sc, _, hd', rfl⟩, hk.mono (fun k _ h => by simp only [List.mem_cons, List.not_mem_nil, or_false] at h ⊢; rcases h with h | h; exact .inl h; exact .inr (.inl h)), fun k hk => .inl ?_⟩
    simp only [Value.ownBlock, Option.toList_none, List.mem_cons, List.not_mem_nil, or_false] at hk ⊢
    rcases hk with h | h
    · exact .inl h
    · exact .inr (.inl h)
  | false =>
    refine (rflush_power hd hs hp).mono ?_
    rintro e w' ⟨rfl, hd', hk⟩
    simp only [DS.flush, hp]
    exact ⟨rfl, _, ⟨bs, sc, _, hd', rfl⟩, hk.mono (fun k _ h => by simp only [List.mem_cons, List.not_mem_nil, or_false] at h; simp [h]), fun k hk => .inl hk⟩

theorem rwrite_all {w : World} {B b : Nat} {own : List Nat} {D : DS} (h : RDisk w B b own D) (hs : D.steps < 1000) (hwl : D.waits.length < 200) (i : Int) (x : Addr) (len cap : Nat) (l : List Int) (hm : len ≤ maxLen) (hl1 : l.length = len) (hx : SrcAt x l w) (ha : x.block ∉ own) :
    Calls Try.prog 22 #[.pointer (some ⟨b, 0, none⟩), .int .i64 i, .slice (some x) len cap] w (RDid w B b own (D.write i l).1 (D.write i l).2) := by
  obtain ⟨bs, sc, wv, hd, rfl⟩ := h
  by_cases h1 : len = 512
  · subst h1
    by_cases h2 : 0 ≤ i ∧ i < D.n
    · obtain ⟨q, rfl⟩ : ∃ q : Nat, i = q := ⟨i.toNat, by omega⟩
      cases hp : D.step.1 with
      | true =>
        refine (rwrite_yes hd q x cap l hl1 hx (fun hm => ha (by simp only [List.mem_cons] at hm ⊢; rcases hm with h | h; exact .inl h; exact .inr (.inr h))) (by omega) hs hp hwl).mono ?_
        rintro e w' ⟨rfl, wv', hd', hk, hfr⟩
        have e1 : D.write q l = (0, { D.step.2 with waits := D.step.2.waits ++ [((q : Int), l)] }) := by simp only [DS.write, hl1, ne_eq, not_true_eq_false, if_false, h2, hp, if_true]; simp
        rw [e1]
        refine ⟨rfl, _, ⟨bs, sc, wv', hd', rfl⟩, hk.mono (fun k _ h => by simp only [List.mem_cons] at h ⊢; rcases h with h | h; exact .inl h; exact .inr (.inr h)), fun k hk => ?_⟩
        simp only [List.mem_cons, Option.mem_toList] at hk ⊢
        rcases hk with h | h | h
        · exact .inl (.inl h)
        · exact .inl (.inr (.inl h))
        · rcases hfr k h with h | h
          · exact .inl (.inr (.inr h))
          · exact .inr h
      | false =>
        refine (rwrite_power hd q (some x) cap (by omega) hs hp).mono ?_
        rintro e w' ⟨rfl, hd', hk⟩
        have e1 : D.write q l = (9, D.step.2) := by simp only [DS.write, hl1, ne_eq, not_true_eq_false, if_false, h2, hp]; simp
        rw [e1]
        exact ⟨rfl, _, ⟨bs, sc, wv, hd', rfl⟩, hk.mono (fun k _ h => by simp only [List.mem_cons, List.not_mem_nil, or_false] at h; simp [h]), fun k hk => .inl hk⟩
    · refine (rwrite_range hd i (some x) cap h2).mono ?_
      rintro e w' ⟨rfl, rfl⟩
      have e1 : D.write i l = (3, D) := by simp only [DS.write, hl1, ne_eq, not_true_eq_false, if_false, h2]; simp
      rw [e1]
      exact ⟨rfl, _, ⟨bs, sc, wv, hd, rfl⟩, Kept.refl _ _, fun k hk => .inl hk⟩
  · refine (rwrite_len hd i (some x) len cap h1 hm).mono ?_
    rintro e w' ⟨rfl, rfl⟩
    have e1 : D.write i l = (2, D) := by simp only [DS.write, hl1, ne_eq, h1, not_false_eq_true, if_true]
    rw [e1]
    exact ⟨rfl, _, ⟨bs, sc, wv, hd, rfl⟩, Kept.refl _ _, fun k hk => .inl hk⟩

theorem rfuse_all {w : World} {B b : Nat} {own : List Nat} {D : DS} (h : RDisk w B b own D) (n : Int) (hn : n ≤ 9223372036854775807) :
    Calls Try.prog 18 #[.pointer (some ⟨b, 0, none⟩), .int .i64 n] w fun e w' => e = .returned (.tuple #[]) ∧ RDisk w' B b own (D.fused n) ∧ Kept own w w' := by
  obtain ⟨bs, sc, wv, hd, rfl⟩ := h
  refine (rfuse_any hd n hn).mono ?_
  rintro e w' ⟨rfl, hd', hk⟩
  exact ⟨rfl, ⟨bs, sc, wv, hd', rfl⟩, hk.mono (fun k _ h => by simp only [List.mem_cons, List.not_mem_nil, or_false] at h; simp [h])⟩

theorem rcrash_all {w : World} {B b : Nat} {own : List Nat} {D : DS} (h : RDisk w B b own D) (ka : Option Addr) (klen kcap : Nat) (ks : List (Int × Int)) (hk : KeepsOk w ka klen ks) :
    Calls Try.prog 20 #[.pointer (some ⟨b, 0, none⟩), .slice ka klen kcap] w (RMade w (D.crash ks)) := by
  obtain ⟨bs, sc, wv, hd, rfl⟩ := h
  obtain ⟨h1, h2, h3⟩ := hk
  rcases h3 with h0 | ⟨kb, ko, rfl, hk⟩
  · subst h0
    obtain rfl : ks = [] := List.eq_nil_of_length_eq_zero h1
    exact rcrash_none hd ka kcap
  · subst h1
    exact rcrash_some hd kb ko kcap ks h2 hk

/-- What a read answers: bytes and a number. -/
def DS.ans (D : DS) (i : Int) : List Int × Int := if 0 ≤ i ∧ i < D.n then (if D.gone then ([], 9) else (D.read i.toNat, 0)) else ([], 3)
theorem conv_nil (w : World) : (convert 46 9 (.slice none 0 0)).run Try.prog w = .ok (.string (strOf [])) w := by kernel_rfl
theorem rread_all {w : World} {B b : Nat} {own : List Nat} {D : DS} (h : RDisk w B b own D) (i : Int) : Calls Try.prog 78 #[.pointer (some ⟨b, 0, none⟩), .int .i64 i] w fun e w' => e = .returned (.tuple #[.string (strOf (D.ans i).1), .int .i64 (D.ans i).2]) ∧ w' = w := by
  obtain ⟨bs, sc, wv, hd, rfl⟩ := h
  by_cases h2 : 0 ≤ i ∧ i < D.n
  · obtain ⟨q, rfl⟩ : ∃ q : Nat, i = q := ⟨i.toNat, by omega⟩
    cases hg : D.gone with
    | true =>
      refine (rread_gone hd q (by omega) hg).mono ?_
      rintro e w' ⟨rfl, rfl⟩
      have e1 : D.ans q = ([], 9) := by simp only [DS.ans, h2, hg]; simp
      rw [e1]
      exact ⟨rfl, rfl⟩
    | false =>
      refine (rread_yes hd q (by omega) hg).mono ?_
      rintro e w' ⟨rfl, rfl⟩
      have e1 : D.ans q = (D.read q, 0) := by simp only [DS.ans, h2, hg]; simp
      rw [e1]
      exact ⟨rfl, rfl⟩
  · refine (rread_range hd i h2).mono ?_
    rintro e w' ⟨rfl, rfl⟩
    have e1 : D.ans i = ([], 3) := by simp only [DS.ans, h2]; simp
    rw [e1]
    exact ⟨rfl, rfl⟩

end Go.Proofs.Ytambgimfbdecpaa
namespace Go.Proofs.Ytambgimfbdecpaa
open Go.RowKit
set_option linter.unusedVariables false

theorem made_noughts (n : Nat) (hn : n ≤ 5000) (w : World) : (Instr.makeSlice 46 (.int .i64 n) (.int .i64 n)).run Try.prog w = .ok (.slice (some ⟨w.heap.size, 0, none⟩) n n) (w.alloc (.cells (bc (rep n 0)).toArray 5)) := by
  obtain ⟨i, hi, hz0, hz1, hz2⟩ := info_parts Try.info5
  have h := run_make (P := Try.prog) w 46 5 i (.int .u8 0) Try.underlying46 hi hz0 .i64 .i64 n n (by omega) (by omega) (by rw [hz2]; omega) (by omega)
  rw [h, hz1, Nat.mul_one, Int.toNat_natCast]
  have e : madeCells (Value.int .u8 0).cells n = (bc (rep n 0)).toArray := by
    apply Array.toList_inj.1
    show (madeCells (Array.replicate 1 (Value.int .u8 0)) _).toList = _
    rw [madeCells_same _ _ _ (by omega), bc_rep]
  rw [e]
theorem bAt_new (w : World) (l : List Int) : BAt (w.alloc (.cells (bc l).toArray 5)) (some ⟨w.heap.size, 0, none⟩) l := by
  intro j x hx
  refine ⟨_, rfl, ?_⟩
  rw [Addr.add_mid, Nat.zero_add]
  have hh := heap_alloc_new w (.cells (bc l).toArray 5)
  have e : (bc l)[j]? = some (.int .u8 x) := by rw [bc, List.getElem?_map, hx]; rfl
  simp only [World.cell?, hh]
  simpa using e

theorem conv_one (v : Int) (w : World) : (convert 46 9 (.slice (some ⟨w.heap.size, 0, none⟩) 1 1)).run Try.prog (w.alloc (.cells #[.int .u8 v] 5)) = .ok (.string (strOf [v])) (w.alloc (.cells #[.int .u8 v] 5)) :=
  conv_bytes (bAt_new w [v]) rfl
theorem strOf_cons (v : Int) (l : List Int) : strOf [v] ++ strOf l = strOf (v :: l) := by rw [← strOf_append]; rfl

set_option maxRecDepth 100000 in
set_option maxHeartbeats 1000000 in
theorem rnumber_any (x : Int) (n : Nat) (w : World) (h0 : 0 ≤ x) (h1 : x ≤ 9223372036854775807) (hn : n ≤ 8) :
    Calls Try.prog 76 #[.int .i64 x, .int .i64 n] w fun e w' => e = .returned (.string (strOf (numB n x))) ∧ Below w.heap.size w w' := by
  go_enter Try.func76, Try.ntmps76
  go_wp2_with fail
  go_loopw [0, 5, 6] (fun x' s i wr => ∃ k : Nat, k ≤ n ∧ i = .int .i64 k ∧ x' = .int .i64 (x / 256 ^ k) ∧ s = .string (strOf (numB k x)) ∧ Below w.heap.size w wr) (fun _ _ i _ => n - (intOf i).toNat)
  case atStart => exact ⟨0, by omega, rfl, by rw [Int.pow_zero, Int.ediv_one], rfl, Below.refl _ _⟩
  case round =>
    obtain ⟨k, hk, rfl, rfl, rfl, hb⟩ := hrel
    by_cases hlt : k < n
    · have hcv := fun v => conv_one v wr
      have hz1 : ∀ v : Int, (strOf [v]).size = 1 := fun v => strOf_size [v]
      have hz2 : (strOf (numB k x)).size = k := by rw [strOf_size, numB_length]
      have hy0 : 0 ≤ x / 256 ^ k := Int.ediv_nonneg h0 (Int.pow_nonneg (by decide))
      have hy1 : x / 256 ^ k ≤ 9223372036854775807 := Int.le_trans (Int.ediv_le_self _ h0) h1
      have hS := hid (show strOf [x / 256 ^ k % 256] ++ strOf (numB k x) = strOf (numB (k + 1) x) from strOf_cons _ _)
      have hY := hid (show x / 256 ^ k / 256 = x / 256 ^ (k + 1) by rw [Int.pow_succ, Int.ediv_ediv_of_nonneg (Int.pow_nonneg (by decide))])
      have HB := hid hb
      clear hb
      generalize strOf (numB k x) = S at hz2 hS ⊢
      generalize x / 256 ^ k = y at hy0 hy1 hS hY ⊢
      go_wp2_with fail
      exact ⟨⟨k + 1, by omega, by go_num, by rw [hY.out], by rw [hS.out], HB.out.alloc HB.out.size _⟩, by simp [intOf]; omega⟩
    · have e : k = n := by omega
      subst e
      go_wp2_with fail
      go_ret
      exact ⟨rfl, hb⟩
set_option maxRecDepth 100000 in
set_option maxHeartbeats 1000000 in
theorem rnoughts_any (n : Nat) (w : World) (hn : n ≤ 5000) :
    Calls Try.prog 77 #[.int .i64 n] w fun e w' => e = .returned (.string (strOf (rep n 0))) ∧ Below w.heap.size w w' := by
  have hmk := made_noughts n hn w
  have hcv := conv_bytes (c := n) (bAt_new w (rep n 0)) (rep_length n 0)
  have hB := hid ((Below.refl _ w).alloc (Nat.le_refl _) (.cells (bc (rep n 0)).toArray 5))
  generalize w.alloc (.cells (bc (rep n 0)).toArray 5) = W at hmk hcv hB
  go_enter Try.func77, Try.ntmps77
  go_wp2_with fail
  go_ret
  exact ⟨rfl, hB.out⟩
end Go.Proofs.Ytambgimfbdecpaa
namespace Go.Proofs.Ytambgimfbdecpaa
open Go.RowKit
set_option linter.unusedVariables false

theorem size_num (k : Nat) (x : Int) : (strOf (numB k x)).size = k := by rw [strOf_size, numB_length]
theorem size_rep (n : Nat) : (strOf (rep n 0)).size = n := by rw [strOf_size, rep_length]

theorem byt_bare (kind gen : Int) (c : List Int) (hc : Byt c) : Byt (bareL kind gen c) :=
  byt_append (byt_head _ _ _) (byt_append (byt_rep _) (byt_append hc (byt_rep _)))
theorem str_head (kind gen : Int) (n : Nat) : (⟨#[72, 118]⟩ : ByteArray) ++ strOf (numB 1 kind) ++ ⟨#[0]⟩ ++ strOf (numB 2 n) ++ strOf (numB 6 gen) = strOf (headL kind gen n) := by
  unfold headL
  rw [strOf_append, strOf_append, strOf_append, strOf_append, show strOf [72, 118] = ⟨#[72, 118]⟩ by kernel_rfl, show strOf (numB 1 0) = ⟨#[0]⟩ by kernel_rfl]
theorem str_bare (kind gen : Int) (s : ByteArray) : strOf (headL kind gen s.size) ++ strOf (rep 4 0) ++ (strOf (rep 4 0) ++ s ++ strOf (rep (492 - s.size) 0)) = strOf (bareL kind gen (bOf s)) := by
  unfold bareL
  rw [show rep 8 0 = rep 4 0 ++ rep 4 0 from rfl]
  simp only [strOf_append, bOf_length, strOf_bOf, ByteArray.append_assoc]
theorem str_seal (kind gen : Int) (s : ByteArray) : strOf (headL kind gen s.size) ++ strOf (numB 4 (sumL (bareL kind gen (bOf s)))) ++ (strOf (rep 4 0) ++ s ++ strOf (rep (492 - s.size) 0)) = strOf (sealL kind gen (bOf s)) := by
  unfold sealL
  simp only [strOf_append, bOf_length, strOf_bOf, ByteArray.append_assoc]

set_option maxRecDepth 100000 in
set_option maxHeartbeats 4000000 in
theorem rseal_yes (kind gen : Int) (s : ByteArray) (w : World) (hk0 : 0 ≤ kind) (hk1 : kind ≤ 255) (hg0 : 0 ≤ gen) (hg1 : gen ≤ 281474976710655) (hs : s.size ≤ 492) :
    Calls Try.prog 81 #[.int .i64 kind, .int .i64 gen, .string s] w fun e w' => e = .returned (.tuple #[.string (strOf (sealL kind gen (bOf s))), .int .i64 0]) ∧ Below w.heap.size w w' := by
  have hz1 := size_num
  have hz2 := size_rep
  have hn1 : kind ≤ 9223372036854775807 := by omega
  have hn2 : gen ≤ 9223372036854775807 := by omega
  have HB := hid (Below.refl w.heap.size w)
  go_enter Try.func81, Try.ntmps81
  go_wp2_with fail
  refine (rnumber_any kind 1 _ hk0 hn1 (by omega)).mono ?_
  rintro e w1 ⟨rfl, hb⟩
  replace HB := hid (HB.out.trans (hb.mono HB.out.size))
  clear hb
  go_wp2_with fail
  refine (rnumber_any (s.size : Int) 2 _ (by omega) (by omega) (by omega)).mono ?_
  rintro e w2 ⟨rfl, hb⟩
  replace HB := hid (HB.out.trans (hb.mono HB.out.size))
  clear hb
  go_wp2_with fail
  refine (rnumber_any gen 6 _ hg0 hn2 (by omega)).mono ?_
  rintro e w3 ⟨rfl, hb⟩
  replace HB := hid (HB.out.trans (hb.mono HB.out.size))
  clear hb
  go_wp2_with fail
  refine (rnoughts_any 4 _ (by omega)).mono ?_
  rintro e w4 ⟨rfl, hb⟩
  replace HB := hid (HB.out.trans (hb.mono HB.out.size))
  clear hb
  go_wp2_with fail
  have hsub : (492 : Int) - s.size = ((492 - s.size : Nat) : Int) := by omega
  have hno := rnoughts_any (492 - s.size) w4 (by omega)
  rw [← hsub] at hno
  refine hno.mono ?_
  clear hno hsub
  rintro e w5 ⟨rfl, hb⟩
  replace HB := hid (HB.out.trans (hb.mono HB.out.size))
  clear hb
  go_wp2_with fail
  refine (rnoughts_any 4 _ (by omega)).mono ?_
  rintro e w6 ⟨rfl, hb⟩
  replace HB := hid (HB.out.trans (hb.mono HB.out.size))
  clear hb
  go_wp2_with fail
  rw [str_head, str_bare]
  have hsz : (strOf (bareL kind gen (bOf s))).size ≤ 5000 := by rw [strOf_size, bareL_length _ _ _ (by rw [bOf_length]; exact hs)]; omega
  have hrs := rsum_any (strOf (bareL kind gen (bOf s))) hsz w6
  rw [bOf_strOf _ (byt_bare _ _ _ (bOf_range s))] at hrs
  refine hrs.mono ?_
  clear hrs hsz
  rintro e w7 ⟨rfl, rfl⟩
  have hs0 := sumL_nonneg (bareL kind gen (bOf s))
  have hs1 := sumL_lt (bareL kind gen (bOf s))
  have hfin := hid (str_seal kind gen s)
  have hzh : (strOf (headL kind gen s.size)).size = 12 := by rw [strOf_size, headL_length]
  generalize sumL (bareL kind gen (bOf s)) = T at hs0 hs1 hfin ⊢
  generalize strOf (headL kind gen s.size) = HD at hfin hzh ⊢
  go_wp2_with fail
  refine (rnumber_any T 4 _ hs0 (by omega) (by omega)).mono ?_
  rintro e w8 ⟨rfl, hb⟩
  replace HB := hid (HB.out.trans (hb.mono HB.out.size))
  clear hb
  go_wp2_with fail
  go_ret2
  rw [hfin.out]
  exact ⟨rfl, HB.out⟩

set_option maxHeartbeats 1000000 in
theorem rseal_arg (kind gen : Int) (s : ByteArray) (w : World) (h : ¬ (((0 ≤ kind ∧ kind ≤ 255) ∧ 0 ≤ gen) ∧ gen ≤ 281474976710655)) :
    Calls Try.prog 81 #[.int .i64 kind, .int .i64 gen, .string s] w fun e w' => e = .returned (.tuple #[.string ⟨#[]⟩, .int .i64 2]) ∧ w' = w := by
  go_enter Try.func81, Try.ntmps81
  go_wp2_with fail
  all_goals first | (exfalso; omega) | (go_ret2; exact ⟨rfl, rfl⟩)
set_option maxHeartbeats 1000000 in
theorem rseal_long (kind gen : Int) (s : ByteArray) (w : World) (hm : s.size ≤ maxLen) (h : ((0 ≤ kind ∧ kind ≤ 255) ∧ 0 ≤ gen) ∧ gen ≤ 281474976710655) (hs : 492 < s.size) :
    Calls Try.prog 81 #[.int .i64 kind, .int .i64 gen, .string s] w fun e w' => e = .returned (.tuple #[.string ⟨#[]⟩, .int .i64 4]) ∧ w' = w := by
  unfold maxLen at hm
  have hs' : (492 : Int) < s.size := by omega
  go_enter Try.func81, Try.ntmps81
  go_wp2_with fail
  all_goals first | (exfalso; omega) | (go_ret2; exact ⟨rfl, rfl⟩)

theorem str_root (gen : Int) (s : ByteArray) : strOf (numB 8 gen) ++ strOf (numB 2 s.size) ++ s ++ strOf (rep (494 - s.size) 0) ++ strOf (numB 8 gen) = strOf (rootL gen (bOf s)) := by
  unfold rootL
  simp only [strOf_append, bOf_length, strOf_bOf, ByteArray.append_assoc]

set_option maxRecDepth 100000 in
set_option maxHeartbeats 4000000 in
theorem rroot_yes (gen : Int) (s : ByteArray) (w : World) (hg0 : 1 ≤ gen) (hg1 : gen ≤ 4611686018427387904) (hs : s.size ≤ 490) :
    Calls Try.prog 43 #[.int .i64 gen, .string s] w fun e w' => e = .returned (.tuple #[.string (strOf (rootL gen (bOf s))), .int .i64 0]) ∧ Below w.heap.size w w' := by
  have hz1 := size_num
  have hz2 := size_rep
  have hn0 : 0 ≤ gen := by omega
  have hn2 : gen ≤ 9223372036854775807 := by omega
  have hfin := hid (str_root gen s)
  have HB := hid (Below.refl w.heap.size w)
  go_enter Try.func43, Try.ntmps43
  go_wp2_with fail
  refine (rnumber_any gen 8 _ hn0 hn2 (by omega)).mono ?_
  rintro e w1 ⟨rfl, hb⟩
  replace HB := hid (HB.out.trans (hb.mono HB.out.size))
  clear hb
  go_wp2_with fail
  refine (rnumber_any (s.size : Int) 2 _ (by omega) (by omega) (by omega)).mono ?_
  rintro e w2 ⟨rfl, hb⟩
  replace HB := hid (HB.out.trans (hb.mono HB.out.size))
  clear hb
  go_wp2_with fail
  have hsub : (494 : Int) - s.size = ((494 - s.size : Nat) : Int) := by omega
  have hno := rnoughts_any (494 - s.size) w2 (by omega)
  rw [← hsub] at hno
  refine hno.mono ?_
  clear hno hsub
  rintro e w5 ⟨rfl, hb⟩
  replace HB := hid (HB.out.trans (hb.mono HB.out.size))
  clear hb
  go_wp2_with fail
  refine (rnumber_any gen 8 _ hn0 hn2 (by omega)).mono ?_
  rintro e w6 ⟨rfl, hb⟩
  replace HB := hid (HB.out.trans (hb.mono HB.out.size))
  clear hb
  go_wp2_with fail
  go_ret2
  rw [hfin.out]
  exact ⟨rfl, HB.out⟩
set_option maxHeartbeats 1000000 in
theorem rroot_arg (gen : Int) (s : ByteArray) (w : World) (h : ¬ (1 ≤ gen ∧ gen ≤ 4611686018427387904)) :
    Calls Try.prog 43 #[.int .i64 gen, .string s] w fun e w' => e = .returned (.tuple #[.string ⟨#[]⟩, .int .i64 2]) ∧ w' = w := by
  go_enter Try.func43, Try.ntmps43
  go_wp2_with fail
  all_goals first | (exfalso; omega) | (go_ret2; exact ⟨rfl, rfl⟩)
set_option maxHeartbeats 1000000 in
theorem rroot_long (gen : Int) (s : ByteArray) (w : World) (hm : s.size ≤ maxLen) (h : 1 ≤ gen ∧ gen ≤ 4611686018427387904) (hs : 490 < s.size) :
    Calls Try.prog 43 #[.int .i64 gen, .string s] w fun e w' => e = .returned (.tuple #[.string ⟨#[]⟩, .int .i64 4]) ∧ w' = w := by
  unfold maxLen at hm
  have hs' : (490 : Int) < s.size := by omega
  go_enter Try.func43, Try.ntmps43
  go_wp2_with fail
  all_goals first | (exfalso; omega) | (go_ret2; exact ⟨rfl, rfl⟩)
end Go.Proofs.Ytambgimfbdecpaa
namespace Go.Proofs.Ytambgimfbdecpaa
open Go.RowKit
set_option linter.unusedVariables false

instance (kind gen : Int) : Decidable (okPage kind gen) := by unfold okPage; infer_instance
instance (gen : Int) : Decidable (okGen gen) := by unfold okGen; infer_instance
theorem rseal_all (kind gen : Int) (s : ByteArray) (w : World) (hm : s.size ≤ maxLen) :
    Calls Try.prog 81 #[.int .i64 kind, .int .i64 gen, .string s] w fun e w' => e = .returned (.tuple #[.string (strOf (sealS kind gen (bOf s))), .int .i64 (sealE kind gen s.size)]) ∧ Below w.heap.size w w' := by
  have hl := bOf_length s
  unfold sealS
  rw [hl]
  by_cases h1 : okPage kind gen
  · by_cases h2 : s.size ≤ 492
    · have e1 := sealE_yes h1 h2
      rw [if_pos e1, e1]
      exact rseal_yes kind gen s w h1.1.1.1 h1.1.1.2 h1.1.2 h1.2 h2
    · have e1 := sealE_long h1 h2
      rw [if_neg (by rw [e1]; decide), e1]
      refine (rseal_long kind gen s w hm h1 (by omega)).mono ?_
      rintro e w' ⟨rfl, rfl⟩
      exact ⟨rfl, Below.refl _ _⟩
  · have e1 := sealE_arg (n := s.size) h1
    rw [if_neg (by rw [e1]; decide), e1]
    refine (rseal_arg kind gen s w h1).mono ?_
    rintro e w' ⟨rfl, rfl⟩
    exact ⟨rfl, Below.refl _ _⟩
theorem rroot_all (gen : Int) (s : ByteArray) (w : World) (hm : s.size ≤ maxLen) :
    Calls Try.prog 43 #[.int .i64 gen, .string s] w fun e w' => e = .returned (.tuple #[.string (strOf (rootS gen (bOf s))), .int .i64 (rootE gen s.size)]) ∧ Below w.heap.size w w' := by
  have hl := bOf_length s
  unfold rootS
  rw [hl]
  by_cases h1 : okGen gen
  · by_cases h2 : s.size ≤ 490
    · have e1 := rootE_yes h1 h2
      rw [if_pos e1, e1]
      exact rroot_yes gen s w h1.1 h1.2 h2
    · have e1 := rootE_long h1 h2
      rw [if_neg (by rw [e1]; decide), e1]
      refine (rroot_long gen s w hm h1 (by omega)).mono ?_
      rintro e w' ⟨rfl, rfl⟩
      exact ⟨rfl, Below.refl _ _⟩
  · have e1 := rootE_arg (n := s.size) h1
    rw [if_neg (by rw [e1]; decide), e1]
    refine (rroot_arg gen s w h1).mono ?_
    rintro e w' ⟨rfl, rfl⟩
    exact ⟨rfl, Below.refl _ _⟩
end Go.Proofs.Ytambgimfbdecpaa
namespace Go.Proofs.Ytambgimfbdecpaa
open Go.RowKit
set_option linter.unusedVariables false

set_option maxHeartbeats 1000000 in
theorem rdoc_len (s : ByteArray) (w : World) (hm : s.size ≤ maxLen) (h : s.size ≠ 512) :
    Calls Try.prog 84 #[.string s] w fun e w' => e = .returned (.tuple #[.int .i64 0, .int .i64 0, .string ⟨#[]⟩, .int .i64 11]) ∧ w' = w := by
  have hl2 : ((s.size : Int) != 512) = true := by rw [bne_iff_ne]; omega
  unfold maxLen at hm
  go_enter Try.func84, Try.ntmps84
  go_wp2_with fail
  refine bodyPost_ret (v := .tuple #[.int .i64 0, .int .i64 0, .string ⟨#[]⟩, .int .i64 11]) (by simp [results, Try.results84, go_sem]) rfl ⟨rfl, rfl⟩

theorem bOf_extract (S : ByteArray) (i j : Nat) : bOf (S.extract i j) = ((bOf S).drop i).take (j - i) := by
  unfold bOf
  rw [ByteArray.data_extract, Array.toList_extract, List.extract_eq_take_drop, List.map_take, List.map_drop]
theorem size_extract (S : ByteArray) (i j : Nat) : (S.extract i j).size = min (j - i) (S.size - i) := by
  rw [← bOf_length, bOf_extract, List.length_take, List.length_drop, bOf_length]
theorem bOf_get (S : ByteArray) (k : Nat) (hk : k < S.size) : ((S[k]'hk).toNat : Int) = (bOf S).getD k 0 := by
  rw [List.getD_eq_getElem?_getD, bOf_at S k hk]
  rfl
theorem isPage_len {l : List Int} (h : isPage l) : lenOf l ≤ 492 := by
  have h1 := conOf_length h.1
  have h2 := lenOf_seal (kindOf l) (genOf l) (conOf l) h1
  rw [h.2] at h2
  omega

set_option maxRecDepth 100000 in
set_option maxHeartbeats 4000000 in
theorem rdoc_any (S : ByteArray) (l : List Int) (hS : bOf S = l) (w : World) (hl : l.length = 512) :
    Calls Try.prog 84 #[.string S] w fun e w' => e = .returned (openV l) ∧ Below w.heap.size w w' := by
  have hb : Byt l := hS ▸ bOf_range S
  have hsz : S.size = 512 := by rw [← bOf_length, hS, hl]
  have hk := kindOf_range hb
  have hg := genOf_range hb hl
  have hn := lenOf_range hb hl
  have hr1 := rread_any (S.extract 4 6) (by rw [size_extract]; omega) (by rw [bOf_extract, hS]; show lenOf l ≤ _; omega)
  rw [bOf_extract, hS] at hr1
  have hr2 := rread_any (S.extract 6 12) (by rw [size_extract]; omega) (by rw [bOf_extract, hS]; show genOf l ≤ _; omega)
  rw [bOf_extract, hS] at hr2
  have hkk : ((S[2]'(by omega)).toNat : Int) = kindOf l := by rw [bOf_get, hS]; rfl
  have HR1 : Hid (∀ w, Calls Try.prog 99 #[.string (S.extract 4 6)] w fun e w' => e = .returned (.int .i64 (lenOf l)) ∧ w' = w) := hr1
  have HR2 : Hid (∀ w, Calls Try.prog 99 #[.string (S.extract 6 12)] w fun e w' => e = .returned (.int .i64 (genOf l)) ∧ w' = w) := hr2
  have HB := hid hb
  have HL := hid hl
  have HS := hid hS
  clear hb hS hr1 hr2 hl
  obtain ⟨n, hln⟩ : ∃ n : Nat, lenOf l = (n : Int) := ⟨(lenOf l).toNat, by omega⟩
  have hsub : S.extract 20 (20 + n) = strOf (conOf l) := by
    rw [← strOf_bOf (S.extract 20 _), bOf_extract, HS.out, Nat.add_sub_cancel_left]
    unfold conOf
    rw [hln, Int.toNat_natCast]
  have HSUB := hid hsub
  have HLN := hid hln
  rw [hln] at HR1 hn
  clear hln hsub
  go_enter Try.func84, Try.ntmps84
  go_wp2_with fail
  refine (HR1.out _).mono ?_
  rintro e w ⟨rfl, rfl⟩
  by_cases hlen : n ≤ 492
  · have hcl : (conOf l).length ≤ 492 := conOf_length HL.out
    have hsc := hid (rseal_yes (kindOf l) (genOf l) (strOf (conOf l)) · hk.1 (by omega) hg.1 hg.2 (by rw [strOf_size]; exact hcl))
    have hbc := hid (bOf_strOf (conOf l) ((HB.out.drop 20).take _))
    have hw1 : IntKind.i64.wrap (20 + (n : Int)) = 20 + n := wrap_i64 _ (by omega) (by omega)
    have hw0 : IntKind.i64.wrap (kindOf l) = kindOf l := wrap_i64 _ (by omega) (by omega)
    have HSUB2 : Hid (S.extract 20 (20 + (n : Int)).toNat = strOf (conOf l)) := by
      have e : (20 + (n : Int)).toNat = 20 + n := by omega
      rw [e]; exact HSUB.out
    have hi0 : (0 : Int) ≤ 20 + n := by omega
    have hi1 : (20 : Int) ≤ 20 + n := by omega
    have hi2 : (20 : Int) + n ≤ 512 := by omega
    have hlen' : (n : Int) ≤ 492 := by omega
    have heq0 : Hid (((strOf (sealL (kindOf l) (genOf l) (conOf l))).toList == S.toList) = decide (sealL (kindOf l) (genOf l) (conOf l) = l)) := by
      have := eq_strOf (byt_seal (kindOf l) (genOf l) (conOf l) ((HB.out.drop 20).take _)) HB.out
      rw [← HS.out, strOf_bOf] at this
      rw [← HS.out]; exact this
    go_wp2_with fail
    go_region_held3 (fun _ => True) (trivial) (first | (go_at_call 99; refine (HR2.out _).mono ?_; rintro e w' ⟨rfl, rfl⟩) | (go_at_call 81; rw [HSUB2.out]; refine (hsc.out _).mono ?_; rw [hbc.out]; rintro e w' ⟨rfl, hb⟩))
    all_goals
      have HW := hid hb
      clear hb
      by_cases hp : sealL (kindOf l) (genOf l) (conOf l) = l
      · have heq := heq0.out
        rw [decide_eq_true hp] at heq
        have HP := hid hp
        clear hp
        generalize strOf (sealL (kindOf l) (genOf l) (conOf l)) = X at heq ⊢
        go_wp2_with fail
        go_region_held3 (fun _ => True) (trivial) (first | (go_at_call 99; refine (HR2.out _).mono ?_; rintro e w' ⟨rfl, rfl⟩))
        all_goals
          rw [HSUB2.out]
          go_wp2_with fail
          refine bodyPost_ret (v := .tuple #[.int .i64 (kindOf l), .int .i64 (genOf l), .string (strOf (conOf l)), .int .i64 0]) (by simp [results, Try.results84, go_sem]) rfl ⟨?_, ?_⟩
          · rw [openV_yes ⟨HL.out, HP.out⟩]
          · first
            | exact (Below.refl _ _).drew.trans HW.out
            | exact ((Below.refl _ _).drew.trans HW.out).drew
      · have heq := heq0.out
        rw [decide_eq_false hp] at heq
        have HP := hid hp
        clear hp
        generalize strOf (sealL (kindOf l) (genOf l) (conOf l)) = X at heq ⊢
        go_wp2_with fail
        refine bodyPost_ret (v := .tuple #[.int .i64 0, .int .i64 0, .string ⟨#[]⟩, .int .i64 11]) (by simp [results, Try.results84, go_sem]) rfl ⟨?_, (Below.refl _ _).drew.trans HW.out⟩
        rw [openV_no (fun h => HP.out h.2)]
  · have hlen' : (492 : Int) < n := by omega
    go_wp2_with fail
    refine bodyPost_ret (v := .tuple #[.int .i64 0, .int .i64 0, .string ⟨#[]⟩, .int .i64 11]) (by simp [results, Try.results84, go_sem]) rfl ⟨?_, Below.refl _ _⟩
    rw [openV_no (fun h => by have := isPage_len h; rw [HLN.out] at this; omega)]
end Go.Proofs.Ytambgimfbdecpaa
