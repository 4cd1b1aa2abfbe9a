/- What this text holds: what the document says of any bytes, as a root's sector. · What this text holds: the document's own pager, as it lies in memory, and its small calls. · What this text holds: Abort, settle and Drop of the document's own pager. -/
import Derived.Test.YtambgimfbdecpaaQ22
import Derived.BigQuiet
namespace Go.Proofs.Ytambgimfbdecpaa
open Go.RowKit
set_option linter.unusedVariables false

theorem val_cons (x : Int) (t : List Int) : val (x :: t) = x * 256 ^ t.length + val t := by
  have aux : ∀ (t : List Int) (y : Int), t.foldl (fun n c => n * 256 + c) y = y * 256 ^ t.length + t.foldl (fun n c => n * 256 + c) 0 := by
    intro t
    induction t with
    | nil => intro y; simp
    | cons z t ih =>
      intro y
      rw [List.foldl_cons, List.foldl_cons, ih, ih (0 * 256 + z), List.length_cons, Int.pow_succ, Int.zero_mul, Int.zero_add, Int.add_mul]
      have e : y * 256 * 256 ^ t.length = y * (256 ^ t.length * 256) := by rw [Int.mul_assoc, Int.mul_comm 256]
      omega
  have := aux t x
  unfold val
  rw [List.foldl_cons, Int.zero_mul, Int.zero_add]
  exact this
theorem val_first {l : List Int} (hb : Byt l) (hl : l.length = 512) (h : l.getD 0 0 ≤ 64) : 0 ≤ val (l.take 8) ∧ val (l.take 8) ≤ 9223372036854775807 := by
  cases l with
  | nil => simp at hl
  | cons x t =>
    have hx : x ≤ 64 := h
    have ht : ((x :: t).take 8) = x :: t.take 7 := rfl
    have h0 := hb x (by simp)
    have h1 := val_len (l := t.take 7) (n := 7) (fun y hy => hb y (List.mem_cons_of_mem _ (List.mem_of_mem_take hy))) (by rw [List.length_take]; simp at hl; omega)
    rw [ht, val_cons, show (t.take 7).length = 7 by rw [List.length_take]; simp at hl; omega]
    omega
theorem isRoot_first {l : List Int} (h : isRoot l) : l.getD 0 0 ≤ 64 := by
  obtain ⟨hl, hg, hc, he⟩ := h
  have e : l.getD 0 0 = (rootL (rgenOf l) (rconOf l)).getD 0 0 := by rw [he]
  rw [e]
  unfold rootL
  simp only [numB, List.cons_append, List.getD_cons_zero]
  omega
theorem isRoot_len {l : List Int} (h : isRoot l) : rlenOf l ≤ 490 := by
  obtain ⟨hl, hg, hc, he⟩ := h
  have h2 := rlenOf_root (rgenOf l) (rconOf l) (by omega)
  rw [he] at h2
  omega

set_option maxHeartbeats 1000000 in
theorem rrdoc_len (s : ByteArray) (w : World) (hm : s.size ≤ maxLen) (h : s.size ≠ 512) :
    Calls Try.prog 79 #[.string s] w fun e w' => e = .returned (.tuple #[.int .i64 0, .string ⟨#[]⟩, .int .i64 11]) ∧ w' = w := by
  have hl2 : ((s.size : Int) != 512) = true := by rw [bne_iff_ne]; omega
  unfold maxLen at hm
  go_enter Try.func79, Try.ntmps79
  go_wp2_with fail
  refine bodyPost_ret (v := .tuple #[.int .i64 0, .string ⟨#[]⟩, .int .i64 11]) (by simp [results, Try.results79, go_sem]) rfl ⟨rfl, rfl⟩

set_option maxRecDepth 100000 in
set_option maxHeartbeats 4000000 in
theorem rrdoc_any (S : ByteArray) (l : List Int) (hS : bOf S = l) (w : World) (hl : l.length = 512) :
    Calls Try.prog 79 #[.string S] w fun e w' => e = .returned (ropenV l) ∧ Below w.heap.size w w' := by
  have hb : Byt l := hS ▸ bOf_range S
  have hsz : S.size = 512 := by rw [← bOf_length, hS, hl]
  have hn := rlenOf_range hb hl
  have hkk : ((S[0]'(by omega)).toNat : Int) = l.getD 0 0 := by rw [bOf_get, hS]
  have HL := hid hl
  have HS := hid hS
  have HB := hid hb
  by_cases hf : l.getD 0 0 ≤ 64
  · have hv := val_first hb hl hf
    have hr1 := rread_any (S.extract 0 8) (by rw [size_extract]; omega) (by rw [bOf_extract, hS]; exact hv.2)
    rw [bOf_extract, hS, List.drop_zero] at hr1
    have hgen : rgenOf l = val (l.take 8) := wrap64_fits _ hv.1 hv.2
    rw [show (8 - 0) = 8 from rfl, ← hgen] at hr1
    have hr2 := rread_any (S.extract 8 10) (by rw [size_extract]; omega) (by rw [bOf_extract, hS]; show rlenOf l ≤ _; omega)
    rw [bOf_extract, hS] at hr2
    obtain ⟨n, hln⟩ : ∃ n : Nat, rlenOf l = (n : Int) := ⟨(rlenOf l).toNat, by omega⟩
    have HR1 : Hid (∀ w, Calls Try.prog 99 #[.string (S.extract 0 8)] w fun e w' => e = .returned (.int .i64 (rgenOf l)) ∧ w' = w) := hr1
    have HR2 : Hid (∀ w, Calls Try.prog 99 #[.string (S.extract 8 10)] w fun e w' => e = .returned (.int .i64 (rlenOf l)) ∧ w' = w) := hr2
    rw [hln] at HR2 hn
    have HLN := hid hln
    clear hb hS hr1 hr2 hl hln hgen
    have hf' : ((S[0]'(by omega)).toNat : Int) ≤ 64 := by rw [hkk]; exact hf
    have HKK := hid hkk
    clear hkk
    go_enter Try.func79, Try.ntmps79
    go_wp2_with fail
    refine (HR1.out _).mono ?_
    rintro e w ⟨rfl, rfl⟩
    go_wp2_with fail
    refine (HR2.out _).mono ?_
    rintro e w ⟨rfl, rfl⟩
    generalize hG : rgenOf l = G
    have HG := hid hG
    clear hG
    by_cases hlen : n ≤ 490
    · have hsub : S.extract 10 (10 + n) = strOf (rconOf l) := by
        rw [← strOf_bOf (S.extract 10 _), bOf_extract, HS.out, Nat.add_sub_cancel_left]
        unfold rconOf
        rw [HLN.out, Int.toNat_natCast, List.take_take, Nat.min_eq_left (by omega)]
      have hlen' : (n : Int) ≤ 490 := by omega
      have HSUB2 : Hid (S.extract 10 (10 + (n : Int)).toNat = strOf (rconOf l)) := by
        have e : (10 + (n : Int)).toNat = 10 + n := by omega
        rw [e]; exact hsub
      have HSUB := hid hsub
      clear hsub
      have hw1 : IntKind.i64.wrap (10 + (n : Int)) = 10 + n := wrap_i64 _ (by omega) (by omega)
      have hi0 : (0 : Int) ≤ 10 + n := by omega
      have hi1 : (10 : Int) ≤ 10 + n := by omega
      have hi2 : (10 : Int) + n ≤ 512 := by omega
      have hcl : (rconOf l).length ≤ 490 := by unfold rconOf; rw [HLN.out, Int.toNat_natCast, List.length_take]; omega
      have hbc := hid (bOf_strOf (rconOf l) (((HB.out.drop 10).take _).take _))
      have hsc := hid (rroot_all G (strOf (rconOf l)) · (by rw [strOf_size]; unfold maxLen; omega))
      have heq0 : Hid (((strOf (rootS G (rconOf l))).toList == S.toList) = decide (isRoot l)) := by
        have hbt : Byt (rootS G (rconOf l)) := by
          unfold rootS
          split
          · exact byt_root _ _ (((HB.out.drop 10).take _).take _)
          · exact fun x hx => nomatch hx
        have h1 := eq_strOf hbt HB.out
        have h2 : (rootS G (rconOf l) = l) ↔ isRoot l := by
          unfold isRoot
          rw [HG.out]
          unfold rootS
          constructor
          · intro h
            split at h
            · next he => exact ⟨HL.out, (rootE_zero he).1, (rootE_zero he).2, h⟩
            · rw [← h] at HL; exact absurd HL.out (by simp)
          · intro h
            rw [if_pos (rootE_yes h.2.1 h.2.2.1)]
            exact h.2.2.2
        have h3 : decide (rootS G (rconOf l) = l) = decide (isRoot l) := decide_eq_decide.2 h2
        have h4 : strOf l = S := by rw [← HS.out, strOf_bOf]
        rw [h3, h4] at h1
        exact h1
      go_wp2_with fail
      rw [HSUB.out]
      refine (hsc.out _).mono ?_
      rw [hbc.out]
      rintro e w1 ⟨rfl, hb⟩
      have HW := hid hb
      clear hb
      generalize rootE G (strOf (rconOf l)).size = E
      by_cases hp : isRoot l
      · have heq := heq0.out
        rw [decide_eq_true hp] at heq
        have HP := hid hp
        clear hp heq0
        generalize strOf (rootS G (rconOf l)) = X at heq ⊢
        go_wp2_with fail
        go_region_held3 (fun _ => True) (trivial) (fail)
        all_goals
          rw [HSUB2.out]
          go_wp2_with fail
          refine bodyPost_ret (v := .tuple #[.int .i64 G, .string (strOf (rconOf l)), .int .i64 0]) (by simp [results, Try.results79, go_sem]) rfl ⟨?_, ?_⟩
          · rw [ropenV_yes HP.out, HG.out]
          · first
            | exact HW.out
            | exact HW.out.drew
      · have heq := heq0.out
        rw [decide_eq_false hp] at heq
        have HP := hid hp
        clear hp heq0
        generalize strOf (rootS G (rconOf l)) = X at heq ⊢
        go_wp2_with fail
        refine bodyPost_ret (v := .tuple #[.int .i64 0, .string ⟨#[]⟩, .int .i64 11]) (by simp [results, Try.results79, go_sem]) rfl ⟨?_, HW.out⟩
        rw [ropenV_no HP.out]
    · have hlen' : (490 : Int) < n := by omega
      go_wp2_with fail
      refine bodyPost_ret (v := .tuple #[.int .i64 0, .string ⟨#[]⟩, .int .i64 11]) (by simp [results, Try.results79, go_sem]) rfl ⟨?_, Below.refl _ _⟩
      rw [ropenV_no (fun h => by have := isRoot_len h; rw [HLN.out] at this; omega)]
  · have hf' : (64 : Int) < ((S[0]'(by omega)).toNat : Int) := by rw [hkk]; omega
    clear hb hS hl
    have HF := hid hf
    clear hf hkk
    go_enter Try.func79, Try.ntmps79
    go_wp2_with fail
    refine bodyPost_ret (v := .tuple #[.int .i64 0, .string ⟨#[]⟩, .int .i64 11]) (by simp [results, Try.results79, go_sem]) rfl ⟨?_, Below.refl _ _⟩
    rw [ropenV_no (fun h => by have := isRoot_first h; have := HF.out; omega)]
end Go.Proofs.Ytambgimfbdecpaa
namespace Go.Proofs.Ytambgimfbdecpaa
open Go.RowKit
set_option linter.unusedVariables false

/-- Ints as cells. -/
def ints (l : List Int) : List Value := l.map fun x => .int .i64 x
theorem ints_length (l : List Int) : (ints l).length = l.length := by simp [ints]
theorem ints_at (l : List Int) (i : Nat) (hi : i < l.length) : (ints l)[i]? = some (.int .i64 (l.getD i 0)) := by
  simp [ints, List.getD, List.getElem?_eq_getElem hi]
theorem ints_set (l : List Int) (i : Nat) (x : Int) : (ints l).set i (.int .i64 x) = ints (l.set i x) := by simp [ints, List.map_set]

/-- The document's pager as plain data. -/
structure RS where
  D : DS
  is : List Int
  fo : List Int
  pins : List Int
  gen : Int
  root : ByteArray
  dead : Bool

structure RAt (w : World) (B b c gi gf : Nat) (pv : Value) (own : List Nat) (R : RS) : Prop where
  blk : w.heap[b]? = some (.cells #[.pointer (some ⟨c, 0, none⟩), .int .i64 R.gen, .string R.root, .slice (some ⟨gi, 0, none⟩) R.D.n R.D.n, .slice (some ⟨gf, 0, none⟩) R.D.n R.D.n, pv, .bool R.dead] 53 (0, 0))
  is : w.heap[gi]? = some (.cells (ints R.is).toArray 3 (0, 0))
  fo : w.heap[gf]? = some (.cells (ints R.fo).toArray 3 (0, 0))
  li : R.is.length = R.D.n
  lf : R.fo.length = R.D.n
  pins : w.ownsRow B 3 1 pv R.pins.length (ints R.pins)
  disk : RDisk w B c own R.D
  byt : R.D.byt
  n1 : gi ≠ b
  n2 : gf ≠ b
  n3 : gi ≠ gf
  n4 : pv.ownBlock ≠ some b
  n5 : pv.ownBlock ≠ some gi
  n6 : pv.ownBlock ≠ some gf
  m1 : b ∉ own
  m2 : gi ∉ own
  m3 : gf ∉ own
  m4 : ∀ k, pv.ownBlock = some k → k ∉ own
  hb : B ≤ b
  hgi : B ≤ gi
  hgf : B ≤ gf
  g0 : 0 ≤ R.gen
  g1 : R.gen ≤ 4611686018427387904
  n : 4 ≤ R.D.n

/-- Its blocks. -/
def rall (b gi gf : Nat) (pv : Value) (own : List Nat) : List Nat := b :: gi :: gf :: (pv.ownBlock.toList ++ own)
def Rpg (w : World) (B b c : Nat) (all : List Nat) (R : RS) : Prop := ∃ gi gf pv own, RAt w B b c gi gf pv own R ∧ all = rall b gi gf pv own

theorem RDisk.good {w : World} {B r : Nat} {own : List Nat} {D : DS} (h : RDisk w B r own D) : D.good := by
  obtain ⟨gl, lc, wv, hd, rfl⟩ := h
  exact hd.good

section
variable {w w' : World} {B b c gi gf : Nat} {pv : Value} {own : List Nat} {R : RS}

theorem RAt.cells (h : RAt w B b c gi gf pv own R) :
    w.cell? ⟨b, 0, none⟩ = some (.pointer (some ⟨c, 0, none⟩)) ∧ w.cell? ⟨b, 1, none⟩ = some (.int .i64 R.gen) ∧ w.cell? ⟨b, 2, none⟩ = some (.string R.root) ∧
    w.cell? ⟨b, 3, none⟩ = some (.slice (some ⟨gi, 0, none⟩) R.D.n R.D.n) ∧ w.cell? ⟨b, 4, none⟩ = some (.slice (some ⟨gf, 0, none⟩) R.D.n R.D.n) ∧ w.cell? ⟨b, 5, none⟩ = some pv ∧ w.cell? ⟨b, 6, none⟩ = some (.bool R.dead) := by
  simp [World.cell?, h.blk]
theorem RAt.free (h : RAt w B b c gi gf pv own R) (k : Nat) : w.frozen? ⟨b, k, none⟩ = false := by simp [World.frozen?, h.blk]
theorem RAt.freeI (h : RAt w B b c gi gf pv own R) (k : Nat) : w.frozen? ⟨gi, k, none⟩ = false := by simp [World.frozen?, h.is]
theorem RAt.freeF (h : RAt w B b c gi gf pv own R) (k : Nat) : w.frozen? ⟨gf, k, none⟩ = false := by simp [World.frozen?, h.fo]
theorem RAt.max (h : RAt w B b c gi gf pv own R) : R.D.n ≤ 4096 := h.disk.good.n2
theorem RAt.isAt (h : RAt w B b c gi gf pv own R) (i : Nat) (hi : i < R.D.n) : w.cell? ⟨gi, i, none⟩ = some (.int .i64 (R.is.getD i 0)) := by
  have := ints_at R.is i (by rw [h.li]; exact hi)
  simp only [World.cell?, h.is]
  simpa using this
theorem RAt.foAt (h : RAt w B b c gi gf pv own R) (i : Nat) (hi : i < R.D.n) : w.cell? ⟨gf, i, none⟩ = some (.int .i64 (R.fo.getD i 0)) := by
  have := ints_at R.fo i (by rw [h.lf]; exact hi)
  simp only [World.cell?, h.fo]
  simpa using this
theorem RAt.lt (h : RAt w B b c gi gf pv own R) : ∀ i ∈ rall b gi gf pv own, B ≤ i ∧ i < w.heap.size := by
  intro i hi
  simp only [rall, List.mem_cons, List.mem_append, Option.mem_toList] at hi
  rcases hi with rfl | rfl | rfl | hi | hi
  · exact ⟨h.hb, (Array.getElem?_eq_some_iff.1 h.blk).1⟩
  · exact ⟨h.hgi, (Array.getElem?_eq_some_iff.1 h.is).1⟩
  · exact ⟨h.hgf, (Array.getElem?_eq_some_iff.1 h.fo).1⟩
  · exact h.pins.lt i hi
  · exact h.disk.lt i hi
theorem RAt.keep (h : RAt w B b c gi gf pv own R) {S : List Nat} (k : Kept S w w') (hS : ∀ i ∈ rall b gi gf pv own, i ∉ S) : RAt w' B b c gi gf pv own R :=
  { h with
    blk := by rw [k.block b (h.lt b (by simp [rall])).2 (hS b (by simp [rall]))]; exact h.blk
    is := by rw [k.block gi (h.lt gi (by simp [rall])).2 (hS gi (by simp [rall]))]; exact h.is
    fo := by rw [k.block gf (h.lt gf (by simp [rall])).2 (hS gf (by simp [rall]))]; exact h.fo
    pins := ownsRow_block h.pins fun i hi => k.block i (h.pins.lt i hi).2 (hS i (by simp [rall, hi]))
    disk := h.disk.keep k (fun i hi => hS i (by simp [rall, hi])) }
theorem RAt.later (h : RAt w B b c gi gf pv own R) (hb : Below w.heap.size w w') : RAt w' B b c gi gf pv own R := h.keep (Kept.ofBelow hb []) (by simp)
/-- The disk beneath has turned. -/
theorem RAt.setDisk {own' : List Nat} {D' : DS} (h : RAt w B b c gi gf pv own R) (hd : RDisk w' B c own' D') (hk : Kept own w w') (hn : ∀ k ∈ own', k ∈ own ∨ w.heap.size ≤ k) (he : D'.n = R.D.n) (hby : D'.byt) :
    RAt w' B b c gi gf pv own' { R with D := D' } :=
  have out : ∀ k ∈ rall b gi gf pv own, k ∉ own → k ∉ own' := fun k hk hno hm => by
    rcases hn k hm with h' | h'
    · exact hno h'
    · have := (h.lt k hk).2; omega
  { h with
    blk := by rw [hk.block b (h.lt b (by simp [rall])).2 h.m1, h.blk, he]
    is := by rw [hk.block gi (h.lt gi (by simp [rall])).2 h.m2]; exact h.is
    fo := by rw [hk.block gf (h.lt gf (by simp [rall])).2 h.m3]; exact h.fo
    li := by rw [he]; exact h.li
    lf := by rw [he]; exact h.lf
    pins := ownsRow_block h.pins fun i hi => hk.block i (h.pins.lt i hi).2 (h.m4 i hi)
    disk := hd
    byt := hby
    m1 := out b (by simp [rall]) h.m1
    m2 := out gi (by simp [rall]) h.m2
    m3 := out gf (by simp [rall]) h.m3
    m4 := fun k hk => out k (by simp [rall, hk]) (h.m4 k hk)
    n := by rw [he]; exact h.n }
/-- A state is written. -/
theorem RAt.setIs (h : RAt w B b c gi gf pv own R) (i : Nat) (x : Int) : RAt (w.setCell ⟨gi, i, none⟩ (.int .i64 x)) B b c gi gf pv own { R with is := R.is.set i x } := by
  have hk := Kept.setCell [gi] w ⟨gi, i, none⟩ (.int .i64 x) (by simp)
  refine { h with blk := ?_, is := ?_, fo := ?_, li := by simpa using h.li, pins := ?_, disk := h.disk.keep hk (fun k hk hm => h.m2 (by simp only [List.mem_singleton] at hm; exact hm ▸ hk)) }
  · rw [hk.block b (h.lt b (by simp [rall])).2 (by simpa using fun e => h.n1 e.symm)]; exact h.blk
  · simp only [World.setCell, Array.getElem?_modify, h.is, if_true, Option.map_some]
    rw [← ints_set]
    simp
  · rw [hk.block gf (h.lt gf (by simp [rall])).2 (by simpa using fun e => h.n3 e.symm)]; exact h.fo
  · exact ownsRow_block h.pins fun k hq => hk.block k (h.pins.lt k hq).2 (by simp only [List.mem_singleton]; exact fun e => h.n5 (e ▸ hq))
/-- A gen is written. -/
theorem RAt.setFo (h : RAt w B b c gi gf pv own R) (i : Nat) (x : Int) : RAt (w.setCell ⟨gf, i, none⟩ (.int .i64 x)) B b c gi gf pv own { R with fo := R.fo.set i x } := by
  have hk := Kept.setCell [gf] w ⟨gf, i, none⟩ (.int .i64 x) (by simp)
  refine { h with blk := ?_, is := ?_, fo := ?_, lf := by simpa using h.lf, pins := ?_, disk := h.disk.keep hk (fun k hk hm => h.m3 (by simp only [List.mem_singleton] at hm; exact hm ▸ hk)) }
  · rw [hk.block b (h.lt b (by simp [rall])).2 (by simpa using fun e => h.n2 e.symm)]; exact h.blk
  · rw [hk.block gi (h.lt gi (by simp [rall])).2 (by simpa using h.n3)]; exact h.is
  · simp only [World.setCell, Array.getElem?_modify, h.fo, if_true, Option.map_some]
    rw [← ints_set]
    simp
  · exact ownsRow_block h.pins fun k hq => hk.block k (h.pins.lt k hq).2 (by simp only [List.mem_singleton]; exact fun e => h.n6 (e ▸ hq))
theorem RAt.blkKept (h : RAt w B b c gi gf pv own R) (hk : Kept [b] w w') : w'.heap[gi]? = some (.cells (ints R.is).toArray 3 (0, 0)) ∧ w'.heap[gf]? = some (.cells (ints R.fo).toArray 3 (0, 0)) ∧ w'.ownsRow B 3 1 pv R.pins.length (ints R.pins) ∧ RDisk w' B c own R.D := by
  refine ⟨?_, ?_, ?_, h.disk.keep hk (fun k hk hm => h.m1 (by simp only [List.mem_singleton] at hm; exact hm ▸ hk))⟩
  · rw [hk.block gi (h.lt gi (by simp [rall])).2 (by simpa using h.n1)]; exact h.is
  · rw [hk.block gf (h.lt gf (by simp [rall])).2 (by simpa using h.n2)]; exact h.fo
  · exact ownsRow_block h.pins fun k hq => hk.block k (h.pins.lt k hq).2 (by simp only [List.mem_singleton]; exact fun e => h.n4 (e ▸ hq))
/-- It is dead. -/
theorem RAt.setDead (h : RAt w B b c gi gf pv own R) : RAt (w.setCell ⟨b, 6, none⟩ (.bool true)) B b c gi gf pv own { R with dead := true } := by
  obtain ⟨h1, h2, h3, h4⟩ := h.blkKept (Kept.setCell [b] w ⟨b, 6, none⟩ (.bool true) (by simp))
  exact { h with blk := by simp [World.setCell, Array.getElem?_modify, h.blk], is := h1, fo := h2, pins := h3, disk := h4 }
/-- It has another root. -/
theorem RAt.setRoot (h : RAt w B b c gi gf pv own R) (g : Int) (r : ByteArray) (h0 : 0 ≤ g) (hg : g ≤ 4611686018427387904) : RAt ((w.setCell ⟨b, 1, none⟩ (.int .i64 g)).setCell ⟨b, 2, none⟩ (.string r)) B b c gi gf pv own { R with gen := g, root := r } := by
  obtain ⟨h1, h2, h3, h4⟩ := h.blkKept ((Kept.setCell [b] w ⟨b, 1, none⟩ (.int .i64 g) (by simp)).trans (Kept.setCell [b] _ ⟨b, 2, none⟩ (.string r) (by simp)) (fun _ _ h => h))
  exact { h with blk := by simp [World.setCell, Array.getElem?_modify, h.blk], is := h1, fo := h2, pins := h3, disk := h4, g0 := h0, g1 := hg }

theorem rtold_no (b : Nat) (w : World) (e : Int) (he : e ≠ 9) : Calls Try.prog 82 #[.pointer (some ⟨b, 0, none⟩), .int .i64 e] w fun r w' => r = .returned (.int .i64 e) ∧ w' = w := by
  have he' : (e == 9) = false := by rw [beq_eq_false_iff_ne]; exact he
  clear he
  go_enter Try.func82, Try.ntmps82
  go_wp2
  go_ret
  exact ⟨rfl, rfl⟩
theorem rtold_yes (h : RAt w B b c gi gf pv own R) : Calls Try.prog 82 #[.pointer (some ⟨b, 0, none⟩), .int .i64 9] w fun r w' => r = .returned (.int .i64 9) ∧ w' = w.setCell ⟨b, 6, none⟩ (.bool true) := by
  obtain ⟨c0, c1, c2, c3, c4, c5, c6⟩ := h.cells
  have hf := h.free 6
  clear h
  go_enter Try.func82, Try.ntmps82
  go_wp2
  go_ret
  exact ⟨rfl, rfl⟩
theorem rpage_any (h : RAt w B b c gi gf pv own R) (i : Int) : Calls Try.prog 83 #[.pointer (some ⟨b, 0, none⟩), .int .i64 i] w fun e w' => e = .returned (.bool (decide (2 ≤ i ∧ i < R.D.n))) ∧ w' = w := by
  obtain ⟨c0, c1, c2, c3, c4, c5, c6⟩ := h.cells
  have hm := h.max
  clear h
  by_cases h1 : 2 ≤ i
  · by_cases h2 : i < R.D.n
    · rw [decide_eq_true (by exact ⟨h1, h2⟩)]
      go_enter Try.func83, Try.ntmps83
      go_wp2
      go_ret
      exact ⟨rfl, rfl⟩
    · rw [decide_eq_false (fun h => h2 h.2)]
      go_enter Try.func83, Try.ntmps83
      go_wp2
      go_ret
      exact ⟨rfl, rfl⟩
  · rw [decide_eq_false (fun h => h1 h.1)]
    go_enter Try.func83, Try.ntmps83
    go_wp2
    go_ret
    exact ⟨rfl, rfl⟩

/-- How many are free. -/
def rcnt (is : List Int) : Nat := (is.drop 2).countP fun x => x == 0
theorem rcnt_step (is : List Int) (k : Nat) (h2 : 2 ≤ k) (hk : k < is.length) : rcnt (is.take (k + 1)) = rcnt (is.take k) + if is.getD k 0 = 0 then 1 else 0 := by
  unfold rcnt
  rw [← List.take_append_getElem hk, List.drop_append_of_le_length (by rw [List.length_take]; omega), List.countP_append]
  simp [List.getD, List.getElem?_eq_getElem hk, List.countP_cons]
theorem rcnt_le (is : List Int) : rcnt is ≤ is.length := by
  unfold rcnt
  refine Nat.le_trans List.countP_le_length ?_
  rw [List.length_drop]; omega

set_option maxRecDepth 100000 in
set_option maxHeartbeats 1000000 in
theorem rfree_any (h : RAt w B b c gi gf pv own R) : Calls Try.prog 27 #[.pointer (some ⟨b, 0, none⟩)] w fun e w' => e = .returned (.int .i64 (rcnt R.is)) ∧ w' = w := by
  obtain ⟨c0, c1, c2, c3, c4, c5, c6⟩ := h.cells
  have hm := h.max
  have hn := h.n
  have HH := hid h
  have HL := hid h.li
  clear h
  go_enter Try.func27, Try.ntmps27
  go_wp2
  go_loop [4, 3] (fun q c => ∃ k : Nat, 2 ≤ k ∧ k ≤ R.D.n ∧ q = .int .i64 k ∧ c = .int .i64 (rcnt (R.is.take k))) (fun q _ => R.D.n - (intOf q).toNat)
  case atStart =>
    refine ⟨2, Nat.le_refl _, by omega, rfl, ?_⟩
    have : rcnt (R.is.take 2) = 0 := by unfold rcnt; rw [List.drop_of_length_le (by rw [List.length_take]; omega)]; rfl
    rw [this]; rfl
  case round =>
    obtain ⟨k, hk2, hkn, rfl, rfl⟩ := hrel
    by_cases hlt : k < R.D.n
    · have hlt' : (k : Int) < R.D.n := by omega
      have hs := HH.out.isAt k hlt
      have hcl : rcnt (R.is.take k) ≤ 4096 := Nat.le_trans (rcnt_le _) (by rw [List.length_take]; omega)
      have HS := hid (rcnt_step R.is k hk2 (by rw [HL.out]; exact hlt))
      obtain ⟨x, hx⟩ : ∃ x, x = R.is.getD k 0 := ⟨_, rfl⟩
      rw [← hx] at hs
      by_cases h0 : x = 0
      · have h0' : (x == 0) = true := by rw [beq_iff_eq]; exact h0
        have HZ := hid (hx ▸ h0)
        clear h0 hx
        go_wp2
        go_round
        case rel =>
          refine ⟨k + 1, by omega, by omega, by go_num, ?_⟩
          rw [HS.out, if_pos HZ.out]
          go_num
        case measure => simp [intOf]; omega
      · have h0' : (x == 0) = false := by rw [beq_eq_false_iff_ne]; exact h0
        have HZ := hid (hx ▸ h0)
        clear h0 hx
        go_wp2
        go_round
        case rel =>
          refine ⟨k + 1, by omega, by omega, by go_num, ?_⟩
          rw [HS.out, if_neg HZ.out]
          rfl
        case measure => simp [intOf]; omega
    · have hlt' : ¬ (k : Int) < R.D.n := by omega
      go_wp2
      go_ret
      rw [List.take_of_length_le (by rw [HL.out]; omega)]
      exact ⟨rfl, rfl⟩
end
end Go.Proofs.Ytambgimfbdecpaa
namespace Go.Proofs.Ytambgimfbdecpaa
open Go.RowKit
set_option linter.unusedVariables false

/-- The first k of a list are turned. -/
def mapI (f : Nat → Int → Int) (l : List Int) (k : Nat) : List Int := l.mapIdx fun i x => if i < k then f i x else x
theorem mapI_zero (f : Nat → Int → Int) (l : List Int) : mapI f l 0 = l := by
  apply List.ext_getElem (by simp [mapI])
  intro i h1 h2
  simp [mapI]
theorem mapI_length (f : Nat → Int → Int) (l : List Int) (k : Nat) : (mapI f l k).length = l.length := by simp [mapI]
theorem mapI_all (f : Nat → Int → Int) (l : List Int) (k : Nat) (h : l.length ≤ k) : mapI f l k = l.mapIdx f := by
  apply List.ext_getElem (by simp [mapI])
  intro i h1 h2
  simp only [List.length_mapIdx] at h2
  simp only [mapI, List.getElem_mapIdx]
  rw [if_pos (by omega)]
theorem mapI_get (f : Nat → Int → Int) (l : List Int) (k : Nat) : (mapI f l k).getD k 0 = l.getD k 0 := by
  simp only [List.getD, mapI, List.getElem?_mapIdx]
  cases l[k]? with
  | none => rfl
  | some x => simp
theorem mapI_succ (f : Nat → Int → Int) (l : List Int) (k : Nat) (hk : k < l.length) : mapI f l (k + 1) = (mapI f l k).set k (f k (l.getD k 0)) := by
  apply List.ext_getElem (by simp [mapI])
  intro i h1 h2
  simp only [mapI, List.length_mapIdx] at h1
  rw [List.getElem_set]
  simp only [mapI, List.getElem_mapIdx]
  by_cases e : k = i
  · subst e
    rw [if_pos (by omega), if_pos rfl]
    simp [List.getD, List.getElem?_eq_getElem hk]
  · rw [if_neg e]
    by_cases h : i < k
    · rw [if_pos (by omega), if_pos h]
    · rw [if_neg (by omega), if_neg h]
theorem mapI_same (f : Nat → Int → Int) (l : List Int) (k : Nat) (hk : k < l.length) (h : f k (l.getD k 0) = l.getD k 0) : mapI f l (k + 1) = mapI f l k := by
  rw [mapI_succ f l k hk, h, ← mapI_get f l k]
  apply List.ext_getElem (by simp)
  intro i h1 h2
  rw [List.getElem_set]
  split
  · rename_i e; subst e; simp [List.getD, List.getElem?_eq_getElem h2]
  · rfl

/-- Abort. -/
def abF (x : Int) : Int := if x = 2 then 0 else if x = 3 then 1 else x
def RS.abort (R : RS) : RS := { R with is := R.is.mapIdx fun _ x => abF x }

section
variable {w w' : World} {B b c gi gf : Nat} {pv : Value} {own : List Nat} {R : RS}

set_option maxRecDepth 100000 in
set_option maxHeartbeats 2000000 in
theorem rabort_at (h : RAt w B b c gi gf pv own R) : Calls Try.prog 55 #[.pointer (some ⟨b, 0, none⟩)] w fun e w' => e = .returned (.tuple #[]) ∧ RAt w' B b c gi gf pv own R.abort ∧ Kept [gi] w w' := by
  have hm := h.max
  have hn := h.n
  have HH := hid h
  have HL := hid h.li
  clear h
  go_enter Try.func55, Try.ntmps55
  go_wp2
  go_loopw [2] (fun q wr => ∃ k : Nat, k ≤ R.D.n ∧ q = .int .i64 k ∧ RAt wr B b c gi gf pv own { R with is := mapI (fun _ x => abF x) R.is k } ∧ Kept [gi] w wr) (fun q _ => R.D.n - (intOf q).toNat)
  case atStart => exact ⟨0, Nat.zero_le _, rfl, by rw [mapI_zero]; exact HH.out, Kept.refl _ _⟩
  case round =>
    obtain ⟨k, hkn, rfl, hr, hkp⟩ := hrel
    obtain ⟨c0, c1, c2, c3, c4, c5, c6⟩ := hr.cells
    by_cases hlt : k < R.D.n
    · have hlt' : (k : Int) < R.D.n := by omega
      have hl : k < R.is.length := by rw [HL.out]; exact hlt
      have hs := hr.isAt k hlt
      rw [mapI_get] at hs
      have hf := hr.freeI k
      have HR := hid hr
      obtain ⟨x, hx⟩ : ∃ x, x = R.is.getD k 0 := ⟨_, rfl⟩
      rw [← hx] at hs
      have HX := hid hx
      clear hr hx
      by_cases h0 : x = 2
      · subst h0
        have HE : Hid (mapI (fun _ x => abF x) R.is (k + 1) = (mapI (fun _ x => abF x) R.is k).set k 0) := by
          rw [mapI_succ _ _ _ hl, ← HX.out]; rfl
        have hs2 : (wr.setCell ⟨gi, k, none⟩ (.int .i64 0)).cell? ⟨gi, k, none⟩ = some (.int .i64 0) := by
          have := (HR.out.setIs k 0).isAt k hlt
          rw [this]
          simp [List.getD, mapI_length, hl]
        have hne : Kept [gi] wr (wr.setCell ⟨gi, k, none⟩ (.int .i64 0)) := Kept.setCell [gi] wr _ _ (by simp)
        have c3' := hne.cell c3 (by simpa using fun e => HR.out.n1 e.symm)
        go_wp2
        go_roundw
        case rel => exact ⟨k + 1, by omega, by go_num, by rw [HE.out]; exact HR.out.setIs k 0, hkp.trans hne (fun _ _ h => h)⟩
        case measure => simp [intOf]; omega
      · have h0' : (x == 2) = false := by rw [beq_eq_false_iff_ne]; exact h0
        by_cases h1 : x = 3
        · subst h1
          have HE : Hid (mapI (fun _ x => abF x) R.is (k + 1) = (mapI (fun _ x => abF x) R.is k).set k 1) := by
            rw [mapI_succ _ _ _ hl, ← HX.out]; rfl
          have hne : Kept [gi] wr (wr.setCell ⟨gi, k, none⟩ (.int .i64 1)) := Kept.setCell [gi] wr _ _ (by simp)
          clear h0
          go_wp2
          go_roundw
          case rel => exact ⟨k + 1, by omega, by go_num, by rw [HE.out]; exact HR.out.setIs k 1, hkp.trans hne (fun _ _ h => h)⟩
          case measure => simp [intOf]; omega
        · have h1' : (x == 3) = false := by rw [beq_eq_false_iff_ne]; exact h1
          have HE : Hid (mapI (fun _ x => abF x) R.is (k + 1) = mapI (fun _ x => abF x) R.is k) := by
            exact mapI_same _ _ _ hl (by rw [← HX.out]; simp [abF, h0, h1])
          clear h0 h1
          go_wp2
          go_roundw
          case rel => exact ⟨k + 1, by omega, by go_num, by rw [HE.out]; exact HR.out, hkp⟩
          case measure => simp [intOf]; omega
    · have hlt' : ¬ (k : Int) < R.D.n := by omega
      have HR := hid hr
      clear hr
      go_wp2
      go_end0
      refine ⟨rfl, ?_, hkp⟩
      have := HR.out
      rw [mapI_all _ _ _ (by rw [HL.out]; omega)] at this
      exact this

/-- What a call answers, and the pager behind it. -/
def DidR (w : World) (B b c : Nat) (all : List Nat) (v : Value) (R' : RS) (e : Ending) (w' : World) : Prop :=
  e = .returned v ∧ ∃ all', Rpg w' B b c all' R' ∧ Kept all w w' ∧ ∀ k ∈ all', k ∈ all ∨ w.heap.size ≤ k
theorem DidR.at {R' : RS} {v : Value} (h : RAt w' B b c gi gf pv own R') (hk : Kept (rall b gi gf pv own) w w') : DidR w B b c (rall b gi gf pv own) v R' (.returned v) w' :=
  ⟨rfl, _, ⟨gi, gf, pv, own, h, rfl⟩, hk, fun k h => .inl h⟩
theorem DidR.same {v : Value} (h : RAt w B b c gi gf pv own R) : DidR w B b c (rall b gi gf pv own) v R (.returned v) w := DidR.at h (Kept.refl _ _)

/-- Drop. -/
def RS.drop (R : RS) (n : Int) : Int × RS :=
  if R.dead = true then (9, R)
  else if ¬ (2 ≤ n ∧ n < R.D.n) then (3, R)
  else if R.is.getD n.toNat 0 = 2 then (0, { R with is := R.is.set n.toNat 0 })
  else if R.is.getD n.toNat 0 = 1 then (0, { R with is := R.is.set n.toNat 3 })
  else (3, R)

set_option maxRecDepth 100000 in
set_option maxHeartbeats 2000000 in
theorem rdrop_at (h : RAt w B b c gi gf pv own R) (n : Int) : Calls Try.prog 53 #[.pointer (some ⟨b, 0, none⟩), .int .i64 n] w (DidR w B b c (rall b gi gf pv own) (.int .i64 (R.drop n).1) (R.drop n).2) := by
  obtain ⟨c0, c1, c2, c3, c4, c5, c6⟩ := h.cells
  have HU := hid (rpage_any h n)
  have HH := hid h
  have hm := h.max
  unfold RS.drop
  by_cases hd : R.dead = true
  · rw [if_pos hd]
    rw [hd] at c6
    clear h hd
    go_enter Try.func53, Try.ntmps53
    go_wp2
    go_ret
    exact DidR.same HH.out
  · rw [if_neg hd]
    have hd' : R.dead = false := by simpa using hd
    rw [hd'] at c6
    by_cases hu : 2 ≤ n ∧ n < R.D.n
    · rw [if_neg (by simpa using hu)]
      rw [decide_eq_true hu] at HU
      obtain ⟨k, rfl⟩ : ∃ k : Nat, n = k := ⟨n.toNat, by omega⟩
      have hkn : k < R.D.n := by omega
      have hkn' : (k : Int) < R.D.n := by omega
      have ds := h.isAt k hkn
      have hf := h.freeI k
      rw [Int.toNat_natCast]
      have HKp := hid fun x => (Kept.setCell [gi] w ⟨gi, k, none⟩ (.int .i64 x) (by simp)).mono (T := rall b gi gf pv own) (fun i _ hi => by simp only [List.mem_singleton] at hi; simp [hi, rall])
      clear h hd hd' hu
      by_cases h2 : R.is.getD k 0 = 2
      · rw [if_pos h2]
        rw [h2] at ds
        clear h2
        go_enter Try.func53, Try.ntmps53
        go_wp2_with (go_at_call 83; refine HU.out.mono ?_; rintro e w ⟨rfl, rfl⟩)
        go_ret
        exact DidR.at (HH.out.setIs k 0) (HKp.out 0)
      · rw [if_neg h2]
        by_cases h1 : R.is.getD k 0 = 1
        · rw [if_pos h1]
          rw [h1] at ds
          clear h2 h1
          go_enter Try.func53, Try.ntmps53
          go_wp2_with (go_at_call 83; refine HU.out.mono ?_; rintro e w ⟨rfl, rfl⟩)
          go_ret
          exact DidR.at (HH.out.setIs k 3) (HKp.out 3)
        · rw [if_neg h1]
          obtain ⟨x, hx⟩ : ∃ x, x = R.is.getD k 0 := ⟨_, rfl⟩
          rw [← hx] at ds h1 h2
          have h1' : (x == 1) = false := by rw [beq_eq_false_iff_ne]; exact h1
          have h2' : (x == 2) = false := by rw [beq_eq_false_iff_ne]; exact h2
          have h1n : (x != 1) = true := by simpa using h1
          have h2n : (x != 2) = true := by simpa using h2
          clear h2 h1 hx
          go_enter Try.func53, Try.ntmps53
          go_wp2_with (go_at_call 83; refine HU.out.mono ?_; rintro e w ⟨rfl, rfl⟩)
          go_ret
          exact DidR.same HH.out
    · rw [if_pos hu]
      rw [decide_eq_false hu] at HU
      clear h hd hd' hu
      go_enter Try.func53, Try.ntmps53
      go_wp2_with (go_at_call 83; refine HU.out.mono ?_; rintro e w ⟨rfl, rfl⟩)
      go_ret
      exact DidR.same HH.out
end
end Go.Proofs.Ytambgimfbdecpaa
