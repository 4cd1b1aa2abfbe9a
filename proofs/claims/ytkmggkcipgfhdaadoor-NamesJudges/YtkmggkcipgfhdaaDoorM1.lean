/- What this text holds: the program's bits in memory; bytes are added, and read as a text. -/
import Derived.Test.YtkmggkcipgfhdaaDoorBase
import Derived.Test.YtkmggkcipgfhdaaDoorQ1
import Derived.Lib.AppendStr
import Derived.Maps.AppendAt
import Derived.OneCell
import Derived.Laws.Shifts
import Derived.Laws.Bits64b
import Derived.Deep.QuietTactic
import Derived.BigQuiet
import Derived.Lib.OthersKept
namespace Go.Proofs.YtkmggkcipgfhdaaDoor
open Go.RowKit
set_option linter.unusedVariables false
set_option linter.unusedSimpArgs false

/-- Cells of bytes. -/
def bu (l : List UInt8) : List Value := l.map fun b => .int .u8 b.toNat
theorem bu_length (l : List UInt8) : (bu l).length = l.length := by simp [bu]
theorem bu_append (l m : List UInt8) : bu (l ++ m) = bu l ++ bu m := by simp [bu]
theorem bu_oneCell (l : List UInt8) : ∀ v ∈ bu l, v.oneCell' = true := by
  intro v hv
  simp only [bu, List.mem_map] at hv
  obtain ⟨x, _, rfl⟩ := hv
  rfl

theorem own_ne {w : World} {B b : Nat} {X : Array Value} {t : TypeId} {fr : Nat × Nat} {v' : Value} {n : Nat} {xs : List Value} (ht : t ≠ 5) (hb : w.heap[b]? = some (.cells X t fr)) (h : w.ownsRow B 5 1 v' n xs) : v'.ownBlock ≠ some b := by
  intro e
  rcases h.2 with ⟨h1, _⟩ | ⟨g, cap, cur, h1, _, h2, _⟩
  · subst h1; simp [Value.ownBlock] at e
  · subst h1
    simp only [Value.ownBlock, Option.some.injEq] at e
    subst e
    rw [hb] at h2
    simp at h2
    exact ht h2.2.1
theorem slice_of {w : World} {B : Nat} {v : Value} {n : Nat} {xs : List Value} (h : w.ownsRow B 5 1 v n xs) : ∃ a c, v = .slice a n c := by
  rcases h.2 with ⟨h1, h2⟩ | ⟨g, cap, cur, h1, _⟩
  · exact ⟨none, 0, by rw [h1, h2]⟩
  · exact ⟨_, _, h1⟩
theorem lt_of_some {w : World} {b : Nat} {o : Obj} (h : w.heap[b]? = some o) : b < w.heap.size := (Array.getElem?_eq_some_iff.1 h).1

/-- Nothing below has turned, nor any block but one that holds no bytes. -/
structure Kp (B b : Nat) (w w' : World) : Prop where
  below : Below B w w'
  oth : Go.Lib.OthersKept 5 (some b) w w'
theorem Kp.refl (B b : Nat) (w : World) : Kp B b w w := ⟨Below.refl _ _, Go.Lib.OthersKept.refl _ _ _⟩
theorem Kp.trans {B b : Nat} {w w1 w2 : World} (h : Kp B b w w1) (k : Kp B b w1 w2) : Kp B b w w2 := ⟨h.below.trans k.below, h.oth.trans k.oth⟩
theorem Kp.size {B b : Nat} {w w' : World} (h : Kp B b w w') : w.heap.size ≤ w'.heap.size := h.below.size
theorem Kp.drew {B b : Nat} {w w' : World} (h : Kp B b w w') : Kp B b w w'.drew := ⟨h.below.drew, h.oth.drew⟩
theorem Kp.drewN {B b : Nat} {w w' : World} (h : Kp B b w w') (n : Nat) : Kp B b w (w'.drewN n) := h.trans ⟨⟨rfl, rfl, rfl, Nat.le_refl _, fun _ _ => rfl⟩, fun _ _ h _ _ => h⟩
theorem Kp.alloc {B b : Nat} {w w' : World} (h : Kp B b w w') (hB : B ≤ w'.heap.size) (o : Obj) : Kp B b w (w'.alloc o) := ⟨h.below.alloc hB o, h.oth.alloc o⟩
theorem Kp.setCell {B b : Nat} {w w' : World} (h : Kp B b w w') (hB : B ≤ b) (i : Nat) (v : Value) : Kp B b w (w'.setCell ⟨b, i, none⟩ v) := ⟨h.below.setCell hB _, h.oth.setCell _ rfl _⟩
theorem Kp.later {B b : Nat} {w w' : World} (hB : B ≤ w.heap.size) (h : Below w.heap.size w w') : Kp B b w w' := ⟨h.mono hB, fun k o hk _ _ => by rw [h.block k (lt_of_some hk)]; exact hk⟩
/-- The program's bits lie in memory. -/
structure BAt (w : World) (B b : Nat) (s : St) : Prop where
  at_ : ∃ v h, w.heap[b]? = some (.cells #[v, .int .u32 h, .int .i64 s.bl.length, .bool s.run] 47 (0, 0)) ∧ w.ownsRow B 5 1 v s.out.length (bu s.out) ∧ 0 ≤ h ∧ h < 4294967296 ∧ h % 2 ^ s.bl.length = valB s.bl
  base : B ≤ b
  bits : Bits s.bl
theorem BAt.drew {w : World} {B b : Nat} {s : St} (h : BAt w B b s) : BAt w.drew B b s := ⟨h.at_, h.base, h.bits⟩
theorem BAt.alloc {w : World} {B b : Nat} {s : St} (h : BAt w B b s) (o : Obj) : BAt (w.alloc o) B b s := by
  obtain ⟨v, x, hb, ho, r⟩ := h.at_
  exact ⟨⟨v, x, by rw [Below.heap_alloc _ _ _ (lt_of_some hb)]; exact hb, World.ownsRow.alloc ho _, r⟩, h.base, h.bits⟩
theorem BAt.later {w w' : World} {B b : Nat} {s : St} (h : BAt w B b s) (hb : Below w.heap.size w w') : BAt w' B b s := by
  obtain ⟨v, x, hc, ho, r⟩ := h.at_
  exact ⟨⟨v, x, by rw [hb.block b (lt_of_some hc)]; exact hc, ownsRow_block ho (fun k hk => hb.block k (ho.lt k hk).2), r⟩, h.base, h.bits⟩

theorem bits_store {w w' : World} {B b : Nat} {v v' x y z : Value} {l : List UInt8} (hb : w.heap[b]? = some (.cells #[v, x, y, z] 47 (0, 0))) (ho : w.ownsRow B 5 1 v l.length (bu l)) (hB : B ≤ b) (hBw : B ≤ w.heap.size) {l' : List UInt8}
    (hg : w.grownBy w' v.ownBlock) (ho' : w'.ownsRow B 5 1 v' l'.length (bu l')) :
    w'.cell? ⟨b, 0, none⟩ = some v ∧ w'.frozen? ⟨b, 0, none⟩ = false ∧ (w'.setCell ⟨b, 0, none⟩ v').heap[b]? = some (.cells #[v', x, y, z] 47 (0, 0)) ∧ (w'.setCell ⟨b, 0, none⟩ v').ownsRow B 5 1 v' l'.length (bu l') ∧ Kp B b w (w'.setCell ⟨b, 0, none⟩ v') := by
  have hlt := lt_of_some hb
  have hb' : w'.heap[b]? = some (.cells #[v, x, y, z] 47 (0, 0)) := by
    rw [hg.block b hlt (fun e => own_ne (by decide) hb ho e.symm)]; exact hb
  refine ⟨by simp [World.cell?, hb'], by simp [World.frozen?, hb'], ?_, ownsRow_setCell_other ho' (own_ne (by decide) hb' ho') _, ?_⟩
  · rw [heap_setCell_same _ _ _ _ _ _ hb']; rfl
  · refine ⟨((Below.refl B w).grown hg hBw (fun k hk => (ho.lt k hk).1)).setCell hB _, ((Go.Lib.OthersKept.refl 5 (some b) w).grown hg (fun g hgg => ?_)).setCell ⟨b, 0, none⟩ rfl _⟩
    rcases ho.2 with ⟨rfl, _⟩ | ⟨g', cap, cur, rfl, _, h2, _⟩
    · simp [Value.ownBlock] at hgg
    · simp only [Value.ownBlock, Option.some.injEq] at hgg
      subst hgg
      exact ⟨cur, _, h2⟩

theorem exec_append {a : Act} {x y : Operand} {u s : Value} {w w' : World} {v : Value} {d : Option Tmp} {t t2 ty : Nat} {pos : String} {af : Array Edge} {g : Option (Nat × Bool)} (hx : a.eval x = u) (hy : a.eval y = s)
    (h : (Builtin.append_ #[t, t2] ty #[u, s]).run Tryd.prog w = .ok v w') : (execOp a.eval ⟨d, .call { callee := .builtin .append, args := #[x, y], argTypes := #[t, t2] }, ty, pos, af, g⟩).run Tryd.prog w = .ok (.value v) w' := by
  simp only [execOp, resolve, invoke, builtin, Sem.run_bind, Sem.run_pure, Result.andThen_ok, List.map_toArray, List.map_cons, List.map_nil, hx, hy, h]
theorem wpList_append_run {ops : Array Oper} {rest : List Oper} {Q : Exit → Act → World → Prop} {a : Act} {x y : Operand} {u s : Value} {w w' : World} {v : Value} {d : Option Tmp} {t t2 ty : Nat} {pos : String} {af : Array Edge} (hx : a.eval x = u) (hy : a.eval y = s)
    (hrun : (Builtin.append_ #[t, t2] ty #[u, s]).run Tryd.prog w = .ok v w') (h : wpList Tryd.prog ops Q rest (a.put d v) w') : wpList Tryd.prog ops Q (⟨d, .call { callee := .builtin .append, args := #[x, y], argTypes := #[t, t2] }, ty, pos, af, none⟩ :: rest) a w := by
  refine wpList_plain rfl fun K hK => ?_
  unfold Oper.wp
  rw [exec_append hx hy hrun]
  exact hK _ _ h

/-- A slice that is handed in reads as these bytes. -/
def Src (w : World) (v : Value) (l : List UInt8) : Prop := ∃ a c, v = .slice (some a) l.length c ∧ ∀ j u, (bu l)[j]? = some u → w.cell? (a.add j) = some u

set_option maxRecDepth 100000 in
set_option maxHeartbeats 1000000 in
theorem add_any {w : World} {B b : Nat} {s : St} (h : BAt w B b s) (hBw : B ≤ w.heap.size) {v : Value} {l : List UInt8} (hv : Src w v l) (h1 : s.out.length ≤ 100000000) (h2 : l.length ≤ 100000000) :
    Calls Tryd.prog 44 #[.pointer (some ⟨b, 0, none⟩), v] w fun e w' => e = .returned (.tuple #[]) ∧ BAt w' B b { s with out := s.out ++ l } ∧ Kp B b w w' := by
  obtain ⟨a, c, rfl, hsrc⟩ := hv
  obtain ⟨v0, x, hb, ho, hx⟩ := h.at_
  obtain ⟨i, hi, hz0, hz1, hz2⟩ := info_parts Tryd.info5
  obtain ⟨v', w', hr, ho', hg, _, _⟩ := run_append_own_at (P := Tryd.prog) w B 42 42 5 i _ 1 1 Tryd.underlying42 hi hz0 hz1 hz2 rfl (by omega) v0 s.out.length (bu s.out) ho
    a l.length c (bu l) (by simp [bu]) hsrc (bu_oneCell l) (by unfold maxLen; omega) (by omega) hBw
  rw [← bu_append, show s.out.length + l.length = (s.out ++ l).length by simp] at ho'
  obtain ⟨e1, e2, e3, e4, e5⟩ := bits_store hb ho h.base hBw hg ho'
  have HR := hid hr
  have HE : Hid (BAt (w'.setCell ⟨b, 0, none⟩ v') B b { s with out := s.out ++ l }) := ⟨⟨v', x, e3, e4, hx⟩, h.base, h.bits⟩
  have H5 := hid e5
  obtain ⟨sa, sc, rfl⟩ := slice_of ho'
  have c0 : w.cell? ⟨b, 0, none⟩ = some v0 := by simp [World.cell?, hb]
  simp only [List.length_append] at HE H5 HR
  clear h hsrc hb ho hi hz0 hz1 hz2 hr ho' hg e3 e4 e5
  go_enter Tryd.func44, Tryd.ntmps44
  go_wp2_with (at_builtin; refine wpList_append_run rfl rfl HR.out ?_)
  go_end0
  exact ⟨rfl, HE.out, H5.out⟩

def str (l : List UInt8) : ByteArray := ⟨l.toArray⟩
theorem str_data (l : List UInt8) : (str l).data.toList = l := rfl
theorem str_size (l : List UInt8) : (str l).size = l.length := by simp [str, ByteArray.size]
theorem str_of (s : ByteArray) : str s.data.toList = s := by cases s; simp [str]

/-- Bytes as a string. -/
theorem conv_bytes {w : World} {B : Nat} {v : Value} {l : List UInt8} (h : w.ownsRow B 5 1 v l.length (bu l)) : (convert 42 9 v).run Tryd.prog w = .ok (.string (str l)) w := by
  rcases h.2 with ⟨rfl, h0⟩ | ⟨g, cap, cur, rfl, _, hg, _, _, _, hx⟩
  · have e := List.eq_nil_of_length_eq_zero h0
    subst e
    exact run_convert_bytes_nil w 42 5 Tryd.underlying42 Tryd.underlying5 0 0 9 Tryd.underlying9
  · have hc := h.cells rfl
    have := run_convert_bytes_arg w 42 5 Tryd.underlying42 Tryd.underlying5 g 0 l.length cap (l.map fun b => (b.toNat : Int)) (by simp) (fun i hi => by
      have := hc i (.int .u8 (l[i].toNat)) (by simp [bu, hi])
      rw [Addr.add_mid] at this
      rw [this]
      simp [hi]) 9 Tryd.underlying9
    rw [this]
    have e : strOfNums (l.map fun b => (b.toNat : Int)) = str l := by
      unfold strOfNums str
      rw [List.map_map]
      have : ((fun n : Int => UInt8.ofNat n.toNat) ∘ fun b : UInt8 => (b.toNat : Int)) = id := by funext x; simp
      rw [this, List.map_id]
    rw [e]

set_option maxRecDepth 100000 in
set_option maxHeartbeats 1000000 in
theorem text_any {w : World} {B b : Nat} {s : St} (h : BAt w B b s) : Calls Tryd.prog 39 #[.pointer (some ⟨b, 0, none⟩)] w fun e w' => e = .returned (.string (str s.out)) ∧ w' = w := by
  obtain ⟨v0, x, hb, ho, hx⟩ := h.at_
  have c0 : w.cell? ⟨b, 0, none⟩ = some v0 := by simp [World.cell?, hb]
  have hcv := conv_bytes ho
  obtain ⟨sa, sc, rfl⟩ := slice_of ho
  clear h hb ho hx
  go_enter Tryd.func39, Tryd.ntmps39
  go_wp2
  go_ret
  exact ⟨rfl, rfl⟩

theorem bits_and_u32 (a b : Nat) (ha : a < 4294967296) (hb : b < 4294967296) : Go.bits .and .u32 (a : Int) (b : Int) = ((a &&& b : Nat) : Int) := by
  have hx : a &&& b < 2 ^ 32 := Nat.and_lt_two_pow _ (by omega)
  have h1 : (BitVec.ofInt 32 (a : Int)).toNat = a := by
    rw [BitVec.ofInt_natCast, BitVec.toNat_ofNat]; exact Nat.mod_eq_of_lt (by omega)
  have h2 : (BitVec.ofInt 32 (b : Int)).toNat = b := by
    rw [BitVec.ofInt_natCast, BitVec.toNat_ofNat]; exact Nat.mod_eq_of_lt (by omega)
  show IntKind.u32.wrap ((BitVec.ofInt 32 (a : Int) &&& BitVec.ofInt 32 (b : Int)).toNat : Int) = _
  rw [BitVec.toNat_and, h1, h2, IntKind.wrap_u32]
  omega
theorem bits_or_u32 (a b : Nat) (ha : a < 4294967296) (hb : b < 4294967296) : Go.bits .or .u32 (a : Int) (b : Int) = ((a ||| b : Nat) : Int) := by
  have hx : a ||| b < 2 ^ 32 := Nat.or_lt_two_pow (by omega) (by omega)
  have h1 : (BitVec.ofInt 32 (a : Int)).toNat = a := by
    rw [BitVec.ofInt_natCast, BitVec.toNat_ofNat]; exact Nat.mod_eq_of_lt (by omega)
  have h2 : (BitVec.ofInt 32 (b : Int)).toNat = b := by
    rw [BitVec.ofInt_natCast, BitVec.toNat_ofNat]; exact Nat.mod_eq_of_lt (by omega)
  show IntKind.u32.wrap ((BitVec.ofInt 32 (a : Int) ||| BitVec.ofInt 32 (b : Int)).toNat : Int) = _
  rw [BitVec.toNat_or, h1, h2, IntKind.wrap_u32]
  omega
/-- What is pushed lies behind what waits. -/
theorem push_nat (X v n wide : Nat) (hw : wide ≤ 16) (hn : n ≤ 16) (hv : v < 2 ^ wide) :
    (X * 2 ^ wide % 4294967296 ||| v) % 2 ^ (n + wide) = X % 2 ^ n * 2 ^ wide + v ∧ (X * 2 ^ wide % 4294967296 ||| v) < 4294967296 := by
  have e32 : (4294967296 : Nat) = 2 ^ wide * 2 ^ (32 - wide) := by rw [← Nat.pow_add, show wide + (32 - wide) = 32 by omega]
  have e1 : X * 2 ^ wide % 4294967296 = 2 ^ wide * (X % 2 ^ (32 - wide)) := by rw [e32, Nat.mul_comm X, Nat.mul_mod_mul_left]
  have hp : 0 < 2 ^ wide := Nat.pow_pos (by omega)
  have e2 : (X * 2 ^ wide % 4294967296 ||| v) = 2 ^ wide * (X % 2 ^ (32 - wide)) + v := by rw [e1, Nat.two_pow_add_eq_or_of_lt hv]
  rw [e2]
  constructor
  · rw [Nat.add_comm n, Nat.pow_add, Nat.mod_mul, Nat.mul_add_mod, Nat.mod_eq_of_lt hv, Nat.mul_add_div hp, Nat.div_eq_of_lt hv, Nat.add_zero,
      Nat.mod_mod_of_dvd _ (Nat.pow_dvd_pow 2 (by omega : n ≤ 32 - wide)), Nat.mul_comm (2 ^ wide)]
    omega
  · have h1 : X % 2 ^ (32 - wide) < 2 ^ (32 - wide) := Nat.mod_lt _ (Nat.pow_pos (by omega))
    have h2 : 2 ^ wide * (X % 2 ^ (32 - wide) + 1) ≤ 2 ^ wide * 2 ^ (32 - wide) := Nat.mul_le_mul_left _ h1
    rw [← e32, Nat.mul_add, Nat.mul_one] at h2
    omega
theorem bits_set {w : World} {B b : Nat} {v : Value} {n : Nat} {l : List Value} {x y z x' y' z' : Value} (hb : w.heap[b]? = some (.cells #[v, x, y, z] 47 (0, 0))) (ho : w.ownsRow B 5 1 v n l) (w' : World) (hw : w'.heap[b]? = some (.cells #[v, x', y', z'] 47 (0, 0)))
    (hk : ∀ k, k ≠ b → w'.heap[k]? = w.heap[k]?) : w'.ownsRow B 5 1 v n l :=
  ownsRow_block ho fun k hk' => hk k (fun e => own_ne (by decide) hb ho (by rw [hk', e]))

set_option maxRecDepth 100000 in
set_option maxHeartbeats 1000000 in
theorem push_any {w : World} {B b : Nat} {s : St} (h : BAt w B b s) (v wide : Nat) (hs : s.bl.length ≤ 16) (hw : wide ≤ 16) (hv : v < 2 ^ wide) :
    Calls Tryd.prog 58 #[.pointer (some ⟨b, 0, none⟩), .int .u32 v, .int .i64 wide] w fun e w' => e = .returned (.tuple #[]) ∧ BAt w' B b { s with bl := s.bl ++ bitsN wide v } ∧ Kp B b w w' := by
  obtain ⟨v0, x, hb, ho, hx0, hx1, hx⟩ := h.at_
  have hB := h.base
  have HBi := hid h.bits
  obtain ⟨X, rfl⟩ := Int.eq_ofNat_of_zero_le hx0
  have HX : Hid (X % 2 ^ s.bl.length = valB s.bl) := by
    unfold Hid
    have e : ((X % 2 ^ s.bl.length : Nat) : Int) = (valB s.bl : Int) := by rw [Int.natCast_emod, Int.natCast_pow]; exact hx
    exact Int.ofNat.inj e
  have c0 : w.cell? ⟨b, 0, none⟩ = some v0 := by simp [World.cell?, hb]
  have c1 : w.cell? ⟨b, 1, none⟩ = some (.int .u32 X) := by simp [World.cell?, hb]
  have c2 : w.cell? ⟨b, 2, none⟩ = some (.int .i64 s.bl.length) := by simp [World.cell?, hb]
  have f1 : w.frozen? ⟨b, 1, none⟩ = false := by simp [World.frozen?, hb]
  have f2 : w.frozen? ⟨b, 2, none⟩ = false := by simp [World.frozen?, hb]
  have HB := hid hb
  have HO := hid ho
  clear h hb ho hx
  go_enter Tryd.func58, Tryd.ntmps58
  go_wp2
  go_end0
  have hv16 : v < 2 ^ 16 := Nat.lt_of_lt_of_le hv (Nat.pow_le_pow_right (by omega) hw)
  have e1 : Go.bits BinOp.or IntKind.u32 ((X : Int) * 2 ^ wide % 4294967296) (v : Int) = ((X * 2 ^ wide % 4294967296 ||| v : Nat) : Int) := by
    rw [← bits_or_u32 _ _ (Nat.mod_lt _ (by omega)) (by omega), Int.natCast_emod, Int.natCast_mul, Int.natCast_pow]
    rfl
  rw [e1]
  obtain ⟨p1, p2⟩ := push_nat X v s.bl.length wide hw hs hv
  have hh : ((w.setCell ⟨b, 1, none⟩ (.int .u32 ((X * 2 ^ wide % 4294967296 ||| v : Nat) : Int))).setCell ⟨b, 2, none⟩ (.int .i64 (s.bl.length + wide))).heap[b]? = some (.cells #[v0, .int .u32 ((X * 2 ^ wide % 4294967296 ||| v : Nat) : Int), .int .i64 ((s.bl ++ bitsN wide v).length : Nat), .bool s.run] 47 (0, 0)) := by
    rw [heap_setCell_same _ _ _ _ _ _ (heap_setCell_same _ _ _ _ _ _ HB.out)]
    simp [bitsN_length]
  refine ⟨rfl, ⟨⟨v0, _, hh, bits_set HB.out HO.out _ hh (fun k hk => by rw [Below.heap_setCell _ _ _ _ hk, Below.heap_setCell _ _ _ _ hk]), Int.natCast_nonneg _, Int.ofNat_lt.2 p2, ?_⟩, hB, bits_append HBi.out (bitsN_bits _ _)⟩, ((Kp.refl _ _ _).setCell hB _ _).setCell hB _ _⟩
  simp only [List.length_append, bitsN_length, valB_append, valB_bitsN, Nat.mod_eq_of_lt hv, ← HX.out]
  rw [← p1, Int.natCast_emod, Int.natCast_pow]
  rfl

set_option maxRecDepth 100000 in
set_option maxHeartbeats 1000000 in
theorem take_no {w : World} {B b : Nat} {s : St} (h : BAt w B b s) (wide : Nat) (hw : s.bl.length < wide) (hw2 : wide ≤ 16) :
    Calls Tryd.prog 66 #[.pointer (some ⟨b, 0, none⟩), .int .i64 wide] w fun e w' => e = .returned (.tuple #[.int .u32 0, .bool false]) ∧ w' = w := by
  obtain ⟨v0, x, hb, ho, hx0, hx1, hx⟩ := h.at_
  have c2 : w.cell? ⟨b, 2, none⟩ = some (.int .i64 s.bl.length) := by simp [World.cell?, hb]
  have hlt : (s.bl.length : Int) < wide := by omega
  clear h hb ho hx
  go_enter Tryd.func66, Tryd.ntmps66
  go_wp2
  go_ret2
  exact ⟨rfl, rfl⟩

/-- What is taken is the head of what waits. -/
theorem take_nat (X wide : Nat) (l : List Nat) (hb : Bits l) (hw : wide ≤ l.length) (hX : X % 2 ^ l.length = valB l) :
    (X / 2 ^ (l.length - wide) &&& (2 ^ wide - 1)) = valB (l.take wide) ∧ X % 2 ^ (l.length - wide) = valB (l.drop wide) := by
  have e : valB l = valB (l.take wide) * 2 ^ (l.length - wide) + valB (l.drop wide) := by
    have := valB_append (l.take wide) (l.drop wide)
    rw [List.take_append_drop, List.length_drop] at this
    exact this
  have hd := valB_lt (l.drop wide) (bits_drop hb wide)
  rw [List.length_drop] at hd
  have hp : 0 < 2 ^ (l.length - wide) := Nat.pow_pos (by omega)
  have e2 : 2 ^ l.length = 2 ^ (l.length - wide) * 2 ^ wide := by rw [← Nat.pow_add]; congr 1; omega
  constructor
  · rw [Nat.and_two_pow_sub_one_eq_mod, ← Nat.mod_mul_right_div_self, ← e2, hX, e, Nat.mul_comm, Nat.mul_add_div hp, Nat.div_eq_of_lt hd, Nat.add_zero]
  · rw [← Nat.mod_mod_of_dvd X (⟨2 ^ wide, e2⟩ : 2 ^ (l.length - wide) ∣ 2 ^ l.length), hX, e, Nat.mul_comm, Nat.mul_add_mod, Nat.mod_eq_of_lt hd]

set_option maxRecDepth 100000 in
set_option maxHeartbeats 1000000 in
theorem take_any {w : World} {B b : Nat} {s : St} (h : BAt w B b s) (wide : Nat) (hs : s.bl.length ≤ 32) (hw : wide ≤ s.bl.length) (hw2 : wide ≤ 16) :
    Calls Tryd.prog 66 #[.pointer (some ⟨b, 0, none⟩), .int .i64 wide] w fun e w' => e = .returned (.tuple #[.int .u32 (valB (s.bl.take wide)), .bool true]) ∧ BAt w' B b { s with bl := s.bl.drop wide } ∧ Kp B b w w' := by
  obtain ⟨v0, x, hb, ho, hx0, hx1, hx⟩ := h.at_
  have hB := h.base
  have HBi := hid h.bits
  obtain ⟨X, rfl⟩ := Int.eq_ofNat_of_zero_le hx0
  have HX : Hid (X % 2 ^ s.bl.length = valB s.bl) := by
    unfold Hid
    have e : ((X % 2 ^ s.bl.length : Nat) : Int) = (valB s.bl : Int) := by rw [Int.natCast_emod, Int.natCast_pow]; exact hx
    exact Int.ofNat.inj e
  have c0 : w.cell? ⟨b, 0, none⟩ = some v0 := by simp [World.cell?, hb]
  have c1 : w.cell? ⟨b, 1, none⟩ = some (.int .u32 X) := by simp [World.cell?, hb]
  have c2 : w.cell? ⟨b, 2, none⟩ = some (.int .i64 s.bl.length) := by simp [World.cell?, hb]
  have f2 : w.frozen? ⟨b, 2, none⟩ = false := by simp [World.frozen?, hb]
  have hge : (0 : Int) ≤ (s.bl.length : Int) - wide := by omega
  have hnl : ¬ (s.bl.length : Int) < wide := by omega
  have HB := hid hb
  have HO := hid ho
  clear h hb ho hx
  go_enter Tryd.func66, Tryd.ntmps66
  go_wp2
  go_quiet (fail)
  go_wp2
  go_ret2
  have hp : (2 : Nat) ^ wide ≤ 2 ^ 16 := Nat.pow_le_pow_right (by omega) hw2
  have hp1 : 1 ≤ (2 : Nat) ^ wide := Nat.one_le_two_pow
  have e1 : Go.bits BinOp.and IntKind.u32 ((X : Int) / 2 ^ (s.bl.length - wide)) ((2 ^ wide - 1) % 4294967296) = (valB (s.bl.take wide) : Int) := by
    rw [← (take_nat X wide s.bl HBi.out hw HX.out).1, ← bits_and_u32 _ _ (Nat.lt_of_le_of_lt (Nat.div_le_self _ _) (Int.ofNat_lt.1 hx1)) (by omega)]
    have a1 : ((X / 2 ^ (s.bl.length - wide) : Nat) : Int) = (X : Int) / 2 ^ (s.bl.length - wide) := by rw [Int.natCast_ediv, Int.natCast_pow]; rfl
    have a2 : ((2 ^ wide - 1 : Nat) : Int) = (2 ^ wide - 1) % 4294967296 := by
      have : ((2 : Int) ^ wide) = ((2 ^ wide : Nat) : Int) := by rw [Int.natCast_pow]; rfl
      rw [this]
      omega
    rw [a1, a2]
  rw [e1]
  have hl : ((s.bl.length : Int) - wide) = ((s.bl.drop wide).length : Nat) := by rw [List.length_drop]; omega
  have hh : (w.setCell ⟨b, 2, none⟩ (.int .i64 ((s.bl.length : Int) - wide))).heap[b]? = some (.cells #[v0, .int .u32 X, .int .i64 ((s.bl.drop wide).length : Nat), .bool s.run] 47 (0, 0)) := by
    rw [heap_setCell_same _ _ _ _ _ _ HB.out, hl]
    rfl
  refine ⟨rfl, ⟨⟨v0, X, hh, bits_set HB.out HO.out _ hh (fun k hk => Below.heap_setCell _ _ _ _ hk), hx0, hx1, ?_⟩, hB, bits_drop HBi.out wide⟩, ((Kp.refl _ _ _).setCell hB _ _).drewN _⟩
  have := (take_nat X wide s.bl HBi.out hw HX.out).2
  rw [← List.length_drop] at this
  rw [← this, Int.natCast_emod, Int.natCast_pow]
  rfl

set_option maxRecDepth 100000 in
set_option maxHeartbeats 1000000 in
theorem clear_any {w : World} {B b : Nat} {s : St} (h : BAt w B b s) :
    Calls Tryd.prog 64 #[.pointer (some ⟨b, 0, none⟩)] w fun e w' => e = .returned (.tuple #[]) ∧ BAt w' B b { s with bl := [] } ∧ Kp B b w w' := by
  obtain ⟨v0, x, hb, ho, hx0, hx1, hx⟩ := h.at_
  have hB := h.base
  have c1 : w.cell? ⟨b, 1, none⟩ = some (.int .u32 x) := by simp [World.cell?, hb]
  have c2 : w.cell? ⟨b, 2, none⟩ = some (.int .i64 s.bl.length) := by simp [World.cell?, hb]
  have f1 : w.frozen? ⟨b, 1, none⟩ = false := by simp [World.frozen?, hb]
  have f2 : w.frozen? ⟨b, 2, none⟩ = false := by simp [World.frozen?, hb]
  have HB := hid hb
  have HO := hid ho
  clear h hb ho hx
  go_enter Tryd.func64, Tryd.ntmps64
  go_wp2
  go_end0
  have hh : ((w.setCell ⟨b, 1, none⟩ (.int .u32 0)).setCell ⟨b, 2, none⟩ (.int .i64 0)).heap[b]? = some (.cells #[v0, .int .u32 0, .int .i64 (([] : List Nat).length : Nat), .bool s.run] 47 (0, 0)) := by
    rw [heap_setCell_same _ _ _ _ _ _ (heap_setCell_same _ _ _ _ _ _ HB.out)]
    rfl
  exact ⟨rfl, ⟨⟨v0, _, hh, bits_set HB.out HO.out _ hh (fun k hk => by rw [Below.heap_setCell _ _ _ _ hk, Below.heap_setCell _ _ _ _ hk]), by omega, by omega, rfl⟩, hB, fun b hb => by simp at hb⟩, ((Kp.refl _ _ _).setCell hB _ _).setCell hB _ _⟩
end Go.Proofs.YtkmggkcipgfhdaaDoor
