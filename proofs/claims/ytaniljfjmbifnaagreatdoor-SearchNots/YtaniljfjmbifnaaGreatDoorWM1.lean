/- What this text holds: the program's reader in memory: what is left, and what was said. -/
import Derived.Test.YtaniljfjmbifnaaGreatDoorWBase
import Derived.Test.YtaniljfjmbifnaaGreatDoorWPure
import Derived.Lib.AppendStr
import Derived.Maps.AppendAt
import Derived.OneCell
import Derived.Laws.Shifts
import Derived.Laws.Bits64b
import Derived.Laws.MakeOwn
import Derived.Deep.QuietTactic
import Derived.BigQuiet
namespace Go.Proofs.YtaniljfjmbifnaaGreatDoor.W
open Go.RowKit
set_option linter.unusedVariables false
set_option linter.unusedSimpArgs false

/-- Cells of bytes. -/
def bu (l : List UInt8) : List Value := l.map fun b => .int .u8 b.toNat
theorem bu_length (l : List UInt8) : (bu l).length = l.length := by simp [bu]
theorem bu_append (l m : List UInt8) : bu (l ++ m) = bu l ++ bu m := by simp [bu]
theorem bu_oneCell (l : List UInt8) : ∀ v ∈ bu l, v.oneCell' = true := by
  intro v hv
  simp only [bu, List.mem_map] at hv
  obtain ⟨x, _, rfl⟩ := hv
  rfl
theorem own_ne {w : World} {B b : Nat} {X : Array Value} {t : TypeId} {fr : Nat × Nat} {v' : Value} {n : Nat} {xs : List Value} (ht : t ≠ 5) (hb : w.heap[b]? = some (.cells X t fr)) (h : w.ownsRow B 5 1 v' n xs) : v'.ownBlock ≠ some b := by
  intro e
  rcases h.2 with ⟨h1, _⟩ | ⟨g, cap, cur, h1, _, h2, _⟩
  · subst h1; simp [Value.ownBlock] at e
  · subst h1
    simp only [Value.ownBlock, Option.some.injEq] at e
    subst e
    rw [hb] at h2
    simp at h2
    exact ht h2.2.1
theorem slice_of {w : World} {B : Nat} {v : Value} {n : Nat} {xs : List Value} (h : w.ownsRow B 5 1 v n xs) : ∃ a c, v = .slice a n c := by
  rcases h.2 with ⟨h1, h2⟩ | ⟨g, cap, cur, h1, _⟩
  · exact ⟨none, 0, by rw [h1, h2]⟩
  · exact ⟨_, _, h1⟩
theorem lt_of_some {w : World} {b : Nat} {o : Obj} (h : w.heap[b]? = some o) : b < w.heap.size := (Array.getElem?_eq_some_iff.1 h).1

def str (l : List UInt8) : ByteArray := ⟨l.toArray⟩
theorem str_data (l : List UInt8) : (str l).data.toList = l := rfl
theorem str_size (l : List UInt8) : (str l).size = l.length := by simp [str, ByteArray.size]
theorem str_of (s : ByteArray) : str s.data.toList = s := by cases s; simp [str]
theorem drop_str (l : Bs) (n : Nat) : (str l).extract n (str l).size = str (l.drop n) := by
  rw [Go.Lib.extract_eq, Go.Lib.size_eq, List.take_of_length_le (by simp)]
  rfl
theorem take_str (l : Bs) (n : Nat) : (str l).extract 0 n = str (l.take n) := by
  rw [Go.Lib.extract_eq]
  rfl
theorem mid_str (l : Bs) (m n : Nat) : (str l).extract m n = str ((l.drop m).take (n - m)) := by
  rw [Go.Lib.extract_eq]
  rfl
theorem app_str (l m : Bs) : str l ++ str m = str (l ++ m) := by
  apply ByteArray.ext
  simp [str]
theorem str_inj {l m : Bs} (h : str l = str m) : l = m := by
  have := congrArg (fun s => s.data.toList) h
  exact this

/-- The reader lies in memory. -/
structure RAt (w : World) (B b : Nat) (l done : Bs) : Prop where
  at_ : ∃ v, w.heap[b]? = some (.cells #[.string (str l), v] 93 (0, 0)) ∧ w.ownsRow B 5 1 v done.length (bu done)
  base : B ≤ b
theorem RAt.drew {w : World} {B b : Nat} {l d : Bs} (h : RAt w B b l d) : RAt w.drew B b l d := ⟨h.at_, h.base⟩
theorem RAt.drewN {w : World} {B b : Nat} {l d : Bs} (h : RAt w B b l d) (n : Nat) : RAt (w.drewN n) B b l d := ⟨h.at_, h.base⟩
theorem RAt.later {w w' : World} {B b : Nat} {l d : Bs} (h : RAt w B b l d) (hb : Below w.heap.size w w') : RAt w' B b l d := by
  obtain ⟨v, hc, ho⟩ := h.at_
  exact ⟨⟨v, by rw [hb.block b (lt_of_some hc)]; exact hc, ownsRow_block ho (fun k hk => hb.block k (ho.lt k hk).2)⟩, h.base⟩
theorem RAt.left {w : World} {B b : Nat} {l d : Bs} (h : RAt w B b l d) : w.cell? ⟨b, 0, none⟩ = some (.string (str l)) ∧ w.frozen? ⟨b, 0, none⟩ = false := by
  obtain ⟨v, hc, ho⟩ := h.at_
  exact ⟨by simp [World.cell?, hc], by simp [World.frozen?, hc]⟩
theorem RAt.set {w : World} {B b : Nat} {l d : Bs} (h : RAt w B b l d) (l' : Bs) : RAt (w.setCell ⟨b, 0, none⟩ (.string (str l'))) B b l' d := by
  obtain ⟨v, hc, ho⟩ := h.at_
  refine ⟨⟨v, ?_, ownsRow_setCell_other ho (own_ne (by decide) hc ho) _⟩, h.base⟩
  rw [heap_setCell_same _ _ _ _ _ _ hc]; rfl
theorem RAt.lt {w : World} {B b : Nat} {l d : Bs} (h : RAt w B b l d) : b < w.heap.size := by
  obtain ⟨v, hc, ho⟩ := h.at_
  exact lt_of_some hc

theorem exec_append {a : Act} {x y : Operand} {u s : Value} {w w' : World} {v : Value} {d : Option Tmp} {t t2 ty : Nat} {pos : String} {af : Array Edge} {g : Option (Nat × Bool)} (hx : a.eval x = u) (hy : a.eval y = s)
    (h : (Builtin.append_ #[t, t2] ty #[u, s]).run Tryz.prog w = .ok v w') : (execOp a.eval ⟨d, .call { callee := .builtin .append, args := #[x, y], argTypes := #[t, t2] }, ty, pos, af, g⟩).run Tryz.prog w = .ok (.value v) w' := by
  simp only [execOp, resolve, invoke, builtin, Sem.run_bind, Sem.run_pure, Result.andThen_ok, List.map_toArray, List.map_cons, List.map_nil, hx, hy, h]
theorem wpList_append_run {ops : Array Oper} {rest : List Oper} {Q : Exit → Act → World → Prop} {a : Act} {x y : Operand} {u s : Value} {w w' : World} {v : Value} {d : Option Tmp} {t t2 ty : Nat} {pos : String} {af : Array Edge} (hx : a.eval x = u) (hy : a.eval y = s)
    (hrun : (Builtin.append_ #[t, t2] ty #[u, s]).run Tryz.prog w = .ok v w') (h : wpList Tryz.prog ops Q rest (a.put d v) w') : wpList Tryz.prog ops Q (⟨d, .call { callee := .builtin .append, args := #[x, y], argTypes := #[t, t2] }, ty, pos, af, none⟩ :: rest) a w := by
  refine wpList_plain rfl fun K hK => ?_
  unfold Oper.wp
  rw [exec_append hx hy hrun]
  exact hK _ _ h

/-- Bytes as a string. -/
theorem conv_bytes {w : World} {B : Nat} {v : Value} {l : List UInt8} (h : w.ownsRow B 5 1 v l.length (bu l)) : (convert 57 9 v).run Tryz.prog w = .ok (.string (str l)) w := by
  rcases h.2 with ⟨rfl, h0⟩ | ⟨g, cap, cur, rfl, _, hg, _, _, _, hx⟩
  · have e := List.eq_nil_of_length_eq_zero h0
    subst e
    exact run_convert_bytes_nil w 57 5 Tryz.underlying57 Tryz.underlying5 0 0 9 Tryz.underlying9
  · have hc := h.cells rfl
    have := run_convert_bytes_arg w 57 5 Tryz.underlying57 Tryz.underlying5 g 0 l.length cap (l.map fun b => (b.toNat : Int)) (by simp) (fun i hi => by
      have := hc i (.int .u8 (l[i].toNat)) (by simp [bu, hi])
      rw [Addr.add_mid] at this
      rw [this]
      simp [hi]) 9 Tryz.underlying9
    rw [this]
    have e : strOfNums (l.map fun b => (b.toNat : Int)) = str l := by
      unfold strOfNums str
      rw [List.map_map]
      have : ((fun n : Int => UInt8.ofNat n.toNat) ∘ fun b : UInt8 => (b.toNat : Int)) = id := by funext x; simp
      rw [this, List.map_id]
    rw [e]

theorem made (n : Nat) (hn : n ≤ 1000000) (w : World) : ∃ w', (Instr.makeSlice 57 (.int .i64 0) (.int .i64 n)).run Tryz.prog w = .ok (.slice (some ⟨w.heap.size, 0, none⟩) 0 n) w' ∧ w'.ownsRow w.heap.size 5 1 (.slice (some ⟨w.heap.size, 0, none⟩) 0 n) 0 [] ∧ w.grownBy w' none ∧ w'.heap.size = w.heap.size + 1 := by
  obtain ⟨i, hi, hz0, hz1, hz2⟩ := info_parts Tryz.info5
  obtain ⟨w', h1, h2, h3⟩ := run_make_own (P := Tryz.prog) w w.heap.size 57 5 i _ 1 Tryz.underlying57 hi hz0 hz1 .i64 .i64 n (by rw [hz2]; omega) (by unfold maxLen; omega) (Nat.le_refl _)
  have h4 := run_make (P := Tryz.prog) w 57 5 i _ Tryz.underlying57 hi hz0 .i64 .i64 0 n (by omega) (by omega) (by rw [hz2]; omega) (by omega)
  rw [h1] at h4
  refine ⟨w', h1, h2, h3, ?_⟩
  simp only [Result.ok.injEq] at h4
  rw [h4.2]
  simp

set_option maxRecDepth 100000 in
set_option maxHeartbeats 1000000 in
theorem read_any (l : Bs) (w : World) (hl : l.length ≤ 1000000) : Calls Tryz.prog 67 #[.string (str l)] w fun e w' => ∃ b, e = .returned (.pointer (some ⟨b, 0, none⟩)) ∧ RAt w' w.heap.size b l [] ∧ Below w.heap.size w w' := by
  obtain ⟨w1, hm, ho, hg, hs⟩ := made l.length hl w
  have HM := hid hm
  have HO := hid ho
  have HG := hid hg
  have HS := hid hs
  have hsz := str_size l
  clear hm ho hg hs
  go_enter Tryz.func67, Tryz.ntmps67
  go_wp2_with (first | (refine wpList_run (o := ⟨some 7, .makeSlice 57 _ _, _, _, _, none⟩) rfl (exec_v HM.out) ?_))
  go_ret
  refine ⟨w1.heap.size, rfl, ⟨⟨_, heap_alloc_new _ _, World.ownsRow.alloc HO.out _⟩, by rw [HS.out]; omega⟩, ((Below.refl _ w).grown HG.out (Nat.le_refl _) (fun k hk => by cases hk)).alloc (by rw [HS.out]; omega) _⟩

set_option maxRecDepth 100000 in
set_option maxHeartbeats 1000000 in
theorem more_any {w : World} {b : Nat} {l : Bs} (h : w.cell? ⟨b, 0, none⟩ = some (.string (str l))) : Calls Tryz.prog 69 #[.pointer (some ⟨b, 0, none⟩)] w fun e w' => e = .returned (.bool (decide (l ≠ []))) ∧ w' = w := by
  have hq : ((str l).toList == []) = decide (l = []) := by
    have : (str l).toList = l := by rw [Go.Lib.toList_data, str_data]
    rw [this, Bool.eq_iff_iff]
    simp
  have HN : Hid (decide (l ≠ []) = !decide (l = [])) := by simp [Hid]
  go_enter Tryz.func69, Tryz.ntmps69
  go_wp2_with fail
  go_ret
  rw [HN.out]
  exact ⟨rfl, rfl⟩

set_option maxRecDepth 100000 in
set_option maxHeartbeats 1000000 in
theorem first_any {w : World} {b : Nat} {l : Bs} (n : Nat) (h : w.cell? ⟨b, 0, none⟩ = some (.string (str l))) (hf : w.frozen? ⟨b, 0, none⟩ = false) (hl : l.length ≤ 1000000) (hn : n ≤ 1000000) :
    Calls Tryz.prog 74 #[.pointer (some ⟨b, 0, none⟩), .int .i64 n] w fun e w' => e = .returned (.string (str (l.take n))) ∧ w' = w.setCell ⟨b, 0, none⟩ (.string (str (l.drop n))) := by
  have hsz := str_size l
  have HT : Hid (∀ m, (str l).extract 0 m = str (l.take m)) := take_str l
  have HD : Hid (∀ m, (str l).extract m l.length = str (l.drop m)) := fun m => by rw [← str_size]; exact drop_str l m
  by_cases hlt : n ≤ l.length
  · have hlt' : (n : Int) ≤ l.length := by omega
    go_enter Tryz.func74, Tryz.ntmps74
    go_wp2_with fail
    go_ret
    rw [HD.out]
    refine ⟨?_, rfl⟩
    show Ending.returned (.string ((str l).extract 0 n)) = _
    rw [HT.out]
  · have hlt' : ¬ (n : Int) ≤ l.length := by omega
    have e1 : l.take n = l := List.take_of_length_le (by omega)
    have e2 : l.drop n = [] := List.drop_eq_nil_of_le (by omega)
    rw [e1, e2]
    have HT2 : Hid ((str l).extract 0 l.length = str l) := by rw [Hid, HT.out, List.take_length]
    have HD2 : Hid ((str l).extract l.length l.length = str []) := by rw [Hid, HD.out, List.drop_length]
    go_enter Tryz.func74, Tryz.ntmps74
    go_wp2_with fail
    go_ret
    refine ⟨?_, rfl⟩
    show Ending.returned (.string ((str l).extract 0 l.length)) = _
    rw [HT2.out]
theorem RAt.first {w : World} {B b : Nat} {l d : Bs} (h : RAt w B b l d) (n : Nat) (hl : l.length ≤ 1000000) (hn : n ≤ 1000000) :
    Calls Tryz.prog 74 #[.pointer (some ⟨b, 0, none⟩), .int .i64 n] w fun e w' => e = .returned (.string (str (l.take n))) ∧ RAt w' B b (l.drop n) d ∧ Below B w w' := by
  refine (first_any n h.left.1 h.left.2 hl hn).mono ?_
  rintro e w' ⟨rfl, rfl⟩
  exact ⟨rfl, h.set _, (Below.refl _ _).setCell h.base _⟩

theorem say_store {w w' : World} {B b : Nat} {v v' x : Value} {l : List UInt8} (hb : w.heap[b]? = some (.cells #[x, v] 93 (0, 0))) (ho : w.ownsRow B 5 1 v l.length (bu l)) (hB : B ≤ b) (hBw : B ≤ w.heap.size) {l' : List UInt8}
    (hg : w.grownBy w' v.ownBlock) (ho' : w'.ownsRow B 5 1 v' l'.length (bu l')) :
    w'.cell? ⟨b, 1, none⟩ = some v ∧ w'.frozen? ⟨b, 1, none⟩ = false ∧ (w'.setCell ⟨b, 1, none⟩ v').heap[b]? = some (.cells #[x, v'] 93 (0, 0)) ∧ (w'.setCell ⟨b, 1, none⟩ v').ownsRow B 5 1 v' l'.length (bu l') ∧ Below B w (w'.setCell ⟨b, 1, none⟩ v') := by
  have hlt := lt_of_some hb
  have hb' : w'.heap[b]? = some (.cells #[x, v] 93 (0, 0)) := by
    rw [hg.block b hlt (fun e => own_ne (by decide) hb ho e.symm)]; exact hb
  refine ⟨by simp [World.cell?, hb'], by simp [World.frozen?, hb'], ?_, ownsRow_setCell_other ho' (own_ne (by decide) hb' ho') _, ((Below.refl B w).grown hg hBw (fun k hk => (ho.lt k hk).1)).setCell hB _⟩
  rw [heap_setCell_same _ _ _ _ _ _ hb']; rfl
theorem strCells_bu (l : Bs) : Go.Lib.strCells (str l) = bu l := by
  unfold bu
  simp [Go.Lib.strCells, str]

set_option maxRecDepth 100000 in
set_option maxHeartbeats 1000000 in
theorem say_any {w : World} {B b : Nat} {l d : Bs} (h : RAt w B b l d) (x : Bs) (h1 : d.length ≤ 100000000) (h2 : x.length ≤ 100000000) :
    Calls Tryz.prog 73 #[.pointer (some ⟨b, 0, none⟩), .string (str x)] w fun e w' => e = .returned (.tuple #[]) ∧ RAt w' B b l (d ++ x) ∧ Below B w w' := by
  obtain ⟨v0, hb, ho⟩ := h.at_
  have hBw : B ≤ w.heap.size := by have := h.lt; have := h.base; omega
  obtain ⟨i, hi, hz0, hz1, hz2⟩ := info_parts Tryz.info5
  obtain ⟨v', w', hr, ho', hg, _⟩ := Go.Lib.run_append_own_string (P := Tryz.prog) w B 57 9 57 5 i Tryz.underlying57 Tryz.underlying9 hi hz0 hz1 hz2 v0 d.length (bu d) ho (str x) (by rw [str_size]; unfold maxLen; omega) (by rw [str_size]; omega) hBw
  rw [strCells_bu, ← bu_append, str_size, show d.length + x.length = (d ++ x).length by simp] at ho'
  obtain ⟨e1, e2, e3, e4, e5⟩ := say_store hb ho h.base hBw hg ho'
  have HR := hid hr
  have HE : Hid (RAt (w'.setCell ⟨b, 1, none⟩ v') B b l (d ++ x)) := ⟨⟨v', e3, e4⟩, h.base⟩
  have H5 := hid e5
  obtain ⟨sa, sc, rfl⟩ := slice_of ho'
  have c0 : w.cell? ⟨b, 1, none⟩ = some v0 := by simp [World.cell?, hb]
  simp only [List.length_append] at HE H5 HR
  clear h hb ho hi hz0 hz1 hz2 hr ho' hg e3 e4 e5
  go_enter Tryz.func73, Tryz.ntmps73
  go_wp2_with (at_builtin; refine wpList_append_run rfl rfl HR.out ?_)
  go_end0
  exact ⟨rfl, HE.out, H5.out⟩

set_option maxRecDepth 100000 in
set_option maxHeartbeats 1000000 in
theorem sayByte_any {w : World} {B b : Nat} {l d : Bs} (h : RAt w B b l d) (c : UInt8) (k : Int) (hk : k = c.toNat) (h1 : d.length ≤ 100000000) :
    Calls Tryz.prog 231 #[.pointer (some ⟨b, 0, none⟩), .int .u8 k] w fun e w' => e = .returned (.tuple #[]) ∧ RAt w' B b l (d ++ [c]) ∧ Below B w w' := by
  subst hk
  have hBw : B ≤ w.heap.size := by have := h.lt; have := h.base; omega
  have hal : Below B w (w.alloc (.cells #[.int .u8 c.toNat] 5)) := (Below.refl _ _).alloc hBw _
  have h0 := h
  have h := h.later ((Below.refl _ _).alloc (Nat.le_refl _) (.cells #[.int .u8 c.toNat] 5))
  obtain ⟨v0, hb, ho⟩ := h.at_
  obtain ⟨v00, hb0, ho0⟩ := h0.at_
  obtain ⟨i, hi, hz0, hz1, hz2⟩ := info_parts Tryz.info5
  have hsrc : ∀ j u, (bu [c])[j]? = some u → (w.alloc (.cells #[.int .u8 c.toNat] 5)).cell? ((⟨w.heap.size, 0, none⟩ : Addr).add j) = some u := by
    intro j u hu
    rw [Addr.add_mid, Nat.zero_add]
    simp only [World.cell?, heap_alloc_new]
    simpa [bu] using hu
  obtain ⟨v', w', hr, ho', hg, _, _⟩ := run_append_own_at (P := Tryz.prog) (w.alloc (.cells #[.int .u8 c.toNat] 5)) B 57 57 5 i _ 1 1 Tryz.underlying57 hi hz0 hz1 hz2 rfl (by omega) v0 d.length (bu d) ho
    ⟨w.heap.size, 0, none⟩ 1 1 (bu [c]) (by simp [bu]) hsrc (bu_oneCell _) (by unfold maxLen; omega) (by omega) (by simp; omega)
  rw [← bu_append, show d.length + 1 = (d ++ [c]).length by simp] at ho'
  obtain ⟨e1, e2, e3, e4, e5⟩ := say_store hb ho h.base (by simp; omega) hg ho'
  have hv : v00 = v0 := by
    have := hb
    rw [Below.heap_alloc _ _ _ (lt_of_some hb0), hb0] at this
    simp at this
    exact this
  subst hv
  have HR := hid hr
  have HE : Hid (RAt (w'.setCell ⟨b, 1, none⟩ v') B b l (d ++ [c])) := ⟨⟨v', e3, e4⟩, h.base⟩
  have H5 := hid (hal.trans e5)
  obtain ⟨sa, sc, rfl⟩ := slice_of ho'
  have c0 : w.cell? ⟨b, 1, none⟩ = some v00 := by simp [World.cell?, hb0]
  simp only [List.length_append, List.length_cons, List.length_nil, Nat.zero_add] at HE H5 HR
  clear h hb ho hi hz0 hz1 hz2 hr ho' hg e3 e4 e5 h0 hb0 ho0 hal hsrc
  go_enter Tryz.func231, Tryz.ntmps231
  go_wp2_with (at_builtin; refine wpList_append_run rfl rfl HR.out ?_)
  go_end0
  exact ⟨rfl, HE.out, H5.out⟩

set_option maxRecDepth 100000 in
set_option maxHeartbeats 1000000 in
theorem text_any {w : World} {B b : Nat} {l d : Bs} (h : RAt w B b l d) : Calls Tryz.prog 75 #[.pointer (some ⟨b, 0, none⟩)] w fun e w' => e = .returned (.string (str d)) ∧ w' = w := by
  obtain ⟨v0, hb, ho⟩ := h.at_
  have c0 : w.cell? ⟨b, 1, none⟩ = some v0 := by simp [World.cell?, hb]
  have hcv := conv_bytes ho
  obtain ⟨sa, sc, rfl⟩ := slice_of ho
  clear h hb ho
  go_enter Tryz.func75, Tryz.ntmps75
  go_wp2
  go_ret
  exact ⟨rfl, rfl⟩
end Go.Proofs.YtaniljfjmbifnaaGreatDoor.W
