/- What this text holds: the program's reader in memory: what is left, and what was said; what takes of the rest. -/
import Derived.Test.YtaniljfjmbifnaaGreatDoorHBase
import Derived.Test.YtaniljfjmbifnaaGreatDoorHP2
import Derived.Lib.AppendStr
import Derived.Maps.AppendAt
import Derived.OneCell
import Derived.Laws.Shifts
import Derived.Laws.Bits64b
import Derived.Laws.MakeOwn
import Derived.Deep.QuietTactic
import Derived.BigQuiet
namespace Go.Proofs.YtaniljfjmbifnaaGreatDoor.H
open Go.RowKit
set_option linter.unusedVariables false
set_option linter.unusedSimpArgs false

/-- Cells of bytes. -/
def bu (l : List UInt8) : List Value := l.map fun b => .int .u8 b.toNat
theorem bu_length (l : List UInt8) : (bu l).length = l.length := by simp [bu]
theorem bu_append (l m : List UInt8) : bu (l ++ m) = bu l ++ bu m := by simp [bu]
theorem bu_oneCell (l : List UInt8) : ∀ v ∈ bu l, v.oneCell' = true := by
  intro v hv
  simp only [bu, List.mem_map] at hv
  obtain ⟨x, _, rfl⟩ := hv
  rfl
theorem own_ne {w : World} {B b : Nat} {X : Array Value} {t : TypeId} {fr : Nat × Nat} {v' : Value} {n : Nat} {xs : List Value} (ht : t ≠ 5) (hb : w.heap[b]? = some (.cells X t fr)) (h : w.ownsRow B 5 1 v' n xs) : v'.ownBlock ≠ some b := by
  intro e
  rcases h.2 with ⟨h1, _⟩ | ⟨g, cap, cur, h1, _, h2, _⟩
  · subst h1; simp [Value.ownBlock] at e
  · subst h1
    simp only [Value.ownBlock, Option.some.injEq] at e
    subst e
    rw [hb] at h2
    simp at h2
    exact ht h2.2.1
theorem slice_of {w : World} {B : Nat} {v : Value} {n : Nat} {xs : List Value} (h : w.ownsRow B 5 1 v n xs) : ∃ a c, v = .slice a n c := by
  rcases h.2 with ⟨h1, h2⟩ | ⟨g, cap, cur, h1, _⟩
  · exact ⟨none, 0, by rw [h1, h2]⟩
  · exact ⟨_, _, h1⟩
theorem lt_of_some {w : World} {b : Nat} {o : Obj} (h : w.heap[b]? = some o) : b < w.heap.size := (Array.getElem?_eq_some_iff.1 h).1

def str (l : List UInt8) : ByteArray := ⟨l.toArray⟩
theorem str_data (l : List UInt8) : (str l).data.toList = l := rfl
theorem str_size (l : List UInt8) : (str l).size = l.length := by simp [str, ByteArray.size]
theorem str_of (s : ByteArray) : str s.data.toList = s := by cases s; simp [str]
theorem drop_str (l : Bs) (n : Nat) : (str l).extract n (str l).size = str (l.drop n) := by
  rw [Go.Lib.extract_eq, Go.Lib.size_eq, List.take_of_length_le (by simp)]
  rfl
theorem take_str (l : Bs) (n : Nat) : (str l).extract 0 n = str (l.take n) := by
  rw [Go.Lib.extract_eq]
  rfl
theorem mid_str (l : Bs) (m n : Nat) : (str l).extract m n = str ((l.drop m).take (n - m)) := by
  rw [Go.Lib.extract_eq]
  rfl
theorem app_str (l m : Bs) : str l ++ str m = str (l ++ m) := by
  apply ByteArray.ext
  simp [str]
theorem str_inj {l m : Bs} (h : str l = str m) : l = m := by
  have := congrArg (fun s => s.data.toList) h
  exact this

theorem exec_append {a : Act} {x y : Operand} {u s : Value} {w w' : World} {v : Value} {d : Option Tmp} {t t2 ty : Nat} {pos : String} {af : Array Edge} {g : Option (Nat × Bool)} (hx : a.eval x = u) (hy : a.eval y = s)
    (h : (Builtin.append_ #[t, t2] ty #[u, s]).run Tryz.prog w = .ok v w') : (execOp a.eval ⟨d, .call { callee := .builtin .append, args := #[x, y], argTypes := #[t, t2] }, ty, pos, af, g⟩).run Tryz.prog w = .ok (.value v) w' := by
  simp only [execOp, resolve, invoke, builtin, Sem.run_bind, Sem.run_pure, Result.andThen_ok, List.map_toArray, List.map_cons, List.map_nil, hx, hy, h]
theorem wpList_append_run {ops : Array Oper} {rest : List Oper} {Q : Exit → Act → World → Prop} {a : Act} {x y : Operand} {u s : Value} {w w' : World} {v : Value} {d : Option Tmp} {t t2 ty : Nat} {pos : String} {af : Array Edge} (hx : a.eval x = u) (hy : a.eval y = s)
    (hrun : (Builtin.append_ #[t, t2] ty #[u, s]).run Tryz.prog w = .ok v w') (h : wpList Tryz.prog ops Q rest (a.put d v) w') : wpList Tryz.prog ops Q (⟨d, .call { callee := .builtin .append, args := #[x, y], argTypes := #[t, t2] }, ty, pos, af, none⟩ :: rest) a w := by
  refine wpList_plain rfl fun K hK => ?_
  unfold Oper.wp
  rw [exec_append hx hy hrun]
  exact hK _ _ h

/-- Bytes as a string. -/
theorem conv_bytes {w : World} {B : Nat} {v : Value} {l : List UInt8} (h : w.ownsRow B 5 1 v l.length (bu l)) : (convert 57 9 v).run Tryz.prog w = .ok (.string (str l)) w := by
  rcases h.2 with ⟨rfl, h0⟩ | ⟨g, cap, cur, rfl, _, hg, _, _, _, hx⟩
  · have e := List.eq_nil_of_length_eq_zero h0
    subst e
    exact run_convert_bytes_nil w 57 5 Tryz.underlying57 Tryz.underlying5 0 0 9 Tryz.underlying9
  · have hc := h.cells rfl
    have := run_convert_bytes_arg w 57 5 Tryz.underlying57 Tryz.underlying5 g 0 l.length cap (l.map fun b => (b.toNat : Int)) (by simp) (fun i hi => by
      have := hc i (.int .u8 (l[i].toNat)) (by simp [bu, hi])
      rw [Addr.add_mid] at this
      rw [this]
      simp [hi]) 9 Tryz.underlying9
    rw [this]
    have e : strOfNums (l.map fun b => (b.toNat : Int)) = str l := by
      unfold strOfNums str
      rw [List.map_map]
      have : ((fun n : Int => UInt8.ofNat n.toNat) ∘ fun b : UInt8 => (b.toNat : Int)) = id := by funext x; simp
      rw [this, List.map_id]
    rw [e]


theorem toL (l : Bs) : (str l).toList = l := by rw [Go.Lib.toList_data, str_data]

set_option maxRecDepth 100000 in
set_option maxHeartbeats 1000000 in
theorem more_any {w : World} {b : Nat} {l : Bs} (h : w.cell? ⟨b, 0, none⟩ = some (.string (str l))) : Calls Tryz.prog 96 #[.pointer (some ⟨b, 0, none⟩)] w fun e w' => e = .returned (.bool (decide (l ≠ []))) ∧ w' = w := by
  have hq : ((str l).toList == []) = decide (l = []) := by
    rw [toL, Bool.eq_iff_iff]
    simp
  have HN : Hid (decide (l ≠ []) = !decide (l = [])) := by simp [Hid]
  go_enter Tryz.func96, Tryz.ntmps96
  go_wp2_with fail
  go_ret
  rw [HN.out]
  exact ⟨rfl, rfl⟩
theorem more_yes_any {w : World} {b : Nat} {c : UInt8} {l : Bs} (h : w.cell? ⟨b, 0, none⟩ = some (.string (str (c :: l)))) : Calls Tryz.prog 96 #[.pointer (some ⟨b, 0, none⟩)] w fun e w' => e = .returned (.bool true) ∧ w' = w := by
  have := more_any h
  rwa [show decide (c :: l ≠ []) = true by simp] at this
theorem more_no_any {w : World} {b : Nat} (h : w.cell? ⟨b, 0, none⟩ = some (.string (str []))) : Calls Tryz.prog 96 #[.pointer (some ⟨b, 0, none⟩)] w fun e w' => e = .returned (.bool false) ∧ w' = w := by
  have := more_any h
  rwa [show decide (([] : Bs) ≠ []) = false by simp] at this

theorem cont_cons (c : UInt8) (l : Bs) : cont (c :: l) = (((c.toNat : Int) == 32) || ((c.toNat : Int) == 9)) := by
  have e : ∀ k : UInt8, (c == k) = ((c.toNat : Int) == (k.toNat : Int)) := by
    intro k
    rw [Bool.eq_iff_iff]
    simp [← UInt8.toNat_inj]
    omega
  show (c == 32 || c == 9) = _
  rw [e 32, e 9]
  rfl
set_option maxRecDepth 100000 in
set_option maxHeartbeats 1000000 in
theorem goesOn_any {w : World} {b : Nat} {l : Bs} (h : w.cell? ⟨b, 0, none⟩ = some (.string (str l))) (hl : l.length ≤ 10000000) :
    Calls Tryz.prog 149 #[.pointer (some ⟨b, 0, none⟩)] w fun e w' => e = .returned (.bool (cont l)) ∧ w' = w := by
  cases l with
  | nil =>
    have HC := hid (more_no_any h)
    go_enter Tryz.func149, Tryz.ntmps149
    go_wp2_with fail
    refine HC.out.mono ?_
    rintro e w1 ⟨rfl, rfl⟩
    go_wp2_with fail
    go_ret
    exact ⟨rfl, rfl⟩
  | cons c l =>
    have HC := hid (more_yes_any h)
    have hz : (str (c :: l)).size = l.length + 1 := by rw [str_size]; rfl
    have hlt : 0 < (str (c :: l)).size := by omega
    have g : ((str (c :: l))[0]'hlt) = c := rfl
    have HE := hid (cont_cons c l)
    rw [HE.out]
    clear HE
    by_cases h1 : (c.toNat : Int) = 32
    · have h2 : ((c.toNat : Int) == 32) = true := by simp [h1]
      go_enter Tryz.func149, Tryz.ntmps149
      go_wp2_with fail
      refine HC.out.mono ?_
      rintro e w1 ⟨rfl, rfl⟩
      go_wp2_with fail
      go_ret
      exact ⟨by rw [show (((c.toNat : Int) == 32) || ((c.toNat : Int) == 9)) = true by simp [h1]]; rfl, rfl⟩
    · have h2 : ((c.toNat : Int) == 32) = false := by simp [h1]
      go_enter Tryz.func149, Tryz.ntmps149
      go_wp2_with fail
      refine HC.out.mono ?_
      rintro e w1 ⟨rfl, rfl⟩
      go_wp2_with fail
      go_ret
      exact ⟨by rw [show (((c.toNat : Int) == 32) || ((c.toNat : Int) == 9)) = ((c.toNat : Int) == 9) by rw [h2]; rfl]; rfl, rfl⟩

theorem drop_len_take (s : Bs) (k : Nat) (hk : k ≤ s.length) : s.length - (s.drop k).length = k := by simp; omega
set_option maxRecDepth 100000 in
set_option maxHeartbeats 1000000 in
theorem behind_any {w : World} {b : Nat} (s : Bs) (k : Nat) (hk : k ≤ s.length) (h : w.cell? ⟨b, 0, none⟩ = some (.string (str (s.drop k)))) (hl : s.length ≤ 10000000) :
    Calls Tryz.prog 99 #[.pointer (some ⟨b, 0, none⟩), .string (str s)] w fun e w' => e = .returned (.string (str (s.take k))) ∧ w' = w := by
  have HT : Hid (∀ m, (str s).extract 0 m = str (s.take m)) := take_str s
  have hs1 := str_size s
  have hs2 := str_size (s.drop k)
  have hd := List.length_drop (i := k) (l := s)
  have HL := hid (drop_len_take s k hk)
  generalize hm : (s.drop k).length = m at *
  go_enter Tryz.func99, Tryz.ntmps99
  go_wp2_with fail
  go_ret
  refine ⟨?_, rfl⟩
  show Ending.returned (.string ((str s).extract 0 (s.length - (s.length - k)))) = _
  rw [show s.length - (s.length - k) = k by omega, HT.out]
theorem eqL (l m : Bs) : ((str l).toList == m) = decide (l = m) := by
  rw [toL, Bool.eq_iff_iff]
  simp
set_option maxRecDepth 100000 in
set_option maxHeartbeats 1000000 in
theorem empty_any (l : Bs) (w : World) : Calls Tryz.prog 97 #[.string (str l)] w fun e w' => e = .returned (.bool (emp l)) ∧ w' = w := by
  have h1 := eqL l [10]
  have h2 := eqL l [13, 10]
  by_cases h : l = [10]
  · subst h
    go_enter Tryz.func97, Tryz.ntmps97
    go_wp2_with fail
    go_ret
    exact ⟨rfl, rfl⟩
  · have h3 : decide (l = [10]) = false := by simp [h]
    rw [h3] at h1
    have HE : Hid (emp l = decide (l = [13, 10])) := by unfold emp; rw [h3]; rfl
    rw [HE.out]
    clear h h3
    go_enter Tryz.func97, Tryz.ntmps97
    go_wp2_with fail
    go_ret
    exact ⟨rfl, rfl⟩
end Go.Proofs.YtaniljfjmbifnaaGreatDoor.H
