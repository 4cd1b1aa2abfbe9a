/- What this text holds: when a node is right: the program's answer. -/
import Derived.Test.YtkipigbfbhecjaaN1
namespace Go.Proofs.Ytkipigbfbhecjaa
open Go.RowKit
set_option linter.unusedVariables false
set_option linter.unusedSimpArgs false

def pageOk (n : Int) : Bool := decide (2 ≤ n) && decide (n < 4096)
def itemOk (x : It) : Bool := if x.page = 0 then x.size == 0 && decide (x.val.size ≤ 60) else pageOk x.page && x.val.toList.isEmpty && decide (60 < x.size) && decide (x.size ≤ 60000)
def keyOk (keys : List ByteArray) (i : Nat) : Bool := decide ((keys.getD i ByteArray.empty).size ≤ 60) && (decide (i = 0) || lt (keys.getD (i - 1) ByteArray.empty) (keys.getD i ByteArray.empty))
def risingB (keys : List ByteArray) : Bool := (List.range keys.length).all (keyOk keys)
/-- Is a node right? -/
def rightB (n : Nd) : Bool := risingB n.keys && (if n.leaf then decide (n.items.length = n.keys.length) && decide (n.kids.length = 0) && n.items.all itemOk else decide (0 < n.keys.length) && decide (n.kids.length = n.keys.length + 1) && decide (n.items.length = 0) && n.kids.all pageOk)

set_option maxRecDepth 100000 in
set_option maxHeartbeats 400000 in
theorem page_any (n : Int) (w : World) : Calls Try.prog 31 #[.int .i64 n] w fun e w' => e = .returned (.bool (pageOk n)) ∧ w' = w := by
  go_enter Try.func31, Try.ntmps31
  go_wp2
  all_goals (go_ret; refine ⟨?_, rfl⟩; (simp [pageOk, *] <;> omega))
set_option maxRecDepth 100000 in
set_option maxHeartbeats 400000 in
theorem kid_any (n : Int) (w : World) : Calls Try.prog 33 #[.int .i64 n] w fun e w' => e = .returned (.bool (pageOk n)) ∧ w' = w := by
  go_enter Try.func33, Try.ntmps33
  go_wp2
  all_goals (go_ret; refine ⟨?_, rfl⟩; (simp [pageOk, *] <;> omega))

theorem below_box (w : World) (o : Obj) : Below w.heap.size w (w.alloc o) := (Below.refl _ _).alloc (Nat.le_refl _) _

set_option maxRecDepth 100000 in
set_option maxHeartbeats 400000 in
theorem item_any (x : It) (w : World) : Calls Try.prog 29 #[itv x] w fun e w' => e = .returned (.bool (itemOk x)) ∧ Below w.heap.size w w' := by
  obtain ⟨s, p, z⟩ := x
  unfold itv
  go_enter Try.func29, Try.ntmps29
  go_wp2_with (first | (go_at_call 31; refine (page_any _ _).mono ?_; rintro e w ⟨rfl, rfl⟩))
  all_goals (go_ret; refine ⟨?_, below_box _ _⟩; (simp_all [itemOk] <;> omega))
set_option maxRecDepth 100000 in
set_option maxHeartbeats 400000 in
theorem ritem_any (x : It) (w : World) : Calls Try.prog 32 #[itv x] w fun e w' => e = .returned (.bool (itemOk x)) ∧ Below w.heap.size w w' := by
  obtain ⟨s, p, z⟩ := x
  unfold itv
  go_enter Try.func32, Try.ntmps32
  go_wp2_with (first | (go_at_call 33; refine (kid_any _ _).mono ?_; rintro e w ⟨rfl, rfl⟩))
  all_goals (go_ret; refine ⟨?_, below_box _ _⟩; (simp_all [itemOk] <;> omega))

theorem keyOk_at (keys : List ByteArray) (i : Nat) (hi : i < keys.length) : keyOk keys i = (decide ((keys[i]).size ≤ 60) && (decide (i = 0) || lt (keys[i - 1]'(by omega)) keys[i])) := by
  unfold keyOk
  rw [List.getD_eq_getElem?_getD, List.getD_eq_getElem?_getD, List.getElem?_eq_getElem hi, List.getElem?_eq_getElem (by omega : i - 1 < keys.length)]
  rfl
theorem rising_no {keys : List ByteArray} {i : Nat} (hi : i < keys.length) (h : keyOk keys i = false) : risingB keys = false := by
  unfold risingB
  rw [List.all_eq_false]
  exact ⟨i, List.mem_range.2 hi, by simp [h]⟩
theorem rising_yes {keys : List ByteArray} (h : ∀ i < keys.length, keyOk keys i = true) : risingB keys = true := by
  unfold risingB
  rw [List.all_eq_true]
  exact fun i hi => h i (List.mem_range.1 hi)
theorem not_lt_raw (a b : ByteArray) : Op.bytesLess a.toList b.toList = lt a b := rfl

set_option maxRecDepth 100000 in
set_option maxHeartbeats 1000000 in
theorem rising_any {w : World} {a : Option Addr} {l : List ByteArray} {c : Nat} (h : At w a (kc l)) (hs : ∀ k ∈ l, k.size ≤ maxLen) (hl : l.length ≤ maxLen) :
    Calls Try.prog 27 #[.slice a l.length c] w fun e w' => e = .returned (.bool (risingB l)) ∧ w' = w := by
  have H := hid h
  have HS := hid hs
  unfold maxLen at hl
  clear h hs
  go_enter Try.func27, Try.ntmps27
  go_wp2
  go_loop [7] (fun i => ∃ k : Nat, k ≤ l.length ∧ i = .int .i64 k ∧ ∀ j < k, keyOk l j = true) (fun i => l.length - (intOf i).toNat)
  case atStart => exact ⟨0, by omega, rfl, fun j hj => by omega⟩
  case round =>
    obtain ⟨k, hk, rfl, hr⟩ := hrel
    have HR := hid hr
    clear hr
    by_cases hlt : k < l.length
    · obtain ⟨b, o, rfl, hc⟩ := H.out.key k hlt
      have hsz := HS.out _ (List.getElem_mem hlt)
      unfold maxLen at hsz
      have HE := hid (keyOk_at l k hlt)
      by_cases h0 : k = 0
      · subst h0
        generalize l[0] = s at hc hsz HE
        rw [Nat.add_zero] at hc
        by_cases h60 : (60 : Int) < s.size
        · go_wp2
          go_ret
          refine ⟨?_, rfl⟩
          rw [rising_no hlt (by rw [HE.out]; simp; omega)]; rfl
        · go_wp2
          go_round
          case rel => exact ⟨1, by omega, by go_num, fun j hj => by rw [show j = 0 by omega, HE.out]; simp; omega⟩
          case measure => simp [intOf]; omega
      · obtain ⟨b', o', e, hc'⟩ := H.out.key (k - 1) (by omega)
        simp only [Option.some.injEq, Addr.mk.injEq, and_true] at e
        obtain ⟨rfl, rfl⟩ := e
        have h0' : (0 : Int) < k := by omega
        generalize l[k]'hlt = s at hc hsz HE
        generalize l[k - 1]'(by omega) = s' at hc' HE
        by_cases h60 : (60 : Int) < s.size
        · go_wp2
          go_ret
          refine ⟨?_, rfl⟩
          rw [rising_no hlt (by rw [HE.out]; simp; omega)]; rfl
        · go_wp2
          · go_ret
            refine ⟨?_, rfl⟩
            rw [rising_no hlt (by rw [HE.out]; simp_all [lt])]; rfl
          · go_round
            case rel => exact ⟨k + 1, by omega, by go_num, fun j hj => by
              by_cases e : j < k
              · exact HR.out j e
              · rw [show j = k by omega, HE.out]; simp_all [lt]; omega⟩
            case measure => simp [intOf]; omega
    · have e : k = l.length := by omega
      subst e
      go_wp2
      go_ret
      rw [rising_yes HR.out]
      exact ⟨rfl, rfl⟩
end Go.Proofs.Ytkipigbfbhecjaa
