/- What this text holds: the document's names of days, and its clock. -/
import Derived.Test.YtnjdgbbdjkhpoaaDoorM2
namespace Go.Proofs.YtnjdgbbdjkhpoaaDoor
open Go.RowKit
set_option linter.unusedVariables false
set_option linter.unusedSimpArgs false

def wdL : Bs := [109, 111, 110, 44, 116, 117, 101, 44, 119, 101, 100, 44, 116, 104, 117, 44, 102, 114, 105, 44, 115, 97, 116, 44, 115, 117, 110, 44]
def wdN (k : Nat) : Bs := (wdL.drop (4 * k)).take 4
/-- Is it a day's name and a comma? -/
def wdR (s : Bs) : Bool := (List.range 7).any fun k => low s == wdN k
theorem wdR_yes {s : Bs} {k : Nat} (hk : k < 7) (h : (low s == wdN k) = true) : wdR s = true := List.any_eq_true.2 ⟨k, List.mem_range.2 hk, h⟩
theorem wdR_no {s : Bs} (h : ∀ j, j < 7 → (low s == wdN j) = false) : wdR s = false := by
  rw [← Bool.not_eq_true]
  intro e
  obtain ⟨k, hk, e⟩ := List.any_eq_true.1 e
  rw [h k (List.mem_range.1 hk)] at e
  cases e
def wdC : Array Value := #[.string ⟨#[109, 111, 110, 44]⟩, .string ⟨#[116, 117, 101, 44]⟩, .string ⟨#[119, 101, 100, 44]⟩, .string ⟨#[116, 104, 117, 44]⟩, .string ⟨#[102, 114, 105, 44]⟩, .string ⟨#[115, 97, 116, 44]⟩, .string ⟨#[115, 117, 110, 44]⟩]
theorem wd_cell {w : World} {b : Nat} (h : w.heap[b]? = some (.cells wdC 9 (0, 0))) (k : Nat) (hk : k < 7) : w.cell? ⟨b, k, none⟩ = some (.string (str (wdN k))) := by
  simp only [World.cell?, h]
  match k, hk with
  | 0, _ => rfl
  | 1, _ => rfl
  | 2, _ => rfl
  | 3, _ => rfl
  | 4, _ => rfl
  | 5, _ => rfl
  | 6, _ => rfl

set_option maxRecDepth 100000 in
set_option maxHeartbeats 2000000 in
theorem rweek_any (s : Bs) (hs : s.length ≤ 1000000) (w : World) : Calls Tryd.prog 52 #[.string (str s)] w fun e w' => e = .returned (.bool (wdR s)) ∧ Below w.heap.size w w' := by
  go_enter Tryd.func52, Tryd.ntmps52
  go_wp2_with fail
  go_loopw [4] (fun i wr => ∃ k : Nat, k ≤ 7 ∧ i = .int .i64 k ∧ (∀ j : Nat, j < k → (low s == wdN j) = false) ∧ wr.heap[w.heap.size]? = some (.cells wdC 9 (0, 0)) ∧ Below w.heap.size w wr) (fun i _ => 7 - (intOf i).toNat)
  case atStart => exact ⟨0, by omega, rfl, fun j hj => by omega, heap_alloc_new _ _, (Below.refl _ _).alloc (Nat.le_refl _) _⟩
  case round =>
    obtain ⟨k, hk, rfl, ha, hA, hb⟩ := hrel
    have HA := hid ha
    have HB := hid hb
    have HAt := hid hA
    clear ha hb hA
    by_cases hlt : k < 7
    · have hlt' : (k : Int) < 7 := by omega
      have q0 := wd_cell HAt.out k hlt
      have hq := str_eq (low s) (wdN k)
      have hAc : wr.drew.heap[w.heap.size]? = some (.cells wdC 9 (0, 0)) := HAt.out
      have HBc : Below w.heap.size w wr.drew := HB.out.drew
      have qc := q0
      rcases Bool.eq_false_or_eq_true (low s == wdN k) with he | he
      · have hd : decide (low s = wdN k) = true := by simpa using he
        rw [hd] at hq
        have HV := hid (wdR_yes hlt he)
        clear hd he
        generalize wdN k = nm at *
        go_wp2_with fail
        go_region_held3 (fun w' => w'.cell? ⟨w.heap.size, k, none⟩ = some (.string (str nm))) (first | exact qc | exact q0 | go_keep) (first | (go_at_call 54; refine (rlower_any s _ (by omega)).mono ?_; rintro e wk ⟨rfl, hb⟩; have qc := (hb.cell (p := ⟨w.heap.size, k, none⟩) (lt_of_some hAc)).trans qc; have hAc := (hb.block w.heap.size (lt_of_some hAc)).trans hAc; have HBc := HBc.trans (hb.mono HBc.size); clear hb))
        go_wp2_with fail
        go_ret
        rw [HV.out]
        exact ⟨rfl, HBc⟩
      · have hd : decide (low s = wdN k) = false := by simpa using he
        rw [hd] at hq
        have HE : Hid (∀ j : Nat, j < k + 1 → (low s == wdN j) = false) := fun j hj => by
          by_cases hjk : j < k
          · exact HA.out j hjk
          · obtain rfl : j = k := by omega
            exact he
        clear hd he
        generalize wdN k = nm at *
        go_wp2_with fail
        go_region_held3 (fun w' => w'.cell? ⟨w.heap.size, k, none⟩ = some (.string (str nm))) (first | exact qc | exact q0 | go_keep) (first | (go_at_call 54; refine (rlower_any s _ (by omega)).mono ?_; rintro e wk ⟨rfl, hb⟩; have qc := (hb.cell (p := ⟨w.heap.size, k, none⟩) (lt_of_some hAc)).trans qc; have hAc := (hb.block w.heap.size (lt_of_some hAc)).trans hAc; have HBc := HBc.trans (hb.mono HBc.size); clear hb))
        go_wp2_with fail
        go_roundw
        case rel => exact ⟨k + 1, by omega, by go_num, HE.out, hAc, HBc⟩
        case measure => simp [intOf]; omega
    · obtain rfl : k = 7 := by omega
      have HV := hid (wdR_no HA.out)
      go_wp2_with fail
      go_ret
      rw [HV.out]
      exact ⟨rfl, HB.out⟩
end Go.Proofs.YtnjdgbbdjkhpoaaDoor
