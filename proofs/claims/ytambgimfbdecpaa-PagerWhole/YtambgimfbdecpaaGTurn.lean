/- What this text holds: 'turn' and 'releaseUpTo': sheets that are laid anew. -/
import Derived.Test.YtambgimfbdecpaaGLoops
namespace Go.Proofs.Ytambgimfbdecpaa
open Go.RowKit
set_option linter.unusedVariables false

/-- The first k sheets by f. -/
def mapTo (f : Int × Int → Int × Int) (st : List (Int × Int)) (k : Nat) : List (Int × Int) := (st.take k).map f ++ st.drop k
theorem mapTo_zero (f : Int × Int → Int × Int) (st : List (Int × Int)) : mapTo f st 0 = st := by simp [mapTo]
theorem mapTo_all (f : Int × Int → Int × Int) (st : List (Int × Int)) (k : Nat) (h : st.length ≤ k) : mapTo f st k = st.map f := by
  unfold mapTo; rw [List.take_of_length_le h, List.drop_of_length_le h, List.append_nil]
theorem mapTo_length (f : Int × Int → Int × Int) (st : List (Int × Int)) (k : Nat) : (mapTo f st k).length = st.length := by
  unfold mapTo; rw [List.length_append, List.length_map, List.length_take, List.length_drop]; omega
theorem mapTo_get (f : Int × Int → Int × Int) (st : List (Int × Int)) (k : Nat) (hk : k < st.length) : (mapTo f st k)[k]'(by rw [mapTo_length]; exact hk) = st[k] := by
  unfold mapTo
  rw [List.getElem_append_right (by rw [List.length_map, List.length_take]; omega)]
  simp only [List.length_map, List.length_take, List.getElem_drop]
  congr 1
  omega
theorem mapTo_succ (f : Int × Int → Int × Int) (st : List (Int × Int)) (k : Nat) (hk : k < st.length) : mapTo f st (k + 1) = (mapTo f st k).set k (f st[k]) := by
  unfold mapTo
  rw [List.set_append_right _ _ (by rw [List.length_map, List.length_take]; omega), List.take_succ_eq_append_getElem hk, List.map_append, List.map_singleton, List.append_assoc]
  congr 1
  rw [List.length_map, List.length_take, Nat.min_eq_left (by omega), Nat.sub_self]
  conv => rhs; rw [List.drop_eq_getElem_cons hk]
  rfl
theorem mapTo_same (f : Int × Int → Int × Int) (st : List (Int × Int)) (k : Nat) (hk : k < st.length) (h : f st[k] = st[k]) : mapTo f st (k + 1) = mapTo f st k := by
  rw [mapTo_succ f st k hk, h]
  have h2 := List.set_getElem_self (i := k) (h := (by rw [mapTo_length]; exact hk : k < (mapTo f st k).length))
  rw [mapTo_get f st k hk] at h2
  exact h2

/-- What releaseUpTo does to a sheet. -/
def relF (g : Int) (x : Int × Int) : Int × Int := if x.1 = 4 ∧ x.2 ≤ g then (0, 0) else x

set_option maxRecDepth 100000 in
set_option maxHeartbeats 1000000 in
theorem releaseUpTo_any {w : World} {b gs n : Nat} {st : List (Int × Int)} (h : ShAt w b gs n st) (hne : gs ≠ b) (g : Int) :
    Calls Try.prog 93 #[.pointer (some ⟨b, 1, none⟩), .int .i64 g] w fun e w' => e = .returned (.tuple #[]) ∧ ShAt w' b gs n (st.map (relF g)) ∧ Kept [gs] w w' := by
  have hc := h.c
  have hm := h.max
  have HH := hid h
  have HL := hid h.len
  have HN := hid hne
  clear h hne
  go_enter Try.func93, Try.ntmps93
  go_wp2
  go_loopw [10] (fun q wr => ∃ k : Nat, k ≤ n ∧ q = .int .i64 k ∧ ShAt wr b gs n (mapTo (relF g) st k) ∧ Kept [gs] w wr) (fun q _ => n - (intOf q).toNat)
  case atStart => exact ⟨0, Nat.zero_le _, rfl, by rw [mapTo_zero]; exact HH.out, Kept.refl _ _⟩
  case round =>
    obtain ⟨k, hkn, rfl, hsh, hkp⟩ := hrel
    by_cases hlt : k < n
    · have hlt' : (k : Int) < n := by omega
      have hl : k < st.length := by rw [HL.out]; exact hlt
      have c1 := hsh.c
      obtain ⟨c2, c3⟩ := hsh.at_ k hlt
      have hf1 := hsh.free (k * 2)
      have hf2 := hsh.free (k * 2 + 1)
      rw [mapTo_get _ st k hl] at c2 c3
      obtain ⟨X, hX⟩ : ∃ X, X = st[k] := ⟨_, rfl⟩
      obtain ⟨x, y⟩ := X
      rw [← hX] at c2 c3
      simp only at c2 c3
      have HX := hid hX
      have HS := hid hsh
      clear hX hsh
      by_cases h1 : x = 4
      · have h1' : (x == 4) = true := by rw [beq_iff_eq]; exact h1
        by_cases h2 : y ≤ g
        · have e : mapTo (relF g) st (k + 1) = (mapTo (relF g) st k).set k (0, 0) := by
            rw [mapTo_succ _ st k hl, ← HX.out, relF, if_pos ⟨h1, h2⟩]
          have HE := hid e
          clear e h1
          go_wp2
          go_roundw
          case rel =>
            refine ⟨k + 1, by omega, by go_num, ?_, ?_⟩
            · rw [HE.out]; exact HS.out.set HN.out k hlt (0, 0)
            · exact hkp.trans (setSh_kept wr gs k (0, 0)) (fun _ _ h => h)
          case measure => simp [intOf]; omega
        · have e : mapTo (relF g) st (k + 1) = mapTo (relF g) st k := mapTo_same _ st k hl (by rw [← HX.out, relF, if_neg (fun h => h2 h.2)])
          have HE := hid e
          clear e h1
          go_wp2
          go_roundw
          case rel => exact ⟨k + 1, by omega, by go_num, by rw [HE.out]; exact HS.out, hkp⟩
          case measure => simp [intOf]; omega
      · have h1' : (x == 4) = false := by rw [beq_eq_false_iff_ne]; exact h1
        have e : mapTo (relF g) st (k + 1) = mapTo (relF g) st k := mapTo_same _ st k hl (by rw [← HX.out, relF, if_neg (fun h => h1 h.1)])
        have HE := hid e
        clear e h1
        go_wp2
        go_roundw
        case rel => exact ⟨k + 1, by omega, by go_num, by rw [HE.out]; exact HS.out, hkp⟩
        case measure => simp [intOf]; omega
    · have hlt' : ¬ (k : Int) < n := by omega
      have HS := hid hsh
      clear hsh
      go_wp2
      go_end0
      refine ⟨rfl, ?_, hkp⟩
      have := HS.out
      rw [mapTo_all _ _ _ (by rw [HL.out]; omega)] at this
      exact this

theorem cell_alloc {w : World} {p : Addr} {v : Value} (h : w.cell? p = some v) (O : Obj) : (w.alloc O).cell? p = some v := by
  rw [World.cell?_alloc_some _ _ _ (by simp [h]), h]
theorem ShAt.keep {w w' : World} {b gs n : Nat} {st : List (Int × Int)} (h : ShAt w b gs n st) {S : List Nat} (k : Kept S w w') (h1 : b ∉ S) (h2 : gs ∉ S) : ShAt w' b gs n st :=
  ⟨k.cell h.c h1, by rw [k.block gs (Array.getElem?_eq_some_iff.1 h.blk).1 h2]; exact h.blk, h.len, h.max⟩
theorem ShAt.alloc {w : World} {b gs n : Nat} {st : List (Int × Int)} (h : ShAt w b gs n st) (O : Obj) : ShAt (w.alloc O) b gs n st := h.keep (Kept.alloc [] w O) (by simp) (by simp)
/-- What turn does to a sheet. -/
def turnF (a : Int) (t : Int × Int) (x : Int × Int) : Int × Int := if x.1 = a then t else x

set_option maxRecDepth 100000 in
set_option maxHeartbeats 1000000 in
theorem turn_any {w : World} {b gs n : Nat} {st : List (Int × Int)} (h : ShAt w b gs n st) (hne : gs ≠ b) (a t1 t2 : Int) :
    Calls Try.prog 68 #[.pointer (some ⟨b, 1, none⟩), .int .i64 a, .agg #[.int .i64 t1, .int .i64 t2]] w fun e w' => e = .returned (.tuple #[]) ∧ ShAt w' b gs n (st.map (turnF a (t1, t2))) ∧ Kept [gs] w w' := by
  have hc := h.c
  have hm := h.max
  have hgs : gs < w.heap.size := (Array.getElem?_eq_some_iff.1 h.blk).1
  have HH := hid h
  have HL := hid h.len
  have HN := hid hne
  have hc' := fun O : Obj => cell_alloc hc O
  have HA := hid (h.alloc (.cells #[.int .i64 t1, .int .i64 t2] 118))
  clear h hne
  go_enter Try.func68, Try.ntmps68
  go_wp2
  go_loopw [12] (fun q wr => ∃ k : Nat, k ≤ n ∧ q = .int .i64 k ∧ ShAt wr b gs n (mapTo (turnF a (t1, t2)) st k) ∧ wr.heap[w.heap.size]? = some (.cells #[.int .i64 t1, .int .i64 t2] 118 (0, 0)) ∧ Kept [gs] w wr) (fun q _ => n - (intOf q).toNat)
  case atStart => exact ⟨0, Nat.zero_le _, rfl, by rw [mapTo_zero]; exact HA.out, heap_alloc_new _ _, Kept.alloc _ _ _⟩
  case round =>
    obtain ⟨k, hkn, rfl, hsh, hbx, hkp⟩ := hrel
    by_cases hlt : k < n
    · have hlt' : (k : Int) < n := by omega
      have hl : k < st.length := by rw [HL.out]; exact hlt
      have c1 := hsh.c
      obtain ⟨c2, c3⟩ := hsh.at_ k hlt
      have hf1 := hsh.free (k * 2)
      have hf2 := hsh.free (k * 2 + 1)
      rw [mapTo_get _ st k hl] at c2 c3
      obtain ⟨X, hX⟩ : ∃ X, X = st[k] := ⟨_, rfl⟩
      obtain ⟨x, y⟩ := X
      rw [← hX] at c2 c3
      simp only at c2 c3
      have HX := hid hX
      have HS := hid hsh
      have HBX := hid hbx
      have d0 : wr.cell? ⟨w.heap.size, 0, none⟩ = some (.int .i64 t1) := by simp [World.cell?, hbx]
      have d1 : wr.cell? ⟨w.heap.size, 1, none⟩ = some (.int .i64 t2) := by simp [World.cell?, hbx]
      clear hX hsh hbx
      by_cases h1 : x = a
      · have h1' : (x == a) = true := by rw [beq_iff_eq]; exact h1
        have e : mapTo (turnF a (t1, t2)) st (k + 1) = (mapTo (turnF a (t1, t2)) st k).set k (t1, t2) := by
          rw [mapTo_succ _ st k hl, ← HX.out, turnF, if_pos h1]
        have HE := hid e
        have n1 : ¬ gs = b := HN.out
        have n2 : ¬ b = gs := fun e => HN.out e.symm
        have n3 : ¬ gs = w.heap.size := by omega
        have n4 : ¬ w.heap.size = gs := by omega
        clear e h1
        go_wp2
        go_region_held3 (fun w' => w'.cell? ⟨b, 1, none⟩ = some (.slice (some ⟨gs, 0, none⟩) n n) ∧ w'.cell? ⟨w.heap.size, 0, none⟩ = some (.int .i64 t1) ∧ w'.cell? ⟨w.heap.size, 1, none⟩ = some (.int .i64 t2)) (first | go_keep) (fail)
        go_wp2
        go_roundw
        case rel =>
          refine ⟨k + 1, by omega, by go_num, ?_, ?_, ?_⟩
          · rw [HE.out]; exact (HS.out.set HN.out k hlt (t1, t2)).keep (Kept.drew [] _) (by simp) (by simp)
          · have := (setSh_kept wr gs k (t1, t2)).block w.heap.size (Array.getElem?_eq_some_iff.1 HBX.out).1 (by simpa using n4)
            exact this.trans HBX.out
          · exact (hkp.trans (setSh_kept wr gs k (t1, t2)) (fun _ _ h => h)).trans (Kept.drew [gs] _) (fun _ _ h => h)
        case measure => simp [intOf]; omega
      · have h1' : (x == a) = false := by rw [beq_eq_false_iff_ne]; exact h1
        have e : mapTo (turnF a (t1, t2)) st (k + 1) = mapTo (turnF a (t1, t2)) st k := mapTo_same _ st k hl (by rw [← HX.out, turnF, if_neg h1])
        have HE := hid e
        clear e h1
        go_wp2
        go_roundw
        case rel => exact ⟨k + 1, by omega, by go_num, by rw [HE.out]; exact HS.out, HBX.out, hkp⟩
        case measure => simp [intOf]; omega
    · have hlt' : ¬ (k : Int) < n := by omega
      have HS := hid hsh
      clear hsh
      go_wp2
      go_end0
      refine ⟨rfl, ?_, hkp⟩
      have := HS.out
      rw [mapTo_all _ _ _ (by rw [HL.out]; omega)] at this
      exact this
end Go.Proofs.Ytambgimfbdecpaa
