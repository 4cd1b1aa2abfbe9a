/- What this text holds: the names above one: the program's answer; plain facts of parts. -/
import Derived.Test.YtkmggkcipgfhdaaDoorR1
namespace Go.Proofs.YtkmggkcipgfhdaaDoor
open Go.RowKit
set_option linter.unusedVariables false
set_option linter.unusedSimpArgs false

/-- The names above one, as far as a place. -/
def upK (l : List UInt8) (k : Nat) : List (List UInt8) := ((List.range k).filter fun j => l.getD j 0 == 47).map fun j => l.take j
theorem upK_next (l : List UInt8) (k : Nat) : upK l (k + 1) = upK l k ++ (if l.getD k 0 = 47 then [l.take k] else []) := by
  unfold upK
  rw [List.range_succ, List.filter_append, List.map_append]
  congr 1
  by_cases h : l.getD k 0 = 47
  · rw [if_pos h, List.filter_cons_of_pos (by rw [beq_iff_eq]; exact h)]
    rfl
  · rw [if_neg h, List.filter_cons_of_neg (by rw [beq_iff_eq]; exact h)]
    rfl
theorem upK_len (l : List UInt8) (k : Nat) : (upK l k).length ≤ k := by
  unfold upK
  rw [List.length_map]
  have := List.length_filter_le (fun j => l.getD j 0 == 47) (List.range k)
  rw [List.length_range] at this
  exact this
theorem Tryd.info9 : (Tryd.prog.info? 9).map (fun i => (i.zero, i.size, i.bytes)) = some (some (.string ⟨#[]⟩), 1, 16) := by kernel_rfl
theorem sc_oneCell (l : List (List UInt8)) : ∀ v ∈ sc l, v.oneCell' = true := by
  intro v hv
  simp only [sc, List.mem_map] at hv
  obtain ⟨x, _, rfl⟩ := hv
  rfl
theorem sc_append (l m : List (List UInt8)) : sc (l ++ m) = sc l ++ sc m := by simp [sc]
/-- A slice of strings of one's own. -/
def SO (w : World) (B : Nat) (v : Value) (l : List (List UInt8)) : Prop := w.ownsRow B 9 1 v l.length (sc l)
theorem SO.sl {w : World} {B : Nat} {v : Value} {l : List (List UInt8)} (h : SO w B v l) : SL w v l := by
  rcases id h.2 with ⟨rfl, h0⟩ | ⟨g, cap, cur, rfl, _, hg, hc, _⟩
  · have := List.eq_nil_of_length_eq_zero h0
    subst this
    exact ⟨none, 0, rfl, by simp, .inl rfl⟩
  · refine ⟨_, cap, rfl, hc, .inr ⟨g, 0, rfl, fun j p hp => ?_⟩⟩
    have := World.ownsRow.cells h rfl j (.string (str p)) (by simp [sc, hp])
    rw [Addr.add_mid] at this
    exact this
/-- More strings. -/
theorem so_more {w : World} {B : Nat} {v : Value} {l : List (List UInt8)} (h : SO w B v l) (hBw : B ≤ w.heap.size) {u : Value} {m : List (List UInt8)} (hu : SL w u m) (hl : l.length ≤ 1000000) (hm : m.length ≤ 1000000) (hne : m ≠ []) :
    ∃ v' w', (Builtin.append_ #[32, 32] 32 #[v, u]).run Tryd.prog w = .ok v' w' ∧ SO w' B v' (l ++ m) ∧ Below B w w' := by
  obtain ⟨i, hi, hz0, hz1, hz2⟩ := info_parts Tryd.info9
  obtain ⟨a, c, rfl, hc, hs⟩ := hu
  rcases hs with hs | ⟨g, o, rfl, hs⟩
  · exact absurd hs hne
  · obtain ⟨v', w', hr, ho', hg, _, _⟩ := run_append_own_at (P := Tryd.prog) w B 32 32 9 i _ 1 16 Tryd.underlying32 hi hz0 hz1 hz2 rfl (by omega) v l.length (sc l) h
      ⟨g, o, none⟩ m.length c (sc m) (by simp [sc]) (fun j x hx => by
        rw [Addr.add_mid]
        simp only [sc, List.getElem?_map, Option.map_eq_some_iff] at hx
        obtain ⟨p, hp, rfl⟩ := hx
        exact hs j p hp) (sc_oneCell m) (by unfold maxLen; omega) (by omega) hBw
    rw [← sc_append, show l.length + m.length = (l ++ m).length by simp] at ho'
    exact ⟨v', w', hr, ho', (Below.refl B w).grown hg hBw (fun k hk => (World.ownsRow.lt h k hk).1)⟩
theorem SO.later {w w' : World} {B : Nat} {v : Value} {l : List (List UInt8)} (h : SO w B v l) (hb : Below w.heap.size w w') : SO w' B v l :=
  ownsRow_block h (fun k hk => hb.block k (World.ownsRow.lt h k hk).2)
theorem SO.slice {w : World} {B : Nat} {v : Value} {l : List (List UInt8)} (h : SO w B v l) : ∃ a c, v = .slice a l.length c := by
  obtain ⟨a, c, h, _⟩ := h.sl
  exact ⟨a, c, h⟩
theorem take_str (s : ByteArray) (n : Nat) (h : n ≤ s.size) : s.extract 0 n = str (s.data.toList.take n) := by
  rw [Go.Lib.extract_eq]
  rfl
theorem sl_one (w : World) (p : List UInt8) : SL (w.alloc (.cells #[.string (str p)] 9)) (.slice (some ⟨w.heap.size, 0, none⟩) 1 1) [p] := by
  refine ⟨_, 1, rfl, by simp, .inr ⟨_, 0, rfl, fun j q hq => ?_⟩⟩
  simp only [World.cell?, heap_alloc_new, Nat.zero_add]
  cases j with
  | zero => simp at hq; subst hq; rfl
  | succ j => simp at hq

set_option maxRecDepth 100000 in
set_option maxHeartbeats 2000000 in
theorem up_any (s : ByteArray) (w : World) (hs : s.size ≤ 100000) :
    Calls Tryd.prog 27 #[.string s] w fun e w' => (∃ v, e = .returned v ∧ SO w' w.heap.size v (upK s.data.toList s.size)) ∧ Below w.heap.size w w' := by
  go_enter Tryd.func27, Tryd.ntmps27
  go_wp2_with fail
  go_loopw [3, 7] (fun v i wr => ∃ k : Nat, k ≤ s.size ∧ i = .int .i64 k ∧ SO wr w.heap.size v (upK s.data.toList k) ∧ Below w.heap.size w wr) (fun _ i _ => s.size - (intOf i).toNat)
  case atStart => exact ⟨0, by omega, rfl, ⟨rfl, .inl ⟨rfl, rfl⟩⟩, Below.refl _ _⟩
  case round =>
    rename_i v _
    obtain ⟨k, hk, rfl, ho, hb⟩ := hrel
    have HO := hid ho
    have HB := hid hb
    obtain ⟨sa, sc', rfl⟩ := ho.slice
    clear ho hb
    by_cases hlt : k < s.size
    · have hlt' : (k : Int) < s.size := by omega
      have hle : (k : Int) ≤ s.size := by omega
      have HN := hid (upK_next s.data.toList k)
      have HG : Hid (s.data.toList.getD k 0 = s[k]) := by
        unfold Hid
        rw [List.getD_eq_getElem?_getD, List.getElem?_eq_getElem (by rw [← Go.Lib.size_eq]; exact hlt)]
        rfl
      have hul := upK_len s.data.toList k
      rcases Bool.eq_false_or_eq_true ((s[k].toNat : Int) == (((⟨#[47]⟩ : ByteArray)[0]'(by decide)).toNat : Int)) with h47 | h47
      · have HE : Hid (upK s.data.toList (k + 1) = upK s.data.toList k ++ [s.data.toList.take k]) := by
          have h2 : (s[k].toNat : Int) = 47 := by rw [beq_iff_eq] at h47; exact h47
          rw [Hid, HN.out, HG.out, if_pos (UInt8.toNat_inj.1 (by show s[k].toNat = 47; omega))]
        go_wp2_with fail
        go_quiet (fail)
        have HT := hid (take_str s k (by omega))
        have HZ : Hid (SO (wr.drewN nq) w.heap.size (.slice sa (upK s.data.toList k).length sc') (upK s.data.toList k) ∧ Below w.heap.size w (wr.drewN nq)) := ⟨HO.out, below_drewN HB.out nq⟩
        generalize wr.drewN nq = W at HZ ⊢
        obtain ⟨v', w2, hrun, ho2, hb2⟩ := so_more (w := W.alloc (.cells #[.string (str (s.data.toList.take k))] 9)) (HZ.out.1.later ((Below.refl _ _).alloc (Nat.le_refl _) _)) (by have := HZ.out.2.size; simp; omega) (sl_one W (s.data.toList.take k)) (by omega) (by simp) (by simp)
        rw [← HT.out] at hrun
        have HRun := hid hrun
        have HO2 := hid ho2
        have HB2 := hid ((HZ.out.2.alloc HZ.out.2.size _).trans hb2)
        obtain ⟨sa2, sc2, rfl⟩ := ho2.slice
        clear hrun ho2 hb2
        go_wp2_with (at_builtin; refine wpList_append_run rfl rfl HRun.out ?_)
        go_roundw
        case rel => exact ⟨k + 1, by omega, by go_num, by rw [HE.out]; have := HO2.out; rw [List.length_append] at this; exact this, HB2.out⟩
        case measure => simp [intOf]; omega
      · have HE : Hid (upK s.data.toList (k + 1) = upK s.data.toList k) := by
          rw [Hid, HN.out, HG.out, if_neg, List.append_nil]
          intro e
          rw [e] at h47
          exact absurd h47 (by decide)
        go_wp2_with fail
        go_quiet (fail)
        go_wp2_with fail
        go_roundw
        case rel => exact ⟨k + 1, by omega, by go_num, by rw [HE.out]; exact HO.out, below_drewN HB.out _⟩
        case measure => simp [intOf]; omega
    · have e : k = s.size := by omega
      subst e
      go_wp2_with fail
      go_ret
      exact ⟨⟨_, rfl, HO.out⟩, HB.out⟩

theorem join_parts (l : List UInt8) : joinP (parts l) = l := by
  induction l with
  | nil => rfl
  | cons b l ih =>
    by_cases hb : b = 47
    · subst hb
      rw [parts_slash, joinP_cons (parts_ne l), ih]
      rfl
    · obtain ⟨p, ps, hp⟩ := parts_some l
      rw [parts_cons hb hp]
      rw [hp] at ih
      cases ps with
      | nil => simp only [joinP] at ih ⊢; rw [ih]
      | cons y r =>
        rw [joinP_cons (by simp)] at ih ⊢
        rw [List.cons_append, ih]
theorem parts_two (a b : List UInt8) : parts (a ++ 47 :: b) = parts a ++ parts b := by
  induction a with
  | nil => rw [List.nil_append, parts_slash]; rfl
  | cons c a ih =>
    by_cases hc : c = 47
    · subst hc
      rw [List.cons_append, parts_slash, parts_slash, ih]
      rfl
    · obtain ⟨p, ps, hp⟩ := parts_some a
      rw [hp, List.cons_append] at ih
      rw [List.cons_append, parts_cons hc ih, parts_cons hc hp]
      rfl
theorem count_up (l : List UInt8) : ∀ k, k ≤ l.length → (upK l k).length = (l.take k).count 47
  | 0, _ => by simp [upK]
  | k + 1, hk => by
    rw [upK_next, take_next l k (by omega), List.length_append, count_up l k (by omega), List.count_append]
    congr 1
    by_cases h : l.getD k 0 = 47
    · rw [if_pos h, h]; rfl
    · rw [if_neg h, List.count_cons_of_ne h]; rfl
theorem up_under {l x : List UInt8} {k : Nat} (hk : k ≤ l.length) (h : x ∈ upK l k) : underB l x = true := by
  unfold upK at h
  obtain ⟨j, hj, rfl⟩ := List.mem_map.1 h
  obtain ⟨hj1, hj2⟩ := List.mem_filter.1 hj
  have hjk := List.mem_range.1 hj1
  rw [beq_iff_eq] at hj2
  have hjl : j < l.length := by omega
  unfold underB Go.Lib.hasPrefix
  rw [List.isPrefixOf_iff_prefix, ← hj2, ← take_next l j hjl]
  exact List.take_prefix _ _
theorem not_under_self (l : List UInt8) : underB l l = false := by
  rcases Bool.eq_false_or_eq_true (underB l l) with h | h
  · have := under_len h; omega
  · exact h
end Go.Proofs.YtkmggkcipgfhdaaDoor
