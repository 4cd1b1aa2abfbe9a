/- What this text holds: what the library's variables hold; all bytes of a text are such ones; atoms; numbers. -/
import Derived.Test.YtpjcpdnolcehcaaGreatDoorM3
import Derived.Lib.ConvBytes
import Derived.Lib.AtoiErrMem
namespace Go.Proofs.YtpjcpdnolcehcaaGreatDoor
open Go.RowKit
set_option linter.unusedVariables false
set_option linter.unusedSimpArgs false

/-- What the library's variables hold. -/
structure Env (w : World) : Prop where
  tab : Go.Lib.TabIs Tryz.prog w "internal/strconv.uint64pow10" .u64 Go.Lib.pow10Tab
  syn : ∃ te pe, w.cell? ⟨9, 0, none⟩ = some (.iface te pe)
  ran : ∃ te pe, w.cell? ⟨10, 0, none⟩ = some (.iface te pe)
theorem g_tab : Tryz.prog.globalNamed "internal/strconv.uint64pow10" = some 6 := by kernel_rfl
theorem Env.pos {w : World} (h : Env w) : 11 ≤ w.heap.size := by
  obtain ⟨te, pe, h⟩ := h.ran
  exact World.block_lt_of_cell? w _ h
theorem Env.keep {w w' : World} {B : Nat} (h : Env w) (hb : Below B w w') (hB : 11 ≤ B) : Env w' := by
  have hc : ∀ (k : Nat) (v : Value), k < B → w.cell? ⟨k, 0, none⟩ = some v → w'.cell? ⟨k, 0, none⟩ = some v := by
    intro k v hk hv
    rw [show w'.cell? ⟨k, 0, none⟩ = w.cell? ⟨k, 0, none⟩ by simp only [World.cell?]; rw [hb.block k hk]]
    exact hv
  obtain ⟨ht, ⟨a, c, h9⟩, ⟨d, e, h10⟩⟩ := h
  refine ⟨?_, ⟨a, c, hc 9 _ (by omega) h9⟩, ⟨d, e, hc 10 _ (by omega) h10⟩⟩
  unfold Go.Lib.TabIs World.var? at ht ⊢
  rw [g_tab] at ht ⊢
  simp only [Option.bind_some] at ht ⊢
  rw [hb.block 6 (by omega)]; exact ht
theorem Env.later {w w' : World} (h : Env w) (hb : Below w.heap.size w w') : Env w' := h.keep hb h.pos
theorem Env.kept {w w' : World} {S : List Nat} (h : Env w) (hk : Kept S w w') (hS : ∀ i ∈ S, 11 ≤ i) : Env w' := h.keep (hk.below hS h.pos) (Nat.le_refl _)
theorem kept_low {b : Nat} {w0 w w' : World} (k : Kept [b] w0 w) (h : Below w.heap.size w w') : Kept [b] w0 w' := k.trans1 (Kept.ofBelow h [b])
theorem below_grow (w : World) (k : Nat) (os : Array Obj) : Below w.heap.size w (Go.Sort.grow (w.drewN k) os) :=
  ⟨rfl, rfl, rfl, by simp [Go.Sort.grow], fun i hi => by simp only [Go.Sort.grow, World.heap_drewN]; rw [Array.getElem?_append_left hi]⟩
theorem to_bytes (s : Bs) (w : World) : ∃ W c, (convert 9 58 (.string (str s))).run Tryz.prog w = .ok (.slice (some ⟨w.heap.size, 0, none⟩) s.length c) W ∧ (∀ j c, s[j]? = some c → W.cell? ⟨w.heap.size, j, none⟩ = some (.int .u8 c.toNat)) ∧ Below w.heap.size w W := by
  have := Go.Lib.run_convert_string_bytes w 9 58 5 (str s) Tryz.underlying9 Tryz.underlying58 Tryz.underlying5
  rw [str_size] at this
  refine ⟨_, _, this, ?_, Go.Lib.bytesWorld_below _ _ _⟩
  intro j c hc
  have hj : j < s.length := (List.getElem?_eq_some_iff.1 hc).1
  rw [Go.Lib.bytesWorld_cell w 5 (str s) j (by rw [str_size]; exact hj), str_data]
  simp [List.getD, hc]
theorem itoa_any {w : World} (hE : Env w) (n : Int) (h0 : 0 ≤ n) (hn : n ≤ 9223372036854775807) : Calls Tryz.prog 107 #[.int .i64 n] w fun e w' => e = .returned (.string (str (decP n))) ∧ Below w.heap.size w w' := by
  refine (Tryz.strconv_Itoa n (by omega) (by omega) w hE.tab).mono ?_
  rintro e w1 ⟨rfl, kk, os, rfl⟩
  exact ⟨rfl, below_grow _ _ _⟩
set_option maxRecDepth 100000 in
set_option maxHeartbeats 1000000 in
theorem only_plain (l : Bs) (hl : l.length ≤ 1000000000) (w : World) :
    Calls Tryz.prog 47 #[.string (str l), .func (.func 50) #[] #[]] w fun e w' => e = .returned (.bool (l.all plB)) ∧ Below w.heap.size w w' := by
  obtain ⟨W, c, hrun, hc, hb⟩ := to_bytes l w
  have HC := hid hc
  have HB := hid hb
  clear hc hb
  go_enter Tryz.func47, Tryz.ntmps47
  go_wp2_with fail
  go_loopw [10] (fun i wr => ∃ k : Nat, k ≤ l.length ∧ i = .int .i64 k ∧ W = wr ∧ ∀ j c, j < k → l[j]? = some c → plB c = true) (fun i _ => l.length - (intOf i).toNat)
  case atStart => exact ⟨0, by omega, rfl, rfl, fun j c hj => by omega⟩
  case round =>
    obtain ⟨k, hk, rfl, rfl, hall⟩ := hrel
    have HA := hid hall
    clear hall
    by_cases hlt : k < l.length
    · have hlt' : (k : Int) < l.length := by omega
      have cc := HC.out k l[k] (List.getElem?_eq_getElem hlt)
      have cc' : W.cell? ⟨w.heap.size, 0 + k, none⟩ = some (.int .u8 l[k].toNat) := by rw [Nat.zero_add]; exact cc
      have C := plain_any l[k] W
      rcases Bool.eq_false_or_eq_true (plB l[k]) with hb | hb
      · rw [hb] at C
        have HN : Hid (∀ j c, j < k + 1 → l[j]? = some c → plB c = true) := by
          intro j c hj hc
          by_cases hjk : j = k
          · subst hjk
            rw [List.getElem?_eq_getElem hlt] at hc
            cases hc
            exact hb
          · exact HA.out j c (by omega) hc
        clear hb
        go_wp2_with fail
        refine C.mono ?_
        clear C
        rintro e w2 ⟨rfl, rfl⟩
        go_wp2_with fail
        go_round
        case rel => exact ⟨k + 1, by omega, by go_num, trivial, HN.out⟩
        case measure => simp [intOf]; omega
      · rw [hb] at C
        have hz : l.all plB = false := by
          rw [List.all_eq_false]
          exact ⟨l[k], List.getElem_mem hlt, by rw [hb]; simp⟩
        have HZ := hid hz
        clear hb hz
        go_wp2_with fail
        refine C.mono ?_
        clear C
        rintro e w2 ⟨rfl, rfl⟩
        go_wp2_with fail
        go_ret
        rw [HZ.out]
        exact ⟨rfl, HB.out⟩
    · have hlt' : ¬ (k : Int) < l.length := by omega
      have hz : l.all plB = true := by
        rw [List.all_eq_true]
        intro x hx
        obtain ⟨j, hj, e⟩ := List.getElem_of_mem hx
        exact HA.out j x (by omega) (by rw [List.getElem?_eq_getElem hj, e])
      have HZ := hid hz
      clear hz
      go_wp2_with fail
      go_ret
      rw [HZ.out]
      exact ⟨rfl, HB.out⟩
set_option maxRecDepth 100000 in
set_option maxHeartbeats 1000000 in
theorem only_digit (l : Bs) (hl : l.length ≤ 1000000000) (w : World) :
    Calls Tryz.prog 47 #[.string (str l), .func (.func 87) #[] #[]] w fun e w' => e = .returned (.bool (l.all dgB)) ∧ Below w.heap.size w w' := by
  obtain ⟨W, c, hrun, hc, hb⟩ := to_bytes l w
  have HC := hid hc
  have HB := hid hb
  clear hc hb
  go_enter Tryz.func47, Tryz.ntmps47
  go_wp2_with fail
  go_loopw [10] (fun i wr => ∃ k : Nat, k ≤ l.length ∧ i = .int .i64 k ∧ W = wr ∧ ∀ j c, j < k → l[j]? = some c → dgB c = true) (fun i _ => l.length - (intOf i).toNat)
  case atStart => exact ⟨0, by omega, rfl, rfl, fun j c hj => by omega⟩
  case round =>
    obtain ⟨k, hk, rfl, rfl, hall⟩ := hrel
    have HA := hid hall
    clear hall
    by_cases hlt : k < l.length
    · have hlt' : (k : Int) < l.length := by omega
      have cc := HC.out k l[k] (List.getElem?_eq_getElem hlt)
      have cc' : W.cell? ⟨w.heap.size, 0 + k, none⟩ = some (.int .u8 l[k].toNat) := by rw [Nat.zero_add]; exact cc
      have C := digit_any l[k] W
      rcases Bool.eq_false_or_eq_true (dgB l[k]) with hb | hb
      · rw [hb] at C
        have HN : Hid (∀ j c, j < k + 1 → l[j]? = some c → dgB c = true) := by
          intro j c hj hc
          by_cases hjk : j = k
          · subst hjk
            rw [List.getElem?_eq_getElem hlt] at hc
            cases hc
            exact hb
          · exact HA.out j c (by omega) hc
        clear hb
        go_wp2_with fail
        refine C.mono ?_
        clear C
        rintro e w2 ⟨rfl, rfl⟩
        go_wp2_with fail
        go_round
        case rel => exact ⟨k + 1, by omega, by go_num, trivial, HN.out⟩
        case measure => simp [intOf]; omega
      · rw [hb] at C
        have hz : l.all dgB = false := by
          rw [List.all_eq_false]
          exact ⟨l[k], List.getElem_mem hlt, by rw [hb]; simp⟩
        have HZ := hid hz
        clear hb hz
        go_wp2_with fail
        refine C.mono ?_
        clear C
        rintro e w2 ⟨rfl, rfl⟩
        go_wp2_with fail
        go_ret
        rw [HZ.out]
        exact ⟨rfl, HB.out⟩
    · have hlt' : ¬ (k : Int) < l.length := by omega
      have hz : l.all dgB = true := by
        rw [List.all_eq_true]
        intro x hx
        obtain ⟨j, hj, e⟩ := List.getElem_of_mem hx
        exact HA.out j x (by omega) (by rw [List.getElem?_eq_getElem hj, e])
      have HZ := hid hz
      clear hz
      go_wp2_with fail
      go_ret
      rw [HZ.out]
      exact ⟨rfl, HB.out⟩
set_option maxRecDepth 100000 in
set_option maxHeartbeats 1000000 in
theorem only_letter (l : Bs) (hl : l.length ≤ 1000000000) (w : World) :
    Calls Tryz.prog 47 #[.string (str l), .func (.func 48) #[] #[]] w fun e w' => e = .returned (.bool (l.all letB)) ∧ Below w.heap.size w w' := by
  obtain ⟨W, c, hrun, hc, hb⟩ := to_bytes l w
  have HC := hid hc
  have HB := hid hb
  clear hc hb
  go_enter Tryz.func47, Tryz.ntmps47
  go_wp2_with fail
  go_loopw [10] (fun i wr => ∃ k : Nat, k ≤ l.length ∧ i = .int .i64 k ∧ W = wr ∧ ∀ j c, j < k → l[j]? = some c → letB c = true) (fun i _ => l.length - (intOf i).toNat)
  case atStart => exact ⟨0, by omega, rfl, rfl, fun j c hj => by omega⟩
  case round =>
    obtain ⟨k, hk, rfl, rfl, hall⟩ := hrel
    have HA := hid hall
    clear hall
    by_cases hlt : k < l.length
    · have hlt' : (k : Int) < l.length := by omega
      have cc := HC.out k l[k] (List.getElem?_eq_getElem hlt)
      have cc' : W.cell? ⟨w.heap.size, 0 + k, none⟩ = some (.int .u8 l[k].toNat) := by rw [Nat.zero_add]; exact cc
      have C := letter_any l[k] W
      rcases Bool.eq_false_or_eq_true (letB l[k]) with hb | hb
      · rw [hb] at C
        have HN : Hid (∀ j c, j < k + 1 → l[j]? = some c → letB c = true) := by
          intro j c hj hc
          by_cases hjk : j = k
          · subst hjk
            rw [List.getElem?_eq_getElem hlt] at hc
            cases hc
            exact hb
          · exact HA.out j c (by omega) hc
        clear hb
        go_wp2_with fail
        refine C.mono ?_
        clear C
        rintro e w2 ⟨rfl, rfl⟩
        go_wp2_with fail
        go_round
        case rel => exact ⟨k + 1, by omega, by go_num, trivial, HN.out⟩
        case measure => simp [intOf]; omega
      · rw [hb] at C
        have hz : l.all letB = false := by
          rw [List.all_eq_false]
          exact ⟨l[k], List.getElem_mem hlt, by rw [hb]; simp⟩
        have HZ := hid hz
        clear hb hz
        go_wp2_with fail
        refine C.mono ?_
        clear C
        rintro e w2 ⟨rfl, rfl⟩
        go_wp2_with fail
        go_ret
        rw [HZ.out]
        exact ⟨rfl, HB.out⟩
    · have hlt' : ¬ (k : Int) < l.length := by omega
      have hz : l.all letB = true := by
        rw [List.all_eq_true]
        intro x hx
        obtain ⟨j, hj, e⟩ := List.getElem_of_mem hx
        exact HA.out j x (by omega) (by rw [List.getElem?_eq_getElem hj, e])
      have HZ := hid hz
      clear hz
      go_wp2_with fail
      go_ret
      rw [HZ.out]
      exact ⟨rfl, HB.out⟩
set_option maxRecDepth 100000 in
theorem quotable_any (l : Bs) (hl : l.length ≤ 1000000000) (w : World) : Calls Tryz.prog 108 #[.string (str l)] w fun e w' => e = .returned (.bool (quoB l)) ∧ Below w.heap.size w w' := by
  have C := only_plain l hl w
  have hs := str_size l
  have hz : quoB l = (decide (l.length ≤ 100) && l.all plB) := rfl
  rw [hz]
  generalize l.all plB = p at *
  by_cases h : l.length ≤ 100
  · have h' : (l.length : Int) ≤ 100 := by omega
    go_enter Tryz.func108, Tryz.ntmps108
    go_wp2_with fail
    refine C.mono ?_
    rintro e w2 ⟨rfl, hb⟩
    have HB := hid hb
    clear hb
    go_wp2_with fail
    go_ret
    refine ⟨?_, HB.out⟩
    simp [h]
  · have h' : ¬ (l.length : Int) ≤ 100 := by omega
    go_enter Tryz.func108, Tryz.ntmps108
    go_wp2_with fail
    go_ret
    refine ⟨?_, Below.refl _ _⟩
    simp [h]
theorem letB_ascii {c : UInt8} (h : letB c = true) : c.toNat < 128 := by
  simp [letB, plB] at h
  omega
set_option maxRecDepth 100000 in
set_option maxHeartbeats 1000000 in
theorem atom_any (l : Bs) (hl : l.length ≤ 1000000000) (w : World) : Calls Tryz.prog 71 #[.string (str l)] w fun e w' => e = .returned (.bool (atomB l)) ∧ Below w.heap.size w w' := by
  have HZ : Hid (atomB l = ((l != []) && l.all letB && !(l.all dgB) && !(Go.Lib.equalFold l nilT))) := rfl
  have C := only_letter l hl w
  have D := fun w => only_digit l hl w
  have hs := str_size l
  by_cases h0 : l = []
  · subst h0
    have g1 : (str []).toList = ([] : Bs) := toL []
    go_enter Tryz.func71, Tryz.ntmps71
    go_wp2_with fail
    go_ret
    exact ⟨rfl, Below.refl _ _⟩
  · have g0 : ((str l).toList != ([] : Bs)) = true := by rw [toL]; simpa using h0
    have g1 : ¬ (str l).toList = ([] : Bs) := by rw [toL]; exact h0
    have E : l.all letB = true → ∀ w, Calls Tryz.prog 88 #[.string (str l), .string (str nilT)] w fun e w' => e = .returned (.bool (Go.Lib.equalFold l nilT)) ∧ w' = w := by
      intro ha w
      refine Tryz.strings_EqualFold (str l) (str nilT) w (by rw [str_size]; omega) ?_ ?_
      · intro j b hb
        exact letB_ascii (List.all_eq_true.1 ha b (List.mem_of_getElem? hb))
      · intro j b hb
        have : b ∈ nilT := List.mem_of_getElem? hb
        simp [nilT] at this
        rcases this with rfl | rfl | rfl <;> decide
    have hz : (l != []) = true := by simpa using h0
    have HZ2 : Hid (atomB l = (l.all letB && !(l.all dgB) && !(Go.Lib.equalFold l nilT))) := by rw [Hid, HZ.out, hz]; simp
    clear HZ hz h0
    generalize Go.Lib.equalFold l nilT = q at *
    generalize l.all letB = p at *
    generalize l.all dgB = d at *
    generalize atomB l = z at *
    go_enter Tryz.func71, Tryz.ntmps71
    go_wp2_with fail
    refine C.mono ?_
    rintro e w2 ⟨rfl, hb⟩
    have HB := hid hb
    clear hb C
    cases p
    · go_wp2_with fail
      go_ret
      rw [HZ2.out]
      exact ⟨rfl, HB.out⟩
    · go_wp2_with fail
      refine (D _).mono ?_
      rintro e w3 ⟨rfl, hb⟩
      have HB2 := hid (HB.out.trans (hb.mono HB.out.size))
      clear hb D
      cases d
      · go_wp2_with fail
        refine (E (by first | rfl | trivial) _).mono ?_
        rintro e w4 ⟨rfl, rfl⟩
        go_wp2_with fail
        go_ret
        rw [HZ2.out]
        refine ⟨?_, HB2.out⟩
        simp [g1]
      · go_wp2_with fail
        go_ret
        rw [HZ2.out]
        exact ⟨rfl, HB2.out⟩
theorem numP_some {s : Bs} {n : Int} (h : numP s = some n) : Go.Lib.atoiAll s = .ok n := by
  unfold numP at h
  split at h
  · rename_i v hv
    cases h
    exact hv
  · cases h
set_option maxRecDepth 100000 in
set_option maxHeartbeats 1000000 in
theorem asnum_yes {w : World} {s : Bs} (hl : s.length ≤ 1000000000) {n : Int} (h : numP s = some n) : Calls Tryz.prog 125 #[.string (str s)] w fun e w' => e = .returned (.int .i64 n) ∧ Below w.heap.size w w' := by
  have C := Tryz.strconv_Atoi_ok (str s) (by rw [str_size]; omega) n (numP_some h) w
  clear h
  go_enter Tryz.func125, Tryz.ntmps125
  go_wp2_with fail
  refine C.mono ?_
  rintro e w2 ⟨rfl, hw⟩
  have HB : Hid (Below w.heap.size w w2) := by
    rcases hw with rfl | ⟨t, rfl⟩
    · exact Below.refl _ _
    · exact Go.Lib.bytesWorld_below w 5 t
  clear hw C
  go_wp2_with fail
  refine (must_yes _).mono ?_
  rintro e w3 ⟨rfl, rfl⟩
  go_wp2_with fail
  go_ret
  exact ⟨rfl, HB.out⟩
set_option maxRecDepth 100000 in
set_option maxHeartbeats 1000000 in
theorem asnum_no {w : World} (hE : Env w) {s : Bs} (hl : s.length ≤ 1000000000) (h : numP s = none) : Calls Tryz.prog 125 #[.string (str s)] w fun e w' => e = .panicked faultC ∧ Below w.heap.size w w' := by
  have C : Calls Tryz.prog 130 #[.string (str s)] w fun e w' => ∃ v N, e = .returned (.tuple #[.int .i64 v, .iface 176 (.pointer (some ⟨N, 0, none⟩))]) ∧ Below w.heap.size w w' := by
    rcases hx : Go.Lib.atoiAll s with v | _ | _
    · unfold numP at h; rw [hx] at h; cases h
    · obtain ⟨te, pe, hc⟩ := hE.syn
      refine (Tryz.strconv_Atoi_syntax (str s) (by rw [str_size]; omega) hx _ w hc (.inr ⟨_, _, rfl⟩)).mono ?_
      rintro e w2 ⟨N, rfl, _, _, hb⟩
      exact ⟨_, N, rfl, hb⟩
    · obtain ⟨te, pe, hc⟩ := hE.ran
      refine (Tryz.strconv_Atoi_range (str s) (by rw [str_size]; omega) hx _ w hc (.inr ⟨_, _, rfl⟩)).mono ?_
      rintro e w2 ⟨N, rfl, _, _, hb⟩
      exact ⟨_, N, rfl, hb⟩
  clear h
  go_enter Tryz.func125, Tryz.ntmps125
  go_wp2_with fail
  refine C.mono ?_
  rintro e w2 ⟨v, N, rfl, hb⟩
  have HB := hid hb
  clear hb C
  go_wp2_with fail
  refine (must_no _).mono ?_
  rintro e w3 ⟨rfl, rfl⟩
  exact ⟨rfl, rfl, HB.out⟩
theorem drop_le (p : UInt8 → Bool) (s : Bs) : (s.dropWhile p).length ≤ s.length := by
  have := List.takeWhile_append_dropWhile (p := p) (l := s)
  have h := congrArg List.length this
  rw [List.length_append] at h
  omega
theorem take_le (p : UInt8 → Bool) (s : Bs) : (s.takeWhile p).length ≤ s.length := by
  have := List.takeWhile_append_dropWhile (p := p) (l := s)
  have h := congrArg List.length this
  rw [List.length_append] at h
  omega
set_option maxRecDepth 100000 in
set_option maxHeartbeats 1000000 in
theorem number_yes {w : World} {b : Nat} {s r : Bs} {o : Nat} {n : Int} (h : RAt w b s o) (hl : s.length ≤ 1000000000) (hn : numberP s = some (n, r)) :
    Calls Tryz.prog 123 #[.pointer (some ⟨b, 0, none⟩)] w fun e w' => e = .returned (.int .i64 n) ∧ RAt w' b r o ∧ Kept [b] w w' := by
  unfold numberP at hn
  rw [Option.map_eq_some_iff] at hn
  obtain ⟨m, hm, e⟩ := hn
  cases e
  have C := run_digit h hl
  have D := fun w => asnum_yes (w := w) (Nat.le_trans (take_le dgB s) hl) hm
  clear h hm
  generalize s.takeWhile dgB = t at *
  generalize s.dropWhile dgB = u at *
  go_enter Tryz.func123, Tryz.ntmps123
  go_wp2_with fail
  refine C.mono ?_
  rintro e w2 ⟨rfl, h1, hk⟩
  have H1 := hid h1
  have HK := hid hk
  clear h1 hk C
  go_wp2_with fail
  refine (D _).mono ?_
  rintro e w3 ⟨rfl, hb⟩
  have HB := hid hb
  clear hb D
  go_wp2_with fail
  go_ret
  exact ⟨rfl, H1.out.later HB.out, kept_low HK.out HB.out⟩
set_option maxRecDepth 100000 in
set_option maxHeartbeats 1000000 in
theorem number_no {w : World} (hE : Env w) {b : Nat} (hb : 11 ≤ b) {s : Bs} {o : Nat} (h : RAt w b s o) (hl : s.length ≤ 1000000000) (hn : numberP s = none) :
    Calls Tryz.prog 123 #[.pointer (some ⟨b, 0, none⟩)] w fun e w' => e = .panicked faultC ∧ Kept [b] w w' := by
  unfold numberP at hn
  rw [Option.map_eq_none_iff] at hn
  have C := run_digit h hl
  have D := fun w hE => asnum_no (w := w) hE (Nat.le_trans (take_le dgB s) hl) hn
  have HE := hid hE
  clear h hn hE
  generalize s.takeWhile dgB = t at *
  generalize s.dropWhile dgB = u at *
  go_enter Tryz.func123, Tryz.ntmps123
  go_wp2_with fail
  refine C.mono ?_
  rintro e w2 ⟨rfl, h1, hk⟩
  have HK := hid hk
  have E2 := HE.out.kept hk (by simpa using hb)
  clear h1 hk C
  go_wp2_with fail
  refine (D _ E2).mono ?_
  rintro e w3 ⟨rfl, hb⟩
  exact ⟨rfl, rfl, kept_low HK.out hb⟩
end Go.Proofs.YtpjcpdnolcehcaaGreatDoor
