/- What this text holds: slices.Grow of nothing, and slices.Concat. -/
import Derived.Test.YtkipigbfbhecjaaN13
import Derived.Lib.AppendZeros
namespace Go.Proofs.Ytkipigbfbhecjaa
open Go.RowKit
set_option linter.unusedVariables false
set_option linter.unusedSimpArgs false

/-- A list that is joined to others: where it lies, how long it is, its cells. -/
structure Seg where
  a : Option Addr
  m : Nat
  c : Nat
  cs : List Value
def Seg.v (s : Seg) : Value := .slice s.a s.m s.c
structure Seg.ok (w : World) (size : Nat) (s : Seg) : Prop where
  at_ : At w s.a s.cs
  len : s.cs.length = s.m * size
  one : ∀ u ∈ s.cs, u.oneCell' = true
  cap : s.m ≤ s.c ∧ s.c ≤ maxLen
def tot : List Seg → Nat
  | [] => 0
  | s :: r => s.m + tot r
def flat : List Seg → List Value
  | [] => []
  | s :: r => s.cs ++ flat r
theorem tot_app : ∀ (x y : List Seg), tot (x ++ y) = tot x + tot y
  | [], y => by simp [tot]
  | s :: r, y => by simp [tot, tot_app r y]; omega
theorem flat_app : ∀ (x y : List Seg), flat (x ++ y) = flat x ++ flat y
  | [], y => by simp [flat]
  | s :: r, y => by simp [flat, flat_app r y]
theorem tot_take (ss : List Seg) (j : Nat) (h : j < ss.length) : tot (ss.take (j + 1)) = tot (ss.take j) + ss[j].m := by
  rw [List.take_succ_eq_append_getElem h, tot_app]
  simp [tot]
theorem flat_take (ss : List Seg) (j : Nat) (h : j < ss.length) : flat (ss.take (j + 1)) = flat (ss.take j) ++ ss[j].cs := by
  rw [List.take_succ_eq_append_getElem h, flat_app]
  simp [flat]
theorem tot_take_le (ss : List Seg) (j : Nat) : tot (ss.take j) ≤ tot ss := by
  have := tot_app (ss.take j) (ss.drop j)
  rw [List.take_append_drop] at this
  omega
theorem run_append_none_any {t ty e : TypeId} {i : TypeInfo} {size B : Nat} {w : World} (ht : Try.prog.underlying t = some (.slice e)) (hi : Try.prog.info? e = some i) {v : Value} {n : Nat} {xs : List Value} (hown : w.ownsRow B e size v n xs) (c : Nat) :
    (Builtin.append_ #[t, t] ty #[v, .slice none 0 c]).run Try.prog w = .ok v w := by
  rcases hown.2 with ⟨rfl, rfl⟩ | ⟨g, cap, cur, rfl, _, _, hnc, _⟩
  · simp [Builtin.append_, run_underlying ht, sizeOf, typeInfo, hi, Builtin.lenOf, Builtin.firstCells]
  · simp [Builtin.append_, run_underlying ht, sizeOf, typeInfo, hi, Builtin.lenOf, Builtin.firstCells, hnc, storeCells]
/-- One list more. -/
theorem app_seg {t ty e size bytes : Nat} {z : Value} (ht : Try.prog.underlying t = some (.slice e)) (hinfo : (Try.prog.info? e).map (fun i => (i.zero, i.size, i.bytes)) = some (some z, size, bytes)) (hzs : z.cells.size = size) (hsz : 0 < size) (hby : bytes ≤ 32)
    {w : World} {B n : Nat} {v : Value} {cs : List Value} (ho : w.ownsRow B e size v n cs) (hB : B ≤ w.heap.size) {s : Seg} (hs : s.ok w size) (hn : n + s.m ≤ 1000000) :
    ∃ v' w', (Builtin.append_ #[t, t] ty #[v, .slice s.a s.m s.c]).run Try.prog w = .ok v' w' ∧ w'.ownsRow B e size v' (n + s.m) (cs ++ s.cs) ∧ Below B w w' := by
  obtain ⟨i, hi, hz0, hz1, hz2⟩ := info_parts hinfo
  cases ha : s.a with
  | none =>
    have e0 : s.cs = [] := by
      rcases hs.at_ with h | ⟨b, o, e, _⟩
      · exact h
      · rw [ha] at e; cases e
    have e1 : s.m = 0 := by
      have := hs.len
      rw [e0, List.length_nil] at this
      rcases Nat.mul_eq_zero.1 this.symm with h | h
      · exact h
      · omega
    rw [e1, e0, Nat.add_zero, List.append_nil]
    exact ⟨v, w, run_append_none_any ht hi ho _, ho, Below.refl _ _⟩
  | some p =>
    have hat := hs.at_
    rw [ha] at hat
    obtain ⟨v', w', hr, ho', hg, _⟩ := run_append_own (P := Try.prog) w B t ty e i _ size bytes ht hi hz0 hz1 hz2 hzs hsz _ n cs ho p s.m s.c s.cs
        hs.len hat.add hs.one (by unfold maxLen; omega) (by have := Nat.mul_le_mul hn hby; omega) hB
    exact ⟨v', w', hr, ho', (Below.refl B w).grown hg hB (fun k hk => (ho.lt k hk).1)⟩
theorem zeroCells_size (z : Array Value) (n : Nat) : (Builtin.zeroCells z n).size = n * z.size := by simp [Builtin.zeroCells]
theorem grow_run {t e size bytes : Nat} {z : Value} (ht : Try.prog.underlying t = some (.slice e)) (hinfo : (Try.prog.info? e).map (fun i => (i.zero, i.size, i.bytes)) = some (some z, size, bytes)) (hzs : z.cells.size = size) (hsz : 0 < size) (hby : bytes ≤ 32)
    (w : World) (n : Nat) (h0 : 0 < n) (hn : n ≤ 1000000) :
    ∃ c w', (∀ ty, (Builtin.append_ #[t, 3] ty #[.slice none 0 0, .int .i64 n]).run Try.prog w = .ok (.slice (some ⟨w.heap.size, 0, none⟩) n c) w') ∧ w'.ownsRow w.heap.size e size (.slice (some ⟨w.heap.size, 0, none⟩) 0 c) 0 [] ∧ n ≤ c ∧ c ≤ maxLen ∧ Below w.heap.size w w' := by
  obtain ⟨i, hi, hz0, hz1, hz2⟩ := info_parts hinfo
  have h32 := Nat.mul_le_mul hn hby
  refine ⟨grownCap w n 0 e, _, fun ty => Lib.run_append_nil_zeros w t 3 ty e i z .i64 .i64 ht Try.underlying3 hi hz0 n h0 (by rw [hz1]; exact hsz) (by omega) (by rw [hz2]; omega), ?_, grownCap_ge _ _ _ _, grownCap_le_maxLen _ _ _ _ (by unfold maxLen; omega), ?_⟩
  · exact World.ownsRow_made (base := w.heap.size) (e := e) (size := size) w.drew _ _ (Nat.le_refl _) (grownCap_le_maxLen _ _ _ _ (by unfold maxLen; omega)) (by
      have h5 := grownCap_ge w n 0 e
      rw [Array.size_append, zeroCells_size, zeroCells_size, hzs, ← Nat.add_mul]
      generalize grownCap w n 0 e = G at *
      rw [show n + (G - n) = G by omega])
  · exact ((Below.refl _ w).drew).alloc (Nat.le_refl _) _

theorem own_parts {w : World} {B e size n : Nat} {v : Value} {cs : List Value} (h : w.ownsRow B e size v n cs) : ∃ a c, v = .slice a n c ∧ At w a cs ∧ n ≤ c ∧ c ≤ maxLen := by
  rcases h.2 with ⟨h1, h2⟩ | ⟨g, cap, cur, h1, _⟩
  · have hl := h.1
    rw [h2, Nat.zero_mul] at hl
    exact ⟨none, 0, by rw [h1, h2], .inl (List.eq_nil_of_length_eq_zero hl), by omega, Nat.zero_le _⟩
  · subst h1
    obtain ⟨h2, h3, h4⟩ := own_at h
    exact ⟨_, _, rfl, h2, h3, h4⟩

set_option maxRecDepth 100000 in
set_option maxHeartbeats 1000000 in
theorem growk_any (w : World) (n : Nat) (hn : n ≤ 1000000) : Calls Try.prog 71 #[.slice none 0 0, .int .i64 n] w fun r w' => ∃ v, r = .returned v ∧ w'.ownsRow w.heap.size 9 1 v 0 [] ∧ Below w.heap.size w w' := by
  by_cases h0 : 0 < n
  · obtain ⟨c, w', hrun, ho, hc1, hc2, hb⟩ := grow_run Try.underlying22 Try.info9 rfl (by omega) (by omega) w n h0 hn
    unfold maxLen at hc2
    have HR := hid hrun
    have HO := hid ho
    have HB := hid hb
    have h0' : (0 : Int) < n := by omega
    clear hrun ho hb
    generalize w.heap.size = B at *
    go_enter Try.func71, Try.ntmps71
    go_wp2_with (at_builtin; refine wpList_append_run rfl rfl (HR.out _) ?_)
    go_ret
    exact ⟨_, rfl, HO.out, HB.out⟩
  · obtain rfl : n = 0 := by omega
    go_enter Try.func71, Try.ntmps71
    go_wp2_with fail
    go_ret
    exact ⟨_, rfl, World.ownsRow_nil _ _ _ _, Below.refl _ _⟩

set_option maxRecDepth 100000 in
set_option maxHeartbeats 2000000 in
theorem concatk_any {w : World} (b k c : Nat) (ss : List Seg) (hk : ss.length = k) (hk9 : k ≤ 10) (hkc : k ≤ c ∧ c ≤ 10)
    (hc : ∀ j (h : j < ss.length), w.cell? ⟨b, j, none⟩ = some ss[j].v) (hs : ∀ s ∈ ss, s.ok w 1) (ht : tot ss ≤ 1000000) :
    Calls Try.prog 48 #[.slice (some ⟨b, 0, none⟩) k c] w fun r w' => ∃ a' c', r = .returned (.slice a' (tot ss) c') ∧ At w' a' (flat ss) ∧ (tot ss ≤ c' ∧ c' ≤ maxLen) ∧ Below w.heap.size w w' := by
  have HC := hid hc
  have HS := hid hs
  have HT := hid ht
  have HK := hid hk
  obtain ⟨hkc1, hkc2⟩ := hkc
  clear hc hs ht hk
  go_enter Try.func48, Try.ntmps48
  go_wp2_with fail
  go_loop [3, 11] (fun s i => ∃ j : Nat, j ≤ k ∧ i = .int .i64 j ∧ s = .int .i64 ((tot (ss.take j) : Nat) : Int)) (fun _ i => k - (intOf i).toNat)
  case atStart => exact ⟨0, by omega, rfl, rfl⟩
  case round =>
    obtain ⟨j, hj, rfl, rfl⟩ := hrel
    by_cases hlt : j < k
    · have hlt' : (j : Int) < k := by omega
      have hjl : j < ss.length := by rw [HK.out]; exact hlt
      have hcell := HC.out j hjl
      have h1 := tot_take ss j hjl
      have h2 := tot_take_le ss (j + 1)
      have h3 := HT.out
      have HE := hid h1
      unfold Seg.v at hcell
      have hcap := (HS.out _ (List.getElem_mem hjl)).cap
      unfold maxLen at hcap
      obtain ⟨hcap1, hcap2⟩ := hcap
      generalize ss[j] = s at *
      obtain ⟨sa, sm, sc, scs⟩ := s
      simp only at hcell hcap1 hcap2 h1 HE
      have h4 : tot (ss.take j) + sm ≤ 1000000 := by omega
      clear h1 h2 h3
      generalize hz : tot (ss.take j) = z at *
      clear hz
      go_wp2_with fail
      go_round
      case rel => exact ⟨j + 1, by omega, by go_num, by rw [HE.out]; go_num⟩
      case measure => simp [intOf]; omega
    · obtain rfl : j = k := by omega
      have hlt' : ¬ (j : Int) < j := by omega
      have hfull : ss.take j = ss := List.take_of_length_le (by rw [HK.out]; exact Nat.le_refl _)
      have HF := hid hfull
      rw [hfull]
      clear hfull
      have HG := hid (growk_any w (tot ss) HT.out)
      have hT := HT.out
      go_wp2_with fail
      refine HG.out.mono ?_
      rintro e w1 ⟨v, rfl, ho, hb⟩
      have HI : Hid (∃ w2 : World, w2 = w1 ∧ w1.ownsRow w.heap.size 9 1 v 0 [] ∧ Below w.heap.size w w1) := ⟨_, rfl, ho, hb⟩
      clear ho hb HG
      generalize hB : w.heap.size = B at *
      generalize hN : tot ss = N at *
      have HN := hid hN
      clear hN
      go_wp2_with fail
      go_loopw [6, 27] (fun x i wr => ∃ q : Nat, q ≤ j ∧ i = .int .i64 q ∧ wr.ownsRow B 9 1 x (tot (ss.take q)) (flat (ss.take q)) ∧ Below B w wr) (fun _ i _ => j - (intOf i).toNat)
      case atStart => obtain ⟨_, _, ho, hb⟩ := HI.out; exact ⟨0, by omega, rfl, ho, hb⟩
      case round =>
        clear HI
        obtain ⟨q, hq, rfl, ho, hb⟩ := hrel
        by_cases hlt2 : q < j
        · have hlt2' : (q : Int) < j := by omega
          have hjl : q < ss.length := by rw [HK.out]; exact hlt2
          have hcell0 := HC.out q hjl
          have hcell : wr.cell? ⟨b, q, none⟩ = some ss[q].v := (hb.cell (hB ▸ World.block_lt_of_cell? w _ hcell0)).trans hcell0
          have hsk := HS.out _ (List.getElem_mem hjl)
          have hsr : ss[q].ok wr 1 := ⟨hsk.at_.later (hB ▸ hb), hsk.len, hsk.one, hsk.cap⟩
          have h1 := tot_take ss q hjl
          have h2 := tot_take_le ss (q + 1)
          have hBw : B ≤ wr.heap.size := Nat.le_trans (hB ▸ Nat.le_refl _) hb.size
          obtain ⟨v', w', hrun, ho', hb'⟩ := app_seg (ty := 22) Try.underlying22 Try.info9 rfl (by omega) (by omega) ho hBw hsr (by have := HN.out; have := HT.out; omega)
          have HRun := hid hrun
          have HO : Hid (w'.ownsRow B 9 1 v' (tot (ss.take (q + 1))) (flat (ss.take (q + 1)))) := by rw [h1, flat_take ss q hjl]; exact ho'
          have HB := hid (hb.trans hb')
          have hcap := hsk.cap
          unfold maxLen at hcap
          obtain ⟨hcap1, hcap2⟩ := hcap
          clear hrun ho' hb' ho hb hcell0 hsk hsr h1 h2
          unfold Seg.v at hcell
          generalize ss[q] = s at *
          obtain ⟨sa, sm, sc, scs⟩ := s
          simp only at hcell hcap1 hcap2 HRun
          go_wp2_with (at_builtin; refine wpList_append_run rfl rfl HRun.out ?_)
          go_roundw
          case rel => exact ⟨q + 1, by omega, by go_num, HO.out, HB.out⟩
          case measure => simp [intOf]; omega
        · obtain rfl : q = j := by omega
          have hlt2' : ¬ (q : Int) < q := by omega
          have HO := hid ho
          have HB := hid hb
          clear ho hb
          go_wp2_with fail
          go_ret
          have ho := HO.out
          rw [HF.out] at ho
          obtain ⟨a', c', e1, h1, h2, h3⟩ := own_parts ho
          subst e1
          exact ⟨a', c', rfl, h1, ⟨h2, h3⟩, hB ▸ HB.out⟩
end Go.Proofs.Ytkipigbfbhecjaa
