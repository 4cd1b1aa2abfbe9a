/- What this text holds: the bytes of runs, as the statements lay them. -/
import Derived.Test.YtikcbgoocljgnaaDoorM29
import Derived.Test.YtikcbgoocljgnaaDoorOpen
namespace Go.Proofs.YtikcbgoocljgnaaDoor
open Go.RowKit
set_option linter.unusedVariables false
set_option linter.unusedSimpArgs false

theorem cs_str (m : Bs) : eB.cs m = Go.Lib.strCells (str m) := by
  have h : Go.Lib.strCells (str m) = m.map fun b => Value.int .u8 b.toNat := rfl
  rw [h]
  induction m with
  | nil => rfl
  | cons a m ih =>
    rw [List.map_cons, ← ih rfl]
    rfl
theorem go_str_more {w : World} {B : Nat} {v : Value} {l : Bs} (h : GO eB w B v l) (m : Bs) (hl : l.length + m.length ≤ 1000000) (hB : B ≤ w.heap.size) :
    ∃ v' w', (Builtin.append_ #[31, 9] 31 #[v, .string (str m)]).run Tryd.prog w = .ok v' w' ∧ GO eB w' B v' (l ++ m) ∧ Below B w w' := by
  obtain ⟨i, hi, hz0, hz1, hz2⟩ := info_parts Tryd.info5
  obtain ⟨v', w', hr, ho, hg, _⟩ := Go.Lib.run_append_own_string (P := Tryd.prog) w B 31 9 31 5 i Tryd.underlying31 Tryd.underlying9 hi hz0 hz1 hz2 v l.length (eB.cs l) h (str m) (by rw [str_size]; unfold maxLen; omega) (by rw [str_size]; omega) hB
  have e : eB.cs (l ++ m) = eB.cs l ++ Go.Lib.strCells (str m) := by rw [eB.cs_append, cs_str m]
  refine ⟨v', w', hr, ?_, (Below.refl B w).grown hg hB (fun k hk => (World.ownsRow.lt h k hk).1)⟩
  unfold GO
  rw [e, List.length_append]
  rw [str_size] at ho
  exact ho
def TextIs (w : World) (e : Ending) (w' : World) : Prop := ∃ s ok, e = .returned (.tuple #[.string (str s), .bool ok]) ∧ (ok = true → s.length ≤ 180000) ∧ Below w.heap.size w w'
theorem TextIs.no {w w' : World} (h : Below w.heap.size w w') : TextIs w (.returned (.tuple #[.string ⟨#[]⟩, .bool false])) w' := ⟨[], false, rfl, (fun h => by cases h), h⟩
theorem quo_le (M : Nat) (n : Int) (hM : 0 < M) (h : ¬ (60000 : Int) / M < n) (j : Nat) (hj : (j : Int) ≤ n) : j * M ≤ 60000 := by
  have h1 : (j : Int) ≤ 60000 / (M : Int) := by omega
  have h2 := (Int.le_ediv_iff_mul_le (show (0 : Int) < M by omega)).1 h1
  have h3 : ((j * M : Nat) : Int) ≤ 60000 := by rw [Int.natCast_mul]; exact h2
  omega
theorem tquo (M : Nat) : (60000 : Int).tdiv (M : Int) = 60000 / (M : Int) := Int.tdiv_eq_ediv_of_nonneg (by omega)
set_option maxRecDepth 100000 in
set_option maxHeartbeats 8000000 in
theorem text_any {w : World} {a : Option Addr} {len cap : Nat} {T : List Tl} (h : TailsOk w a len cap T) : Calls Tryd.prog 9 #[.slice a len cap] w (TextIs w) := by
  obtain ⟨⟨a0, c0, hv, hc0, h0⟩, hlen, hb⟩ := h
  simp only [Value.slice.injEq] at hv
  obtain ⟨rfl, rfl, rfl⟩ := hv
  clear hlen
  have hB := hb
  have HBd := hid hb
  clear hb
  by_cases h60 : (60 : Int) < T.length
  · clear h0
    generalize T.length = n at *
    go_enter Tryd.func9, Tryd.ntmps9
    go_wp2_with fail
    go_ret2
    exact TextIs.no (Below.refl _ _)
  · have hT60 : T.length ≤ 60 := by omega
    by_cases hT0 : T = []
    · have hn : ¬ (0 : Int) < T.length := by rw [hT0]; simp
      clear h0 hT0
      generalize T.length = n at *
      go_enter Tryd.func9, Tryd.ntmps9
      go_wp2_with fail
      go_loopw [4, 14] (fun sv i wr => sv = .string (str []) ∧ i = .int .i64 0 ∧ wr = w) (fun _ _ _ => 0)
      case atStart => exact ⟨rfl, rfl, rfl⟩
      case round =>
        obtain ⟨rfl, rfl, rfl⟩ := hrel
        have hz := str_size []
        go_wp2_with fail
        go_ret2
        exact ⟨[], true, rfl, fun _ => by simp, Below.refl _ _⟩
    · obtain ⟨g, o, rfl, hga, hg⟩ := h0.resolve_left hT0
      have HG0 := hid hga
      clear h0 hT0 hga hB
      go_enter Tryd.func9, Tryd.ntmps9
      go_wp2_with fail
      go_loopw [4, 14] (fun sv i wr => ∃ (k : Nat) (s : Bs), k ≤ T.length ∧ sv = .string (str s) ∧ i = .int .i64 k ∧ s.length ≤ 240000 ∧ Below w.heap.size w wr) (fun _ i _ => T.length - (intOf i).toNat)
      case atStart => exact ⟨0, [], by omega, rfl, rfl, by simp, Below.refl _ _⟩
      case round =>
        obtain ⟨k, s, hk, rfl, rfl, hsl, hbr⟩ := hrel
        have HBw := hid hbr
        have hzs := str_size s
        clear hbr
        by_cases hlt : k < T.length
        · have hlt' : (k : Int) < T.length := by omega
          obtain ⟨tl, htl⟩ : ∃ tl, T[k] = tl := ⟨_, rfl⟩
          have HG := HG0.out.later HBw.out
          have hcell : ∀ i v, (eT.enc tl)[i]? = some v → wr.cell? ⟨g, o + (k * 3 + i), none⟩ = some v := fun i v hv => HG k i tl v (by rw [← htl]; exact List.getElem?_eq_getElem hlt) hv
          obtain ⟨hb1, hb2, hb3⟩ := HBd.out tl (by rw [← htl]; exact List.getElem_mem hlt)
          obtain ⟨s1, s2, n⟩ := tl
          have z0 : wr.cell? ⟨g, o + k * 3, none⟩ = some (.string (str s1)) := hcell 0 _ rfl
          have z1 : wr.cell? ⟨g, o + k * 3 + 1, none⟩ = some (.string (str s2)) := hcell 1 _ rfl
          have z2 : wr.cell? ⟨g, o + k * 3 + 2, none⟩ = some (.int .i64 n) := hcell 2 _ rfl
          have hz1 := str_size s1
          have hz2 := str_size s2
          simp only at hb1 hb2 hb3
          unfold maxLen at hb1 hb2
          have hal : Below w.heap.size w (wr.alloc (.cells #[.string (str s1), .string (str s2), .int .i64 n] 50)) := HBw.out.alloc HBw.out.size _
          have HBr := hid hal
          have HRow := hid (heap_alloc_new wr (.cells #[.string (str s1), .string (str s2), .int .i64 n] 50))
          clear htl hcell hal hlt HBw
          generalize hS1 : s1.length = S1 at *
          generalize hM0 : s2.length = M at *
          generalize hLs : s.length = Ls at *
          have HS1 := hid hS1
          have HM0 := hid hM0
          have HLs := hid hLs
          clear hS1 hM0 hLs
          by_cases g1 : (60000 : Int) < S1
          · have d1 : decide ((60000 : Int) < (S1 : Int)) = true := by simpa using g1
            clear g1 hb1 hb2 hb3 HG HG0 HBd
            go_wp2_with fail
            go_quiet (fail)
            go_wp2_with fail
            go_ret2
            exact TextIs.no (HBr.out.trans (drewN_below _ _ _))
          · have d1 : decide ((60000 : Int) < (S1 : Int)) = false := by simpa using g1
            by_cases g2 : (60000 : Int) < M
            · have d2 : decide ((60000 : Int) < (M : Int)) = true := by simpa using g2
              clear g1 g2 hb1 hb2 hb3 HG HG0 HBd
              go_wp2_with fail
              go_quiet (fail)
              go_wp2_with fail
              go_ret2
              exact TextIs.no (HBr.out.trans (drewN_below _ _ _))
            · have d2 : decide ((60000 : Int) < (M : Int)) = false := by simpa using g2
              by_cases g3 : (0 : Int) < M
              · have hM : ¬ (M : Int) = 0 := by omega
                have hM' : ((M : Int) == 0) = false := by simpa using hM
                have hq := tquo M
                have hMn : ¬ M = 0 := by omega
                obtain ⟨hd0, hd1⟩ : (0 : Int) ≤ 60000 / (M : Int) ∧ (60000 : Int) / (M : Int) ≤ 60000 := ⟨Int.ediv_nonneg (by omega) (by omega), Int.ediv_le_self _ (by omega)⟩
                have hwq : IntKind.i64.wrap (60000 / (M : Int)) = 60000 / (M : Int) := by unfold IntKind.wrap; simp [IntKind.signed, IntKind.bits]; omega
                have hwq' : IntKind.i64.wrap ((60000 : Int).tdiv (M : Int)) = 60000 / (M : Int) := by rw [hq]; exact hwq
                have hwq2 : wrap64 (60000 / (M : Int)) = 60000 / (M : Int) := by unfold wrap64; omega
                by_cases g4 : (60000 : Int) / M < n
                · have d3 : decide ((0 : Int) < (M : Int)) = true := by simpa using g3
                  have d3n : decide (0 < M) = true := by simp; omega
                  have d4 : decide ((60000 : Int) / (M : Int) < n) = true := by simpa using g4
                  clear g1 g2 g3 g4 hb1 hb2 hb3 HG HG0 HBd
                  go_wp2_with fail
                  go_quiet (fail)
                  go_wp2_with fail
                  go_ret2
                  exact TextIs.no (HBr.out.trans (drewN_below _ _ _))
                · have HNM : Hid (∀ j : Nat, (j : Int) ≤ n → j * M ≤ 60000) := fun j hj => quo_le M n (by omega) g4 j hj
                  by_cases g5 : (120000 : Int) < Ls
                  · have d3 : decide ((0 : Int) < (M : Int)) = true := by simpa using g3
                    have d3n : decide (0 < M) = true := by simp; omega
                    have d4 : decide ((60000 : Int) / (M : Int) < n) = false := by simpa using g4
                    have d5 : decide ((120000 : Int) < (Ls : Int)) = true := by simpa using g5
                    clear g1 g2 g3 g4 g5 hb1 hb2 hb3 HG HG0 HBd
                    go_wp2_with fail
                    go_quiet (fail)
                    go_wp2_with fail
                    go_ret2
                    exact TextIs.no (HBr.out.trans (drewN_below _ _ _))
                  · have hlen2 : Ls ≤ 120000 := by omega
                    have hl1 : S1 ≤ 60000 := by omega
                    have hl2 : M ≤ 60000 := by omega
                    have d3 : decide ((0 : Int) < (M : Int)) = true := by simpa using g3
                    have d3n : decide (0 < M) = true := by simp; omega
                    have d4 : decide ((60000 : Int) / (M : Int) < n) = false := by simpa using g4
                    have d5 : decide ((120000 : Int) < (Ls : Int)) = false := by simpa using g5
                    clear g1 g2 g4 g5 hb1 hb2
                    go_wp2_with fail
                    go_quiet (fail)
                    have hdn := drewN_below (wr.alloc (.cells #[.string (str s1), .string (str s2), .int .i64 n] 50)) nq (wr.alloc (.cells #[.string (str s1), .string (str s2), .int .i64 n] 50)).heap.size
                    have HBd := hid (HBr.out.trans (hdn.mono HBr.out.size))
                    have hrow := (hdn.block _ (lt_of_some HRow.out)).trans HRow.out
                    have HRowd := hid hrow
                    generalize (wr.alloc (.cells #[.string (str s1), .string (str s2), .int .i64 n] 50)).drewN nq = wd at *
                    have x0 := row_at hrow 0 (v := .string (str s1)) rfl
                    have x1 := row_at hrow 1 (v := .string (str s2)) rfl
                    have x2 := row_at hrow 2 (v := .int .i64 n) rfl
                    have hgo : GO eB (wd.alloc (.cells #[] 5)) wd.heap.size (.slice (some ⟨wd.heap.size, 0, none⟩) 0 0) [] := go_made eB wd [] (by simp)
                    have HGo := hid hgo
                    have hale : Below wd.heap.size wd (wd.alloc (.cells #[] 5)) := (Below.refl _ _).alloc (Nat.le_refl _) _
                    have HAle := hid hale
                    have hwd : wr.heap.size < wd.heap.size := lt_of_some hrow
                    clear hdn hrow hgo hale HBr HRow HG z0 z1 z2
                    go_wp2_with fail
                    go_loopw [7, 8] (fun v i wq => ∃ (j : Nat) (l : Bs), i = .int .i64 j ∧ l.length = j * M ∧ l.length ≤ 60000 ∧ GO eB wq wd.heap.size v l ∧ Below wd.heap.size wd wq) (fun _ i _ => n.toNat - (intOf i).toNat)
                    case atStart => exact ⟨0, [], rfl, by simp, by simp, HGo.out, HAle.out⟩
                    case round =>
                      obtain ⟨j, l, rfl, hlj, hl6, hgl, hbq⟩ := hrel
                      have HGl := hid hgl
                      have HBq := hid hbq
                      have Hlj := hid hlj
                      have u1 := (World.cell?_of_block (hbq.block _ hwd)).trans x1
                      have u2 := (World.cell?_of_block (hbq.block _ hwd)).trans x2
                      clear hlj hgl hbq HGo HAle
                      obtain ⟨a, c, hv⟩ := HGl.out.slice (n := l.length) rfl
                      subst hv
                      by_cases hjn : (j : Int) < n
                      · have m0 : (0 : Int) < M := by omega
                        have Hb : Hid (l.length + M ≤ 60000) := by
                          rw [Hid, Hlj.out]
                          have h1 : (j + 1) * M ≤ 60000 := HNM.out (j + 1) (by omega)
                          rw [Nat.succ_mul] at h1
                          exact h1
                        obtain ⟨v', w', hr, hgo', hb'⟩ := go_str_more HGl.out s2 (by have := Hb.out; have := HM0.out; omega) HBq.out.size
                        have HR := hid hr
                        have HG' := hid hgo'
                        have HB' := hid (HBq.out.trans hb')
                        have HL2 : Hid ((l ++ s2).length = (j + 1) * M ∧ (l ++ s2).length ≤ 60000) := by
                          have h1 := Hlj.out
                          have h2 := Hb.out
                          refine ⟨?_, by rw [List.length_append, HM0.out]; exact h2⟩
                          rw [List.length_append, h1, HM0.out, Nat.succ_mul]
                        obtain ⟨a9, c9, hv9⟩ := hgo'.slice (n := l.length + s2.length) (by simp)
                        have hjb : j + 1 ≤ 60000 := by
                          have h1 := HNM.out (j + 1) (by omega)
                          have h2 : (j + 1) * 1 ≤ (j + 1) * M := Nat.mul_le_mul_left _ (by omega)
                          omega
                        subst hv9
                        clear hr hgo' hb'
                        go_wp2_with (at_builtin; refine wpList_append_run rfl rfl HR.out ?_)
                        go_roundw
                        case rel => exact ⟨j + 1, l ++ s2, by go_num, HL2.out.1, HL2.out.2, HG'.out, HB'.out⟩
                        case measure => simp [intOf]; omega
                      · have hcv := conv_gb (HGl.out.base (Nat.zero_le _))
                        have HFin : Hid (str (s ++ s1) ++ str l = str (s ++ s1 ++ l)) := app_str _ _
                        have hzl := str_size l
                        have hz12 := str_size (s ++ s1)
                        have HBn := hid (HBd.out.trans (HBq.out.mono HBd.out.size))
                        go_wp2_with fail
                        go_roundw
                        case rel => exact ⟨k + 1, s ++ s1 ++ l, by omega, by rw [← HFin.out]; rfl, by go_num, by have := hlen2; have e1 := HS1.out; have e3 := HLs.out; simp only [List.length_append]; omega, HBn.out⟩
                        case measure => simp [intOf]; omega
              · have hl2z : M = 0 := by omega
                by_cases g5 : (120000 : Int) < Ls
                · have d3 : decide ((0 : Int) < (M : Int)) = false := by simpa using g3
                  have d3n : decide (0 < M) = false := by simp; omega
                  have d5 : decide ((120000 : Int) < (Ls : Int)) = true := by simpa using g5
                  clear g1 g2 g3 g5 hl2z hb1 hb2 hb3 HG HG0 HBd
                  go_wp2_with fail
                  go_quiet (fail)
                  go_wp2_with fail
                  go_ret2
                  exact TextIs.no (HBr.out.trans (drewN_below _ _ _))
                · have hlen2 : Ls ≤ 120000 := by omega
                  have hl1 : S1 ≤ 60000 := by omega
                  have hl2 : M ≤ 60000 := by omega
                  have d3 : decide ((0 : Int) < (M : Int)) = false := by simpa using g3
                  have d3n : decide (0 < M) = false := by simp; omega
                  have d5 : decide ((120000 : Int) < (Ls : Int)) = false := by simpa using g5
                  have HMz := hid hl2z
                  clear hl2z g1 g2 g3 g5 hb1 hb2
                  go_wp2_with fail
                  go_quiet (fail)
                  have hdn := drewN_below (wr.alloc (.cells #[.string (str s1), .string (str s2), .int .i64 n] 50)) nq (wr.alloc (.cells #[.string (str s1), .string (str s2), .int .i64 n] 50)).heap.size
                  have HBd := hid (HBr.out.trans (hdn.mono HBr.out.size))
                  have hrow := (hdn.block _ (lt_of_some HRow.out)).trans HRow.out
                  have HRowd := hid hrow
                  generalize (wr.alloc (.cells #[.string (str s1), .string (str s2), .int .i64 n] 50)).drewN nq = wd at *
                  have x0 := row_at hrow 0 (v := .string (str s1)) rfl
                  have x1 := row_at hrow 1 (v := .string (str s2)) rfl
                  have x2 := row_at hrow 2 (v := .int .i64 n) rfl
                  have hgo : GO eB (wd.alloc (.cells #[] 5)) wd.heap.size (.slice (some ⟨wd.heap.size, 0, none⟩) 0 0) [] := go_made eB wd [] (by simp)
                  have HGo := hid hgo
                  have hale : Below wd.heap.size wd (wd.alloc (.cells #[] 5)) := (Below.refl _ _).alloc (Nat.le_refl _) _
                  have HAle := hid hale
                  have hwd : wr.heap.size < wd.heap.size := lt_of_some hrow
                  clear hdn hrow hgo hale HBr HRow HG z0 z1 z2
                  go_wp2_with fail
                  go_loopw [7, 8] (fun v i wq => ∃ (j : Nat) (l : Bs), i = .int .i64 j ∧ l.length = j * M ∧ l.length ≤ 60000 ∧ GO eB wq wd.heap.size v l ∧ Below wd.heap.size wd wq) (fun _ i _ => n.toNat - (intOf i).toNat)
                  case atStart => exact ⟨0, [], rfl, by simp, by simp, HGo.out, HAle.out⟩
                  case round =>
                    obtain ⟨j, l, rfl, hlj, hl6, hgl, hbq⟩ := hrel
                    have HGl := hid hgl
                    have HBq := hid hbq
                    have Hlj := hid hlj
                    have u1 := (World.cell?_of_block (hbq.block _ hwd)).trans x1
                    have u2 := (World.cell?_of_block (hbq.block _ hwd)).trans x2
                    clear hlj hgl hbq HGo HAle
                    obtain ⟨a, c, hv⟩ := HGl.out.slice (n := l.length) rfl
                    subst hv
                    by_cases hjn : (j : Int) < n
                    · have m0' : ¬ (0 : Int) < M := by have := HMz.out; omega
                      have hcv := conv_gb (HGl.out.base (Nat.zero_le _))
                      have HFin : Hid (str (s ++ s1) ++ str l = str (s ++ s1 ++ l)) := app_str _ _
                      have hzl := str_size l
                      have hz12 := str_size (s ++ s1)
                      have HBn := hid (HBd.out.trans (HBq.out.mono HBd.out.size))
                      go_wp2_with fail
                      go_roundw
                      case rel => exact ⟨k + 1, s ++ s1 ++ l, by omega, by rw [← HFin.out]; rfl, by go_num, by have := hlen2; have e1 := HS1.out; have e3 := HLs.out; simp only [List.length_append]; omega, HBn.out⟩
                      case measure => simp [intOf]; omega
                    · have hcv := conv_gb (HGl.out.base (Nat.zero_le _))
                      have HFin : Hid (str (s ++ s1) ++ str l = str (s ++ s1 ++ l)) := app_str _ _
                      have hzl := str_size l
                      have hz12 := str_size (s ++ s1)
                      have HBn := hid (HBd.out.trans (HBq.out.mono HBd.out.size))
                      go_wp2_with fail
                      go_roundw
                      case rel => exact ⟨k + 1, s ++ s1 ++ l, by omega, by rw [← HFin.out]; rfl, by go_num, by have := hlen2; have e1 := HS1.out; have e3 := HLs.out; simp only [List.length_append]; omega, HBn.out⟩
                      case measure => simp [intOf]; omega
        · have hlt' : ¬ (k : Int) < T.length := by omega
          by_cases g9 : s.length ≤ 180000
          · have g9' : (s.length : Int) ≤ 180000 := by omega
            go_wp2_with fail
            go_ret2
            exact ⟨s, true, rfl, fun _ => g9, HBw.out⟩
          · have g9' : ¬ (s.length : Int) ≤ 180000 := by omega
            go_wp2_with fail
            go_ret2
            exact ⟨s, false, rfl, (fun h => by cases h), HBw.out⟩
end Go.Proofs.YtikcbgoocljgnaaDoor
