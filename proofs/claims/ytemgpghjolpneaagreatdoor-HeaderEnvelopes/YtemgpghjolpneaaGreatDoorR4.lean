/- What this text holds: the document's fields, with their lines. -/
import Derived.Test.YtemgpghjolpneaaGreatDoorR3
namespace Go.Proofs.YtemgpghjolpneaaGreatDoor
open Go.RowKit
set_option linter.unusedVariables false
set_option linter.unusedSimpArgs false

theorem step_cont_no {st : List (Bs × Bs) × Bool} {l : Bs} (hc : cont l = true) (ho : st.2 = false) : stepB st l = st := by
  unfold stepB; rw [if_pos hc, if_neg (by simp [ho])]
theorem step_cont_yes {L : List (Bs × Bs)} {l : Bs} (hc : cont l = true) (k : Nat) (hk : L.length = k + 1) : stepB (L, true) l = (L.set k ((L[k]'(by omega)).1, (L[k]'(by omega)).2 ++ l), true) := by
  have hne : L ≠ [] := by rintro rfl; simp at hk
  unfold stepB
  rw [if_pos hc, if_pos rfl]
  have e : L.getLastD ([], []) = L[k]'(by omega) := by
    rw [List.getLastD_eq_getLast?, List.getLast?_eq_some_getLast hne, List.getLast_eq_getElem hne]
    show L[L.length - 1]'_ = _
    congr 1
    omega
  show (L.dropLast ++ [((L.getLastD ([], [])).1, (L.getLastD ([], [])).2 ++ l)], true) = _
  rw [e]
  congr 1
  rw [List.set_eq_take_append_cons_drop, if_pos (by omega), List.drop_eq_nil_of_le (by omega), List.dropLast_eq_take]
  congr 2
  omega
theorem step_name_no {st : List (Bs × Bs) × Bool} {l : Bs} (hc : cont l = false) (hn : nameB l = []) : stepB st l = (st.1, false) := by
  unfold stepB; rw [if_neg (by simp [hc]), if_pos hn]
theorem step_name_yes {st : List (Bs × Bs) × Bool} {l : Bs} (hc : cont l = false) (hn : nameB l ≠ []) : stepB st l = (st.1 ++ [(nameB l, l)], true) := by
  unfold stepB; rw [if_neg (by simp [hc]), if_neg hn]

set_option maxRecDepth 100000 in
set_option maxHeartbeats 8000000 in
theorem rblocks_any (s : Bs) (w : World) (hs : s.length ≤ 10000) :
    Calls Tryz.prog 22 #[.string (str s)] w fun e w' => (∃ v, e = .returned v ∧ RO w' w.heap.size 53 2 v ((ents s).map fR)) ∧ Below w.heap.size w w' := by
  have HC := hid (rlines_any s w (by omega))
  have hll := lines_len _ s (Nat.le_refl _)
  have HLE : Hid (lines s = [] → s = []) := fun h => by
    rcases Classical.em (s = []) with h1 | h1
    · exact h1
    · rw [lines_step s h1] at h; simp at h
  go_enter Tryz.func22, Tryz.ntmps22
  go_wp2_with fail
  refine HC.out.mono ?_
  rintro e w1 ⟨⟨v, rfl, ho⟩, hb⟩
  obtain ⟨hw, a, c, rfl, hc, hr⟩ := ho.rl
  have HB1 := hid hb
  have HW1 := hid hb.size
  rw [List.length_map] at *
  clear ho hb HC
  rcases hr with hr | ⟨g, o, rfl, hr, hg⟩
  · have hl0 : lines s = [] := by simpa using hr
    have hs0 := HLE.out hl0
    subst hs0
    clear hr hc hw hll hl0
    have hl00 : (lines ([] : Bs)).length = 0 := rfl
    go_wp2_with fail
    go_loopw [4, 5, 6] (fun v b i wr => v = .slice none 0 0 ∧ b = .bool false ∧ i = .int .i64 0 ∧ wr = w1) (fun _ _ _ _ => 0)
    case atStart => exact ⟨rfl, rfl, rfl, rfl⟩
    case round =>
      obtain ⟨rfl, rfl, rfl, rfl⟩ := hrel
      go_wp2_with fail
      go_ret
      exact ⟨⟨_, rfl, RO.nil _ _ _ _⟩, HB1.out⟩
  · have HR := hid hr
    clear hr HLE
    go_wp2_with fail
    go_loopw [4, 5, 6] (fun v b i wr => ∃ (k : Nat), k ≤ (lines s).length ∧ i = .int .i64 k ∧ b = .bool (bst s k).2 ∧ RO wr w1.heap.size 53 2 v ((bst s k).1.map fR) ∧ Below w1.heap.size w1 wr) (fun _ _ i _ => (lines s).length - (intOf i).toNat)
    case atStart => exact ⟨0, by omega, rfl, rfl, RO.nil _ _ _ _, Below.refl _ _⟩
    case round =>
      obtain ⟨k, hk, rfl, rfl, ho2, hb2⟩ := hrel
      have HO2 := hid ho2
      have HB2 := hid hb2
      clear ho2 hb2
      by_cases hlt : k < (lines s).length
      · have hlt' : (k : Int) < (lines s).length := by omega
        have hrec : ((lines s).map sR)[k]? = some (sR (lines s)[k]) := by rw [List.getElem?_map, List.getElem?_eq_getElem hlt]; rfl
        have hc0 : wr.cell? ⟨g, o + k, none⟩ = some (.string (str (lines s)[k])) := by
          have := (HR.out.later HB2.out).rec k _ hrec 0 _ rfl
          rw [Nat.mul_one] at this
          exact this
        have HNX := hid (bst_next s k hlt)
        obtain ⟨f1, f2, f3⟩ := bst_facts s k hk
        have HF1 := hid f1
        have HF2 := hid (bst_len s k hk)
        have hll2 := line_le s k hlt
        have hn0 := lines_ne _ s (Nat.le_refl _) _ (List.getElem_mem hlt)
        clear hrec f1 f2
        generalize (lines s)[k] = lk at *
        generalize bst s k = st at *
        obtain ⟨Lo, op⟩ := st
        simp only at HF1 HF2 f3 HO2 HNX
        cases lk with
        | nil => exact absurd rfl hn0
        | cons ch rr =>
          clear hn0
          have hls := str_size (ch :: rr)
          have hlts : 0 < (str (ch :: rr)).size := by rw [hls]; simp
          have g0 : ((str (ch :: rr))[0]'hlts) = ch := rfl
          have HCc := hid (cont_cons ch rr)
          rcases hcn : cont (ch :: rr)
          · rw [hcn] at HCc
            have n1 : ((ch.toNat : Int) == 32) = false := by have := HCc.out; revert this; cases ((ch.toNat : Int) == 32) <;> simp
            have n2 : ((ch.toNat : Int) == 9) = false := by have := HCc.out; revert this; rw [n1]; cases ((ch.toNat : Int) == 9) <;> simp
            have HNm := hid (fun W => rname_any (ch :: rr) W (by omega))
            have hqn := eqL (nameB (ch :: rr)) []
            by_cases hnm : nameB (ch :: rr) = []
            · have HX : Hid (bst s (k + 1) = (Lo, false)) := by rw [Hid, HNX.out, step_name_no hcn hnm]
              rw [show decide (nameB (ch :: rr) = []) = true by simp [hnm]] at hqn
              clear hnm hcn HNX
              generalize nameB (ch :: rr) = nm at *
              go_wp2_with fail
              refine (HNm.out _).mono ?_
              rintro e w2 ⟨rfl, rfl⟩
              go_wp2_with fail
              go_roundw
              case rel => exact ⟨k + 1, by omega, by go_num, by rw [HX.out], by rw [HX.out]; exact HO2.out, HB2.out⟩
              case measure => simp [intOf]; omega
            · have HX : Hid (bst s (k + 1) = (Lo ++ [(nameB (ch :: rr), ch :: rr)], true)) := by rw [Hid, HNX.out, step_name_yes hcn hnm]
              rw [show decide (nameB (ch :: rr) = []) = false by simp [hnm]] at hqn
              clear hnm hcn HNX
              generalize nameB (ch :: rr) = nm at *
              obtain ⟨v', w', hr', ho', hb'⟩ := ro_one Tryz.underlying50 Tryz.info53 rfl (by omega) (by omega) HO2.out HB2.out.size (by simp; omega) (fR (nm, ch :: rr)) rfl wr.heap.size rfl
              have HR' := hid hr'
              have HO' : Hid (RO w' w1.heap.size 53 2 v' ((Lo ++ [(nm, ch :: rr)]).map fR)) := by rw [Hid, List.map_append]; exact ho'
              have HB' := hid (HB2.out.trans hb')
              clear hr' ho' hb'
              obtain ⟨a0, c0, hv0⟩ := HO2.out.sliceN (n := Lo.length) (by simp)
              obtain ⟨a5, c5, hv5⟩ := HO'.out.sliceN (n := Lo.length + 1) (by simp)
              subst hv0 hv5
              go_wp2_with fail
              refine (HNm.out _).mono ?_
              rintro e w2 ⟨rfl, rfl⟩
              go_wp2_with (at_builtin; refine wpList_append_run rfl rfl HR'.out ?_)
              go_roundw
              case rel => exact ⟨k + 1, by omega, by go_num, by rw [HX.out], by rw [HX.out]; exact HO'.out, HB'.out⟩
              case measure => simp [intOf]; omega
          · rw [hcn] at HCc
            cases op
            · have HX : Hid (bst s (k + 1) = (Lo, false)) := by rw [Hid, HNX.out, step_cont_no hcn rfl]
              clear hcn HNX
              by_cases c1 : (ch.toNat : Int) = 32
              · skip
                go_wp2_with fail
                go_roundw
                case rel => exact ⟨k + 1, by omega, by go_num, by rw [HX.out], by rw [HX.out]; exact HO2.out, HB2.out⟩
                case measure => simp [intOf]; omega
              · skip
                have b1 : ((ch.toNat : Int) == 32) = false := by simpa using c1
                have c2 : (ch.toNat : Int) = 9 := by have := HCc.out; revert this; rw [b1]; simp
                go_wp2_with fail
                go_roundw
                case rel => exact ⟨k + 1, by omega, by go_num, by rw [HX.out], by rw [HX.out]; exact HO2.out, HB2.out⟩
                case measure => simp [intOf]; omega
            · have hLo : Lo ≠ [] := HF1.out rfl
              obtain ⟨n, hn⟩ : ∃ n, Lo.length = n + 1 := ⟨Lo.length - 1, by have := List.length_pos_iff.2 hLo; omega⟩
              have HX : Hid (bst s (k + 1) = (Lo.set n ((Lo[n]'(by omega)).1, (Lo[n]'(by omega)).2 ++ (ch :: rr)), true)) := by rw [Hid, HNX.out, step_cont_yes hcn n hn]
              clear hcn HNX
              have hLn := HF2.out (Lo[n]'(by omega)) (List.getElem_mem _)
              have hsL := str_size (Lo[n]'(by omega)).2
              obtain ⟨gv, cv, hv, hgv⟩ := ownsRow_some HO2.out.2 (by rw [List.length_map, hn]; omega)
              rw [List.length_map, hn] at hv
              subst hv
              obtain ⟨r1, r2, r3, r4⟩ := ro_set HO2.out hn n (by omega) ((Lo[n]'(by omega)).2 ++ (ch :: rr))
              have HR3 := hid r3
              have HAp := hid (app_str (Lo[n]'(by omega)).2 (ch :: rr))
              have HBs := hid (HB2.out.setCell (p := ⟨gv, n * 2 + 1, none⟩) r4 (.string (str ((Lo[n]'(by omega)).2 ++ (ch :: rr)))))
              clear r3 hLo
              generalize (Lo[n]'(by omega)).2 ++ (ch :: rr) = z at *
              generalize (Lo[n]'(by omega)).1 = y1 at *
              generalize (Lo[n]'(by omega)).2 = y2 at *
              have hnb : n ≤ 10000 := by omega
              have hwr : IntKind.i64.wrap (n : Int) = n := by rw [IntKind.wrap_i64]; omega
              have hi1 : (0 : Int) ≤ (n : Int) := by omega
              have hi2 : (n : Int) < ((n + 1 : Nat) : Int) := by omega
              clear hn
              by_cases c1 : (ch.toNat : Int) = 32
              · skip
                go_wp2_with fail
                go_region
                go_wp2_with fail
                rw [HAp.out]
                go_roundw
                case rel => exact ⟨k + 1, by omega, by go_num, by rw [HX.out], by rw [HX.out]; exact HR3.out.drewN 1, HBs.out.trans (drewN_below _ 1 _)⟩
                case measure => simp [intOf]; omega
              · have b1 : ((ch.toNat : Int) == 32) = false := by simpa using c1
                have c2 : (ch.toNat : Int) = 9 := by have := HCc.out; revert this; rw [b1]; simp
                go_wp2_with fail
                go_region
                go_wp2_with fail
                rw [HAp.out]
                go_roundw
                case rel => exact ⟨k + 1, by omega, by go_num, by rw [HX.out], by rw [HX.out]; exact HR3.out.drewN 1, HBs.out.trans (drewN_below _ 1 _)⟩
                case measure => simp [intOf]; omega
      · have hlt' : ¬ (k : Int) < (lines s).length := by omega
        have HX : Hid ((bst s k).1 = ents s) := by rw [Hid, show k = (lines s).length by omega]; exact bst_all s
        have HOx := hid HO2.out
        rw [HX.out] at HOx
        go_wp2_with fail
        go_ret
        exact ⟨⟨_, rfl, HOx.out.base HW1.out⟩, HB1.out.trans (HB2.out.mono HW1.out)⟩
end Go.Proofs.YtemgpghjolpneaaGreatDoor
