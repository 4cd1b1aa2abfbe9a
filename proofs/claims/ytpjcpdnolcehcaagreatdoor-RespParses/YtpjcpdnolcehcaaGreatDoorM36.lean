/- What this text holds: how much values are, as the program counts it. -/
import Derived.Test.YtpjcpdnolcehcaaGreatDoorP7
import Derived.Test.YtpjcpdnolcehcaaGreatDoorM34
namespace Go.Proofs.YtpjcpdnolcehcaaGreatDoor
open Go.RowKit
set_option linter.unusedVariables false
set_option linter.unusedSimpArgs false

def WtOk (e : Nat) : Prop := ∀ (w : World) (N : Nat → Prop) (u : Value) (ks : List Vl) (d : Nat), VsAt w N u ks → FitL ks → ks.length ≤ maxLen → d + e = 41 → Calls Tryz.prog 19 #[u, .int .i64 d] w fun ev w' => ev = .returned (.int .i64 (wtL e ks)) ∧ Below w.heap.size w w'
theorem wt_zero : WtOk 0 := by
  intro w N u ks d hu hf hl hd
  obtain ⟨a, c, rfl, hc⟩ := hu.slice
  have hd' : (40 : Int) < d := by omega
  clear hu hf
  go_enter Tryz.func19, Tryz.ntmps19
  go_wp2_with fail
  all_goals (go_ret; exact ⟨by simp [wtL], by repeat (first | exact Below.refl _ _ | exact drewN_below _ _ _ | apply Below.drew)⟩)
set_option maxRecDepth 100000 in
set_option maxHeartbeats 2000000 in
theorem wt_more {e : Nat} (hV : WtOk e) : WtOk (e + 1) := by
  intro w N u ks d hu hf hl hd
  have hd' : ¬ (40 : Int) < d := by omega
  obtain ⟨rows, hv, rfl, hrow⟩ := hu.open_
  obtain ⟨a, c, rfl, hc⟩ := hv.slice
  simp only [List.length_map] at hc hl ⊢
  have hmin : ∀ (k : Nat) (w : World) (ts : Array TypeId) (t : TypeId), (Builtin.min_ ts t #[.int .i64 k, .int .i64 100000]).run Tryz.prog w = .ok (.int .i64 ((min k 100000 : Nat) : Int)) w := by
    intro k w ts t
    rw [run_min_int2]
    congr 2
    split <;> omega
  by_cases hk : 1000 < rows.length
  · have hk' : (1000 : Int) < rows.length := by omega
    have hr : wtL (e + 1) (rows.map (·.2)) = 100000 := by simp only [wtL, List.length_map]; rw [if_pos hk]
    rw [hr]
    clear hu hf hv hrow
    go_enter Tryz.func19, Tryz.ntmps19
    go_wp2_with fail
    all_goals (go_ret; exact ⟨rfl, by repeat (first | exact Below.refl _ _ | exact drewN_below _ _ _ | apply Below.drew)⟩)
  · have hk' : ¬ (1000 : Int) < rows.length := by omega
    have HR0 : Hid (wtL (e + 1) (rows.map (·.2)) = min ((rows.map (·.2)).foldl (wtS (wtL e)) rows.length) 100000) := by
      unfold Hid
      simp only [wtL, List.length_map]
      rw [if_neg hk]
    have HV := hid hv
    have HR := hid hrow
    have HF := hid hf
    have hd1 : d + 1 + e = 41 := by omega
    clear hu hf hv hrow
    go_enter Tryz.func19, Tryz.ntmps19
    go_wp2_with fail
    go_loopw [5, 18] (fun n i wr => ∃ k : Nat, k ≤ rows.length ∧ i = .int .i64 k ∧ n = .int .i64 (((rows.map (·.2)).take k).foldl (wtS (wtL e)) rows.length : Nat) ∧ Below w.heap.size w wr) (fun _ i _ => rows.length - (intOf i).toNat)
    case atStart => exact ⟨0, by omega, rfl, by simp, by repeat (first | exact Below.refl _ _ | exact drewN_below _ _ _ | apply Below.drew)⟩
    case round =>
      obtain ⟨k, hk2, rfl, rfl, h2⟩ := hrel
      have H2 := hid h2
      clear h2
      by_cases hlt : k < rows.length
      · have hlt' : (k : Int) < rows.length := by omega
        obtain ⟨p, hp⟩ : ∃ p, rows[k] = p := ⟨_, rfl⟩
        have hpm : p ∈ rows := hp ▸ List.getElem_mem hlt
        have e1 : rows[k]? = some p := by rw [List.getElem?_eq_getElem hlt, hp]
        have hne : rows.map (·.1) ≠ [] := by intro e; have := congrArg List.length e; simp at this; subst this; simp at hlt
        obtain ⟨g, o, c1, he, hc1, hga, _, hg⟩ := (HV.out.kept (Kept.ofBelow H2.out []) (by simp)).at_ hne
        simp only [Value.slice.injEq] at he
        obtain ⟨rfl, hlen, rfl⟩ := he
        have hc5 := hga.v k p.1 (by rw [List.getElem?_map, e1]; rfl)
        have hpv := (HR.out p hpm).later H2.out
        have hfx := HF.out.mem p.2 (List.mem_map_of_mem hpm)
        have hnext : ((rows.map (·.2)).take (k + 1)).foldl (wtS (wtL e)) rows.length = wtS (wtL e) (((rows.map (·.2)).take k).foldl (wtS (wtL e)) rows.length) p.2 := by
          rw [List.take_add_one, List.foldl_append, List.getElem?_map, e1]; rfl
        have hb := fold_le (wtL_le e) ((rows.map (·.2)).take k) rows.length
        have hkl : ((rows.map (·.2)).take k).length ≤ 1000 := by rw [List.length_take, List.length_map]; omega
        obtain ⟨m, hm⟩ : ∃ m, ((rows.map (·.2)).take k).foldl (wtS (wtL e)) rows.length = m := ⟨_, rfl⟩
        rw [hm] at hnext hb ⊢
        have HNext := hid hnext
        have hmb : (m : Int) ≤ 301000000 := by omega
        obtain ⟨⟨rk, rx, rn, ⟨ra, rb, rc⟩, ⟨rd, re, rf⟩⟩, x⟩ := p
        obtain ⟨⟨ek, ex, en, hfr⟩, hkd⟩ := hpv
        simp only at ek ex en
        subst ek ex en
        obtain ⟨_, _, he, _⟩ := hfr.slice
        simp only [Sl.v, Value.slice.injEq] at he
        obtain ⟨rfl, rfl, rfl⟩ := he
        obtain ⟨_, _, he, _⟩ := hkd.slice
        simp only [Sl.v, Value.slice.injEq] at he
        obtain ⟨rfl, rfl, rfl⟩ := he
        obtain ⟨c0, c1', c2, c3, c4⟩ := hc5
        simp only [Sl.v] at c3 c4
        have hsz := str_size x.x
        obtain ⟨q1, hq1⟩ : ∃ q, min x.x.length 100000 = q := ⟨_, rfl⟩
        obtain ⟨q2, hq2⟩ : ∃ q, min x.frm.length 100000 = q := ⟨_, rfl⟩
        have hm1 := hmin x.x.length
        have hm2 := hmin x.frm.length
        rw [hq1] at hm1
        rw [hq2] at hm2
        have hq1' : (q1 : Int) ≤ 100000 := by omega
        have hq2' : (q2 : Int) ≤ 100000 := by omega
        have hkl2 : x.kids.length ≤ maxLen := by
          revert hfx
          cases x
          exact fun h => h.2.2.2.2.1
        have hfk : FitL x.kids := by
          revert hfx
          cases x
          exact fun h => h.2.2.2.1
        have CK := hid (fun (w' : World) (hW : Below wr.heap.size wr w') => show Calls Tryz.prog 19 #[.slice ra x.kids.length rc, .int .i64 ((d : Int) + 1)] w' (fun ev w2 => ev = .returned (.int .i64 (wtL e x.kids)) ∧ Below w'.heap.size w' w2) from by
          have := hV w' N _ x.kids (d + 1) (hkd.later hW) hfk hkl2 hd1
          rw [show ((d + 1 : Nat) : Int) = (d : Int) + 1 by omega] at this
          exact this)
        have HM : Hid (wtM m x = m + q1 + q2) := by unfold Hid wtM; rw [hq1, hq2]
        clear hfr hkd hfx hga hpm hp e1 hb hkl hnext hm hlen hc1 hmin hq1 hq2
        go_wp2_with fail
        go_quiet (fail)
        by_cases hcm : (m : Int) + q1 + q2 < 100000
        · have HS : Hid (wtS (wtL e) m x = m + q1 + q2 + wtL e x.kids) := by
            unfold Hid wtS
            rw [HM.out, if_pos (by omega)]
          have hwl := wtL_le e x.kids
          go_wp2_with fail
          refine (CK.out _ (drewN_below _ _ _)).mono ?_
          rintro e w3 ⟨rfl, b3⟩
          have B3 := hid ((H2.out.trans (drewN_below _ _ _)).trans (b3.mono H2.out.size))
          clear b3 CK
          go_wp2_with fail
          go_round
          case rel => exact ⟨k + 1, by omega, by go_num, by rw [HNext.out, HS.out]; congr 1, B3.out⟩
          case measure => simp [intOf]; omega
        · have HS : Hid (wtS (wtL e) m x = m + q1 + q2) := by
            unfold Hid wtS
            rw [HM.out, if_neg (by omega)]
          have B3 := hid (H2.out.trans (drewN_below _ nq _))
          go_wp2_with fail
          go_round
          case rel => exact ⟨k + 1, by omega, by go_num, by rw [HNext.out, HS.out]; congr 1, B3.out⟩
          case measure => simp [intOf]; omega
      · have hlt' : ¬ (k : Int) < rows.length := by omega
        have hke : k = rows.length := by omega
        have HT : ((rows.map (·.2)).take k) = rows.map (·.2) := List.take_of_length_le (by rw [List.length_map]; omega)
        rw [HT]
        have hb := fold_le (wtL_le e) (rows.map (·.2)) rows.length
        obtain ⟨m, hm⟩ : ∃ m, (rows.map (·.2)).foldl (wtS (wtL e)) rows.length = m := ⟨_, rfl⟩
        have hr := HR0.out
        rw [hm] at hr hb ⊢
        have hm1 := hmin m
        have HRM := hid hr
        clear hb hr hmin HT HR0
        go_wp2_with fail
        go_ret
        exact ⟨by rw [HRM.out]; rfl, H2.out⟩

theorem wt_all : ∀ e, WtOk e
  | 0 => wt_zero
  | e + 1 => wt_more (wt_all e)
end Go.Proofs.YtpjcpdnolcehcaaGreatDoor
