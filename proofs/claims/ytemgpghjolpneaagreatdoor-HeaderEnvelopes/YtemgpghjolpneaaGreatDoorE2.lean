/- What this text holds: the document's envelope: the first value with a name, its addresses. -/
import Derived.Test.YtemgpghjolpneaaGreatDoorE1
import Derived.Test.YtemgpghjolpneaaGreatDoorR8
import Derived.Test.YtemgpghjolpneaaGreatDoorS4
namespace Go.Proofs.YtemgpghjolpneaaGreatDoor
open Go.RowKit
set_option linter.unusedVariables false
set_option linter.unusedSimpArgs false

theorem text_get (n : Bs) (hn : low n = n) : ∀ (l : List (Bs × Bs)), (getP l [n]).take 1 = textP l n
  | [] => rfl
  | f :: l => by
    have ih := text_get n hn l
    unfold getP textP firstF at *
    have ha : amongP f.1 [n] = decide (low f.1 = n) := by
      unfold amongP
      rw [List.map_cons, hn, List.map_nil, Bool.eq_iff_iff]
      simp
    by_cases e : low f.1 = n
    · rw [List.filter_cons_of_pos (by rw [ha]; simpa using e), List.find?_cons_of_pos (by simpa using e)]
      rfl
    · rw [List.filter_cons_of_neg (by rw [ha]; simpa using e), List.find?_cons_of_neg (by simpa using e)]
      exact ih
set_option maxRecDepth 100000 in
set_option maxHeartbeats 1000000 in
theorem one_any {w : World} {vl : Value} {l : List (Bs × Bs)} (n : Bs) (hlow : low n = n) (hnl : n.length ≤ 1000) (h : RL w vl 2 (l.map fR)) (hl : l.length ≤ 1000000) (hf : ∀ f ∈ l, f.1.length ≤ 10000000 ∧ f.2.length ≤ 100000) :
    Calls Tryz.prog 21 #[vl, .string (str n)] w fun e w' => (∃ v, e = .returned v ∧ ∃ B, w.heap.size ≤ B ∧ RO w' B 9 1 v ((textP l n).map sR)) ∧ Below w.heap.size w w' := by
  have hal : Below w.heap.size w (w.alloc (.cells #[.string (str n)] 9)) := (Below.refl _ _).alloc (Nat.le_refl _) _
  have HT := hid (text_get n hlow l)
  have hgl := getP_len l [n]
  have HC := hid (rget_any (names := [n]) (h.later hal) (ra_one w (sR n) 9) hl (by simp) hf (by simpa using (by omega : n.length ≤ 10000000)))
  have HBa := hid hal
  obtain ⟨hw, a, c, rfl, hc, hr⟩ := h
  rw [List.length_map] at *
  generalize getP l [n] = G at *
  clear hr hw hal hf
  by_cases g1 : (1 : Int) < G.length
  · go_enter Tryz.func21, Tryz.ntmps21
    go_wp2_with fail
    refine HC.out.mono ?_
    rintro e w1 ⟨⟨v, rfl, ho⟩, hb⟩
    have HB := hid (HBa.out.trans (hb.mono HBa.out.size))
    obtain ⟨a2, c2, hv⟩ := ho.sliceN (n := G.length) (by simp)
    subst hv
    obtain ⟨_, _, _, he2, hcc, _⟩ := ho.rl
    simp only [Value.slice.injEq, List.length_map] at he2 hcc
    have hcc' : G.length ≤ c2 := by omega
    have HL := hid (ro_take ho (by omega))
    clear hb ho he2 hcc
    go_wp2_with fail
    go_ret
    rw [← HT.out, List.map_take]
    exact ⟨⟨_, rfl, _, HBa.out.size, HL.out⟩, HB.out⟩
  · have HX : Hid (G = textP l n) := by rw [Hid, ← HT.out, List.take_of_length_le (by omega)]
    go_enter Tryz.func21, Tryz.ntmps21
    go_wp2_with fail
    refine HC.out.mono ?_
    rintro e w1 ⟨⟨v, rfl, ho⟩, hb⟩
    have HB := hid (HBa.out.trans (hb.mono HBa.out.size))
    obtain ⟨a2, c2, hv⟩ := ho.sliceN (n := G.length) (by simp)
    subst hv
    have HL := hid ho
    clear hb ho
    go_wp2_with fail
    go_ret
    rw [← HX.out]
    exact ⟨⟨_, rfl, _, HBa.out.size, HL.out⟩, HB.out⟩
set_option maxRecDepth 100000 in
set_option maxHeartbeats 1000000 in
theorem rpeople_any {w : World} {vl : Value} {l : List (Bs × Bs)} (n : Bs) (h : RL w vl 2 (l.map fR)) (hl : l.length ≤ 1000000) (hf : ∀ f ∈ l, f.1.length ≤ 10000000 ∧ f.2.length ≤ 10000) :
    Calls Tryz.prog 20 #[vl, .string (str n)] w fun e w' => (∃ v, e = .returned v ∧ ∃ B, w.heap.size ≤ B ∧ RO w' B 42 3 v ((addrP l n).map adR)) ∧ Below w.heap.size w w' := by
  unfold addrP
  obtain ⟨hw, a, c, rfl, hc, hr⟩ := h
  rw [List.length_map] at *
  rcases hr with hr | ⟨g, o, rfl, hr, hg⟩
  · have : l = [] := by simpa using hr
    subst this
    go_enter Tryz.func20, Tryz.ntmps20
    go_wp2_with fail
    go_loopw [5] (fun i wr => i = .int .i64 0 ∧ wr = w) (fun _ _ => 0)
    case atStart => exact ⟨rfl, rfl⟩
    case round =>
      obtain ⟨rfl, rfl⟩ := hrel
      go_wp2_with fail
      go_ret
      exact ⟨⟨_, rfl, _, Nat.le_refl _, RO.nil _ _ _ _⟩, Below.refl _ _⟩
  · have HR := hid hr
    have HF := hid hf
    clear hr hf
    go_enter Tryz.func20, Tryz.ntmps20
    go_wp2_with fail
    go_loopw [5] (fun i wr => ∃ k : Nat, k ≤ l.length ∧ i = .int .i64 k ∧ firstF l n = firstF (l.drop k) n ∧ Below w.heap.size w wr) (fun i _ => l.length - (intOf i).toNat)
    case atStart => exact ⟨0, by omega, rfl, rfl, Below.refl _ _⟩
    case round =>
      obtain ⟨k, hk, rfl, he, hb⟩ := hrel
      have HB := hid hb
      have HE := hid he
      clear he hb
      by_cases hlt : k < l.length
      · have hlt' : (k : Int) < l.length := by omega
        have HR2 := hid (HR.out.later HB.out)
        have hrec : (l.map fR)[k]? = some (fR l[k]) := by rw [List.getElem?_map, List.getElem?_eq_getElem hlt]; rfl
        have hc0 : wr.cell? ⟨g, o + k * 2, none⟩ = some (.string (str l[k].1)) := HR2.out.rec k _ hrec 0 _ rfl
        have HRk : Hid (∀ W, Below wr.heap.size wr W → W.cell? ⟨g, o + k * 2 + 1, none⟩ = some (.string (str l[k].2))) := fun W hW => (HR2.out.later hW).rec k _ hrec 1 _ rfl
        have HN := hid (firstF_drop l n k hlt)
        have hx := (HF.out _ (List.getElem_mem hlt)).1
        have hy := (HF.out _ (List.getElem_mem hlt)).2
        clear hrec
        generalize l[k].1 = x at *
        generalize l[k].2 = y at *
        have HCl := hid (fun W => rlower_any x W (by omega))
        have HQ := hid (eqLL (low x) n)
        generalize low x = z at *
        by_cases e : z = n
        · have q : ((str z).toList == (str n).toList) = true := by rw [HQ.out]; simp [e]
          have HX : Hid (firstF l n = some y) := by rw [Hid, HE.out, HN.out, if_pos e]
          clear e HE HN HQ
          go_wp2_with fail
          refine (HCl.out _).mono ?_
          rintro e w2 ⟨rfl, hb2⟩
          have HB2 := hid (HB.out.trans (hb2.mono HB.out.size))
          have c7 := HRk.out w2 hb2
          clear hb2
          go_wp2_with fail
          refine (raddresses_any y w2 (by omega)).mono ?_
          rintro e w3 ⟨⟨v, rfl, B3, hB3, ho⟩, hb3⟩
          have HB3 := hid (HB2.out.trans (hb3.mono HB2.out.size))
          have HO := hid ho
          have HS3 := hid (Nat.le_trans HB2.out.size hB3)
          obtain ⟨a3, c3, hv3⟩ := ho.sliceN (n := (adsP y).length) (by simp)
          subst hv3
          clear hb3 ho
          go_wp2_with fail
          go_ret
          rw [HX.out]
          exact ⟨⟨_, rfl, _, HS3.out, HO.out⟩, HB3.out⟩
        · have q : ((str z).toList == (str n).toList) = false := by rw [HQ.out]; simp [e]
          have HX : Hid (firstF l n = firstF (l.drop (k + 1)) n) := by rw [Hid, HE.out, HN.out, if_neg e]
          clear e HE HN HQ
          go_wp2_with fail
          refine (HCl.out _).mono ?_
          rintro e w2 ⟨rfl, hb2⟩
          have HB2 := hid (HB.out.trans (hb2.mono HB.out.size))
          clear hb2
          go_wp2_with fail
          go_roundw
          case rel => exact ⟨k + 1, by omega, by go_num, HX.out, HB2.out⟩
          case measure => simp [intOf]; omega
      · have hlt' : ¬ (k : Int) < l.length := by omega
        have HX : Hid (firstF l n = none) := by rw [Hid, HE.out, List.drop_eq_nil_of_le (by omega)]; rfl
        go_wp2_with fail
        go_ret
        rw [HX.out]
        exact ⟨⟨_, rfl, _, Nat.le_refl _, RO.nil _ _ _ _⟩, HB.out⟩
end Go.Proofs.YtemgpghjolpneaaGreatDoor
