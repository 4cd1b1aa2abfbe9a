/- What this text holds: the document's values of fields, and lines of fields. -/
import Derived.Test.YtemgpghjolpneaaDoorR7
namespace Go.Proofs.YtemgpghjolpneaaDoor
open Go.RowKit
set_option linter.unusedVariables false
set_option linter.unusedSimpArgs false

set_option maxRecDepth 100000 in
set_option maxHeartbeats 4000000 in
theorem rget_any {w : World} {vl vn : Value} {l : List (Bs × Bs)} {names : List Bs} (h : RL w vl 2 (l.map fR)) (h' : RL w vn 1 (names.map sR)) (hl : l.length ≤ 1000000) (hnl : names.length ≤ 1000000) (hf : ∀ f ∈ l, f.1.length ≤ 10000000 ∧ f.2.length ≤ 100000) (hn : ∀ n ∈ names, n.length ≤ 10000000) :
    Calls Tryd.prog 20 #[vl, vn] w fun e w' => (∃ v, e = .returned v ∧ RO w' w.heap.size 9 1 v ((getP l names).map sR)) ∧ Below w.heap.size w w' := by
  have HNa := hid h'
  clear h'
  obtain ⟨hw, a, c, rfl, hc, hr⟩ := h
  rw [List.length_map] at *
  rcases hr with hr | ⟨g, o, rfl, hr, hg⟩
  · have : l = [] := by simpa using hr
    subst this
    go_enter Tryd.func20, Tryd.ntmps20
    go_wp2_with fail
    go_loopw [5, 6] (fun v i wr => v = .slice none 0 0 ∧ i = .int .i64 0 ∧ wr = w) (fun _ _ _ => 0)
    case atStart => exact ⟨rfl, rfl, rfl⟩
    case round =>
      obtain ⟨rfl, rfl, rfl⟩ := hrel
      go_wp2_with fail
      go_ret
      exact ⟨⟨_, rfl, RO.nil _ _ _ _⟩, Below.refl _ _⟩
  · have HR := hid hr
    have HF := hid hf
    have HNn := hid hn
    clear hr hf hn
    go_enter Tryd.func20, Tryd.ntmps20
    go_wp2_with fail
    go_loopw [5, 6] (fun v i wr => ∃ k : Nat, k ≤ l.length ∧ i = .int .i64 k ∧ RO wr w.heap.size 9 1 v ((getP (l.take k) names).map sR) ∧ Below w.heap.size w wr) (fun _ i _ => l.length - (intOf i).toNat)
    case atStart => exact ⟨0, by omega, rfl, RO.nil _ _ _ _, Below.refl _ _⟩
    case round =>
      obtain ⟨k, hk, rfl, ho2, hb2⟩ := hrel
      have HB2 := hid hb2
      have HO2 := hid ho2
      clear ho2 hb2
      by_cases hlt : k < l.length
      · have hlt' : (k : Int) < l.length := by omega
        have hrec : (l.map fR)[k]? = some (fR l[k]) := by rw [List.getElem?_map, List.getElem?_eq_getElem hlt]; rfl
        have hc0 : wr.cell? ⟨g, o + k * 2, none⟩ = some (.string (str l[k].1)) := (HR.out.later HB2.out).rec k _ hrec 0 _ rfl
        have HC1 : Hid (∀ W, Below w.heap.size w W → W.cell? ⟨g, o + k * 2 + 1, none⟩ = some (.string (str l[k].2))) := fun W hW => (HR.out.later hW).rec k _ hrec 1 _ rfl
        have HN := hid (getP_next l names k hlt)
        have hx := (HF.out _ (List.getElem_mem hlt)).1
        have hy := (HF.out _ (List.getElem_mem hlt)).2
        have HGl : Hid ((getP (l.take k) names).length ≤ k) := by have := getP_len (l.take k) names; rw [List.length_take] at this; unfold Hid; omega
        clear hrec HF
        generalize l[k].1 = x at *
        generalize l[k].2 = y at *
        have HCn := hid (ramong_any x (HNa.out.later HB2.out) hnl hx HNn.out)
        have HUn := hid (fun W => runfold_any y W hy)
        rcases hm : amongP x names
        · rw [hm] at HCn HN
          go_wp2_with fail
          refine HCn.out.mono ?_
          rintro e w3 ⟨rfl, hb3⟩
          have HB3 := hid (HB2.out.trans (hb3.mono HB2.out.size))
          have HO3 := hid (HO2.out.later hb3)
          clear hb3
          go_wp2_with fail
          go_roundw
          case rel => exact ⟨k + 1, by omega, by go_num, by rw [HN.out]; simpa using HO3.out, HB3.out⟩
          case measure => simp [intOf]; omega
        · rw [hm] at HCn HN
          go_wp2_with fail
          refine HCn.out.mono ?_
          rintro e w3 ⟨rfl, hb3⟩
          have HB3 := hid (HB2.out.trans (hb3.mono HB2.out.size))
          have HO3 := hid (HO2.out.later hb3)
          have hc3 := HC1.out w3 HB3.out
          clear hb3
          obtain ⟨v', w', hr', ho', hb'⟩ := ro_one Tryd.underlying29 Tryd.info9 rfl (by omega) (by omega) HO3.out HB3.out.size (by have := HGl.out; simp; omega) (sR (unf y)) rfl w3.heap.size rfl
          have HR' := hid hr'
          have HO' : Hid (RO w' w.heap.size 9 1 v' ((getP (l.take (k + 1)) names).map sR)) := by
            rw [Hid, HN.out, List.map_append]
            exact ho'
          have HB' := hid (HB3.out.trans hb')
          clear hr' ho' hb' HN
          obtain ⟨a0, c0, hv0⟩ := HO2.out.slice
          obtain ⟨a5, c5, hv5⟩ := HO'.out.slice
          rw [List.length_map] at hv0 hv5
          generalize (getP (l.take k) names).length = n0 at *
          generalize (getP (l.take (k + 1)) names).length = n5 at *
          subst hv0 hv5
          go_wp2_with fail
          refine (HUn.out _).mono ?_
          rintro e w4 ⟨rfl, rfl⟩
          go_wp2_with (at_builtin; refine wpList_append_run rfl rfl HR'.out ?_)
          go_roundw
          case rel => exact ⟨k + 1, by omega, by go_num, HO'.out, HB'.out⟩
          case measure => simp [intOf]; omega
      · have hlt' : ¬ (k : Int) < l.length := by omega
        go_wp2_with fail
        go_ret
        have e := HO2.out
        rw [List.take_of_length_le (by omega)] at e
        exact ⟨⟨_, rfl, e⟩, HB2.out⟩

theorem crlf (x : Bs) : str x ++ ⟨#[13, 10]⟩ = str (x ++ [13, 10]) := by rw [show (⟨#[13, 10]⟩ : ByteArray) = str [13, 10] from rfl, app_str]
set_option maxRecDepth 100000 in
set_option maxHeartbeats 4000000 in
theorem ronly_any (s : Bs) (not : Bool) {w : World} {vn : Value} {names : List Bs} (h' : RL w vn 1 (names.map sR)) (hs : s.length ≤ 10000) (hnl : names.length ≤ 1000000) (hn : ∀ n ∈ names, n.length ≤ 10000000) :
    Calls Tryd.prog 22 #[.string (str s), .bool not, vn] w fun e w' => e = .returned (.string (str (onlyP s not names))) ∧ Below w.heap.size w w' := by
  rw [onlyP_is]
  have HNa := hid h'
  have HNn := hid hn
  have HC := hid (rblocks_any s w hs)
  have HLs := hid (ents_in _ s (Nat.le_refl _))
  have hLl := ents_len s
  clear h' hn
  generalize ents s = L at *
  go_enter Tryd.func22, Tryd.ntmps22
  go_wp2_with fail
  refine HC.out.mono ?_
  rintro e w1 ⟨⟨v, rfl, ho⟩, hb⟩
  obtain ⟨hw, a, c, rfl, hc, hr⟩ := ho.rl
  have HB1 := hid hb
  have HW1 := hid hb.size
  rw [List.length_map] at *
  clear ho hb HC
  rcases hr with hr | ⟨g, o, rfl, hr, hg⟩
  · have : L = [] := by simpa using hr
    subst this
    have hcr := crlf (outP [] names not)
    have hz0 : (str (outP [] names not)).size = 0 := rfl
    have hz1 : outP [] names not = [] := rfl
    have HX : Hid (str ([] : Bs) ++ ⟨#[13, 10]⟩ = str (outP [] names not ++ [13, 10])) := crlf []
    clear hcr
    go_wp2_with fail
    go_loopw [8, 9] (fun v i wr => v = .string (str []) ∧ i = .int .i64 0 ∧ wr = w1) (fun _ _ _ => 0)
    case atStart => exact ⟨rfl, rfl, rfl⟩
    case round =>
      obtain ⟨rfl, rfl, rfl⟩ := hrel
      have hz2 : (str ([] : Bs)).size = 0 := rfl
      go_wp2_with fail
      go_ret
      refine ⟨?_, HB1.out⟩
      rw [← HX.out]
      rfl
  · have HR := hid hr
    clear hr
    go_wp2_with fail
    go_loopw [8, 9] (fun v i wr => ∃ k : Nat, k ≤ L.length ∧ i = .int .i64 k ∧ v = .string (str (outP (L.take k) names not)) ∧ Below w1.heap.size w1 wr ∧ (outP (L.take k) names not).length ≤ k * 1000000) (fun _ i _ => L.length - (intOf i).toNat)
    case atStart => exact ⟨0, by omega, rfl, rfl, Below.refl _ _, by simp [outP]⟩
    case round =>
      obtain ⟨k, hk, rfl, rfl, hb2, hol⟩ := hrel
      have HB2 := hid hb2
      have HOl := hid hol
      have hos := str_size (outP (L.take k) names not)
      have hob : ((outP (L.take k) names not).length : Int) ≤ 20000000000 := by omega
      clear hb2 hol
      by_cases hlt : k < L.length
      · have hlt' : (k : Int) < L.length := by omega
        have hrec : (L.map fR)[k]? = some (fR L[k]) := by rw [List.getElem?_map, List.getElem?_eq_getElem hlt]; rfl
        have hc0 : wr.cell? ⟨g, o + k * 2, none⟩ = some (.string (str L[k].1)) := (HR.out.later HB2.out).rec k _ hrec 0 _ rfl
        have HC1 : Hid (∀ W, Below w1.heap.size w1 W → W.cell? ⟨g, o + k * 2 + 1, none⟩ = some (.string (str L[k].2))) := fun W hW => (HR.out.later hW).rec k _ hrec 1 _ rfl
        have HN := hid (outP_next L names not k hlt)
        have hx := (HLs.out _ (List.getElem_mem hlt)).1
        have hz := (HLs.out _ (List.getElem_mem hlt)).2
        have HLn := hid (outP_le L names not k hlt HOl.out (by omega))
        have HK : Hid (keepE names not L[k] = (amongP L[k].1 names != not)) := rfl
        have HAp := hid (app_str (outP (L.take k) names not) L[k].2)
        have hzs := str_size L[k].2
        clear hrec
        generalize keepE names not L[k] = kp at *
        generalize L[k].1 = x at *
        generalize L[k].2 = z at *
        have HCn := hid (ramong_any x ((HNa.out.later HB1.out).later HB2.out) hnl (by omega) HNn.out)
        generalize hm : amongP x names = am at *
        cases hkp : kp
        · have hq : (am == not) = true := by have := HK.out; rw [hkp] at this; simpa using this.symm
          rw [hkp] at HN
          have HX : Hid (outP (L.take (k + 1)) names not = outP (L.take k) names not) := by rw [Hid, HN.out]; simp
          clear HK HN
          generalize outP (L.take k) names not = Q at *
          go_wp2_with fail
          refine HCn.out.mono ?_
          rintro e w3 ⟨rfl, hb3⟩
          have HB3 := hid (HB2.out.trans (hb3.mono HB2.out.size))
          clear hb3
          go_wp2_with fail
          go_roundw
          case rel => exact ⟨k + 1, by omega, by go_num, by rw [HX.out], HB3.out, HLn.out⟩
          case measure => simp [intOf]; omega
        · have hq : (am == not) = false := by have := HK.out; rw [hkp] at this; simpa using this.symm
          rw [hkp] at HN
          have HX : Hid (str (outP (L.take k) names not) ++ str z = str (outP (L.take (k + 1)) names not)) := by rw [Hid, HN.out, HAp.out]; simp
          clear HK HN
          generalize outP (L.take k) names not = Q at *
          go_wp2_with fail
          refine HCn.out.mono ?_
          rintro e w3 ⟨rfl, hb3⟩
          have HB3 := hid (HB2.out.trans (hb3.mono HB2.out.size))
          have hc3 := HC1.out w3 HB3.out
          clear hb3
          go_wp2_with fail
          go_roundw
          case rel => exact ⟨k + 1, by omega, by go_num, congrArg Value.string HX.out, HB3.out, HLn.out⟩
          case measure => simp [intOf]; omega
      · have hlt' : ¬ (k : Int) < L.length := by omega
        have hkl : L.take k = L := List.take_of_length_le (by omega)
        rw [hkl] at hos hob ⊢
        have HX := hid (crlf (outP L names not))
        clear hkl
        go_wp2_with fail
        go_ret
        refine ⟨?_, HB1.out.trans (HB2.out.mono HW1.out)⟩
        rw [← HX.out]
        rfl
end Go.Proofs.YtemgpghjolpneaaDoor
