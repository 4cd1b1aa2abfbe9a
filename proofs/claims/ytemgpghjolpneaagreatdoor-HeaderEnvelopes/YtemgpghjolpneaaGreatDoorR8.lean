/- What this text holds: the document's values of fields, and lines of fields. -/
import Derived.Test.YtemgpghjolpneaaGreatDoorR7
namespace Go.Proofs.YtemgpghjolpneaaGreatDoor
open Go.RowKit
set_option linter.unusedVariables false
set_option linter.unusedSimpArgs false

set_option maxRecDepth 100000 in
set_option maxHeartbeats 4000000 in
theorem rget_any {w : World} {vl vn : Value} {l : List (Bs × Bs)} {names : List Bs} (h : RL w vl 2 (l.map fR)) (h' : RL w vn 1 (names.map sR)) (hl : l.length ≤ 1000000) (hnl : names.length ≤ 1000000) (hf : ∀ f ∈ l, f.1.length ≤ 10000000 ∧ f.2.length ≤ 100000) (hn : ∀ n ∈ names, n.length ≤ 10000000) :
    Calls Tryz.prog 39 #[vl, vn] w fun e w' => (∃ v, e = .returned v ∧ RO w' w.heap.size 9 1 v ((getP l names).map sR)) ∧ Below w.heap.size w w' := by
  have HNa := hid h'
  clear h'
  obtain ⟨hw, a, c, rfl, hc, hr⟩ := h
  rw [List.length_map] at *
  rcases hr with hr | ⟨g, o, rfl, hr, hg⟩
  · have : l = [] := by simpa using hr
    subst this
    go_enter Tryz.func39, Tryz.ntmps39
    go_wp2_with fail
    go_loopw [5, 6] (fun v i wr => v = .slice none 0 0 ∧ i = .int .i64 0 ∧ wr = w) (fun _ _ _ => 0)
    case atStart => exact ⟨rfl, rfl, rfl⟩
    case round =>
      obtain ⟨rfl, rfl, rfl⟩ := hrel
      go_wp2_with fail
      go_ret
      exact ⟨⟨_, rfl, RO.nil _ _ _ _⟩, Below.refl _ _⟩
  · have HR := hid hr
    have HF := hid hf
    have HNn := hid hn
    clear hr hf hn
    go_enter Tryz.func39, Tryz.ntmps39
    go_wp2_with fail
    go_loopw [5, 6] (fun v i wr => ∃ k : Nat, k ≤ l.length ∧ i = .int .i64 k ∧ RO wr w.heap.size 9 1 v ((getP (l.take k) names).map sR) ∧ Below w.heap.size w wr) (fun _ i _ => l.length - (intOf i).toNat)
    case atStart => exact ⟨0, by omega, rfl, RO.nil _ _ _ _, Below.refl _ _⟩
    case round =>
      obtain ⟨k, hk, rfl, ho2, hb2⟩ := hrel
      have HB2 := hid hb2
      have HO2 := hid ho2
      clear ho2 hb2
      by_cases hlt : k < l.length
      · have hlt' : (k : Int) < l.length := by omega
        have hrec : (l.map fR)[k]? = some (fR l[k]) := by rw [List.getElem?_map, List.getElem?_eq_getElem hlt]; rfl
        have hc0 : wr.cell? ⟨g, o + k * 2, none⟩ = some (.string (str l[k].1)) := (HR.out.later HB2.out).rec k _ hrec 0 _ rfl
        have HC1 : Hid (∀ W, Below w.heap.size w W → W.cell? ⟨g, o + k * 2 + 1, none⟩ = some (.string (str l[k].2))) := fun W hW => (HR.out.later hW).rec k _ hrec 1 _ rfl
        have HN := hid (getP_next l names k hlt)
        have hx := (HF.out _ (List.getElem_mem hlt)).1
        have hy := (HF.out _ (List.getElem_mem hlt)).2
        have HGl : Hid ((getP (l.take k) names).length ≤ k) := by have := getP_len (l.take k) names; rw [List.length_take] at this; unfold Hid; omega
        clear hrec HF
        generalize l[k].1 = x at *
        generalize l[k].2 = y at *
        have HCn := hid (ramong_any x (HNa.out.later HB2.out) hnl hx HNn.out)
        have HUn := hid (fun W => runfold_any y W hy)
        rcases hm : amongP x names
        · rw [hm] at HCn HN
          go_wp2_with fail
          refine HCn.out.mono ?_
          rintro e w3 ⟨rfl, hb3⟩
          have HB3 := hid (HB2.out.trans (hb3.mono HB2.out.size))
          have HO3 := hid (HO2.out.later hb3)
          clear hb3
          go_wp2_with fail
          go_roundw
          case rel => exact ⟨k + 1, by omega, by go_num, by rw [HN.out]; simpa using HO3.out, HB3.out⟩
          case measure => simp [intOf]; omega
        · rw [hm] at HCn HN
          go_wp2_with fail
          refine HCn.out.mono ?_
          rintro e w3 ⟨rfl, hb3⟩
          have HB3 := hid (HB2.out.trans (hb3.mono HB2.out.size))
          have HO3 := hid (HO2.out.later hb3)
          have hc3 := HC1.out w3 HB3.out
          clear hb3
          obtain ⟨v', w', hr', ho', hb'⟩ := ro_one Tryz.underlying24 Tryz.info9 rfl (by omega) (by omega) HO3.out HB3.out.size (by have := HGl.out; simp; omega) (sR (unf y)) rfl w3.heap.size rfl
          have HR' := hid hr'
          have HO' : Hid (RO w' w.heap.size 9 1 v' ((getP (l.take (k + 1)) names).map sR)) := by
            rw [Hid, HN.out, List.map_append]
            exact ho'
          have HB' := hid (HB3.out.trans hb')
          clear hr' ho' hb' HN
          obtain ⟨a0, c0, hv0⟩ := HO2.out.slice
          obtain ⟨a5, c5, hv5⟩ := HO'.out.slice
          rw [List.length_map] at hv0 hv5
          generalize (getP (l.take k) names).length = n0 at *
          generalize (getP (l.take (k + 1)) names).length = n5 at *
          subst hv0 hv5
          go_wp2_with fail
          refine (HUn.out _).mono ?_
          rintro e w4 ⟨rfl, rfl⟩
          go_wp2_with (at_builtin; refine wpList_append_run rfl rfl HR'.out ?_)
          go_roundw
          case rel => exact ⟨k + 1, by omega, by go_num, HO'.out, HB'.out⟩
          case measure => simp [intOf]; omega
      · have hlt' : ¬ (k : Int) < l.length := by omega
        go_wp2_with fail
        go_ret
        have e := HO2.out
        rw [List.take_of_length_le (by omega)] at e
        exact ⟨⟨_, rfl, e⟩, HB2.out⟩

theorem crlf (x : Bs) : str x ++ ⟨#[13, 10]⟩ = str (x ++ [13, 10]) := by rw [show (⟨#[13, 10]⟩ : ByteArray) = str [13, 10] from rfl, app_str]
end Go.Proofs.YtemgpghjolpneaaGreatDoor
