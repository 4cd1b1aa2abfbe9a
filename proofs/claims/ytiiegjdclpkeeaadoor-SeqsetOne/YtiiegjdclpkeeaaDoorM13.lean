/- What this text holds: the set of some numbers. -/
import Derived.Test.YtiiegjdclpkeeaaDoorM12
import Derived.Test.YtiiegjdclpkeeaaDoorM8
import Derived.Test.YtiiegjdclpkeeaaDoorM6
namespace Go.Proofs.YtiiegjdclpkeeaaDoor
open Go.RowKit
set_option linter.unusedVariables false
set_option linter.unusedSimpArgs false

def goodB (n : Int) : Bool := decide (1 ≤ n) && decide (n ≤ mx)
def good (l : List Int) : List Int := l.filter goodB
theorem good_next (l : List Int) (k : Nat) (hk : k < l.length) : good (l.take (k + 1)) = good (l.take k) ++ (if goodB l[k] then [l[k]] else []) := by
  unfold good
  rw [List.take_succ_eq_append_getElem hk, List.filter_append]
  by_cases h : goodB l[k] = true <;> simp [h]
theorem good_len (l : List Int) : (good l).length ≤ l.length := List.length_filter_le _ _
theorem mem_good (l : List Int) (n : Int) : n ∈ good l ↔ n ∈ l ∧ 1 ≤ n ∧ n ≤ mx := by
  unfold good goodB; rw [List.mem_filter]; simp
theorem wf_of {x : Int} (h0 : 0 ≤ x) (h1 : x ≤ 4294967295) : (Lit.int .i64 x).wf = true := by
  simp [Lit.wf, IntKind.min, IntKind.max, IntKind.bits, IntKind.signed]; omega
theorem keys_len (D : DataW Unit) : (intKeys D).length ≤ Maps.size D := by cases D <;> simp [intKeys, Maps.size]
/-- What Of answers. -/
def OfIs (l : List Int) (w : World) (e : Ending) (w' : World) : Prop := (∃ v L, e = .returned v ∧ GO eSp w' w.heap.size v L ∧ Rise L ∧ (∀ n, memS L n ↔ n ∈ l ∧ 1 ≤ n ∧ n ≤ mx) ∧ L.length ≤ l.length) ∧ Below w.heap.size w w'
set_option maxRecDepth 100000 in
set_option maxHeartbeats 8000000 in
theorem of_any {w : World} {u : Value} {l : List Int} (hu : GL eI w u l) (hl : l.length ≤ 1000000) : Calls Tryd.prog 6 #[u] w (OfIs l w) := by
  obtain ⟨a, c, rfl, hg, hc⟩ := gl_slice hu
  have HG := hid hg
  have hmm := @run_makeMap Tryd.prog
  clear hg hu
  go_enter Tryd.func6, Tryd.ntmps6
  go_wp2_with fail
  clear hmm
  go_loopw [14] (fun i wr => ∃ k : Nat, k ≤ l.length ∧ i = .int .i64 k ∧ wr.ownsMap Tryd.prog 3 unitElem w.heap.size k (dOf (good (l.take k))) ∧ Below w.heap.size w wr) (fun i _ => l.length - (intOf i).toNat)
  case atStart => exact ⟨0, by omega, rfl, World.ownsMap_made _ _ _ _, (Below.refl _ _).alloc (Nat.le_refl _) _⟩
  case round =>
    obtain ⟨k, hk, rfl, hm, hb⟩ := hrel
    have HM := hid hm
    have HB := hid hb
    clear hm hb
    by_cases hlt : k < l.length
    · have hlt' : (k : Int) < l.length := by omega
      have hne : l ≠ [] := by rintro rfl; simp at hlt
      obtain ⟨g, o, rfl, hga, hgz⟩ := HG.out hne
      have hc0 := (hga.later HB.out).i k l[k] (List.getElem?_eq_getElem hlt)
      have HN := hid (good_next l k hlt)
      clear hga hne HG
      generalize l[k] = x at *
      by_cases h1 : 1 ≤ x
      · by_cases h2 : x ≤ 4294967295
        · have HX : Hid (goodB x = true) := by unfold goodB mx; simp [Hid, h1, h2]
          rw [HX.out] at HN
          have HK : Hid (dOf (good (l.take (k + 1))) = (dOf (good (l.take k))).put (.int .i64 x) (.agg [])) := by rw [Hid, HN.out, if_pos rfl]; exact dOf_snoc _ _
          have d1 : decide (1 ≤ x) = true := by simpa using h1
          have d2 : decide (x ≤ 4294967295) = true := by simpa using h2
          go_wp2_with (at_mapUpdate; refine wpList_mapUpdate_own _ rfl _ _ _ 40 rfl 3 41 (Maps.int_keyed Tryd.underlying3) Tryd.underlying40 unitElem w.heap.size k _ rfl HM.out (by unfold maxLen; omega) _ _ _ rfl rfl (Maps.keyOf_int_mk Tryd.underlying3 (wf_of (by omega) h2)) (.agg []) [] unitElem_mk ?_; intro w1 hown1 hgrow1)
          have HO1 := hid hown1
          have HB1 : Hid (Below w.heap.size w w1) := HB.out.grown hgrow1 HB.out.size (fun k e => by cases e; exact Nat.le_refl _)
          clear hown1 hgrow1
          go_wp2_with fail
          go_roundw
          case rel => exact ⟨k + 1, by omega, by go_num, by rw [HK.out]; exact HO1.out, HB1.out⟩
          case measure => simp [intOf]; omega
        · have HX : Hid (goodB x = false) := by unfold goodB mx; simp [Hid]; omega
          rw [HX.out] at HN
          have HK : Hid (dOf (good (l.take (k + 1))) = dOf (good (l.take k))) := by rw [Hid, HN.out]; simp
          have d1 : decide (1 ≤ x) = true := by simpa using h1
          have d2 : decide (x ≤ 4294967295) = false := by simpa using h2
          go_wp2_with fail
          go_roundw
          case rel => exact ⟨k + 1, by omega, by go_num, by rw [HK.out]; exact HM.out.mono (by omega), HB.out⟩
          case measure => simp [intOf]; omega
      · have HX : Hid (goodB x = false) := by unfold goodB mx; simp [Hid]; omega
        rw [HX.out] at HN
        have HK : Hid (dOf (good (l.take (k + 1))) = dOf (good (l.take k))) := by rw [Hid, HN.out]; simp
        have d1 : decide (1 ≤ x) = false := by simpa using h1
        go_wp2_with fail
        go_roundw
        case rel => exact ⟨k + 1, by omega, by go_num, by rw [HK.out]; exact HM.out.mono (by omega), HB.out⟩
        case measure => simp [intOf]; omega
    · have hlt' : ¬ (k : Int) < l.length := by omega
      have e : l.take k = l := List.take_of_length_le (by omega)
      rw [e] at HM
      have HGm := hid (fun n => mem_good l n)
      have hgl := good_len l
      generalize good l = acc at *
      have hsz : Maps.size (dOf acc) ≤ 1000000 := by have := dOf_size acc; omega
      have C := sorted_any w.heap.size k (dOf acc) unitElem wr HM.out hsz
      go_wp2_with fail
      refine (keys_any _ _).mono ?_
      rintro e w1 ⟨rfl, rfl⟩
      go_wp2_with fail
      refine C.mono ?_
      clear C
      rintro e w2 ⟨⟨v2, ss, rfl, hp, ho2⟩, hb2⟩
      have HKs := hid (keys_sorted HM.out hp)
      have hls : (ss.mergeSort leI).length ≤ acc.length := by
        rw [List.length_mergeSort, hp.length_eq]
        exact Nat.le_trans (keys_len _) (dOf_size acc)
      have HB2 := hid (HB.out.trans (hb2.mono HB.out.size))
      have HM2 := hid (own_later HM.out hb2 HM.out.lt)
      obtain ⟨a2, c2, rfl, hg2, hc2⟩ := gl_slice ho2.gl
      have HG2 := hid hg2
      clear ho2 hb2 hg2 hp HB HM hsz
      generalize ss.mergeSort leI = ks at *
      have hml : w.heap.size < w2.heap.size := HM2.out.lt
      go_wp2_with fail
      go_loopw [6, 32] (fun v i wr => ∃ (k : Nat) (L : List Sp), k ≤ ks.length ∧ i = .int .i64 k ∧ GO eSp wr w2.heap.size v L ∧ OInv (ks.take k) L ∧ L.length ≤ k ∧ Below w2.heap.size w2 wr) (fun _ i _ => ks.length - (intOf i).toNat)
      case atStart => exact ⟨0, [], by omega, rfl, GO.nil _ _ _, oinv_nil, by simp, Below.refl _ _⟩
      case round =>
        generalize hkk : k = kk at *
        clear hkk
        obtain ⟨k, L, hk2, rfl, ho, hj, hL, hb⟩ := hrel
        have HO := hid ho
        have HJ := hid hj
        have HB := hid hb
        clear ho hj hb
        by_cases hlt2 : k < ks.length
        · have hlt3 : (k : Int) < ks.length := by omega
          have hne : ks ≠ [] := by rintro rfl; simp at hlt2
          obtain ⟨g2, o2, rfl, hga, hgz⟩ := HG2.out hne
          have hc0 := (hga.later HB.out).i k ks[k] (List.getElem?_eq_getElem hlt2)
          have HMr := hid (own_later HM2.out HB.out hml)
          have hxg := HGm.out ks[k]
          rw [← HKs.out.2 ks[k]] at hxg
          obtain ⟨_, hx1, hx2⟩ := hxg.1 (List.getElem_mem hlt2)
          have HD := hid (before_lt HKs.out.1 k hlt2)
          have HIn := hid (before_in HKs.out.1 k hlt2 (ks[k] - 1))
          have HT := hid (List.take_succ_eq_append_getElem hlt2)
          clear hga hne HG2 hxg
          generalize ks[k] = x at *
          unfold mx at hx2
          have HHas : Hid (Maps.has (dOf acc) (.int .i64 (x - 1)) = decide (x - 1 ∈ ks)) := by
            rw [Hid, dOf_has, decide_eq_decide]; exact (HKs.out.2 _).symm
          have hba : Below wr.heap.size wr (wr.alloc (.cells #[] 41)) := (Below.refl _ _).alloc (Nat.le_refl _) _
          have HBa := hid (HB.out.trans (hba.mono HB.out.size))
          have HOa := hid (HO.out.later hba)
          clear hba
          by_cases hin : x - 1 ∈ ks
          · have din : decide (x - 1 ∈ ks) = true := by simpa using hin
            rw [din] at HHas
            have HYes := hid (HIn.out hin (by omega))
            rcases List.eq_nil_or_concat L with hz | ⟨L', a, hz⟩
            · exact absurd hz (oinv_ne HJ.out HYes.out)
            · rw [List.concat_eq_append] at hz
              subst hz
              rw [List.length_append, List.length_singleton] at hL
              obtain ⟨a0, c0, hv0⟩ := HO.out.slice (n := L'.length + 1) (by simp)
              subst hv0
              obtain ⟨ga, c9, e9, _⟩ := ownsRow_some HO.out (by simp)
              have e8 : a0 = some ⟨ga, 0, none⟩ := by injection e9
              subst e8
              clear e9
              have hsub : ((L'.length + 1 : Nat) : Int) - 1 = L'.length := by omega
              have hl0 : (0 : Int) ≤ L'.length := by omega
              have hlc : (L'.length : Int) < ((L'.length + 1 : Nat) : Int) := by omega
              have hl1 : L'.length ≤ 1000000 := by omega
              have hst := sp_set HOa.out (by simp) L'.length (by simp) x
              rw [last_set] at hst
              have hfz := hst.1
              have HS2 := hid hst.2
              have hca : (wr.alloc (.cells #[] 41)).cell? ⟨ga, L'.length * 2 + 1, none⟩ = some (.int .i64 a.2) := by
                obtain ⟨a1, c1, hv1, hcc, hga⟩ := HOa.out.gl
                rcases hga with hga | ⟨g', o', e, hga, _⟩
                · simp at hga
                · simp only [Value.slice.injEq] at hv1
                  rw [e] at hv1
                  obtain ⟨e2, _⟩ := hv1
                  simp only [Option.some.injEq, Addr.mk.injEq, and_true] at e2
                  obtain ⟨rfl, rfl⟩ := e2
                  have := (hga.sp L'.length a (by simp)).2
                  simpa using this
              clear hst
              have HB' := hid (HBa.out.setCell (p := ⟨ga, L'.length * 2 + 1, none⟩) HS2.out.2 (.int .i64 x))
              have HJ' : Hid (OInv (ks.take (k + 1)) (L' ++ [(a.1, x)])) := by rw [Hid, HT.out]; exact oinv_old HJ.out hx1 HD.out HYes.out
              go_wp2_with (at_lookup; refine wpList_lookup_own_unit _ rfl _ _ 40 rfl 3 41 (Maps.int_keyed Tryd.underlying3) Tryd.underlying40 (Tryd.zeroValue41 _) w.heap.size kk _ rfl HMr.out _ _ rfl (Maps.keyOf_int_mk Tryd.underlying3 (wf_of (by omega) (by omega))) ?_; rw [HHas.out])
              go_roundw
              case rel => exact ⟨k + 1, _, by omega, by go_num, HS2.out.1, HJ'.out, by simp; omega, HB'.out⟩
              case measure => simp [intOf]; omega
          · have din : decide (x - 1 ∈ ks) = false := by simpa using hin
            rw [din] at HHas
            obtain ⟨v', w', hr', ho', hb', _⟩ := go_one eSp HOa.out HBa.out.size (by omega) (x, x) (wr.heap.size + 1) (by simp)
            have HR' := hid hr'
            have HO' := hid ho'
            have HB' := hid (HBa.out.trans hb')
            clear hr' ho' hb'
            obtain ⟨a0, c0, hv0⟩ := HO.out.slice (n := L.length) rfl
            obtain ⟨a5, c5, hv5⟩ := HO'.out.slice (n := L.length + 1) (by simp)
            subst hv0 hv5
            have HJ' : Hid (OInv (ks.take (k + 1)) (L ++ [(x, x)])) := by rw [Hid, HT.out]; exact oinv_new HJ.out hx1 HD.out (fun e => hin (List.mem_of_mem_take e))
            go_wp2_with (first | (at_lookup; refine wpList_lookup_own_unit _ rfl _ _ 40 rfl 3 41 (Maps.int_keyed Tryd.underlying3) Tryd.underlying40 (Tryd.zeroValue41 _) w.heap.size kk _ rfl HMr.out _ _ rfl (Maps.keyOf_int_mk Tryd.underlying3 (wf_of (by omega) (by omega))) ?_; rw [HHas.out]) | (at_builtin; refine wpList_append_run rfl rfl HR'.out ?_))
            go_roundw
            case rel => exact ⟨k + 1, _, by omega, by go_num, HO'.out, HJ'.out, by simp; omega, HB'.out⟩
            case measure => simp [intOf]; omega
        · have hlt3 : ¬ (k : Int) < ks.length := by omega
          have e2 : ks.take k = ks := List.take_of_length_le (by omega)
          rw [e2] at HJ
          have HFin : Hid (∀ n, memS L n ↔ n ∈ l ∧ 1 ≤ n ∧ n ≤ mx) := fun n => ((HJ.out.2 n).trans (HKs.out.2 n)).trans (HGm.out n)
          go_wp2_with fail
          go_ret
          exact ⟨⟨_, L, rfl, HO.out.base HB2.out.size, HJ.out.1, HFin.out, by omega⟩, HB2.out.trans (HB.out.mono HB2.out.size)⟩
end Go.Proofs.YtiiegjdclpkeeaaDoor
