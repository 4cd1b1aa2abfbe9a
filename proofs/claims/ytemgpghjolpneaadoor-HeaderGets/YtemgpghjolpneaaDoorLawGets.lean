/- Proved here: the values of fields with some names, and the lines of those with them, or without, are as the document says (HeaderGets returns true for every input, and leaves its arguments as they were). No condition beyond what the card says: two tables of the library hold what its text lays. -/
import Derived.Test.YtemgpghjolpneaaDoorCards
import Derived.Test.YtemgpghjolpneaaDoorTie
import Derived.Test.YtemgpghjolpneaaDoorFrame
import Derived.Test.YtemgpghjolpneaaDoorR8
import Derived.Test.YtemgpghjolpneaaDoorOpen
import Derived.Deep.SlicePairs
import Derived.ProofKit
import Derived.OpenShut
import Derived.ShutString
import Derived.Below
namespace Go.Proofs.YtemgpghjolpneaaDoor.headerGets
open Go.ChangeShapes Go.WideShapes Go.ChangeAt Go.RowKit
open Go.ChangeMaps (open_string shut_string)
set_option linter.unusedVariables false
set_option linter.unusedSimpArgs false

/-- Fields lie in a slice. -/
structure FieldsOk (W : World) (a : Option Addr) (len cap : Nat) (l : List (Bs × Bs)) : Prop where
  rl : RL W (.slice a len cap) 2 (l.map fR)
  len_ : l.length = len
  small : len ≤ maxLen
  each : ∀ x ∈ l, x.1.length ≤ maxLen ∧ x.2.length ≤ maxLen
theorem open_fields {H : Type} {enc : TypeId × Value → H} {W : World} {held : Bool} {fuel : Nat} {a : Option Addr} {len cap : Nat} {x : DataW H × List MemPlace} (h : DataW.trod enc Tryd.prog W 0 (fun _ => true) held fuel 26 [.slice a len cap] = some x) :
    ∃ l : List (Bs × Bs), FieldsOk W a len cap l := by
  rcases Go.Deep.open_slice_pairs Tryd.underlying26 Tryd.underlying31 cells31 rfl rfl cells9 cells9 h with ⟨hcs, _⟩ | ⟨a', len', cap', m, n, V0, V1, D0, D1, P0, P1, hcs, _, hl, hm, hmm, _, hx⟩
  · simp only [List.cons.injEq, Value.slice.injEq, and_true] at hcs
    obtain ⟨rfl, rfl, rfl⟩ := hcs
    exact ⟨[], ⟨fun r hr => by simp at hr, none, 0, rfl, Nat.le_refl _, .inl rfl⟩, rfl, by unfold maxLen; omega, fun s hs => nomatch hs⟩
  · simp only [List.cons.injEq, Value.slice.injEq, and_true] at hcs
    obtain ⟨rfl, rfl, rfl⟩ := hcs
    simp only [if_true] at hmm
    subst hmm
    have hact : ∀ i, i < m → ∃ p : Bs × Bs, W.cell? (a'.add (i * 2)) = some (.string (str p.1)) ∧ W.cell? (a'.add (i * 2 + 1)) = some (.string (str p.2)) ∧ p.1.length ≤ maxLen ∧ p.2.length ≤ maxLen := fun i hi => by
      obtain ⟨c0, c1, t0, t1⟩ := hx i hi
      obtain ⟨s0, e0, _, z0⟩ := DataW.trod_string Tryd.underlying9 t0
      obtain ⟨s1, e1, _, z1⟩ := DataW.trod_string Tryd.underlying9 t1
      simp only [List.cons.injEq, and_true] at e0 e1
      rw [Go.Lib.size_eq] at z0 z1
      exact ⟨(s0.data.toList, s1.data.toList), by rw [c0, e0, str_of], by rw [c1, e1, str_of], z0, z1⟩
    have hinh : Inhabited (Bs × Bs) := ⟨([], [])⟩
    obtain ⟨f, hf⟩ := Go.Deep.choose_lt hact
    have hln : ((List.range len).map f).length = len := by simp
    refine ⟨(List.range len).map f, ⟨?_, some a', m, by rw [List.length_map, hln], by rw [List.length_map, hln]; exact hl, ?_⟩, hln, by omega, ?_⟩
    · intro r hr
      obtain ⟨e, _, rfl⟩ := List.mem_map.1 hr
      rfl
    · by_cases h0 : len = 0
      · left; exact List.eq_nil_of_length_eq_zero (by rw [List.length_map, hln]; exact h0)
      · right
        obtain ⟨kb, ko, sp⟩ := a'
        have h00 := (hf 0 (by omega)).1
        rw [Nat.zero_mul] at h00
        obtain rfl := spot_none h00
        refine ⟨kb, ko, rfl, fun j i r y hj hi => ?_, ?_⟩
        · rw [List.getElem?_map, List.getElem?_map] at hj
          obtain ⟨q, hq, rfl⟩ := Option.map_eq_some_iff.1 hj
          obtain ⟨s, hs, rfl⟩ := Option.map_eq_some_iff.1 hq
          obtain ⟨hjl, hsj⟩ := List.getElem?_eq_some_iff.1 hs
          have hjl2 : j < len := by simpa using hjl
          have hsj2 : s = j := by rw [← hsj]; simp
          subst hsj2
          obtain ⟨c0, c1, _⟩ := hf s (by omega)
          rw [Addr.add_mid] at c0 c1
          match i, hi with
          | 0, hi =>
            simp [fR] at hi
            subst hi
            exact c0
          | 1, hi =>
            simp [fR] at hi
            subst hi
            exact c1
          | (i + 2), hi => simp [fR] at hi
        · exact World.block_lt_of_cell? W _ h00
    · intro y hy
      obtain ⟨i, hi, rfl⟩ := List.mem_map.1 hy
      have hi2 : i < len := by simpa using hi
      exact (hf i (by omega)).2.2
def tot2 : List (Bs × Bs) → Nat
  | [] => 0
  | e :: l => min e.1.length 5000 + min e.2.length 5000 + tot2 l
theorem tot2_append (l m : List (Bs × Bs)) : tot2 (l ++ m) = tot2 l + tot2 m := by
  induction l with
  | nil => simp [tot2]
  | cons a l ih => rw [List.cons_append, tot2, tot2, ih]; omega
theorem tot2_next (l : List (Bs × Bs)) (k : Nat) (hk : k < l.length) : tot2 (l.take (k + 1)) = tot2 (l.take k) + min l[k].1.length 5000 + min l[k].2.length 5000 := by
  rw [List.take_succ_eq_append_getElem hk, tot2_append, tot2, tot2]; omega
theorem tot2_le (l : List (Bs × Bs)) : tot2 l ≤ 10000 * l.length := by
  induction l with
  | nil => simp [tot2]
  | cons a l ih => rw [tot2, List.length_cons]; omega
theorem tot2_each (l : List (Bs × Bs)) (h : tot2 l ≤ 4000) : ∀ x ∈ l, x.1.length ≤ 4000 ∧ x.2.length ≤ 4000 := by
  induction l with
  | nil => simp
  | cons a l ih =>
    rw [tot2] at h
    intro x hx
    rcases List.mem_cons.1 hx with rfl | hx
    · omega
    · exact ih (by omega) x hx
theorem later3 {w W : World} {a : Option Addr} {len cap : Nat} {l : List Bs} (h : TextsOk w a len cap l) (hW : Below w.heap.size w W) : TextsOk W a len cap l := ⟨h.rl.later hW, h.len_, h.small, h.each⟩
theorem getb (l : List (Bs × Bs)) (names : List Bs) (h : l.length ≤ 1000000) : (getP l names).length ≤ 1000000 := Nat.le_trans (getP_len l names) h

set_option maxRecDepth 100000 in
set_option maxHeartbeats 16000000 in
theorem walk (a0 : ByteArray) {w : World} (a1 : Option Addr) (len1 cap1 : Nat) (l : List (Bs × Bs)) (hl1 : FieldsOk w a1 len1 cap1 l) (nt : Bool) (a3 : Option Addr) (len3 cap3 : Nat) (ns : List Bs) (hl3 : TextsOk w a3 len3 cap3 ns) (he : Env w) (h0 : a0.size ≤ maxLen) :
    Calls Tryd.prog 4 #[.string a0, .slice a1 len1 cap1, .bool nt, .slice a3 len3 cap3] w fun e w' => e = .returned (.bool true) ∧ Below w.heap.size w w' := by
  obtain ⟨s, rfl⟩ : ∃ s, a0 = str s := ⟨a0.data.toList, (str_of a0).symm⟩
  unfold maxLen at h0
  have hx := str_size s
  rw [hx] at h0
  have HE := hid he
  have HFew := hid (fun W (hW : Below w.heap.size w W) => few_any (later3 hl3 hW))
  have HRN := hid hl3.rl
  clear he
  obtain ⟨hr, rfl, hsm, hea⟩ := hl1
  unfold maxLen at hsm
  have HRF := hid hr
  have HM := hid hea
  clear hea hl3
  obtain ⟨hw, a', c', e1, hc, hr⟩ := hr
  simp only [Value.slice.injEq] at e1
  obtain ⟨rfl, _, rfl⟩ := e1
  rw [List.length_map] at *
  rcases hr with hr | ⟨g, o, rfl, hr, hg⟩
  · have : l = [] := by simpa using hr
    subst this
    go_enter Tryd.func4, Tryd.ntmps4
    go_wp2_with fail
    go_loopw [9, 10] (fun v i wr => v = .int .i64 0 ∧ i = .int .i64 0 ∧ wr = w) (fun _ _ _ => 0)
    case atStart => exact ⟨rfl, rfl, rfl⟩
    case round =>
      obtain ⟨rfl, rfl, rfl⟩ := hrel
      have HBr := hid (Below.refl wr.heap.size wr)
      have HTt : Hid (tot2 ([] : List (Bs × Bs)) ≤ 4000) := by simp [Hid, tot2]
      by_cases g0 : (4000 : Int) < s.length
      · go_wp2_with fail
        refine (alive_any (HE.out.later HBr.out)).mono ?_
        rintro e wz ⟨rfl, hb⟩
        have HBz := hid (HBr.out.trans (hb.mono HBr.out.size))
        clear hb
        go_wp2_with fail
        go_ret
        exact ⟨rfl, HBz.out⟩
      · skip
        have HFew2 := hid (HFew.out _ HBr.out)
        rcases hf : fewP ns
        · rw [hf] at HFew2
          go_wp2_with fail
          refine HFew2.out.mono ?_
          rintro e wf ⟨rfl, rfl⟩
          go_wp2_with fail
          refine (alive_any (HE.out.later HBr.out)).mono ?_
          rintro e wz ⟨rfl, hb⟩
          have HBz := hid (HBr.out.trans (hb.mono HBr.out.size))
          clear hb
          go_wp2_with fail
          go_ret
          exact ⟨rfl, HBz.out⟩
        · rw [hf] at HFew2
          obtain ⟨hnl, hne⟩ := few_yes hf
          have hte := tot2_each [] HTt.out
          have HC1 := hid (fun W (h : Env W) => unfold_any s h (by omega))
          have HC2 := hid (fun W => runfold_any s W (by omega))
          have HC3 := hid (fun W (h : Env W) v1 v3 (q1 : RL W v1 2 (([] : List (Bs × Bs)).map fR)) (q3 : RL W v3 1 (ns.map sR)) => get_any h q1 q3 (by first | omega | simp) (by omega) (fun f hf => by have := hte f hf; omega) (fun n hn => by have := hne n hn; omega))
          have HC4 := hid (fun W v1 v3 (q1 : RL W v1 2 (([] : List (Bs × Bs)).map fR)) (q3 : RL W v3 1 (ns.map sR)) => rget_any q1 q3 (by first | omega | simp) (by omega) (fun f hf => by have := hte f hf; omega) (fun n hn => by have := hne n hn; omega))
          have HC5 := hid (fun W (h : Env W) v3 (q3 : RL W v3 1 (ns.map sR)) => only_any s nt h q3 (by omega) (by omega) (fun n hn => by have := hne n hn; omega))
          have HC6 := hid (fun W v3 (q3 : RL W v3 1 (ns.map sR)) => ronly_any s nt q3 (by omega) (by omega) (fun n hn => by have := hne n hn; omega))
          have HGb := hid (getb [] ns (by first | omega | simp))
          have qa : ((str (unf s)).toList == (str (unf s)).toList) = true := by simp
          have qb : ((str (onlyP s nt ns)).toList == (str (onlyP s nt ns)).toList) = true := by simp
          clear hf hte hne
          generalize getP [] ns = G at *
          generalize unf s = U at *
          generalize onlyP s nt ns = P at *
          go_wp2_with fail
          refine HFew2.out.mono ?_
          rintro e wf ⟨rfl, rfl⟩
          go_wp2_with fail
          refine (HC1.out _ (HE.out.later HBr.out)).mono ?_
          rintro e w2 ⟨rfl, hb⟩
          have HB2 := hid (HBr.out.trans (hb.mono HBr.out.size))
          clear hb
          go_wp2_with fail
          refine (HC2.out _).mono ?_
          rintro e w2b ⟨rfl, rfl⟩
          go_wp2_with fail
          refine (HC3.out _ (HE.out.later HB2.out) _ _ (HRF.out.later HB2.out) (HRN.out.later HB2.out)).mono ?_
          rintro e w3 ⟨⟨v3, rfl, ho3⟩, hb⟩
          have HO3 := hid ho3.rl
          have HB3 := hid (HB2.out.trans (hb.mono HB2.out.size))
          clear hb ho3
          go_wp2_with fail
          refine (HC4.out _ _ _ (HRF.out.later HB3.out) (HRN.out.later HB3.out)).mono ?_
          rintro e w4 ⟨⟨v4, rfl, ho4⟩, hb⟩
          have HO4 := hid ho4.rl
          have HO5 := hid (HO3.out.later hb)
          have HB4 := hid (HB3.out.trans (hb.mono HB3.out.size))
          clear hb ho4
          have C7 := texts_any HO5.out HO4.out HGb.out HGb.out
          rw [show decide (G = G) = true by simp] at C7
          go_wp2_with fail
          refine C7.mono ?_
          rintro e w5 ⟨rfl, hb⟩
          have HB5 := hid (HB4.out.trans (hb.mono HB4.out.size))
          clear hb C7
          go_wp2_with fail
          refine (HC5.out _ (HE.out.later HB5.out) _ (HRN.out.later HB5.out)).mono ?_
          rintro e w6 ⟨rfl, hb⟩
          have HB6 := hid (HB5.out.trans (hb.mono HB5.out.size))
          clear hb
          go_wp2_with fail
          refine (HC6.out _ _ (HRN.out.later HB6.out)).mono ?_
          rintro e w7 ⟨rfl, hb⟩
          have HB7 := hid (HB6.out.trans (hb.mono HB6.out.size))
          clear hb
          go_wp2_with fail
          refine (alive_any (HE.out.later HB7.out)).mono ?_
          rintro e wz ⟨rfl, hb⟩
          have HBz := hid (HB7.out.trans (hb.mono HB7.out.size))
          clear hb
          go_wp2_with fail
          go_ret
          exact ⟨rfl, HBz.out⟩
  · have HR := hid hr
    clear hr
    go_enter Tryd.func4, Tryd.ntmps4
    go_wp2_with fail
    go_loopw [9, 10] (fun v i wr => ∃ k : Nat, k ≤ l.length ∧ k ≤ 101 ∧ i = .int .i64 k ∧ v = .int .i64 (tot2 (l.take k)) ∧ Below w.heap.size w wr) (fun _ i _ => 101 - (intOf i).toNat)
    case atStart => exact ⟨0, by omega, by omega, rfl, rfl, Below.refl _ _⟩
    case round =>
      obtain ⟨k, hk, hk1, rfl, rfl, hb⟩ := hrel
      have HBr := hid hb
      clear hb
      have htl := tot2_le (l.take k)
      rw [List.length_take] at htl
      by_cases hlt : k < l.length
      · have hlt' : (k : Int) < l.length := by omega
        by_cases h30 : k ≤ 100
        · have h30' : (k : Int) ≤ 100 := by omega
          have HN := hid (tot2_next l k hlt)
          have hs1 := str_size l[k].1
          have hs2 := str_size l[k].2
          have hml := HM.out l[k] (List.getElem_mem hlt)
          unfold maxLen at hml
          have hrec : (l.map fR)[k]? = some (fR l[k]) := by rw [List.getElem?_map, List.getElem?_eq_getElem hlt]; rfl
          have hc0 : wr.cell? ⟨g, o + k * 2, none⟩ = some (.string (str l[k].1)) := (HR.out.later HBr.out).rec k _ hrec 0 _ rfl
          have hc1 : wr.cell? ⟨g, o + k * 2 + 1, none⟩ = some (.string (str l[k].2)) := (HR.out.later HBr.out).rec k _ hrec 1 _ rfl
          generalize tot2 (l.take k) = T at *
          generalize l[k].1 = x at *
          generalize l[k].2 = y at *
          generalize hq1 : x.length = M1 at *
          generalize hq2 : y.length = M2 at *
          have hT : (T : Int) ≤ 2000000 := by omega
          have hm1 : (0 : Int) ≤ (M1 : Int) := by omega
          have hm2 : (0 : Int) ≤ (M2 : Int) := by omega
          clear htl hq1 hq2 hrec
          go_wp2_with fail
          go_quiet (fail)
          go_wp2_with fail
          go_roundw
          case rel => exact ⟨k + 1, by omega, by omega, by go_num, by rw [HN.out]; congr 1; omega, HBr.out.trans (drewN_below _ _ _)⟩
          case measure => simp [intOf]; omega
        · have h30' : ¬ (k : Int) ≤ 100 := by omega
          have hlen : (100 : Int) < l.length := by omega
          by_cases g0 : (4000 : Int) < s.length
          · go_wp2_with fail
            refine (alive_any (HE.out.later HBr.out)).mono ?_
            rintro e wz ⟨rfl, hb⟩
            have HBz := hid (HBr.out.trans (hb.mono HBr.out.size))
            clear hb
            go_wp2_with fail
            go_ret
            exact ⟨rfl, HBz.out⟩
          · go_wp2_with fail
            refine (alive_any (HE.out.later HBr.out)).mono ?_
            rintro e wz ⟨rfl, hb⟩
            have HBz := hid (HBr.out.trans (hb.mono HBr.out.size))
            clear hb
            go_wp2_with fail
            go_ret
            exact ⟨rfl, HBz.out⟩
      · have hlt' : ¬ (k : Int) < l.length := by omega
        have hkl : l.take k = l := List.take_of_length_le (by omega)
        rw [hkl] at htl ⊢
        clear hkl
        by_cases g0 : (4000 : Int) < s.length
        · go_wp2_with fail
          refine (alive_any (HE.out.later HBr.out)).mono ?_
          rintro e wz ⟨rfl, hb⟩
          have HBz := hid (HBr.out.trans (hb.mono HBr.out.size))
          clear hb
          go_wp2_with fail
          go_ret
          exact ⟨rfl, HBz.out⟩
        · by_cases hlen : (100 : Int) < l.length
          · go_wp2_with fail
            refine (alive_any (HE.out.later HBr.out)).mono ?_
            rintro e wz ⟨rfl, hb⟩
            have HBz := hid (HBr.out.trans (hb.mono HBr.out.size))
            clear hb
            go_wp2_with fail
            go_ret
            exact ⟨rfl, HBz.out⟩
          · by_cases gt : (4000 : Int) < tot2 l
            · go_wp2_with fail
              refine (alive_any (HE.out.later HBr.out)).mono ?_
              rintro e wz ⟨rfl, hb⟩
              have HBz := hid (HBr.out.trans (hb.mono HBr.out.size))
              clear hb
              go_wp2_with fail
              go_ret
              exact ⟨rfl, HBz.out⟩
            · have HTt : Hid (tot2 l ≤ 4000) := by unfold Hid; omega
              have HFew2 := hid (HFew.out _ HBr.out)
              rcases hf : fewP ns
              · rw [hf] at HFew2
                go_wp2_with fail
                refine HFew2.out.mono ?_
                rintro e wf ⟨rfl, rfl⟩
                go_wp2_with fail
                refine (alive_any (HE.out.later HBr.out)).mono ?_
                rintro e wz ⟨rfl, hb⟩
                have HBz := hid (HBr.out.trans (hb.mono HBr.out.size))
                clear hb
                go_wp2_with fail
                go_ret
                exact ⟨rfl, HBz.out⟩
              · rw [hf] at HFew2
                obtain ⟨hnl, hne⟩ := few_yes hf
                have hte := tot2_each l HTt.out
                have HC1 := hid (fun W (h : Env W) => unfold_any s h (by omega))
                have HC2 := hid (fun W => runfold_any s W (by omega))
                have HC3 := hid (fun W (h : Env W) v1 v3 (q1 : RL W v1 2 ((l : List (Bs × Bs)).map fR)) (q3 : RL W v3 1 (ns.map sR)) => get_any h q1 q3 (by first | omega | simp) (by omega) (fun f hf => by have := hte f hf; omega) (fun n hn => by have := hne n hn; omega))
                have HC4 := hid (fun W v1 v3 (q1 : RL W v1 2 ((l : List (Bs × Bs)).map fR)) (q3 : RL W v3 1 (ns.map sR)) => rget_any q1 q3 (by first | omega | simp) (by omega) (fun f hf => by have := hte f hf; omega) (fun n hn => by have := hne n hn; omega))
                have HC5 := hid (fun W (h : Env W) v3 (q3 : RL W v3 1 (ns.map sR)) => only_any s nt h q3 (by omega) (by omega) (fun n hn => by have := hne n hn; omega))
                have HC6 := hid (fun W v3 (q3 : RL W v3 1 (ns.map sR)) => ronly_any s nt q3 (by omega) (by omega) (fun n hn => by have := hne n hn; omega))
                have HGb := hid (getb l ns (by first | omega | simp))
                have qa : ((str (unf s)).toList == (str (unf s)).toList) = true := by simp
                have qb : ((str (onlyP s nt ns)).toList == (str (onlyP s nt ns)).toList) = true := by simp
                clear hf hte hne
                generalize getP l ns = G at *
                generalize unf s = U at *
                generalize onlyP s nt ns = P at *
                go_wp2_with fail
                refine HFew2.out.mono ?_
                rintro e wf ⟨rfl, rfl⟩
                go_wp2_with fail
                refine (HC1.out _ (HE.out.later HBr.out)).mono ?_
                rintro e w2 ⟨rfl, hb⟩
                have HB2 := hid (HBr.out.trans (hb.mono HBr.out.size))
                clear hb
                go_wp2_with fail
                refine (HC2.out _).mono ?_
                rintro e w2b ⟨rfl, rfl⟩
                go_wp2_with fail
                refine (HC3.out _ (HE.out.later HB2.out) _ _ (HRF.out.later HB2.out) (HRN.out.later HB2.out)).mono ?_
                rintro e w3 ⟨⟨v3, rfl, ho3⟩, hb⟩
                have HO3 := hid ho3.rl
                have HB3 := hid (HB2.out.trans (hb.mono HB2.out.size))
                clear hb ho3
                go_wp2_with fail
                refine (HC4.out _ _ _ (HRF.out.later HB3.out) (HRN.out.later HB3.out)).mono ?_
                rintro e w4 ⟨⟨v4, rfl, ho4⟩, hb⟩
                have HO4 := hid ho4.rl
                have HO5 := hid (HO3.out.later hb)
                have HB4 := hid (HB3.out.trans (hb.mono HB3.out.size))
                clear hb ho4
                have C7 := texts_any HO5.out HO4.out HGb.out HGb.out
                rw [show decide (G = G) = true by simp] at C7
                go_wp2_with fail
                refine C7.mono ?_
                rintro e w5 ⟨rfl, hb⟩
                have HB5 := hid (HB4.out.trans (hb.mono HB4.out.size))
                clear hb C7
                go_wp2_with fail
                refine (HC5.out _ (HE.out.later HB5.out) _ (HRN.out.later HB5.out)).mono ?_
                rintro e w6 ⟨rfl, hb⟩
                have HB6 := hid (HB5.out.trans (hb.mono HB5.out.size))
                clear hb
                go_wp2_with fail
                refine (HC6.out _ _ (HRN.out.later HB6.out)).mono ?_
                rintro e w7 ⟨rfl, hb⟩
                have HB7 := hid (HB6.out.trans (hb.mono HB6.out.size))
                clear hb
                go_wp2_with fail
                refine (alive_any (HE.out.later HB7.out)).mono ?_
                rintro e wz ⟨rfl, hb⟩
                have HBz := hid (HB7.out.trans (hb.mono HB7.out.size))
                clear hb
                go_wp2_with fail
                go_ret
                exact ⟨rfl, HBz.out⟩

theorem witness (os : Os) {H : Type} (enc : TypeId × Value → H) :
    (OpenSpec.ofChange Rows.headerGetsSpec).preRow enc Tryd.prog Tryd.f4 Rows.headerGetsRow.domain false Rows.headerGetsRow.laid ((laidWorld os).forCall (fun _ _ => 0) ⟨#[], #[.string ⟨#[]⟩, .slice none 0 0, .bool false, .slice none 0 0], []⟩).memory #[.string ⟨#[]⟩, .slice none 0 0, .bool false, .slice none 0 0] := by
  have hw : (DataW.whole enc Tryd.prog ((laidWorld os).forCall (fun _ _ => 0) ⟨#[], #[.string ⟨#[]⟩, .slice none 0 0, .bool false, .slice none 0 0], []⟩).memory Tryd.f4.params.toList Rows.headerGetsSpec.vars false (#[.string ⟨#[]⟩, .slice none 0 0, .bool false, .slice none 0 0] : Array Value).toList 8).map (fun x => (x.1, x.2.1)) =
      some ([.lit (.string []), .nil, .lit (.bool false), .nil], []) := by kernel_rfl
  obtain ⟨⟨x1, x2, x3⟩, hx, hx1⟩ := Option.map_eq_some_iff.1 hw
  simp only [Prod.mk.injEq] at hx1
  obtain ⟨rfl, rfl⟩ := hx1
  exact OpenSpec.preRow_of_cond 8 hx (by kernel_rfl) (fun k hk => by cases hk) (by kernel_rfl) (laid_met os _)

set_option maxRecDepth 100000 in
set_option maxHeartbeats 2000000 in
theorem lifted (os : Os) (started : os.Started) (H : Type) (enc : TypeId × Value → H) (F : Stop.Interp) :
    ReturnsInHanded {} Tryd.checked os 4 .any ((OpenSpec.ofChange Rows.headerGetsSpec).preRow enc Tryd.prog Tryd.f4 Rows.headerGetsRow.domain false Rows.headerGetsRow.laid) (((OpenSpec.ofChange Rows.headerGetsSpec).at F).post enc Tryd.prog Tryd.f4 false true false false) := by
  refine returnsInHanded_of_row (C := Tryd.checked) (s := OpenSpec.ofChange Rows.headerGetsSpec) own started (by kernel_rfl) Tryd.func4
    (witness_row_atRef (enc := enc) (C := Tryd.checked) false (laidWorld os) #[.string ⟨#[]⟩, .slice none 0 0, .bool false, .slice none 0 0] rfl (by kernel_rfl) (by kernel_rfl) (by kernel_rfl) (witness os enc)) ?_
  intro W base args ds gs before hval0 hW _ _ _ hL hsh _
  have hval : ∀ (j : Nat) t v, Tryd.f4.params[j]? = some t → args[j]? = some v → Value.okWide Tryd.prog W .any base t v := hval0
  have hW' := hW
  obtain ⟨p, q, hA0, hV, rfl, hfz, hnd⟩ := hW
  have hA : DataW.TrodAll enc Tryd.prog W 0 (fun _ => true) true Tryd.f4.params.toList args.toList ds p := hA0
  rw [Tryd.params4] at hA hval
  obtain ⟨v0, vs0, d0, ds0, p0, q0, hargs, rfl, rfl, h0, r0⟩ := trodAll_cons hA
  obtain ⟨v1, vs1, d1, ds1, p1, q1, rfl, rfl, rfl, h1, r1⟩ := trodAll_cons r0
  obtain ⟨v2, vs2, d2, ds2, p2, q2, rfl, rfl, rfl, h2, r2⟩ := trodAll_cons r1
  obtain ⟨v3, vs3, d3, ds3, p3, q3, rfl, rfl, rfl, h3, r3⟩ := trodAll_cons r2
  obtain ⟨rfl, rfl, rfl⟩ := trodAll_nil r3
  obtain rfl : args = #[v0, v1, v2, v3] := by cases args; simp_all
  obtain ⟨rfl, rfl⟩ := trodVars_none hV
  obtain ⟨a0, rfl, rfl, rfl, w0⟩ := open_string Tryd.underlying9 (hval 0 9 v0 rfl rfl) h0
  obtain ⟨a1, len1, cap1, rfl⟩ := okWide_slice Tryd.underlying26 (hval 1 26 v1 rfl rfl)
  have lt1 : ∀ x ∈ p1, x.block < W.heap.size := by obtain ⟨m, hm⟩ := h1; exact DataW.trod_lt m _ _ _ hm
  obtain ⟨l1, hl1⟩ : ∃ l, FieldsOk W a1 len1 cap1 l := by obtain ⟨fuel, hf⟩ := h1; exact open_fields hf
  obtain ⟨a2, rfl, rfl, rfl⟩ := open_bool Tryd.underlying4 (hval 2 4 v2 rfl rfl) h2
  obtain ⟨a3, len3, cap3, rfl⟩ := okWide_slice Tryd.underlying29 (hval 3 29 v3 rfl rfl)
  have lt3 : ∀ x ∈ p3, x.block < W.heap.size := by obtain ⟨m, hm⟩ := h3; exact DataW.trod_lt m _ _ _ hm
  obtain ⟨l3, hl3⟩ : ∃ l, TextsOk W a3 len3 cap3 l := by obtain ⟨fuel, hf⟩ := h3; exact open_texts hf
  clear hA0 hval0
  refine (walk a0 a1 len1 cap1 l1 hl1 a2 a3 len3 cap3 l3 hl3 (env_of hsh) w0).mono ?_
  rintro e W' ⟨rfl, bel⟩
  exact ⟨_, rfl, _, _, _, [], _, [], hW', trodAll_mk1 (shut_bool Tryd.underlying4 _), (trodAll_cons_mk (shut_string Tryd.underlying9 w0) (trodAll_cons_mk (Below.trod laidOut (by kernel_rfl) (of_decide_eq_true (by kernel_rfl)) h1 bel lt1) (trodAll_cons_mk (shut_bool Tryd.underlying4 a2) (trodAll_cons_mk (Below.trod laidOut (by kernel_rfl) (of_decide_eq_true (by kernel_rfl)) h3 bel lt3) trodAll_mk0)))), rfl, bel.frame _, fun h => by cases h⟩

theorem over : Rows.headerGetsRow.holds Tryd.pinned (OpenSpec.ofChange Rows.headerGetsSpec) :=
  OpenClaim.holds_of_cond 4 Tryd.f4 rfl rfl rfl rfl rfl rfl rfl ⟨rfl, rfl, rfl, rfl, rfl⟩ rfl rfl rfl rfl rfl (by kernel_rfl) Tryd.func4 (by kernel_rfl)
    (of_decide_eq_true (by kernel_rfl)) (by unfold Func.isWrapper; first | (rw [if_pos (by decide +kernel)]; kernel_rfl) | (rw [if_neg (by decide +kernel)]; exact ⟨rfl, rfl⟩))
    (fun os started H enc _ F => by rw [OpenClaim.pre_eq_preRow]; exact lifted os started H enc F)

/-- No parameter wants a stand-in. -/
theorem plain (f : FuncId) (fn : Func) (hf : Tryd.pinned.checked.prog.funcNamed Rows.headerGetsRow.func = some f) (hfn : Tryd.pinned.checked.prog.funcs[f]? = some fn) :
    false = Tryd.pinned.checked.prog.looks [] ∧ ∀ (j : Nat) t, fn.params[j]? = some t → Tryd.pinned.checked.prog.wantsStandIn t = false := by
  obtain rfl : f = 4 := Option.some.inj ((show Tryd.prog.funcNamed Rows.headerGetsRow.func = some 4 by kernel_rfl).symm.trans hf) |>.symm
  obtain rfl : fn = Tryd.f4 := (Option.some.inj (Tryd.func4.symm.trans hfn)).symm
  refine ⟨by kernel_rfl, fun j t ht => ?_⟩
  rw [Tryd.params4] at ht
  have hm := Array.mem_of_getElem? ht
  simp only [List.mem_toArray, List.mem_cons, List.not_mem_nil, or_false, or_self] at hm
  rcases hm with rfl | rfl | rfl | rfl
  · exact (show Tryd.prog.wantsStandIn 9 = false by kernel_rfl)
  · exact (show Tryd.prog.wantsStandIn 26 = false by kernel_rfl)
  · exact (show Tryd.prog.wantsStandIn 4 = false by kernel_rfl)
  · exact (show Tryd.prog.wantsStandIn 29 = false by kernel_rfl)
end Go.Proofs.YtemgpghjolpneaaDoor.headerGets
namespace Go.Proofs.YtemgpghjolpneaaDoor
/-- THE STATEMENT. -/
theorem headerGets_holds : Rows.HeaderGetsCardSaid :=
  Claim7.holds_tied_plain_at .later [] _ _ _ _ headerGets.over (fun _ h => by cases h) (by kernel_rfl) (fun _ h => by cases h) headerGets_row_tie rfl ⟨rfl, rfl⟩ (by kernel_rfl) rfl headerGets.plain (by kernel_rfl)
#print axioms headerGets_holds
end Go.Proofs.YtemgpghjolpneaaDoor
