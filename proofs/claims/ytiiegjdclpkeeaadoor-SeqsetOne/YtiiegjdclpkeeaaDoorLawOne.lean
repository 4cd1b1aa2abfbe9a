/- Proved here: the one way of a set rises, with gaps, has just the set's numbers, and is its own; the set of some numbers has just these (SeqsetOne returns true for every input, and leaves its arguments as they were). No condition beyond what the card says: three tables and two errors of the library hold what its text lays. -/
import Derived.Test.YtiiegjdclpkeeaaDoorCards
import Derived.Test.YtiiegjdclpkeeaaDoorTie
import Derived.Test.YtiiegjdclpkeeaaDoorOpen
import Derived.Test.YtiiegjdclpkeeaaDoorM25
import Derived.Test.YtiiegjdclpkeeaaDoorM4
import Derived.ProofKit
import Derived.OpenShut
import Derived.ShutString
import Derived.Below
namespace Go.Proofs.YtiiegjdclpkeeaaDoor.seqsetOne
open Go.ChangeShapes Go.WideShapes Go.ChangeAt Go.RowKit
open Go.ChangeMaps (open_string shut_string)
set_option linter.unusedVariables false
set_option linter.unusedSimpArgs false

set_option maxRecDepth 100000 in
set_option maxHeartbeats 16000000 in
theorem walk {w : World} (a0 : Option Addr) (len0 cap0 : Nat) (l : List Sp) (h0 : SpansOk w a0 len0 cap0 l) (most : Int) (a2 : Option Addr) (len2 cap2 : Nat) (am : List Int) (h2 : NumsOk w a2 len2 cap2 am) (hE : Env w) (hm : -9223372036854775808 ≤ most ∧ most ≤ 9223372036854775807) :
    Calls Tryd.prog 3 #[.slice a0 len0 cap0, .int .i64 most, .slice a2 len2 cap2] w fun e w' => e = .returned (.bool true) ∧ Below w.heap.size w w' := by
  obtain ⟨hg0, hn0, hw0⟩ := h0
  obtain ⟨hg2, hn2, hw2⟩ := h2
  subst hn0 hn2
  have HE := hid hE
  clear hE
  by_cases g0 : (300 : Int) < l.length
  · have d0 : decide ((300 : Int) < l.length) = true := by simpa using g0
    go_enter Tryd.func3, Tryd.ntmps3
    go_wp2_with fail
    refine (alive_any HE.out).mono ?_
    rintro e wz ⟨rfl, hb⟩
    have HBz := hid (hb)
    clear hb
    go_wp2_with fail
    go_ret
    exact ⟨rfl, HBz.out⟩
  · by_cases g1 : (300 : Int) < am.length
    · have d0 : decide ((300 : Int) < l.length) = false := by simpa using g0
      have d1 : decide ((300 : Int) < am.length) = true := by simpa using g1
      go_enter Tryd.func3, Tryd.ntmps3
      go_wp2_with fail
      refine (alive_any HE.out).mono ?_
      rintro e wz ⟨rfl, hb⟩
      have HBz := hid (hb)
      clear hb
      go_wp2_with fail
      go_ret
      exact ⟨rfl, HBz.out⟩
    · have d0 : decide ((300 : Int) < l.length) = false := by simpa using g0
      have d1 : decide ((300 : Int) < am.length) = false := by simpa using g1
      have HOk : Hid (Ok64 l) := fun s hs => ⟨(hw0 s hs).1.2, (hw0 s hs).2.2⟩
      have hmi : most ≤ mi := hm.2
      have HG0 := hid hg0
      have HG2 := hid hg2
      obtain ⟨a0', c0', hv0, hgg, hcc⟩ := gl_slice hg0
      simp only [Value.slice.injEq, true_and] at hv0
      obtain ⟨rfl, rfl⟩ := hv0
      have HGG := hid hgg
      clear hg0 hg2 hw0 hw2 hgg
      go_enter Tryd.func3, Tryd.ntmps3
      go_wp2_with fail
      go_loop [29] (fun i => ∃ k : Nat, k ≤ l.length ∧ i = .int .i64 k) (fun i => l.length - (intOf i).toNat)
      case atStart => exact ⟨0, by omega, rfl⟩
      case round =>
        obtain ⟨k, hk, rfl⟩ := hrel
        by_cases hlt : k < l.length
        · have hlt' : (k : Int) < l.length := by omega
          have hne : l ≠ [] := by rintro rfl; simp at hlt
          obtain ⟨g, o, rfl, hga, hgz⟩ := HGG.out hne
          obtain ⟨hc0, hc1⟩ := hga.sp k l[k] (List.getElem?_eq_getElem hlt)
          clear hga hne HGG
          generalize l[k] = s at *
          obtain ⟨x, y⟩ := s
          simp only at hc0 hc1
          by_cases hx : x < 0
          · have d2 : decide (x < 0) = true := by simpa using hx
            go_wp2_with fail
            refine (alive_any HE.out).mono ?_
            rintro e wz ⟨rfl, hb⟩
            have HBz := hid (hb)
            clear hb
            go_wp2_with fail
            go_ret
            exact ⟨rfl, HBz.out⟩
          · have d2 : decide (x < 0) = false := by simpa using hx
            by_cases hy : y < 0
            · have d3 : decide (y < 0) = true := by simpa using hy
              go_wp2_with fail
              refine (alive_any HE.out).mono ?_
              rintro e wz ⟨rfl, hb⟩
              have HBz := hid (hb)
              clear hb
              go_wp2_with fail
              go_ret
              exact ⟨rfl, HBz.out⟩
            · have d3 : decide (y < 0) = false := by simpa using hy
              go_wp2_with fail
              go_round
              case rel => exact ⟨k + 1, by omega, by go_num⟩
              case measure => simp [intOf]; omega
        · have hlt' : ¬ (k : Int) < l.length := by omega
          clear HGG
          have C1 := norm_any HG0.out (by omega) most hmi HOk.out
          unfold NormIs at C1
          go_wp2_with fail
          refine C1.mono ?_
          clear C1
          rintro e w1 ⟨⟨v1, L, rfl, ho1, hr1, hm1, hl1⟩, hb1⟩
          have HB1 := hid hb1
          have HL1 := hid ho1.gl
          have HR := hid hr1
          have HM := hid hm1
          clear ho1 hb1 hr1 hm1
          have C2 := of_any (HG2.out.later HB1.out) (by omega)
          unfold OfIs at C2
          go_wp2_with fail
          refine C2.mono ?_
          clear C2
          rintro e w2 ⟨⟨v2, O, rfl, ho2, hr2, hm2, hl2⟩, hb2⟩
          have HB2 := hid (HB1.out.trans (hb2.mono HB1.out.size))
          have HL2 := hid (HL1.out.later hb2)
          have HO2 := hid ho2.gl
          have HRO := hid hr2
          have HMO := hid hm2
          clear ho2 hb2 hr2 hm2 HL1
          have C3 := rising_any HL2.out (by omega) HR.out (fun s hs => ((HM.out s.2).1 (memS_end HR.out hs)).1)
          unfold SameIs at C3
          go_wp2_with fail
          refine C3.mono ?_
          clear C3
          rintro e w3 ⟨rfl, hb3⟩
          have HB3 := hid (HB2.out.trans (hb3.mono HB2.out.size))
          have HL3 := hid (HL2.out.later hb3)
          have HO3 := hid (HO2.out.later hb3)
          clear hb3 HL2 HO2
          have C4 := rising_any HO3.out (by omega) HRO.out (fun s hs => ((HMO.out s.2).1 (memS_end HRO.out hs)).2.2)
          unfold SameIs at C4
          go_wp2_with fail
          refine C4.mono ?_
          clear C4
          rintro e w4 ⟨rfl, hb4⟩
          have HB4 := hid (HB3.out.trans (hb4.mono HB3.out.size))
          have HL4 := hid (HL3.out.later hb4)
          have HO4 := hid (HO3.out.later hb4)
          clear hb4 HL3 HO3
          have C5 := norm_any HL4.out (by omega) 0 (by unfold mi; omega) (fun s hs => by
            have e1 := ((HM.out s.2).1 (memS_end HR.out hs)).1
            have e2 := (HR.out.ok s hs).2
            unfold mx at e1
            unfold mi
            exact ⟨by omega, by omega⟩)
          unfold NormIs at C5
          go_wp2_with fail
          refine C5.mono ?_
          clear C5
          rintro e w5 ⟨⟨v5, L5, rfl, ho5, hr5, hm5, _⟩, hb5⟩
          have e5 := one_own HR.out HM.out hr5 hm5
          rw [e5] at ho5
          have HB5 := hid (HB4.out.trans (hb5.mono HB4.out.size))
          have HL5 := hid (HL4.out.later hb5)
          have HO5 := hid (HO4.out.later hb5)
          have HN5 := hid ho5.gl
          clear ho5 hb5 hr5 hm5 e5 HL4 HO4
          have C6 := same_any HN5.out HL5.out (by omega)
          unfold SameIs at C6
          go_wp2_with fail
          refine C6.mono ?_
          clear C6
          rintro e w6 ⟨rfl, hb6⟩
          have HB6 := hid (HB5.out.trans (hb6.mono HB5.out.size))
          have HL6 := hid (HL5.out.later hb6)
          have HO6 := hid (HO5.out.later hb6)
          clear hb6 HL5 HO5 HN5
          obtain ⟨a2', c2', hv2, hg2, hcc2⟩ := gl_slice HG2.out
          simp only [Value.slice.injEq, true_and] at hv2
          obtain ⟨rfl, rfl⟩ := hv2
          have HG2g := hid hg2
          clear hg2
          obtain ⟨aO, cO, hvO, hgO, hcO⟩ := gl_slice HO6.out
          subst hvO
          have HGO := hid hgO
          clear hgO
          go_wp2_with fail
          go_loopw [70] (fun i wr => ∃ k : Nat, k ≤ am.length ∧ i = .int .i64 k ∧ Below w.heap.size w wr ∧ Below w6.heap.size w6 wr) (fun i _ => am.length - (intOf i).toNat)
          case atStart => exact ⟨0, by omega, rfl, HB6.out, Below.refl _ _⟩
          case round =>
            obtain ⟨k, hk, rfl, hb, hbz⟩ := hrel
            have HB := hid hb
            have HBz6 := hid hbz
            clear hb hbz
            by_cases hlt : k < am.length
            · have hlt' : (k : Int) < am.length := by omega
              have hne : am ≠ [] := by rintro rfl; simp at hlt
              obtain ⟨g, o, rfl, hga, hgz⟩ := HG2g.out hne
              have hc0 := (hga.later HB.out).i k am[k] (List.getElem?_eq_getElem hlt)
              have HIn := hid (List.getElem_mem hlt)
              clear hga hne HG2g
              generalize am[k] = x at *
              by_cases hx : x ≤ 4294967295
              · have dx : decide (x ≤ 4294967295) = true := by simpa using hx
                have C7 := has_any (HL6.out.later HBz6.out) (by omega) x 0
                rw [one_has HR.out HM.out hx] at C7
                go_wp2_with fail
                refine C7.mono ?_
                clear C7
                rintro e w7 ⟨rfl, hb7⟩
                have HB7 := hid (HB.out.trans (hb7.mono HB.out.size))
                have HBz7 := hid (HBz6.out.trans (hb7.mono HBz6.out.size))
                clear hb7
                have C8 := has_any (HG0.out.later HB7.out) (by omega) x most
                generalize hasB l x most = b1 at C8 ⊢
                have hbb : (b1 != b1) = false := by simp
                go_wp2_with fail
                refine C8.mono ?_
                clear C8
                rintro e w8 ⟨rfl, hb8⟩
                have HB8 := hid (HB7.out.trans (hb8.mono HB7.out.size))
                have HBz8 := hid (HBz7.out.trans (hb8.mono HBz7.out.size))
                clear hb8
                have C9 := has_any (HO6.out.later HBz8.out) (by omega) x 0
                by_cases h1x : 1 ≤ x
                · have d1x : decide (1 ≤ x) = true := by simpa using h1x
                  rw [of_yes HRO.out HMO.out HIn.out h1x hx] at C9
                  go_wp2_with fail
                  refine C9.mono ?_
                  clear C9
                  rintro e w9 ⟨rfl, hb9⟩
                  have HB9 := hid (HB8.out.trans (hb9.mono HB8.out.size))
                  have HBz9 := hid (HBz8.out.trans (hb9.mono HBz8.out.size))
                  clear hb9
                  go_wp2_with fail
                  go_roundw
                  case rel => exact ⟨k + 1, by omega, by go_num, HB9.out, HBz9.out⟩
                  case measure => simp [intOf]; omega
                · have d1x : decide (1 ≤ x) = false := by simpa using h1x
                  rw [of_no HRO.out HMO.out (x := x) (by omega)] at C9
                  go_wp2_with fail
                  refine C9.mono ?_
                  clear C9
                  rintro e w9 ⟨rfl, hb9⟩
                  have HB9 := hid (HB8.out.trans (hb9.mono HB8.out.size))
                  have HBz9 := hid (HBz8.out.trans (hb9.mono HBz8.out.size))
                  clear hb9
                  go_wp2_with fail
                  go_roundw
                  case rel => exact ⟨k + 1, by omega, by go_num, HB9.out, HBz9.out⟩
                  case measure => simp [intOf]; omega
              · have dx : decide (x ≤ 4294967295) = false := by simpa using hx
                have d1x : decide (1 ≤ x) = true := by rw [decide_eq_true_eq]; omega
                have C9 := has_any (HO6.out.later HBz6.out) (by omega) x 0
                rw [of_no HRO.out HMO.out (x := x) (by unfold mx; omega)] at C9
                go_wp2_with fail
                refine C9.mono ?_
                clear C9
                rintro e w9 ⟨rfl, hb9⟩
                have HB9 := hid (HB.out.trans (hb9.mono HB.out.size))
                have HBz9 := hid (HBz6.out.trans (hb9.mono HBz6.out.size))
                clear hb9
                go_wp2_with fail
                go_roundw
                case rel => exact ⟨k + 1, by omega, by go_num, HB9.out, HBz9.out⟩
                case measure => simp [intOf]; omega
            · have hlt' : ¬ (k : Int) < am.length := by omega
              go_wp2_with fail
              go_loop [12, 99] (fun cv iv => ∃ (c i : Nat) (kk : Int), cv = .int .i64 c ∧ iv = .int .i64 i ∧ i ≤ O.length ∧ Cnt am c kk ∧ nxt O i kk) (fun _ iv => O.length - (intOf iv).toNat)
              case atStart => exact ⟨0, 0, 0, rfl, rfl, by omega, Cnt.nil _ _, fun s hs => by have := (HRO.out.ok s (List.mem_of_getElem? hs)).1; omega⟩
              case round =>
                obtain ⟨c, i, kk, rfl, rfl, hi, hcnt, hnx⟩ := hrel
                have HCn := hid hcnt
                have HNx := hid hnx
                clear hcnt hnx
                have hcl := HCn.out.le
                by_cases hio : i < O.length
                · have hio' : (i : Int) < O.length := by omega
                  have hneO : O ≠ [] := by rintro rfl; simp at hio
                  obtain ⟨gO, oO, rfl, hgaO, hgzO⟩ := HGO.out hneO
                  obtain ⟨hd0, hd1⟩ := (hgaO.later HBz6.out).sp i O[i] (List.getElem?_eq_getElem hio)
                  have HS := hid (HRO.out.ok O[i] (List.getElem_mem hio))
                  have HTo := hid (nxt_next HRO.out (List.getElem?_eq_getElem hio))
                  have HFr := hid (HNx.out O[i] (List.getElem?_eq_getElem hio))
                  have HMe : Hid (∀ q, O[i].1 ≤ q → q ≤ O[i].2 → q ∈ am) := fun q h3 h4 => ((HMO.out q).1 ⟨O[i], List.getElem_mem hio, h3, h4⟩).1
                  have HMx : Hid (O[i].2 ≤ mx) := ((HMO.out O[i].2).1 (memS_end HRO.out (List.getElem_mem hio))).2.2
                  clear hgaO hneO HGO
                  generalize O[i] = s at *
                  obtain ⟨x, y⟩ := s
                  simp only at hd0 hd1 HS HTo HFr HMe HMx
                  obtain ⟨p1, p2⟩ := HS.out
                  have p3 := HMx.out
                  have p4 := HFr.out
                  unfold mx at p3
                  go_wp2_with fail
                  go_loop [12, 14] (fun cv kv => ∃ (c : Nat) (q : Int), cv = .int .i64 c ∧ kv = .int .i64 q ∧ x ≤ q ∧ q ≤ y + 1 ∧ Cnt am c q) (fun _ kv => (y + 1 - intOf kv).toNat)
                  case atStart => exact ⟨c, x, rfl, rfl, by omega, by omega, HCn.out.mono p4⟩
                  case round =>
                    obtain ⟨c', q, rfl, rfl, hq1, hq2, hcnt⟩ := hrel
                    have HCn' := hid hcnt
                    clear hcnt
                    have hcl' := HCn'.out.le
                    by_cases hqy : q ≤ y
                    · have dq : decide (q ≤ y) = true := by simpa using hqy
                      have dc : decide ((c' : Int) ≤ 300) = true := by rw [decide_eq_true_eq]; omega
                      have HQ := hid (HMe.out q hq1 hqy)
                      go_wp2_with fail
                      go_loop [15, 124] (fun mv jv => ∃ j : Nat, j ≤ am.length ∧ jv = .int .i64 j ∧ mv = .bool (decide (q ∈ am.take j))) (fun _ jv => am.length - (intOf jv).toNat)
                      case atStart => exact ⟨0, by omega, rfl, by simp⟩
                      case round =>
                        obtain ⟨j, hj, rfl, rfl⟩ := hrel
                        by_cases hja : j < am.length
                        · have hja' : (j : Int) < am.length := by omega
                          have hneA : am ≠ [] := by rintro rfl; simp at hja
                          obtain ⟨gA, oA, rfl, hgaA, hgzA⟩ := HG2g.out hneA
                          have he0 := (hgaA.later HB.out).i j am[j] (List.getElem?_eq_getElem hja)
                          have HMt := hid (met_next am q j hja)
                          clear hgaA hneA HG2g
                          generalize am[j] = z at *
                          generalize decide (q ∈ am.take j) = bm at *
                          cases bm with
                          | true =>
                            have HM2 : Hid (decide (q ∈ am.take (j + 1)) = true) := by rw [Hid, ← HMt.out]; rfl
                            clear HMt
                            go_wp2_with fail
                            go_round
                            case rel => exact ⟨j + 1, by omega, by go_num, by rw [HM2.out]⟩
                            case measure => simp [intOf]; omega
                          | false =>
                            have HM2 : Hid (decide (q ∈ am.take (j + 1)) = (z == q)) := by rw [Hid, ← HMt.out]; simp
                            clear HMt
                            go_wp2_with fail
                            go_round
                            case rel => exact ⟨j + 1, by omega, by go_num, by rw [HM2.out]⟩
                            case measure => simp [intOf]; omega
                        · have hja' : ¬ (j : Int) < am.length := by omega
                          have e6 : am.take j = am := List.take_of_length_le (by omega)
                          have e7 : decide (q ∈ am.take j) = true := by rw [e6]; simpa using HQ.out
                          rw [e7]
                          clear e6 e7
                          have HCn2 := hid (HCn'.out.next HQ.out)
                          go_wp2_with fail
                          go_round
                          case rel => exact ⟨c' + 1, q + 1, by go_num, rfl, by omega, by omega, HCn2.out⟩
                          case measure => simp [intOf]; omega
                    · have dq : decide (q ≤ y) = false := by simpa using hqy
                      have hqe : q ≤ y + 1 := hq2
                      go_wp2_with fail
                      go_round
                      case rel => exact ⟨c', i + 1, y + 1, rfl, by go_num, by omega, HCn'.out.mono hqe, HTo.out⟩
                      case measure => simp [intOf]; omega
                · have hio' : ¬ (i : Int) < O.length := by omega
                  have dcc : decide ((c : Int) ≤ am.length) = true := by rw [decide_eq_true_eq]; omega
                  go_wp2_with fail
                  refine (alive_any (HE.out.later HB.out)).mono ?_
                  rintro e wz ⟨rfl, hb⟩
                  have HBz := hid (HB.out.trans (hb.mono HB.out.size))
                  clear hb
                  go_wp2_with fail
                  go_ret
                  exact ⟨rfl, HBz.out⟩

theorem witness (os : Os) {H : Type} (enc : TypeId × Value → H) :
    (OpenSpec.ofChange Rows.seqsetOneSpec).preRow enc Tryd.prog Tryd.f3 Rows.seqsetOneRow.domain false Rows.seqsetOneRow.laid ((laidWorld os).forCall (fun _ _ => 0) ⟨#[], #[.slice none 0 0, .int .i64 0, .slice none 0 0], []⟩).memory #[.slice none 0 0, .int .i64 0, .slice none 0 0] := by
  have hw : (DataW.whole enc Tryd.prog ((laidWorld os).forCall (fun _ _ => 0) ⟨#[], #[.slice none 0 0, .int .i64 0, .slice none 0 0], []⟩).memory Tryd.f3.params.toList Rows.seqsetOneSpec.vars false (#[.slice none 0 0, .int .i64 0, .slice none 0 0] : Array Value).toList 8).map (fun x => (x.1, x.2.1)) =
      some ([.nil, .lit (.int .i64 0), .nil], []) := by kernel_rfl
  obtain ⟨⟨x1, x2, x3⟩, hx, hx1⟩ := Option.map_eq_some_iff.1 hw
  simp only [Prod.mk.injEq] at hx1
  obtain ⟨rfl, rfl⟩ := hx1
  exact OpenSpec.preRow_of_cond 8 hx (by kernel_rfl) (fun k hk => by cases hk) (by kernel_rfl) (laid_met os _)

set_option maxRecDepth 100000 in
set_option maxHeartbeats 2000000 in
theorem lifted (os : Os) (started : os.Started) (H : Type) (enc : TypeId × Value → H) (F : Stop.Interp) :
    ReturnsInHanded {} Tryd.checked os 3 .any ((OpenSpec.ofChange Rows.seqsetOneSpec).preRow enc Tryd.prog Tryd.f3 Rows.seqsetOneRow.domain false Rows.seqsetOneRow.laid) (((OpenSpec.ofChange Rows.seqsetOneSpec).at F).post enc Tryd.prog Tryd.f3 false true false false) := by
  refine returnsInHanded_of_row (C := Tryd.checked) (s := OpenSpec.ofChange Rows.seqsetOneSpec) own started (by kernel_rfl) Tryd.func3
    (witness_row_atRef (enc := enc) (C := Tryd.checked) false (laidWorld os) #[.slice none 0 0, .int .i64 0, .slice none 0 0] rfl (by kernel_rfl) (by kernel_rfl) (by kernel_rfl) (witness os enc)) ?_
  intro W base args ds gs before hval0 hW _ _ _ hL hsh _
  have hval : ∀ (j : Nat) t v, Tryd.f3.params[j]? = some t → args[j]? = some v → Value.okWide Tryd.prog W .any base t v := hval0
  have hW' := hW
  obtain ⟨p, q, hA0, hV, rfl, hfz, hnd⟩ := hW
  have hA : DataW.TrodAll enc Tryd.prog W 0 (fun _ => true) true Tryd.f3.params.toList args.toList ds p := hA0
  rw [Tryd.params3] at hA hval
  obtain ⟨v0, vs0, d0, ds0, p0, q0, hargs, rfl, rfl, h0, r0⟩ := trodAll_cons hA
  obtain ⟨v1, vs1, d1, ds1, p1, q1, rfl, rfl, rfl, h1, r1⟩ := trodAll_cons r0
  obtain ⟨v2, vs2, d2, ds2, p2, q2, rfl, rfl, rfl, h2, r2⟩ := trodAll_cons r1
  obtain ⟨rfl, rfl, rfl⟩ := trodAll_nil r2
  obtain rfl : args = #[v0, v1, v2] := by cases args; simp_all
  obtain ⟨rfl, rfl⟩ := trodVars_none hV
  obtain ⟨a0, len0, cap0, rfl⟩ := okWide_slice Tryd.underlying22 (hval 0 22 v0 rfl rfl)
  have lt0 : ∀ x ∈ p0, x.block < W.heap.size := by obtain ⟨m, hm⟩ := h0; exact DataW.trod_lt m _ _ _ hm
  obtain ⟨l0, hl0⟩ : ∃ l, SpansOk W a0 len0 cap0 l := by obtain ⟨fuel, hf⟩ := h0; exact open_spans hf
  obtain ⟨a1, rfl, rfl, rfl, w1⟩ := open_int Tryd.underlying3 (hval 1 3 v1 rfl rfl) h1
  obtain ⟨a2, len2, cap2, rfl⟩ := okWide_slice Tryd.underlying23 (hval 2 23 v2 rfl rfl)
  have lt2 : ∀ x ∈ p2, x.block < W.heap.size := by obtain ⟨m, hm⟩ := h2; exact DataW.trod_lt m _ _ _ hm
  obtain ⟨l2, hl2⟩ : ∃ l, NumsOk W a2 len2 cap2 l := by obtain ⟨fuel, hf⟩ := h2; exact open_nums hf
  clear hA0 hval0
  refine (walk a0 len0 cap0 l0 hl0 a1 a2 len2 cap2 l2 hl2 (env_of hL) (bounds_i64 w1)).mono ?_
  rintro e W' ⟨rfl, bel⟩
  exact ⟨_, rfl, _, _, _, [], _, [], hW', trodAll_mk1 (shut_bool Tryd.underlying4 _), (trodAll_cons_mk (Below.trod laidOut (by kernel_rfl) (of_decide_eq_true (by kernel_rfl)) h0 bel lt0) (trodAll_cons_mk (shut_int Tryd.underlying3 w1) (trodAll_cons_mk (Below.trod laidOut (by kernel_rfl) (of_decide_eq_true (by kernel_rfl)) h2 bel lt2) trodAll_mk0))), rfl, bel.frame _, fun h => by cases h⟩

theorem over : Rows.seqsetOneRow.holds Tryd.pinned (OpenSpec.ofChange Rows.seqsetOneSpec) :=
  OpenClaim.holds_of_cond 3 Tryd.f3 rfl rfl rfl rfl rfl rfl rfl ⟨rfl, rfl, rfl, rfl, rfl⟩ rfl rfl rfl rfl rfl (by kernel_rfl) Tryd.func3 (by kernel_rfl)
    (of_decide_eq_true (by kernel_rfl)) (by unfold Func.isWrapper; first | (rw [if_pos (by decide +kernel)]; kernel_rfl) | (rw [if_neg (by decide +kernel)]; exact ⟨rfl, rfl⟩))
    (fun os started H enc _ F => by rw [OpenClaim.pre_eq_preRow]; exact lifted os started H enc F)

/-- No parameter wants a stand-in. -/
theorem plain (f : FuncId) (fn : Func) (hf : Tryd.pinned.checked.prog.funcNamed Rows.seqsetOneRow.func = some f) (hfn : Tryd.pinned.checked.prog.funcs[f]? = some fn) :
    true = Tryd.pinned.checked.prog.looks [] ∧ ∀ (j : Nat) t, fn.params[j]? = some t → Tryd.pinned.checked.prog.wantsStandIn t = false := by
  obtain rfl : f = 3 := Option.some.inj ((show Tryd.prog.funcNamed Rows.seqsetOneRow.func = some 3 by kernel_rfl).symm.trans hf) |>.symm
  obtain rfl : fn = Tryd.f3 := (Option.some.inj (Tryd.func3.symm.trans hfn)).symm
  refine ⟨by kernel_rfl, fun j t ht => ?_⟩
  rw [Tryd.params3] at ht
  have hm := Array.mem_of_getElem? ht
  simp only [List.mem_toArray, List.mem_cons, List.not_mem_nil, or_false, or_self] at hm
  rcases hm with rfl | rfl | rfl
  · exact (show Tryd.prog.wantsStandIn 22 = false by kernel_rfl)
  · exact (show Tryd.prog.wantsStandIn 3 = false by kernel_rfl)
  · exact (show Tryd.prog.wantsStandIn 23 = false by kernel_rfl)
end Go.Proofs.YtiiegjdclpkeeaaDoor.seqsetOne
namespace Go.Proofs.YtiiegjdclpkeeaaDoor
/-- THE STATEMENT. -/
theorem seqsetOne_holds : Rows.SeqsetOneCardSaid :=
  Claim7.holds_tied_plain_at .later [] _ _ _ _ seqsetOne.over (fun _ h => by cases h) (by kernel_rfl) (fun _ h => by cases h) seqsetOne_row_tie rfl ⟨rfl, rfl⟩ (by kernel_rfl) rfl seqsetOne.plain (by kernel_rfl)
#print axioms seqsetOne_holds
end Go.Proofs.YtiiegjdclpkeeaaDoor
