/- Proved here: the one way of any spans, and the set of any numbers, is as the document says (SeqsetNorms returns true for every input, and leaves its arguments as they were). No condition beyond what the card says: three tables and two errors of the library hold what its text lays. -/
import Derived.Test.YtiiegjdclpkeeaaGreatDoorCards
import Derived.Test.YtiiegjdclpkeeaaGreatDoorTie
import Derived.Test.YtiiegjdclpkeeaaGreatDoorOpen
import Derived.Test.YtiiegjdclpkeeaaGreatDoorD7
import Derived.ProofKit
import Derived.OpenShut
import Derived.ShutString
import Derived.Below
namespace Go.Proofs.YtiiegjdclpkeeaaGreatDoor.seqsetNorms
open Go.ChangeShapes Go.WideShapes Go.ChangeAt Go.RowKit
open Go.ChangeMaps (open_string shut_string)
set_option linter.unusedVariables false
set_option linter.unusedSimpArgs false

theorem pos_take {l : List Sp} {k : Nat} (hk : k < l.length) (h : Pos (l.take k)) (hx : 0 ≤ l[k].1 ∧ 0 ≤ l[k].2) : Pos (l.take (k + 1)) := by
  intro s hs
  rw [List.take_succ_eq_append_getElem hk] at hs
  rcases List.mem_append.1 hs with hs | hs
  · exact h s hs
  · rw [List.mem_singleton] at hs; rw [hs]; exact hx
set_option maxRecDepth 100000 in
set_option maxHeartbeats 8000000 in
theorem walk {w : World} (a0 : Option Addr) (len0 cap0 : Nat) (l : List Sp) (h0 : SpansOk w a0 len0 cap0 l) (most : Int) (a2 : Option Addr) (len2 cap2 : Nat) (am : List Int) (h2 : NumsOk w a2 len2 cap2 am) (hE : Env w) (hm : -9223372036854775808 ≤ most ∧ most ≤ 9223372036854775807) :
    Calls Tryz.prog 7 #[.slice a0 len0 cap0, .int .i64 most, .slice a2 len2 cap2] w fun e w' => e = .returned (.bool true) ∧ Below w.heap.size w w' := by
  obtain ⟨hg0, hn0, hw0⟩ := h0
  obtain ⟨hg2, hn2, hw2⟩ := h2
  subst hn0 hn2
  have HE := hid hE
  clear hE
  by_cases g0 : (300 : Int) < l.length
  · have d0 : decide ((300 : Int) < l.length) = true := by simpa using g0
    go_enter Tryz.func7, Tryz.ntmps7
    go_wp2_with fail
    refine (alive_any HE.out).mono ?_
    rintro e wz ⟨rfl, hb⟩
    have HBz := hid (hb)
    clear hb
    go_wp2_with fail
    go_ret
    exact ⟨rfl, HBz.out⟩
  · by_cases g1 : (300 : Int) < am.length
    · have d0 : decide ((300 : Int) < l.length) = false := by simpa using g0
      have d1 : decide ((300 : Int) < am.length) = true := by simpa using g1
      go_enter Tryz.func7, Tryz.ntmps7
      go_wp2_with fail
      refine (alive_any HE.out).mono ?_
      rintro e wz ⟨rfl, hb⟩
      have HBz := hid (hb)
      clear hb
      go_wp2_with fail
      go_ret
      exact ⟨rfl, HBz.out⟩
    · have d0 : decide ((300 : Int) < l.length) = false := by simpa using g0
      have d1 : decide ((300 : Int) < am.length) = false := by simpa using g1
      have HOk : Hid (Ok64 l) := fun s hs => ⟨(hw0 s hs).1.2, (hw0 s hs).2.2⟩
      have hmi : most ≤ mi := hm.2
      have HG0 := hid hg0
      have HG2 := hid hg2
      obtain ⟨a0', c0', hv0, hgg, hcc⟩ := gl_slice hg0
      simp only [Value.slice.injEq, true_and] at hv0
      obtain ⟨rfl, rfl⟩ := hv0
      have HGG := hid hgg
      clear hg0 hg2 hw0 hw2 hgg
      go_enter Tryz.func7, Tryz.ntmps7
      go_wp2_with fail
      go_loop [19] (fun i => ∃ k : Nat, k ≤ l.length ∧ i = .int .i64 k ∧ Pos (l.take k)) (fun i => l.length - (intOf i).toNat)
      case atStart => exact ⟨0, by omega, rfl, fun s hs => by simp at hs⟩
      case round =>
        obtain ⟨k, hk, rfl, hp⟩ := hrel
        have HP := hid hp
        clear hp
        by_cases hlt : k < l.length
        · have hlt' : (k : Int) < l.length := by omega
          have hne : l ≠ [] := by rintro rfl; simp at hlt
          obtain ⟨g, o, rfl, hga, hgz⟩ := HGG.out hne
          obtain ⟨hc0, hc1⟩ := hga.sp k l[k] (List.getElem?_eq_getElem hlt)
          have HN := hid (@pos_take l k hlt HP.out)
          clear hga hne HGG
          generalize l[k] = s at *
          obtain ⟨x, y⟩ := s
          simp only at hc0 hc1 HN
          by_cases hx : x < 0
          · have d2 : decide (x < 0) = true := by simpa using hx
            go_wp2_with fail
            refine (alive_any HE.out).mono ?_
            rintro e wz ⟨rfl, hb⟩
            have HBz := hid (hb)
            clear hb
            go_wp2_with fail
            go_ret
            exact ⟨rfl, HBz.out⟩
          · have d2 : decide (x < 0) = false := by simpa using hx
            by_cases hy : y < 0
            · have d3 : decide (y < 0) = true := by simpa using hy
              go_wp2_with fail
              refine (alive_any HE.out).mono ?_
              rintro e wz ⟨rfl, hb⟩
              have HBz := hid (hb)
              clear hb
              go_wp2_with fail
              go_ret
              exact ⟨rfl, HBz.out⟩
            · have d3 : decide (y < 0) = false := by simpa using hy
              go_wp2_with fail
              go_round
              case rel => exact ⟨k + 1, by omega, by go_num, HN.out (by omega)⟩
              case measure => simp [intOf]; omega
        · have hlt' : ¬ (k : Int) < l.length := by omega
          have e : l.take k = l := List.take_of_length_le (by omega)
          rw [e] at HP
          clear HGG
          have C1 := norm_any HG0.out (by omega) most hmi HOk.out
          unfold NormIs at C1
          go_wp2_with fail
          refine C1.mono ?_
          clear C1
          rintro e w1 ⟨⟨v1, L1, rfl, ho1, hr1, hm1, hl1⟩, hb1⟩
          have HO1 := hid ho1.gl
          have HB1 := hid hb1
          clear ho1 hb1
          have C2 := rnorm_any (HG0.out.later HB1.out) (by omega) most HP.out
          unfold NormIs at C2
          go_wp2_with fail
          refine C2.mono ?_
          clear C2
          rintro e w2 ⟨⟨v2, L2, rfl, ho2, hr2, hm2, hl2⟩, hb2⟩
          have e12 : L2 = L1 := rise_one _ _ hr2 hr1 (fun n => (hm2 n).trans (hm1 n).symm)
          rw [e12] at ho2
          have HO2 := hid ho2.gl
          have HO1' := hid (HO1.out.later hb2)
          have HB2 := hid (HB1.out.trans (hb2.mono HB1.out.size))
          clear ho2 hb2 e12 hr1 hr2 hm1 hm2 hl2
          have C3 := same_any HO1'.out HO2.out (by omega)
          unfold SameIs at C3
          go_wp2_with fail
          refine C3.mono ?_
          clear C3
          rintro e w3 ⟨rfl, hb3⟩
          have HB3 := hid (HB2.out.trans (hb3.mono HB2.out.size))
          clear hb3 HO1 HO1' HO2 HB1 HB2
          have C4 := of_any (HG2.out.later HB3.out) (by omega)
          unfold OfIs at C4
          go_wp2_with fail
          refine C4.mono ?_
          clear C4
          rintro e w4 ⟨⟨v4, L4, rfl, ho4, hr4, hm4, hl4⟩, hb4⟩
          have HO4 := hid ho4.gl
          have HB4 := hid (HB3.out.trans (hb4.mono HB3.out.size))
          clear ho4 hb4
          have C5 := rof_any (HG2.out.later HB4.out) (by omega)
          unfold OfIs at C5
          go_wp2_with fail
          refine C5.mono ?_
          clear C5
          rintro e w5 ⟨⟨v5, L5, rfl, ho5, hr5, hm5, hl5⟩, hb5⟩
          have e45 : L5 = L4 := rise_one _ _ hr5 hr4 (fun n => (hm5 n).trans (hm4 n).symm)
          rw [e45] at ho5
          have HO5 := hid ho5.gl
          have HO4' := hid (HO4.out.later hb5)
          have HB5 := hid (HB4.out.trans (hb5.mono HB4.out.size))
          clear ho5 hb5 e45 hr4 hr5 hm4 hm5 hl5
          have C6 := same_any HO4'.out HO5.out (by omega)
          unfold SameIs at C6
          go_wp2_with fail
          refine C6.mono ?_
          clear C6
          rintro e w6 ⟨rfl, hb6⟩
          have HB6 := hid (HB5.out.trans (hb6.mono HB5.out.size))
          clear hb6
          go_wp2_with fail
          refine (alive_any (HE.out.later HB6.out)).mono ?_
          rintro e wz ⟨rfl, hb⟩
          have HBz := hid (HB6.out.trans (hb.mono HB6.out.size))
          clear hb
          go_wp2_with fail
          go_ret
          exact ⟨rfl, HBz.out⟩

theorem witness (os : Os) {H : Type} (enc : TypeId × Value → H) :
    (OpenSpec.ofChange Rows.seqsetNormsSpec).preRow enc Tryz.prog Tryz.f7 Rows.seqsetNormsRow.domain false Rows.seqsetNormsRow.laid ((laidWorld os).forCall (fun _ _ => 0) ⟨#[], #[.slice none 0 0, .int .i64 0, .slice none 0 0], []⟩).memory #[.slice none 0 0, .int .i64 0, .slice none 0 0] := by
  have hw : (DataW.whole enc Tryz.prog ((laidWorld os).forCall (fun _ _ => 0) ⟨#[], #[.slice none 0 0, .int .i64 0, .slice none 0 0], []⟩).memory Tryz.f7.params.toList Rows.seqsetNormsSpec.vars false (#[.slice none 0 0, .int .i64 0, .slice none 0 0] : Array Value).toList 8).map (fun x => (x.1, x.2.1)) =
      some ([.nil, .lit (.int .i64 0), .nil], []) := by kernel_rfl
  obtain ⟨⟨x1, x2, x3⟩, hx, hx1⟩ := Option.map_eq_some_iff.1 hw
  simp only [Prod.mk.injEq] at hx1
  obtain ⟨rfl, rfl⟩ := hx1
  exact OpenSpec.preRow_of_cond 8 hx (by kernel_rfl) (fun k hk => by cases hk) (by kernel_rfl) (laid_met os _)

set_option maxRecDepth 100000 in
set_option maxHeartbeats 2000000 in
theorem lifted (os : Os) (started : os.Started) (H : Type) (enc : TypeId × Value → H) (F : Stop.Interp) :
    ReturnsInHanded {} Tryz.checked os 7 .any ((OpenSpec.ofChange Rows.seqsetNormsSpec).preRow enc Tryz.prog Tryz.f7 Rows.seqsetNormsRow.domain false Rows.seqsetNormsRow.laid) (((OpenSpec.ofChange Rows.seqsetNormsSpec).at F).post enc Tryz.prog Tryz.f7 false true false false) := by
  refine returnsInHanded_of_row (C := Tryz.checked) (s := OpenSpec.ofChange Rows.seqsetNormsSpec) own started (by kernel_rfl) Tryz.func7
    (witness_row_atRef (enc := enc) (C := Tryz.checked) false (laidWorld os) #[.slice none 0 0, .int .i64 0, .slice none 0 0] rfl (by kernel_rfl) (by kernel_rfl) (by kernel_rfl) (witness os enc)) ?_
  intro W base args ds gs before hval0 hW _ _ _ hL hsh _
  have hval : ∀ (j : Nat) t v, Tryz.f7.params[j]? = some t → args[j]? = some v → Value.okWide Tryz.prog W .any base t v := hval0
  have hW' := hW
  obtain ⟨p, q, hA0, hV, rfl, hfz, hnd⟩ := hW
  have hA : DataW.TrodAll enc Tryz.prog W 0 (fun _ => true) true Tryz.f7.params.toList args.toList ds p := hA0
  rw [Tryz.params7] at hA hval
  obtain ⟨v0, vs0, d0, ds0, p0, q0, hargs, rfl, rfl, h0, r0⟩ := trodAll_cons hA
  obtain ⟨v1, vs1, d1, ds1, p1, q1, rfl, rfl, rfl, h1, r1⟩ := trodAll_cons r0
  obtain ⟨v2, vs2, d2, ds2, p2, q2, rfl, rfl, rfl, h2, r2⟩ := trodAll_cons r1
  obtain ⟨rfl, rfl, rfl⟩ := trodAll_nil r2
  obtain rfl : args = #[v0, v1, v2] := by cases args; simp_all
  obtain ⟨rfl, rfl⟩ := trodVars_none hV
  obtain ⟨a0, len0, cap0, rfl⟩ := okWide_slice Tryz.underlying23 (hval 0 23 v0 rfl rfl)
  have lt0 : ∀ x ∈ p0, x.block < W.heap.size := by obtain ⟨m, hm⟩ := h0; exact DataW.trod_lt m _ _ _ hm
  obtain ⟨l0, hl0⟩ : ∃ l, SpansOk W a0 len0 cap0 l := by obtain ⟨fuel, hf⟩ := h0; exact open_spans hf
  obtain ⟨a1, rfl, rfl, rfl, w1⟩ := open_int Tryz.underlying3 (hval 1 3 v1 rfl rfl) h1
  obtain ⟨a2, len2, cap2, rfl⟩ := okWide_slice Tryz.underlying37 (hval 2 37 v2 rfl rfl)
  have lt2 : ∀ x ∈ p2, x.block < W.heap.size := by obtain ⟨m, hm⟩ := h2; exact DataW.trod_lt m _ _ _ hm
  obtain ⟨l2, hl2⟩ : ∃ l, NumsOk W a2 len2 cap2 l := by obtain ⟨fuel, hf⟩ := h2; exact open_nums hf
  clear hA0 hval0
  refine (walk a0 len0 cap0 l0 hl0 a1 a2 len2 cap2 l2 hl2 (env_of hL) (bounds_i64 w1)).mono ?_
  rintro e W' ⟨rfl, bel⟩
  exact ⟨_, rfl, _, _, _, [], _, [], hW', trodAll_mk1 (shut_bool Tryz.underlying4 _), (trodAll_cons_mk (Below.trod laidOut (by kernel_rfl) (of_decide_eq_true (by kernel_rfl)) h0 bel lt0) (trodAll_cons_mk (shut_int Tryz.underlying3 w1) (trodAll_cons_mk (Below.trod laidOut (by kernel_rfl) (of_decide_eq_true (by kernel_rfl)) h2 bel lt2) trodAll_mk0))), rfl, bel.frame _, fun h => by cases h⟩

theorem over : Rows.seqsetNormsRow.holds Tryz.pinned (OpenSpec.ofChange Rows.seqsetNormsSpec) :=
  OpenClaim.holds_of_cond 7 Tryz.f7 rfl rfl rfl rfl rfl rfl rfl ⟨rfl, rfl, rfl, rfl, rfl⟩ rfl rfl rfl rfl rfl (by kernel_rfl) Tryz.func7 (by kernel_rfl)
    (of_decide_eq_true (by kernel_rfl)) (by unfold Func.isWrapper; first | (rw [if_pos (by decide +kernel)]; kernel_rfl) | (rw [if_neg (by decide +kernel)]; exact ⟨rfl, rfl⟩))
    (fun os started H enc _ F => by rw [OpenClaim.pre_eq_preRow]; exact lifted os started H enc F)

/-- No parameter wants a stand-in. -/
theorem plain (f : FuncId) (fn : Func) (hf : Tryz.pinned.checked.prog.funcNamed Rows.seqsetNormsRow.func = some f) (hfn : Tryz.pinned.checked.prog.funcs[f]? = some fn) :
    true = Tryz.pinned.checked.prog.looks [] ∧ ∀ (j : Nat) t, fn.params[j]? = some t → Tryz.pinned.checked.prog.wantsStandIn t = false := by
  obtain rfl : f = 7 := Option.some.inj ((show Tryz.prog.funcNamed Rows.seqsetNormsRow.func = some 7 by kernel_rfl).symm.trans hf) |>.symm
  obtain rfl : fn = Tryz.f7 := (Option.some.inj (Tryz.func7.symm.trans hfn)).symm
  refine ⟨by kernel_rfl, fun j t ht => ?_⟩
  rw [Tryz.params7] at ht
  have hm := Array.mem_of_getElem? ht
  simp only [List.mem_toArray, List.mem_cons, List.not_mem_nil, or_false, or_self] at hm
  rcases hm with rfl | rfl | rfl
  · exact (show Tryz.prog.wantsStandIn 23 = false by kernel_rfl)
  · exact (show Tryz.prog.wantsStandIn 3 = false by kernel_rfl)
  · exact (show Tryz.prog.wantsStandIn 37 = false by kernel_rfl)
end Go.Proofs.YtiiegjdclpkeeaaGreatDoor.seqsetNorms
namespace Go.Proofs.YtiiegjdclpkeeaaGreatDoor
/-- THE STATEMENT. -/
theorem seqsetNorms_holds : Rows.SeqsetNormsCardSaid :=
  Claim7.holds_tied_plain_at .later [] _ _ _ _ seqsetNorms.over (fun _ h => by cases h) (by kernel_rfl) (fun _ h => by cases h) seqsetNorms_row_tie rfl ⟨rfl, rfl⟩ (by kernel_rfl) rfl seqsetNorms.plain (by kernel_rfl)
#print axioms seqsetNorms_holds
end Go.Proofs.YtiiegjdclpkeeaaGreatDoor
