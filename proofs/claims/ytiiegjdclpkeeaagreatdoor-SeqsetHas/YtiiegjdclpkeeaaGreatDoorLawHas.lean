/- Proved here: which numbers are in a set, and which of some, is as the document says (SeqsetHas returns true for every input, and leaves its arguments as they were). No condition beyond what the card says: three tables and two errors of the library hold what its text lays. -/
import Derived.Test.YtiiegjdclpkeeaaGreatDoorCards
import Derived.Test.YtiiegjdclpkeeaaGreatDoorTie
import Derived.Test.YtiiegjdclpkeeaaGreatDoorOpen
import Derived.Test.YtiiegjdclpkeeaaGreatDoorD2
import Derived.ProofKit
import Derived.OpenShut
import Derived.ShutString
import Derived.Below
namespace Go.Proofs.YtiiegjdclpkeeaaGreatDoor.seqsetHas
open Go.ChangeShapes Go.WideShapes Go.ChangeAt Go.RowKit
open Go.ChangeMaps (open_string shut_string)
set_option linter.unusedVariables false
set_option linter.unusedSimpArgs false

set_option maxRecDepth 100000 in
set_option maxHeartbeats 4000000 in
theorem walk {w : World} (a0 : Option Addr) (len0 cap0 : Nat) (l : List Sp) (h0 : SpansOk w a0 len0 cap0 l) (most : Int) (a2 : Option Addr) (len2 cap2 : Nat) (am : List Int) (h2 : NumsOk w a2 len2 cap2 am) (hE : Env w) (hm : -9223372036854775808 ≤ most ∧ most ≤ 9223372036854775807) :
    Calls Tryz.prog 6 #[.slice a0 len0 cap0, .int .i64 most, .slice a2 len2 cap2] w fun e w' => e = .returned (.bool true) ∧ Below w.heap.size w w' := by
  obtain ⟨hg0, hn0, hw0⟩ := h0
  obtain ⟨hg2, hn2, hw2⟩ := h2
  subst hn0 hn2
  have HE := hid hE
  clear hE
  by_cases g0 : (1200 : Int) < l.length
  · have d0 : decide ((1200 : Int) < l.length) = true := by simpa using g0
    go_enter Tryz.func6, Tryz.ntmps6
    go_wp2_with fail
    refine (alive_any HE.out).mono ?_
    rintro e wz ⟨rfl, hb⟩
    have HBz := hid (hb)
    clear hb
    go_wp2_with fail
    go_ret
    exact ⟨rfl, HBz.out⟩
  · by_cases g1 : (300 : Int) < am.length
    · have d0 : decide ((1200 : Int) < l.length) = false := by simpa using g0
      have d1 : decide ((300 : Int) < am.length) = true := by simpa using g1
      go_enter Tryz.func6, Tryz.ntmps6
      go_wp2_with fail
      refine (alive_any HE.out).mono ?_
      rintro e wz ⟨rfl, hb⟩
      have HBz := hid (hb)
      clear hb
      go_wp2_with fail
      go_ret
      exact ⟨rfl, HBz.out⟩
    · have d0 : decide ((1200 : Int) < l.length) = false := by simpa using g0
      have d1 : decide ((300 : Int) < am.length) = false := by simpa using g1
      have hok : Ok64 l := fun s hs => ⟨(hw0 s hs).1.2, (hw0 s hs).2.2⟩
      have hmi : most ≤ mi := hm.2
      have C1 := members_any hg0 hg2 (by omega) (by omega) most hmi hok
      have HG0 := hid hg0
      have HG2 := hid hg2
      clear hg0 hg2 hw0 hw2 hok
      have hfl := List.length_filter_le (fun n => hasB l n most) am
      unfold MembIs at C1
      go_enter Tryz.func6, Tryz.ntmps6
      go_wp2_with fail
      refine C1.mono ?_
      clear C1
      rintro e w1 ⟨⟨v1, rfl, ho1⟩, hb1⟩
      have HB1 := hid hb1
      have HO1 := hid ho1.gl
      clear ho1 hb1
      have C2 := rmembers_any (HG0.out.later HB1.out) (HG2.out.later HB1.out) (by omega) (by omega) most
      unfold MembIs at C2
      go_wp2_with fail
      refine C2.mono ?_
      clear C2
      rintro e w2 ⟨⟨v2, rfl, ho2⟩, hb2⟩
      have HB2 := hid (HB1.out.trans (hb2.mono HB1.out.size))
      have HO1' := hid (HO1.out.later hb2)
      have HO2 := hid ho2.gl
      clear ho2 hb2
      have C3 := ints_any HO1'.out HO2.out (by omega)
      unfold SameIs at C3
      go_wp2_with fail
      refine C3.mono ?_
      clear C3
      rintro e w3 ⟨rfl, hb3⟩
      have HB3 := hid (HB2.out.trans (hb3.mono HB2.out.size))
      clear hb3 HO1 HO1' HO2 HB1 HB2
      obtain ⟨a0', c0', hv0, hgg, hcc⟩ := gl_slice HG2.out
      simp only [Value.slice.injEq, true_and] at hv0
      obtain ⟨rfl, rfl⟩ := hv0
      have HGG := hid hgg
      clear hgg
      go_wp2_with fail
      go_loopw [30] (fun i wr => ∃ k : Nat, k ≤ am.length ∧ i = .int .i64 k ∧ Below w.heap.size w wr) (fun i _ => am.length - (intOf i).toNat)
      case atStart => exact ⟨0, by omega, rfl, HB3.out⟩
      case round =>
        obtain ⟨k, hk, rfl, hb⟩ := hrel
        have HB := hid hb
        clear hb
        by_cases hlt : k < am.length
        · have hlt' : (k : Int) < am.length := by omega
          have hne : am ≠ [] := by rintro rfl; simp at hlt
          obtain ⟨g, o, rfl, hga, hgz⟩ := HGG.out hne
          have hc0 := (hga.later HB.out).i k am[k] (List.getElem?_eq_getElem hlt)
          clear hga hne HGG
          generalize am[k] = x at *
          have C4 := has_any (HG0.out.later HB.out) (by omega) x most
          have hbb : (hasB l x most != hasB l x most) = false := by simp
          go_wp2_with fail
          refine C4.mono ?_
          clear C4
          rintro e w4 ⟨rfl, hb4⟩
          have HB4 := hid (HB.out.trans (hb4.mono HB.out.size))
          clear hb4
          have C5 := rhas_any (HG0.out.later HB4.out) (by omega) x most
          go_wp2_with fail
          refine C5.mono ?_
          clear C5
          rintro e w5 ⟨rfl, hb5⟩
          have HB5 := hid (HB4.out.trans (hb5.mono HB4.out.size))
          clear hb5
          generalize hasB l x most = b at *
          go_wp2_with fail
          go_roundw
          case rel => exact ⟨k + 1, by omega, by go_num, HB5.out⟩
          case measure => simp [intOf]; omega
        · have hlt' : ¬ (k : Int) < am.length := by omega
          go_wp2_with fail
          refine (alive_any (HE.out.later HB.out)).mono ?_
          rintro e wz ⟨rfl, hb⟩
          have HBz := hid (HB.out.trans (hb.mono HB.out.size))
          clear hb
          go_wp2_with fail
          go_ret
          exact ⟨rfl, HBz.out⟩

theorem witness (os : Os) {H : Type} (enc : TypeId × Value → H) :
    (OpenSpec.ofChange Rows.seqsetHasSpec).preRow enc Tryz.prog Tryz.f6 Rows.seqsetHasRow.domain false Rows.seqsetHasRow.laid ((laidWorld os).forCall (fun _ _ => 0) ⟨#[], #[.slice none 0 0, .int .i64 0, .slice none 0 0], []⟩).memory #[.slice none 0 0, .int .i64 0, .slice none 0 0] := by
  have hw : (DataW.whole enc Tryz.prog ((laidWorld os).forCall (fun _ _ => 0) ⟨#[], #[.slice none 0 0, .int .i64 0, .slice none 0 0], []⟩).memory Tryz.f6.params.toList Rows.seqsetHasSpec.vars false (#[.slice none 0 0, .int .i64 0, .slice none 0 0] : Array Value).toList 8).map (fun x => (x.1, x.2.1)) =
      some ([.nil, .lit (.int .i64 0), .nil], []) := by kernel_rfl
  obtain ⟨⟨x1, x2, x3⟩, hx, hx1⟩ := Option.map_eq_some_iff.1 hw
  simp only [Prod.mk.injEq] at hx1
  obtain ⟨rfl, rfl⟩ := hx1
  exact OpenSpec.preRow_of_cond 8 hx (by kernel_rfl) (fun k hk => by cases hk) (by kernel_rfl) (laid_met os _)

set_option maxRecDepth 100000 in
set_option maxHeartbeats 2000000 in
theorem lifted (os : Os) (started : os.Started) (H : Type) (enc : TypeId × Value → H) (F : Stop.Interp) :
    ReturnsInHanded {} Tryz.checked os 6 .any ((OpenSpec.ofChange Rows.seqsetHasSpec).preRow enc Tryz.prog Tryz.f6 Rows.seqsetHasRow.domain false Rows.seqsetHasRow.laid) (((OpenSpec.ofChange Rows.seqsetHasSpec).at F).post enc Tryz.prog Tryz.f6 false true false false) := by
  refine returnsInHanded_of_row (C := Tryz.checked) (s := OpenSpec.ofChange Rows.seqsetHasSpec) own started (by kernel_rfl) Tryz.func6
    (witness_row_atRef (enc := enc) (C := Tryz.checked) false (laidWorld os) #[.slice none 0 0, .int .i64 0, .slice none 0 0] rfl (by kernel_rfl) (by kernel_rfl) (by kernel_rfl) (witness os enc)) ?_
  intro W base args ds gs before hval0 hW _ _ _ hL hsh _
  have hval : ∀ (j : Nat) t v, Tryz.f6.params[j]? = some t → args[j]? = some v → Value.okWide Tryz.prog W .any base t v := hval0
  have hW' := hW
  obtain ⟨p, q, hA0, hV, rfl, hfz, hnd⟩ := hW
  have hA : DataW.TrodAll enc Tryz.prog W 0 (fun _ => true) true Tryz.f6.params.toList args.toList ds p := hA0
  rw [Tryz.params6] at hA hval
  obtain ⟨v0, vs0, d0, ds0, p0, q0, hargs, rfl, rfl, h0, r0⟩ := trodAll_cons hA
  obtain ⟨v1, vs1, d1, ds1, p1, q1, rfl, rfl, rfl, h1, r1⟩ := trodAll_cons r0
  obtain ⟨v2, vs2, d2, ds2, p2, q2, rfl, rfl, rfl, h2, r2⟩ := trodAll_cons r1
  obtain ⟨rfl, rfl, rfl⟩ := trodAll_nil r2
  obtain rfl : args = #[v0, v1, v2] := by cases args; simp_all
  obtain ⟨rfl, rfl⟩ := trodVars_none hV
  obtain ⟨a0, len0, cap0, rfl⟩ := okWide_slice Tryz.underlying23 (hval 0 23 v0 rfl rfl)
  have lt0 : ∀ x ∈ p0, x.block < W.heap.size := by obtain ⟨m, hm⟩ := h0; exact DataW.trod_lt m _ _ _ hm
  obtain ⟨l0, hl0⟩ : ∃ l, SpansOk W a0 len0 cap0 l := by obtain ⟨fuel, hf⟩ := h0; exact open_spans hf
  obtain ⟨a1, rfl, rfl, rfl, w1⟩ := open_int Tryz.underlying3 (hval 1 3 v1 rfl rfl) h1
  obtain ⟨a2, len2, cap2, rfl⟩ := okWide_slice Tryz.underlying37 (hval 2 37 v2 rfl rfl)
  have lt2 : ∀ x ∈ p2, x.block < W.heap.size := by obtain ⟨m, hm⟩ := h2; exact DataW.trod_lt m _ _ _ hm
  obtain ⟨l2, hl2⟩ : ∃ l, NumsOk W a2 len2 cap2 l := by obtain ⟨fuel, hf⟩ := h2; exact open_nums hf
  clear hA0 hval0
  refine (walk a0 len0 cap0 l0 hl0 a1 a2 len2 cap2 l2 hl2 (env_of hL) (bounds_i64 w1)).mono ?_
  rintro e W' ⟨rfl, bel⟩
  exact ⟨_, rfl, _, _, _, [], _, [], hW', trodAll_mk1 (shut_bool Tryz.underlying4 _), (trodAll_cons_mk (Below.trod laidOut (by kernel_rfl) (of_decide_eq_true (by kernel_rfl)) h0 bel lt0) (trodAll_cons_mk (shut_int Tryz.underlying3 w1) (trodAll_cons_mk (Below.trod laidOut (by kernel_rfl) (of_decide_eq_true (by kernel_rfl)) h2 bel lt2) trodAll_mk0))), rfl, bel.frame _, fun h => by cases h⟩

theorem over : Rows.seqsetHasRow.holds Tryz.pinned (OpenSpec.ofChange Rows.seqsetHasSpec) :=
  OpenClaim.holds_of_cond 6 Tryz.f6 rfl rfl rfl rfl rfl rfl rfl ⟨rfl, rfl, rfl, rfl, rfl⟩ rfl rfl rfl rfl rfl (by kernel_rfl) Tryz.func6 (by kernel_rfl)
    (of_decide_eq_true (by kernel_rfl)) (by unfold Func.isWrapper; first | (rw [if_pos (by decide +kernel)]; kernel_rfl) | (rw [if_neg (by decide +kernel)]; exact ⟨rfl, rfl⟩))
    (fun os started H enc _ F => by rw [OpenClaim.pre_eq_preRow]; exact lifted os started H enc F)

/-- No parameter wants a stand-in. -/
theorem plain (f : FuncId) (fn : Func) (hf : Tryz.pinned.checked.prog.funcNamed Rows.seqsetHasRow.func = some f) (hfn : Tryz.pinned.checked.prog.funcs[f]? = some fn) :
    true = Tryz.pinned.checked.prog.looks [] ∧ ∀ (j : Nat) t, fn.params[j]? = some t → Tryz.pinned.checked.prog.wantsStandIn t = false := by
  obtain rfl : f = 6 := Option.some.inj ((show Tryz.prog.funcNamed Rows.seqsetHasRow.func = some 6 by kernel_rfl).symm.trans hf) |>.symm
  obtain rfl : fn = Tryz.f6 := (Option.some.inj (Tryz.func6.symm.trans hfn)).symm
  refine ⟨by kernel_rfl, fun j t ht => ?_⟩
  rw [Tryz.params6] at ht
  have hm := Array.mem_of_getElem? ht
  simp only [List.mem_toArray, List.mem_cons, List.not_mem_nil, or_false, or_self] at hm
  rcases hm with rfl | rfl | rfl
  · exact (show Tryz.prog.wantsStandIn 23 = false by kernel_rfl)
  · exact (show Tryz.prog.wantsStandIn 3 = false by kernel_rfl)
  · exact (show Tryz.prog.wantsStandIn 37 = false by kernel_rfl)
end Go.Proofs.YtiiegjdclpkeeaaGreatDoor.seqsetHas
namespace Go.Proofs.YtiiegjdclpkeeaaGreatDoor
/-- THE STATEMENT. -/
theorem seqsetHas_holds : Rows.SeqsetHasCardSaid :=
  Claim7.holds_tied_plain_at .later [] _ _ _ _ seqsetHas.over (fun _ h => by cases h) (by kernel_rfl) (fun _ h => by cases h) seqsetHas_row_tie rfl ⟨rfl, rfl⟩ (by kernel_rfl) rfl seqsetHas.plain (by kernel_rfl)
#print axioms seqsetHas_holds
end Go.Proofs.YtiiegjdclpkeeaaGreatDoor
