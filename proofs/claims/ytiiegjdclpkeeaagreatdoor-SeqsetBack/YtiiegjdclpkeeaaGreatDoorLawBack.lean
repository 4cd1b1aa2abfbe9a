/- Proved here: a right set reads back from its text, and a set that was read is right, reads back from its own text, and that text is no longer (SeqsetBack returns true for every input, and leaves its arguments as they were). No condition beyond what the card says: three tables and two errors of the library hold what its text lays. -/
import Derived.Test.YtiiegjdclpkeeaaGreatDoorCards
import Derived.Test.YtiiegjdclpkeeaaGreatDoorTie
import Derived.Test.YtiiegjdclpkeeaaGreatDoorOpen
import Derived.Test.YtiiegjdclpkeeaaGreatDoorM20
import Derived.Test.YtiiegjdclpkeeaaGreatDoorM23
import Derived.ProofKit
import Derived.OpenShut
import Derived.ShutString
import Derived.Below
namespace Go.Proofs.YtiiegjdclpkeeaaGreatDoor.seqsetBack
open Go.ChangeShapes Go.WideShapes Go.ChangeAt Go.RowKit
open Go.ChangeMaps (open_string shut_string)
set_option linter.unusedVariables false
set_option linter.unusedSimpArgs false

set_option maxRecDepth 100000 in
set_option maxHeartbeats 16000000 in
theorem walk {w : World} (a0 : Option Addr) (len0 cap0 : Nat) (l : List Sp) (h0 : SpansOk w a0 len0 cap0 l) (a1 : ByteArray) (hE : Env w) (h1 : a1.size ≤ maxLen) :
    Calls Tryz.prog 5 #[.slice a0 len0 cap0, .string a1] w fun e w' => e = .returned (.bool true) ∧ Below w.heap.size w w' := by
  obtain ⟨s, rfl⟩ : ∃ x, a1 = str x := ⟨a1.data.toList, (str_of a1).symm⟩
  obtain ⟨hg0, hn0, hw0⟩ := h0
  subst hn0
  have HE := hid hE
  unfold maxLen at h1
  have hsz := str_size s
  rw [hsz] at h1
  clear hE hw0
  by_cases g0 : (1200 : Int) < l.length
  · go_enter Tryz.func5, Tryz.ntmps5
    go_wp2_with fail
    refine (alive_any HE.out).mono ?_
    rintro e wz ⟨rfl, hb⟩
    have HBz := hid (hb)
    clear hb
    go_wp2_with fail
    go_ret
    exact ⟨rfl, HBz.out⟩
  · by_cases g1 : (20000 : Int) < s.length
    · go_enter Tryz.func5, Tryz.ntmps5
      go_wp2_with fail
      refine (alive_any HE.out).mono ?_
      rintro e wz ⟨rfl, hb⟩
      have HBz := hid (hb)
      clear hb
      go_wp2_with fail
      go_ret
      exact ⟨rfl, HBz.out⟩
    · have C1 := print_any HE.out hg0 (by omega)
      have HG := hid hg0
      clear hg0
      unfold TxtIs at C1
      by_cases hr : rightB l = true
      · obtain ⟨⟨r1, r2⟩, r3⟩ := (right_iff l).1 hr
        have HLt := hid (text_len l r3)
        have HPV : Hid (printV l = textB l) := by unfold printV; rw [Hid, if_pos hr]
        have HPB := hid (par_back hr)
        have HHr := hid hr
        clear r3 hr
        rw [HPV.out] at C1
        go_enter Tryz.func5, Tryz.ntmps5
        go_wp2_with fail
        refine C1.mono ?_
        clear C1
        rintro e w1 ⟨rfl, hb1⟩
        have HB1 := hid hb1
        clear hb1
        have C2 := right_any (HG.out.later HB1.out) (by omega)
        unfold SameIs at C2
        rw [HHr.out] at C2
        have HX3 := hid (fun (W : World) (hb : Below w.heap.size w W) => parse_any (HE.out.later hb) (textB l) (Nat.le_trans HLt.out (by omega)))
        unfold ParseIs at HX3
        rw [HPB.out] at HX3
        simp only at HX3
        clear HPB HPV HLt
        generalize textB l = t at *
        go_wp2_with fail
        refine C2.mono ?_
        clear C2
        rintro e w2 ⟨rfl, hb2⟩
        have HB2 := hid (HB1.out.trans (hb2.mono HB1.out.size))
        clear hb2
        have C3 := HX3.out _ HB2.out
        clear HX3
        go_wp2_with fail
        refine C3.mono ?_
        clear C3
        rintro e w3 ⟨⟨v3, rfl, ho3⟩, hb3⟩
        have HB3 := hid (HB2.out.trans (hb3.mono HB2.out.size))
        have HO3 := hid ho3.gl
        clear ho3 hb3
        go_wp2_with fail
        refine (no_any 0 w3).mono ?_
        rintro e w3' ⟨rfl, rfl⟩
        have C4 := same_any HO3.out (HG.out.later HB3.out) (by omega)
        unfold SameIs at C4
        go_wp2_with fail
        refine C4.mono ?_
        clear C4
        rintro e w4 ⟨rfl, hb4⟩
        have HB4 := hid (HB3.out.trans (hb4.mono HB3.out.size))
        clear hb4 HO3
        have C5 := parse_any (HE.out.later HB4.out) s (by omega)
        unfold ParseIs at C5
        have HF := hid (fun (l2 : List Sp) (e : parV s = (l2, 0)) => par_fwd e)
        have HNone := hid (par_none s)
        generalize parV s = pv at *
        obtain ⟨l2, n2⟩ := pv
        simp only at C5 HNone
        by_cases hn2 : n2 = 0
        · subst hn2
          obtain ⟨f1, f2⟩ := HF.out l2 rfl
          obtain ⟨⟨r1, r2⟩, r3⟩ := (right_iff l2).1 f1
          have HL2 := hid (text_len l2 r3)
          have HPV : Hid (printV l2 = textB l2) := by unfold printV; rw [Hid, if_pos f1]
          have HPB := hid (par_back f1)
          have HF1 := hid f1
          clear r3 HF HNone f1
          go_wp2_with fail
          refine C5.mono ?_
          clear C5
          rintro e w5 ⟨⟨v5, rfl, ho5⟩, hb5⟩
          have HB5 := hid (HB4.out.trans (hb5.mono HB4.out.size))
          have HO5 := hid ho5.gl
          clear ho5 hb5
          go_wp2_with fail
          refine (no_any 0 w5).mono ?_
          rintro e w5' ⟨rfl, rfl⟩
          have C6 := print_any (HE.out.later HB5.out) HO5.out (by omega)
          unfold TxtIs at C6
          rw [HPV.out] at C6
          go_wp2_with fail
          refine C6.mono ?_
          clear C6
          rintro e w6 ⟨rfl, hb6⟩
          have HB6 := hid (HB5.out.trans (hb6.mono HB5.out.size))
          have HO6 := hid (HO5.out.later hb6)
          clear hb6
          have C7 := parse_any (HE.out.later HB6.out) (textB l2) (Nat.le_trans HL2.out (by omega))
          unfold ParseIs at C7
          rw [HPB.out] at C7
          simp only at C7
          have hsb := str_size (textB l2)
          clear HPB HPV
          generalize textB l2 = b at *
          go_wp2_with fail
          refine C7.mono ?_
          clear C7
          rintro e w7 ⟨⟨v7, rfl, ho7⟩, hb7⟩
          have HB7 := hid (HB6.out.trans (hb7.mono HB6.out.size))
          have HO7 := hid (HO6.out.later hb7)
          have HX7 := hid ho7.gl
          clear ho7 hb7
          have C8 := right_any HO7.out (by omega)
          unfold SameIs at C8
          rw [HF1.out] at C8
          go_wp2_with fail
          refine C8.mono ?_
          clear C8
          rintro e w8 ⟨rfl, hb8⟩
          have HB8 := hid (HB7.out.trans (hb8.mono HB7.out.size))
          have HO8 := hid (HO7.out.later hb8)
          have HX8 := hid (HX7.out.later hb8)
          clear hb8
          go_wp2_with fail
          refine (no_any 0 w8).mono ?_
          rintro e w8' ⟨rfl, rfl⟩
          have C9 := same_any HX8.out HO8.out (by omega)
          unfold SameIs at C9
          go_wp2_with fail
          refine C9.mono ?_
          clear C9
          rintro e w9 ⟨rfl, hb9⟩
          have HB9 := hid (HB8.out.trans (hb9.mono HB8.out.size))
          clear hb9
          have f2' : (b.length : Int) ≤ s.length := by omega
          go_wp2_with fail
          refine (alive_any (HE.out.later HB9.out)).mono ?_
          rintro e wz ⟨rfl, hb⟩
          have HBz := hid (HB9.out.trans (hb.mono HB9.out.size))
          clear hb
          go_wp2_with fail
          go_ret
          exact ⟨rfl, HBz.out⟩
        · have hl2 : l2 = [] := by
            rcases HNone.out with h | h
            · exact absurd h hn2
            · exact h.1
          subst hl2
          have hnb : (n2 != 0) = true := by simpa using hn2
          clear HF HNone
          go_wp2_with fail
          refine C5.mono ?_
          clear C5
          rintro e w5 ⟨⟨v5, rfl, ho5⟩, hb5⟩
          have HB5 := hid (HB4.out.trans (hb5.mono HB4.out.size))
          obtain ⟨a5, c5, rfl⟩ := ho5.slice (n := 0) rfl
          clear ho5 hb5
          go_wp2_with fail
          refine (no_any n2 w5).mono ?_
          rintro e w5' ⟨rfl, rfl⟩
          go_wp2_with fail
          refine (alive_any (HE.out.later HB5.out)).mono ?_
          rintro e wz ⟨rfl, hb⟩
          have HBz := hid (HB5.out.trans (hb.mono HB5.out.size))
          clear hb
          go_wp2_with fail
          go_ret
          exact ⟨rfl, HBz.out⟩
      · have hr' : rightB l = false := by simpa using hr
        have HPV : Hid (printV l = []) := by unfold printV; rw [Hid, if_neg hr]
        have HHr := hid hr'
        clear hr hr'
        rw [HPV.out] at C1
        have hq : ((str ([] : Bs)).toList == []) = true := by rw [toL]; rfl
        clear HPV
        go_enter Tryz.func5, Tryz.ntmps5
        go_wp2_with fail
        refine C1.mono ?_
        clear C1
        rintro e w1 ⟨rfl, hb1⟩
        have HB1 := hid hb1
        clear hb1
        have C2 := right_any (HG.out.later HB1.out) (by omega)
        unfold SameIs at C2
        rw [HHr.out] at C2
        go_wp2_with fail
        refine C2.mono ?_
        clear C2
        rintro e w4 ⟨rfl, hb4⟩
        have HB4 := hid (HB1.out.trans (hb4.mono HB1.out.size))
        clear hb4
        have C5 := parse_any (HE.out.later HB4.out) s (by omega)
        unfold ParseIs at C5
        have HF := hid (fun (l2 : List Sp) (e : parV s = (l2, 0)) => par_fwd e)
        have HNone := hid (par_none s)
        generalize parV s = pv at *
        obtain ⟨l2, n2⟩ := pv
        simp only at C5 HNone
        by_cases hn2 : n2 = 0
        · subst hn2
          obtain ⟨f1, f2⟩ := HF.out l2 rfl
          obtain ⟨⟨r1, r2⟩, r3⟩ := (right_iff l2).1 f1
          have HL2 := hid (text_len l2 r3)
          have HPV : Hid (printV l2 = textB l2) := by unfold printV; rw [Hid, if_pos f1]
          have HPB := hid (par_back f1)
          have HF1 := hid f1
          clear r3 HF HNone f1
          go_wp2_with fail
          refine C5.mono ?_
          clear C5
          rintro e w5 ⟨⟨v5, rfl, ho5⟩, hb5⟩
          have HB5 := hid (HB4.out.trans (hb5.mono HB4.out.size))
          have HO5 := hid ho5.gl
          clear ho5 hb5
          go_wp2_with fail
          refine (no_any 0 w5).mono ?_
          rintro e w5' ⟨rfl, rfl⟩
          have C6 := print_any (HE.out.later HB5.out) HO5.out (by omega)
          unfold TxtIs at C6
          rw [HPV.out] at C6
          go_wp2_with fail
          refine C6.mono ?_
          clear C6
          rintro e w6 ⟨rfl, hb6⟩
          have HB6 := hid (HB5.out.trans (hb6.mono HB5.out.size))
          have HO6 := hid (HO5.out.later hb6)
          clear hb6
          have C7 := parse_any (HE.out.later HB6.out) (textB l2) (Nat.le_trans HL2.out (by omega))
          unfold ParseIs at C7
          rw [HPB.out] at C7
          simp only at C7
          have hsb := str_size (textB l2)
          clear HPB HPV
          generalize textB l2 = b at *
          go_wp2_with fail
          refine C7.mono ?_
          clear C7
          rintro e w7 ⟨⟨v7, rfl, ho7⟩, hb7⟩
          have HB7 := hid (HB6.out.trans (hb7.mono HB6.out.size))
          have HO7 := hid (HO6.out.later hb7)
          have HX7 := hid ho7.gl
          clear ho7 hb7
          have C8 := right_any HO7.out (by omega)
          unfold SameIs at C8
          rw [HF1.out] at C8
          go_wp2_with fail
          refine C8.mono ?_
          clear C8
          rintro e w8 ⟨rfl, hb8⟩
          have HB8 := hid (HB7.out.trans (hb8.mono HB7.out.size))
          have HO8 := hid (HO7.out.later hb8)
          have HX8 := hid (HX7.out.later hb8)
          clear hb8
          go_wp2_with fail
          refine (no_any 0 w8).mono ?_
          rintro e w8' ⟨rfl, rfl⟩
          have C9 := same_any HX8.out HO8.out (by omega)
          unfold SameIs at C9
          go_wp2_with fail
          refine C9.mono ?_
          clear C9
          rintro e w9 ⟨rfl, hb9⟩
          have HB9 := hid (HB8.out.trans (hb9.mono HB8.out.size))
          clear hb9
          have f2' : (b.length : Int) ≤ s.length := by omega
          go_wp2_with fail
          refine (alive_any (HE.out.later HB9.out)).mono ?_
          rintro e wz ⟨rfl, hb⟩
          have HBz := hid (HB9.out.trans (hb.mono HB9.out.size))
          clear hb
          go_wp2_with fail
          go_ret
          exact ⟨rfl, HBz.out⟩
        · have hl2 : l2 = [] := by
            rcases HNone.out with h | h
            · exact absurd h hn2
            · exact h.1
          subst hl2
          have hnb : (n2 != 0) = true := by simpa using hn2
          clear HF HNone
          go_wp2_with fail
          refine C5.mono ?_
          clear C5
          rintro e w5 ⟨⟨v5, rfl, ho5⟩, hb5⟩
          have HB5 := hid (HB4.out.trans (hb5.mono HB4.out.size))
          obtain ⟨a5, c5, rfl⟩ := ho5.slice (n := 0) rfl
          clear ho5 hb5
          go_wp2_with fail
          refine (no_any n2 w5).mono ?_
          rintro e w5' ⟨rfl, rfl⟩
          go_wp2_with fail
          refine (alive_any (HE.out.later HB5.out)).mono ?_
          rintro e wz ⟨rfl, hb⟩
          have HBz := hid (HB5.out.trans (hb.mono HB5.out.size))
          clear hb
          go_wp2_with fail
          go_ret
          exact ⟨rfl, HBz.out⟩

theorem witness (os : Os) {H : Type} (enc : TypeId × Value → H) :
    (OpenSpec.ofChange Rows.seqsetBackSpec).preRow enc Tryz.prog Tryz.f5 Rows.seqsetBackRow.domain false Rows.seqsetBackRow.laid ((laidWorld os).forCall (fun _ _ => 0) ⟨#[], #[.slice none 0 0, .string ⟨#[]⟩], []⟩).memory #[.slice none 0 0, .string ⟨#[]⟩] := by
  have hw : (DataW.whole enc Tryz.prog ((laidWorld os).forCall (fun _ _ => 0) ⟨#[], #[.slice none 0 0, .string ⟨#[]⟩], []⟩).memory Tryz.f5.params.toList Rows.seqsetBackSpec.vars false (#[.slice none 0 0, .string ⟨#[]⟩] : Array Value).toList 8).map (fun x => (x.1, x.2.1)) =
      some ([.nil, .lit (.string [])], []) := by kernel_rfl
  obtain ⟨⟨x1, x2, x3⟩, hx, hx1⟩ := Option.map_eq_some_iff.1 hw
  simp only [Prod.mk.injEq] at hx1
  obtain ⟨rfl, rfl⟩ := hx1
  exact OpenSpec.preRow_of_cond 8 hx (by kernel_rfl) (fun k hk => by cases hk) (by kernel_rfl) (laid_met os _)

set_option maxRecDepth 100000 in
set_option maxHeartbeats 2000000 in
theorem lifted (os : Os) (started : os.Started) (H : Type) (enc : TypeId × Value → H) (F : Stop.Interp) :
    ReturnsInHanded {} Tryz.checked os 5 .any ((OpenSpec.ofChange Rows.seqsetBackSpec).preRow enc Tryz.prog Tryz.f5 Rows.seqsetBackRow.domain false Rows.seqsetBackRow.laid) (((OpenSpec.ofChange Rows.seqsetBackSpec).at F).post enc Tryz.prog Tryz.f5 false true false false) := by
  refine returnsInHanded_of_row (C := Tryz.checked) (s := OpenSpec.ofChange Rows.seqsetBackSpec) own started (by kernel_rfl) Tryz.func5
    (witness_row_atRef (enc := enc) (C := Tryz.checked) false (laidWorld os) #[.slice none 0 0, .string ⟨#[]⟩] rfl (by kernel_rfl) (by kernel_rfl) (by kernel_rfl) (witness os enc)) ?_
  intro W base args ds gs before hval0 hW _ _ _ hL hsh _
  have hval : ∀ (j : Nat) t v, Tryz.f5.params[j]? = some t → args[j]? = some v → Value.okWide Tryz.prog W .any base t v := hval0
  have hW' := hW
  obtain ⟨p, q, hA0, hV, rfl, hfz, hnd⟩ := hW
  have hA : DataW.TrodAll enc Tryz.prog W 0 (fun _ => true) true Tryz.f5.params.toList args.toList ds p := hA0
  rw [Tryz.params5] at hA hval
  obtain ⟨v0, vs0, d0, ds0, p0, q0, hargs, rfl, rfl, h0, r0⟩ := trodAll_cons hA
  obtain ⟨v1, vs1, d1, ds1, p1, q1, rfl, rfl, rfl, h1, r1⟩ := trodAll_cons r0
  obtain ⟨rfl, rfl, rfl⟩ := trodAll_nil r1
  obtain rfl : args = #[v0, v1] := by cases args; simp_all
  obtain ⟨rfl, rfl⟩ := trodVars_none hV
  obtain ⟨a0, len0, cap0, rfl⟩ := okWide_slice Tryz.underlying23 (hval 0 23 v0 rfl rfl)
  have lt0 : ∀ x ∈ p0, x.block < W.heap.size := by obtain ⟨m, hm⟩ := h0; exact DataW.trod_lt m _ _ _ hm
  obtain ⟨l0, hl0⟩ : ∃ l, SpansOk W a0 len0 cap0 l := by obtain ⟨fuel, hf⟩ := h0; exact open_spans hf
  obtain ⟨a1, rfl, rfl, rfl, w1⟩ := open_string Tryz.underlying9 (hval 1 9 v1 rfl rfl) h1
  clear hA0 hval0
  refine (walk a0 len0 cap0 l0 hl0 a1 (env_of hL) w1).mono ?_
  rintro e W' ⟨rfl, bel⟩
  exact ⟨_, rfl, _, _, _, [], _, [], hW', trodAll_mk1 (shut_bool Tryz.underlying4 _), (trodAll_cons_mk (Below.trod laidOut (by kernel_rfl) (of_decide_eq_true (by kernel_rfl)) h0 bel lt0) (trodAll_cons_mk (shut_string Tryz.underlying9 w1) trodAll_mk0)), rfl, bel.frame _, fun h => by cases h⟩

theorem over : Rows.seqsetBackRow.holds Tryz.pinned (OpenSpec.ofChange Rows.seqsetBackSpec) :=
  OpenClaim.holds_of_cond 5 Tryz.f5 rfl rfl rfl rfl rfl rfl rfl ⟨rfl, rfl, rfl, rfl, rfl⟩ rfl rfl rfl rfl rfl (by kernel_rfl) Tryz.func5 (by kernel_rfl)
    (of_decide_eq_true (by kernel_rfl)) (by unfold Func.isWrapper; first | (rw [if_pos (by decide +kernel)]; kernel_rfl) | (rw [if_neg (by decide +kernel)]; exact ⟨rfl, rfl⟩))
    (fun os started H enc _ F => by rw [OpenClaim.pre_eq_preRow]; exact lifted os started H enc F)

/-- No parameter wants a stand-in. -/
theorem plain (f : FuncId) (fn : Func) (hf : Tryz.pinned.checked.prog.funcNamed Rows.seqsetBackRow.func = some f) (hfn : Tryz.pinned.checked.prog.funcs[f]? = some fn) :
    true = Tryz.pinned.checked.prog.looks [] ∧ ∀ (j : Nat) t, fn.params[j]? = some t → Tryz.pinned.checked.prog.wantsStandIn t = false := by
  obtain rfl : f = 5 := Option.some.inj ((show Tryz.prog.funcNamed Rows.seqsetBackRow.func = some 5 by kernel_rfl).symm.trans hf) |>.symm
  obtain rfl : fn = Tryz.f5 := (Option.some.inj (Tryz.func5.symm.trans hfn)).symm
  refine ⟨by kernel_rfl, fun j t ht => ?_⟩
  rw [Tryz.params5] at ht
  have hm := Array.mem_of_getElem? ht
  simp only [List.mem_toArray, List.mem_cons, List.not_mem_nil, or_false, or_self] at hm
  rcases hm with rfl | rfl
  · exact (show Tryz.prog.wantsStandIn 23 = false by kernel_rfl)
  · exact (show Tryz.prog.wantsStandIn 9 = false by kernel_rfl)
end Go.Proofs.YtiiegjdclpkeeaaGreatDoor.seqsetBack
namespace Go.Proofs.YtiiegjdclpkeeaaGreatDoor
/-- THE STATEMENT. -/
theorem seqsetBack_holds : Rows.SeqsetBackCardSaid :=
  Claim7.holds_tied_plain_at .later [] _ _ _ _ seqsetBack.over (fun _ h => by cases h) (by kernel_rfl) (fun _ h => by cases h) seqsetBack_row_tie rfl ⟨rfl, rfl⟩ (by kernel_rfl) rfl seqsetBack.plain (by kernel_rfl)
#print axioms seqsetBack_holds
end Go.Proofs.YtiiegjdclpkeeaaGreatDoor
