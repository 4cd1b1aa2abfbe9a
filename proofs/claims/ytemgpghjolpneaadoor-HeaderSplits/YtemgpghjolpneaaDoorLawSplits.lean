/- Proved here: with no names, and the others asked for, there are all fields' lines; each field's lines stand among those with some names, or among those without; the fields of what is told are fields of the text (HeaderSplits returns true for every input, and leaves its arguments as they were). No condition beyond what the card says: two tables of the library hold what its text lays. -/
import Derived.Test.YtemgpghjolpneaaDoorCards
import Derived.Test.YtemgpghjolpneaaDoorTie
import Derived.Test.YtemgpghjolpneaaDoorFrame
import Derived.Test.YtemgpghjolpneaaDoorP4
import Derived.Test.YtemgpghjolpneaaDoorOpen
import Derived.ProofKit
import Derived.OpenShut
import Derived.ShutString
import Derived.Below
namespace Go.Proofs.YtemgpghjolpneaaDoor.headerSplits
open Go.ChangeShapes Go.WideShapes Go.ChangeAt Go.RowKit
open Go.ChangeMaps (open_string shut_string)
set_option linter.unusedVariables false
set_option linter.unusedSimpArgs false

theorem nilRL (w : World) : RL w (.slice none 0 0) 1 (([] : List Bs).map sR) := ⟨fun r hr => by simp at hr, none, 0, rfl, Nat.le_refl _, .inl rfl⟩
theorem blk_len : ∀ (n : Nat) (s : Bs), s.length ≤ n → (blk s).length ≤ s.length
  | 0, s, h => by
    have : s = [] := List.eq_nil_of_length_eq_zero (by omega)
    subst this; exact Nat.le_refl _
  | n + 1, s, h => by
    by_cases h0 : s = []
    · subst h0; exact Nat.le_refl _
    · have h1 := ln_pos s h0
      have h2 := ln_le s
      have h3 := fl_pos s h0
      have h4 := fl_le s
      have h5 := blk_len n (s.drop (ln s)) (by simp; omega)
      have h6 := blk_len n (s.drop (fl s)) (by simp; omega)
      unfold blk at h5 h6 ⊢
      rw [ents_step s h0]
      simp only [List.length_drop] at h5 h6
      split
      · omega
      · rw [List.flatMap_cons, List.length_append, List.length_take]; omega
theorem only_le (s : Bs) (not : Bool) (names : List Bs) : (onlyP s not names).length ≤ s.length + 2 := by
  have h1 := only_lens s names
  have h2 := blk_len _ s (Nat.le_refl _)
  rw [only_all, List.length_append] at h1
  have e : ∀ b, 2 ≤ (onlyP s b names).length := fun b => by unfold onlyP; simp
  have e1 := e true
  have e2 := e false
  simp only [List.length_cons, List.length_nil] at h1
  cases not <;> omega
theorem closed_or (s : Bs) : (closed s) ∨ ∃ (h : 0 < s.length), s[s.length - 1]'(by omega) ≠ 10 := by
  by_cases h0 : s = []
  · exact .inl (.inl h0)
  · by_cases h1 : s.getLast? = some 10
    · exact .inl (.inr h1)
    · refine .inr ⟨List.length_pos_iff.2 h0, fun e => h1 ?_⟩
      rw [List.getLast?_eq_some_getLast h0, List.getLast_eq_getElem h0, e]

set_option maxRecDepth 100000 in
set_option maxHeartbeats 8000000 in
theorem walk (a0 : ByteArray) {w : World} (a : Option Addr) (len cap : Nat) (ns : List Bs) (hn : TextsOk w a len cap ns) (he : Env w) (h0 : a0.size ≤ maxLen) :
    Calls Tryd.prog 7 #[.string a0, .slice a len cap] w fun e w' => e = .returned (.bool true) ∧ Below w.heap.size w w' := by
  obtain ⟨s, rfl⟩ : ∃ s, a0 = str s := ⟨a0.data.toList, (str_of a0).symm⟩
  unfold maxLen at h0
  have hx := str_size s
  rw [hx] at h0
  have HE := hid he
  have HFew := hid (few_any hn)
  have HRL := hid hn.rl
  clear he hn
  by_cases g0 : (4000 : Int) < s.length
  · go_enter Tryd.func7, Tryd.ntmps7
    go_wp2_with fail
    refine (alive_any HE.out).mono ?_
    rintro e wz ⟨rfl, hb⟩
    have HBz := hid (hb)
    clear hb
    go_wp2_with fail
    go_ret
    exact ⟨rfl, HBz.out⟩
  · rcases hf : fewP ns
    · rw [hf] at HFew
      go_enter Tryd.func7, Tryd.ntmps7
      go_wp2_with fail
      refine HFew.out.mono ?_
      rintro e w1 ⟨rfl, rfl⟩
      go_wp2_with fail
      refine (alive_any HE.out).mono ?_
      rintro e wz ⟨rfl, hb⟩
      have HBz := hid (hb)
      clear hb
      go_wp2_with fail
      go_ret
      exact ⟨rfl, HBz.out⟩
    · rw [hf] at HFew
      obtain ⟨hnl, hne⟩ := few_yes hf
      have l1 := only_le s true []
      have l2 := only_le s false ns
      have l3 := only_le s true ns
      have HLn := hid (only_lens s ns)
      have HC1 := hid (fun W (h : Env W) => only_any s true h (nilRL W) (by omega) (by simp) (by simp))
      have HC2 := hid (fun W (h : Env W) v (hv : RL W v 1 (ns.map sR)) => only_any s false h hv (by omega) (by omega) (fun n hn => by have := hne n hn; omega))
      have HC3 := hid (fun W (h : Env W) v (hv : RL W v 1 (ns.map sR)) => only_any s true h hv (by omega) (by omega) (fun n hn => by have := hne n hn; omega))
      have C4 := fun W (h : Env W) => only_any s false h (nilRL W) (by omega) (by simp) (by simp)
      rw [only_none] at C4
      have HC4 := hid C4
      have C5 := fun W (h : Env W) => only_any (onlyP s true []) true h (nilRL W) (by omega) (by simp) (by simp)
      have HAg := hid (@only_again s)
      have q4 : ((str [13, 10]).toList == [13, 10]) = true := by rw [eqL]; simp
      have s1 := str_size (onlyP s true [])
      have s2 := str_size (onlyP s false ns)
      have s3 := str_size (onlyP s true ns)
      generalize hv5 : onlyP (onlyP s true []) true [] = v5 at *
      generalize onlyP s true [] = v1 at *
      generalize onlyP s false ns = v2 at *
      generalize onlyP s true ns = v3 at *
      have hsum : (v1.length : Int) = (v2.length : Int) + v3.length - 2 := by have := HLn.out; omega
      have HC5 := hid C5
      clear C4 C5 HLn hv5
      rcases closed_or s with hcl | ⟨hp, hlast⟩
      · have HX := hid (HAg.out hcl)
        have q5 : ((str v5).toList == (str v1).toList) = true := by rw [HX.out]; simp
        clear hcl
        go_enter Tryd.func7, Tryd.ntmps7
        go_wp2_with fail
        refine HFew.out.mono ?_
        rintro e w1 ⟨rfl, rfl⟩
        go_wp2_with fail
        refine (HC1.out _ HE.out).mono ?_
        rintro e w2 ⟨rfl, hb⟩
        have HB2 := hid hb
        clear hb
        go_wp2_with fail
        refine (HC2.out _ (HE.out.later HB2.out) _ (HRL.out.later HB2.out)).mono ?_
        rintro e w3 ⟨rfl, hb⟩
        have HB3 := hid (HB2.out.trans (hb.mono HB2.out.size))
        clear hb
        go_wp2_with fail
        refine (HC3.out _ (HE.out.later HB3.out) _ (HRL.out.later HB3.out)).mono ?_
        rintro e w4 ⟨rfl, hb⟩
        have HB4 := hid (HB3.out.trans (hb.mono HB3.out.size))
        clear hb
        go_wp2_with fail
        refine (HC4.out _ (HE.out.later HB4.out)).mono ?_
        rintro e w5 ⟨rfl, hb⟩
        have HB5 := hid (HB4.out.trans (hb.mono HB4.out.size))
        clear hb
        go_wp2_with fail
        refine (HC5.out _ (HE.out.later HB5.out)).mono ?_
        rintro e w6 ⟨rfl, hb⟩
        have HB6 := hid (HB5.out.trans (hb.mono HB5.out.size))
        clear hb
        go_wp2_with fail
        refine (alive_any (HE.out.later HB6.out)).mono ?_
        rintro e wz ⟨rfl, hb⟩
        have HBz := hid (HB6.out.trans (hb.mono HB6.out.size))
        clear hb
        go_wp2_with fail
        go_ret
        exact ⟨rfl, HBz.out⟩
      · have hnz : ¬ (s.length : Int) = 0 := by omega
        have hnz2 : ¬ s = [] := List.length_pos_iff.1 hp
        have hls : s.length - 1 < (str s).size := by omega
        have gl : ((str s)[s.length - 1]'hls) = s[s.length - 1] := rfl
        have hne10 : ¬ (((s[s.length - 1]'(by omega)).toNat : Int) = 10) := c_ne hlast
        have hne11 : ((((s[s.length - 1]'(by omega)).toNat : Int) == 10)) = false := by simpa using hne10
        generalize s[s.length - 1] = cc at *
        clear hlast
        rcases hq5 : ((str v5).toList == (str v1).toList)
        · skip
          go_enter Tryd.func7, Tryd.ntmps7
          go_wp2_with fail
          refine HFew.out.mono ?_
          rintro e w1 ⟨rfl, rfl⟩
          go_wp2_with fail
          refine (HC1.out _ HE.out).mono ?_
          rintro e w2 ⟨rfl, hb⟩
          have HB2 := hid hb
          clear hb
          go_wp2_with fail
          refine (HC2.out _ (HE.out.later HB2.out) _ (HRL.out.later HB2.out)).mono ?_
          rintro e w3 ⟨rfl, hb⟩
          have HB3 := hid (HB2.out.trans (hb.mono HB2.out.size))
          clear hb
          go_wp2_with fail
          refine (HC3.out _ (HE.out.later HB3.out) _ (HRL.out.later HB3.out)).mono ?_
          rintro e w4 ⟨rfl, hb⟩
          have HB4 := hid (HB3.out.trans (hb.mono HB3.out.size))
          clear hb
          go_wp2_with fail
          refine (HC4.out _ (HE.out.later HB4.out)).mono ?_
          rintro e w5 ⟨rfl, hb⟩
          have HB5 := hid (HB4.out.trans (hb.mono HB4.out.size))
          clear hb
          go_wp2_with fail
          refine (HC5.out _ (HE.out.later HB5.out)).mono ?_
          rintro e w6 ⟨rfl, hb⟩
          have HB6 := hid (HB5.out.trans (hb.mono HB5.out.size))
          clear hb
          go_wp2_with fail
          refine (alive_any (HE.out.later HB6.out)).mono ?_
          rintro e wz ⟨rfl, hb⟩
          have HBz := hid (HB6.out.trans (hb.mono HB6.out.size))
          clear hb
          go_wp2_with fail
          go_ret
          exact ⟨rfl, HBz.out⟩
        · skip
          go_enter Tryd.func7, Tryd.ntmps7
          go_wp2_with fail
          refine HFew.out.mono ?_
          rintro e w1 ⟨rfl, rfl⟩
          go_wp2_with fail
          refine (HC1.out _ HE.out).mono ?_
          rintro e w2 ⟨rfl, hb⟩
          have HB2 := hid hb
          clear hb
          go_wp2_with fail
          refine (HC2.out _ (HE.out.later HB2.out) _ (HRL.out.later HB2.out)).mono ?_
          rintro e w3 ⟨rfl, hb⟩
          have HB3 := hid (HB2.out.trans (hb.mono HB2.out.size))
          clear hb
          go_wp2_with fail
          refine (HC3.out _ (HE.out.later HB3.out) _ (HRL.out.later HB3.out)).mono ?_
          rintro e w4 ⟨rfl, hb⟩
          have HB4 := hid (HB3.out.trans (hb.mono HB3.out.size))
          clear hb
          go_wp2_with fail
          refine (HC4.out _ (HE.out.later HB4.out)).mono ?_
          rintro e w5 ⟨rfl, hb⟩
          have HB5 := hid (HB4.out.trans (hb.mono HB4.out.size))
          clear hb
          go_wp2_with fail
          refine (HC5.out _ (HE.out.later HB5.out)).mono ?_
          rintro e w6 ⟨rfl, hb⟩
          have HB6 := hid (HB5.out.trans (hb.mono HB5.out.size))
          clear hb
          go_wp2_with fail
          refine (alive_any (HE.out.later HB6.out)).mono ?_
          rintro e wz ⟨rfl, hb⟩
          have HBz := hid (HB6.out.trans (hb.mono HB6.out.size))
          clear hb
          go_wp2_with fail
          go_ret
          exact ⟨rfl, HBz.out⟩

theorem witness (os : Os) {H : Type} (enc : TypeId × Value → H) :
    (OpenSpec.ofChange Rows.headerSplitsSpec).preRow enc Tryd.prog Tryd.f7 Rows.headerSplitsRow.domain false Rows.headerSplitsRow.laid ((laidWorld os).forCall (fun _ _ => 0) ⟨#[], #[.string ⟨#[]⟩, .slice none 0 0], []⟩).memory #[.string ⟨#[]⟩, .slice none 0 0] := by
  have hw : (DataW.whole enc Tryd.prog ((laidWorld os).forCall (fun _ _ => 0) ⟨#[], #[.string ⟨#[]⟩, .slice none 0 0], []⟩).memory Tryd.f7.params.toList Rows.headerSplitsSpec.vars false (#[.string ⟨#[]⟩, .slice none 0 0] : Array Value).toList 8).map (fun x => (x.1, x.2.1)) =
      some ([.lit (.string []), .nil], []) := by kernel_rfl
  obtain ⟨⟨x1, x2, x3⟩, hx, hx1⟩ := Option.map_eq_some_iff.1 hw
  simp only [Prod.mk.injEq] at hx1
  obtain ⟨rfl, rfl⟩ := hx1
  exact OpenSpec.preRow_of_cond 8 hx (by kernel_rfl) (fun k hk => by cases hk) (by kernel_rfl) (laid_met os _)

set_option maxRecDepth 100000 in
set_option maxHeartbeats 2000000 in
theorem lifted (os : Os) (started : os.Started) (H : Type) (enc : TypeId × Value → H) (F : Stop.Interp) :
    ReturnsInHanded {} Tryd.checked os 7 .any ((OpenSpec.ofChange Rows.headerSplitsSpec).preRow enc Tryd.prog Tryd.f7 Rows.headerSplitsRow.domain false Rows.headerSplitsRow.laid) (((OpenSpec.ofChange Rows.headerSplitsSpec).at F).post enc Tryd.prog Tryd.f7 false true false false) := by
  refine returnsInHanded_of_row (C := Tryd.checked) (s := OpenSpec.ofChange Rows.headerSplitsSpec) own started (by kernel_rfl) Tryd.func7
    (witness_row_atRef (enc := enc) (C := Tryd.checked) false (laidWorld os) #[.string ⟨#[]⟩, .slice none 0 0] rfl (by kernel_rfl) (by kernel_rfl) (by kernel_rfl) (witness os enc)) ?_
  intro W base args ds gs before hval0 hW _ _ _ hL hsh _
  have hval : ∀ (j : Nat) t v, Tryd.f7.params[j]? = some t → args[j]? = some v → Value.okWide Tryd.prog W .any base t v := hval0
  have hW' := hW
  obtain ⟨p, q, hA0, hV, rfl, hfz, hnd⟩ := hW
  have hA : DataW.TrodAll enc Tryd.prog W 0 (fun _ => true) true Tryd.f7.params.toList args.toList ds p := hA0
  rw [Tryd.params7] at hA hval
  obtain ⟨v0, vs0, d0, ds0, p0, q0, hargs, rfl, rfl, h0, r0⟩ := trodAll_cons hA
  obtain ⟨v1, vs1, d1, ds1, p1, q1, rfl, rfl, rfl, h1, r1⟩ := trodAll_cons r0
  obtain ⟨rfl, rfl, rfl⟩ := trodAll_nil r1
  obtain rfl : args = #[v0, v1] := by cases args; simp_all
  obtain ⟨rfl, rfl⟩ := trodVars_none hV
  obtain ⟨a0, rfl, rfl, rfl, w0⟩ := open_string Tryd.underlying9 (hval 0 9 v0 rfl rfl) h0
  obtain ⟨a1, len1, cap1, rfl⟩ := okWide_slice Tryd.underlying29 (hval 1 29 v1 rfl rfl)
  have lt1 : ∀ x ∈ p1, x.block < W.heap.size := by obtain ⟨m, hm⟩ := h1; exact DataW.trod_lt m _ _ _ hm
  obtain ⟨l1, hl1⟩ : ∃ l, TextsOk W a1 len1 cap1 l := by obtain ⟨fuel, hf⟩ := h1; exact open_texts hf
  clear hA0 hval0
  refine (walk a0 a1 len1 cap1 l1 hl1 (env_of hsh) w0).mono ?_
  rintro e W' ⟨rfl, bel⟩
  exact ⟨_, rfl, _, _, _, [], _, [], hW', trodAll_mk1 (shut_bool Tryd.underlying4 _), (trodAll_cons_mk (shut_string Tryd.underlying9 w0) (trodAll_cons_mk (Below.trod laidOut (by kernel_rfl) (of_decide_eq_true (by kernel_rfl)) h1 bel lt1) trodAll_mk0)), rfl, bel.frame _, fun h => by cases h⟩

theorem over : Rows.headerSplitsRow.holds Tryd.pinned (OpenSpec.ofChange Rows.headerSplitsSpec) :=
  OpenClaim.holds_of_cond 7 Tryd.f7 rfl rfl rfl rfl rfl rfl rfl ⟨rfl, rfl, rfl, rfl, rfl⟩ rfl rfl rfl rfl rfl (by kernel_rfl) Tryd.func7 (by kernel_rfl)
    (of_decide_eq_true (by kernel_rfl)) (by unfold Func.isWrapper; first | (rw [if_pos (by decide +kernel)]; kernel_rfl) | (rw [if_neg (by decide +kernel)]; exact ⟨rfl, rfl⟩))
    (fun os started H enc _ F => by rw [OpenClaim.pre_eq_preRow]; exact lifted os started H enc F)

/-- No parameter wants a stand-in. -/
theorem plain (f : FuncId) (fn : Func) (hf : Tryd.pinned.checked.prog.funcNamed Rows.headerSplitsRow.func = some f) (hfn : Tryd.pinned.checked.prog.funcs[f]? = some fn) :
    false = Tryd.pinned.checked.prog.looks [] ∧ ∀ (j : Nat) t, fn.params[j]? = some t → Tryd.pinned.checked.prog.wantsStandIn t = false := by
  obtain rfl : f = 7 := Option.some.inj ((show Tryd.prog.funcNamed Rows.headerSplitsRow.func = some 7 by kernel_rfl).symm.trans hf) |>.symm
  obtain rfl : fn = Tryd.f7 := (Option.some.inj (Tryd.func7.symm.trans hfn)).symm
  refine ⟨by kernel_rfl, fun j t ht => ?_⟩
  rw [Tryd.params7] at ht
  have hm := Array.mem_of_getElem? ht
  simp only [List.mem_toArray, List.mem_cons, List.not_mem_nil, or_false, or_self] at hm
  rcases hm with rfl | rfl
  · exact (show Tryd.prog.wantsStandIn 9 = false by kernel_rfl)
  · exact (show Tryd.prog.wantsStandIn 29 = false by kernel_rfl)
end Go.Proofs.YtemgpghjolpneaaDoor.headerSplits
namespace Go.Proofs.YtemgpghjolpneaaDoor
/-- THE STATEMENT. -/
theorem headerSplits_holds : Rows.HeaderSplitsCardSaid :=
  Claim7.holds_tied_plain_at .later [] _ _ _ _ headerSplits.over (fun _ h => by cases h) (by kernel_rfl) (fun _ h => by cases h) headerSplits_row_tie rfl ⟨rfl, rfl⟩ (by kernel_rfl) rfl headerSplits.plain (by kernel_rfl)
#print axioms headerSplits_holds
end Go.Proofs.YtemgpghjolpneaaDoor
