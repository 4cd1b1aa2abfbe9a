/- Proved here: any lines with what their encoded words say are as the document says (WordsTells returns true for every input, and leaves its arguments as they were). No condition beyond what the card says: two tables of the library hold what its text lays. -/
import Derived.Test.YtjmjeiegbkfdbaaDoorCards
import Derived.Test.YtjmjeiegbkfdbaaDoorTie
import Derived.Test.YtjmjeiegbkfdbaaDoorFrame
import Derived.Test.YtjmjeiegbkfdbaaDoorR8
import Derived.ProofKit
import Derived.OpenShut
import Derived.ShutString
import Derived.Below
import Derived.SliceStrings
import Derived.Carry
namespace Go.Proofs.YtjmjeiegbkfdbaaDoor.wordsTells
open Go.ChangeShapes Go.WideShapes Go.ChangeAt Go.RowKit
open Go.ChangeMaps (open_string shut_string)
set_option linter.unusedVariables false
set_option linter.unusedSimpArgs false

theorem cells9 : Tryd.prog.cellsOf 9 = 1 := by kernel_rfl
theorem laidOut : laidOutB Tryd.prog = true := by kernel_rfl
theorem spot_none {W : World} {kb ko : Nat} {sp : Option Nat} {v : Value} (h : W.cell? ((⟨kb, ko, sp⟩ : Addr).add 0) = some v) : sp = none := by
  simp only [Addr.add, if_true, World.cell?] at h
  cases sp with
  | none => rfl
  | some s => split at h <;> simp at h
theorem open_lines {H : Type} {enc : TypeId × Value → H} {W : World} {held : Bool} {fuel : Nat} {a : Option Addr} {len cap : Nat} {x : DataW H × List MemPlace} (h : DataW.trod enc Tryd.prog W 0 (fun _ => true) held fuel 32 [.slice a len cap] = some x) :
    ∃ ls : List Bs, SL W (.slice a len cap) ls ∧ ls.length = len ∧ len ≤ maxLen ∧ ∀ l ∈ ls, l.length ≤ maxLen := by
  rcases Go.ChangeShapes.open_strings Tryd.underlying32 Tryd.underlying9 cells9 h with ⟨hcs, _⟩ | ⟨a', len', cap', ss, hcs, _, hl, hm, hz, _, hc, hw⟩
  · simp only [List.cons.injEq, Value.slice.injEq, and_true] at hcs
    obtain ⟨rfl, rfl, rfl⟩ := hcs
    exact ⟨[], ⟨none, 0, rfl, Nat.le_refl _, .inl rfl⟩, rfl, by unfold maxLen; omega, fun s hs => nomatch hs⟩
  · simp only [List.cons.injEq, Value.slice.injEq, and_true] at hcs
    obtain ⟨rfl, rfl, rfl⟩ := hcs
    simp only [if_true] at hz
    have hlen : ((ss.take len).map (·.data.toList)).length = len := by rw [List.length_map, List.length_take]; omega
    refine ⟨(ss.take len).map (·.data.toList), ⟨some a', cap, by rw [hlen], by rw [hlen]; exact hl, ?_⟩, hlen, by omega, ?_⟩
    · by_cases h0 : len = 0
      · left; exact List.eq_nil_of_length_eq_zero (by rw [hlen]; exact h0)
      · right
        obtain ⟨kb, ko, sp⟩ := a'
        obtain rfl := spot_none (hc 0 (by omega))
        refine ⟨kb, ko, rfl, fun j y hj => ?_⟩
        rw [List.getElem?_map] at hj
        obtain ⟨s, hs, rfl⟩ := Option.map_eq_some_iff.1 hj
        rw [List.getElem?_take] at hs
        split at hs
        · have := hc j (by omega)
          rw [Addr.add_mid, List.getD_eq_getElem?_getD, hs] at this
          rw [str_of]
          exact this
        · cases hs
    · intro l hl'
      obtain ⟨s, hs, rfl⟩ := List.mem_map.1 hl'
      have := hw s (List.mem_of_mem_take hs)
      rw [Go.Lib.size_eq] at this
      exact this
/-- How long the lines are, none counted above 2000. -/
def tot (ls : List Bs) : Nat := (ls.map fun x => min x.length 2000).sum
theorem tot_next (ls : List Bs) (k : Nat) (hk : k < ls.length) : tot (ls.take (k + 1)) = tot (ls.take k) + min ls[k].length 2000 := by
  unfold tot
  rw [List.take_succ_eq_append_getElem hk, List.map_append, List.sum_append]
  simp
theorem tot_le (ls : List Bs) : tot ls ≤ 2000 * ls.length := by
  induction ls with
  | nil => simp [tot]
  | cons a l ih =>
    unfold tot at ih ⊢
    simp only [List.map_cons, List.sum_cons, List.length_cons]
    omega
theorem tot_joined : ∀ ls : List Bs, tot ls ≤ 1500 → (joined ls).length ≤ tot ls + ls.length
  | [], _ => by simp [joined, List.intercalate]
  | [a], h => by
    rw [joined1]
    simp only [tot, List.map_cons, List.map_nil, List.sum_cons, List.sum_nil, List.length_cons, List.length_nil] at h ⊢
    omega
  | a :: b :: l, h => by
    have e : tot (a :: b :: l) = min a.length 2000 + tot (b :: l) := rfl
    have ih := tot_joined (b :: l) (by omega)
    rw [joined_cons, List.length_append, List.length_cons, e]
    simp only [List.length_cons] at ih ⊢
    omega

set_option maxRecDepth 100000 in
set_option maxHeartbeats 8000000 in
theorem walk (a : Option Addr) (cap : Nat) (ls : List Bs) (w : World) (h : SL w (.slice a ls.length cap) ls) (hl : ls.length ≤ maxLen) (hb : ∀ l ∈ ls, l.length ≤ maxLen) :
    Calls Tryd.prog 6 #[.slice a ls.length cap] w fun e w' => e = .returned (.bool true) ∧ Below w.heap.size w w' := by
  have HL := hid h
  have HM := hid hb
  unfold maxLen at hl
  clear h hb
  go_enter Tryd.func6, Tryd.ntmps6
  go_wp2_with fail
  go_loop [3, 4] (fun v i => ∃ k : Nat, k ≤ ls.length ∧ k ≤ 21 ∧ i = .int .i64 k ∧ v = .int .i64 (tot (ls.take k))) (fun _ i => 21 - (intOf i).toNat)
  case atStart => exact ⟨0, by omega, by omega, rfl, rfl⟩
  case round =>
    obtain ⟨k, hk, hk21, rfl, rfl⟩ := hrel
    have htl := tot_le (ls.take k)
    rw [List.length_take] at htl
    by_cases hlt : k < ls.length
    · have hlt' : (k : Int) < ls.length := by omega
      by_cases h20 : k ≤ 20
      · have h20' : (k : Int) ≤ 20 := by omega
        have HN := hid (tot_next ls k hlt)
        have hsz := str_size ls[k]
        have hml := HM.out ls[k] (List.getElem_mem hlt)
        unfold maxLen at hml
        obtain ⟨a', c', e1, hcap, hat⟩ := HL.out
        simp only [Value.slice.injEq, true_and] at e1
        obtain ⟨rfl, rfl⟩ := e1
        obtain ⟨g, o, rfl, hsa⟩ : ∃ g o, a = some ⟨g, o, none⟩ ∧ SAt w g o ls := by
          rcases hat with e | h
          · rw [e] at hlt; simp at hlt
          · exact h
        have hcell := hsa k ls[k] (List.getElem?_eq_getElem hlt)
        clear hsa hat
        generalize tot (ls.take k) = T at *
        generalize ls[k].length = M at *
        have hT : (T : Int) ≤ 42000 := by omega
        clear htl
        go_wp2_with fail
        go_round
        case rel => exact ⟨k + 1, by omega, by omega, by go_num, by rw [HN.out]; congr 1; omega⟩
        case measure => simp [intOf]; omega
      · have h20' : ¬ (k : Int) ≤ 20 := by omega
        have hlen : (20 : Int) < ls.length := by omega
        go_wp2_with fail
        refine (alive_any w).mono ?_
        rintro e w1 ⟨rfl, hb⟩
        have HB := hid hb
        clear hb
        go_wp2_with fail
        go_ret
        exact ⟨rfl, HB.out⟩
    · have hlt' : ¬ (k : Int) < ls.length := by omega
      have hkl : ls.take k = ls := List.take_of_length_le (by omega)
      rw [hkl] at htl
      rw [hkl]
      clear hkl
      by_cases hlen : (20 : Int) < ls.length
      · go_wp2_with fail
        refine (alive_any w).mono ?_
        rintro e w1 ⟨rfl, hb⟩
        have HB := hid hb
        clear hb
        go_wp2_with fail
        go_ret
        exact ⟨rfl, HB.out⟩
      · by_cases ht : (1500 : Int) < tot ls
        · go_wp2_with fail
          refine (alive_any w).mono ?_
          rintro e w1 ⟨rfl, hb⟩
          have HB := hid hb
          clear hb
          go_wp2_with fail
          go_ret
          exact ⟨rfl, HB.out⟩
        · have hj := tot_joined ls (by omega)
          have q1 : ((str (wordsR (joined ls))).toList == (str (wordsR (joined ls))).toList) = true := by simp
          have HBW := hid (both_ways (joined ls))
          go_wp2_with fail
          have C := words_any ls _ w HL.out (by omega) (by omega)
          rw [HBW.out] at C
          refine C.mono ?_
          clear C
          rintro e u1 ⟨rfl, hb⟩
          have HBu1 := hid hb
          clear hb
          go_wp2_with fail
          have C := rwords_any ls _ u1 (HL.out.later HBu1.out) (by omega) (by omega)
          refine C.mono ?_
          clear C
          rintro e u2 ⟨rfl, hb⟩
          have HBu2 := hid (HBu1.out.trans (hb.mono HBu1.out.size))
          clear hb
          go_wp2_with fail
          have C := alive_any u2
          refine C.mono ?_
          clear C
          rintro e z ⟨rfl, hb⟩
          have HBz := hid (HBu2.out.trans (hb.mono HBu2.out.size))
          clear hb
          go_wp2_with fail
          go_ret
          exact ⟨rfl, HBz.out⟩

theorem witness (os : Os) {H : Type} (enc : TypeId × Value → H) :
    (OpenSpec.ofChange Rows.wordsTellsSpec).preRow enc Tryd.prog Tryd.f6 Rows.wordsTellsRow.domain false Rows.wordsTellsRow.laid ((laidWorld os).forCall (fun _ _ => 0) ⟨#[], #[.slice none 0 0], []⟩).memory #[.slice none 0 0] := by
  have hw : (DataW.whole enc Tryd.prog ((laidWorld os).forCall (fun _ _ => 0) ⟨#[], #[.slice none 0 0], []⟩).memory Tryd.f6.params.toList Rows.wordsTellsSpec.vars false (#[.slice none 0 0] : Array Value).toList 8).map (fun x => (x.1, x.2.1)) =
      some ([.nil], []) := by kernel_rfl
  obtain ⟨⟨x1, x2, x3⟩, hx, hx1⟩ := Option.map_eq_some_iff.1 hw
  simp only [Prod.mk.injEq] at hx1
  obtain ⟨rfl, rfl⟩ := hx1
  exact OpenSpec.preRow_of_cond 8 hx (by kernel_rfl) (fun k hk => by cases hk) (by kernel_rfl) (laid_met os _)

set_option maxRecDepth 100000 in
set_option maxHeartbeats 2000000 in
theorem lifted (os : Os) (started : os.Started) (H : Type) (enc : TypeId × Value → H) (F : Stop.Interp) :
    ReturnsInHanded {} Tryd.checked os 6 .any ((OpenSpec.ofChange Rows.wordsTellsSpec).preRow enc Tryd.prog Tryd.f6 Rows.wordsTellsRow.domain false Rows.wordsTellsRow.laid) (((OpenSpec.ofChange Rows.wordsTellsSpec).at F).post enc Tryd.prog Tryd.f6 false true false false) := by
  refine returnsInHanded_of_row (C := Tryd.checked) (s := OpenSpec.ofChange Rows.wordsTellsSpec) own started (by kernel_rfl) Tryd.func6
    (witness_row_atRef (enc := enc) (C := Tryd.checked) false (laidWorld os) #[.slice none 0 0] rfl (by kernel_rfl) (by kernel_rfl) (by kernel_rfl) (witness os enc)) ?_
  intro W base args ds gs before hval0 hW _ _ _ hL hsh _
  have hval : ∀ (j : Nat) t v, Tryd.f6.params[j]? = some t → args[j]? = some v → Value.okWide Tryd.prog W .any base t v := hval0
  have hW' := hW
  obtain ⟨p, q, hA0, hV, rfl, hfz, hnd⟩ := hW
  have hA : DataW.TrodAll enc Tryd.prog W 0 (fun _ => true) true Tryd.f6.params.toList args.toList ds p := hA0
  rw [Tryd.params6] at hA hval
  obtain ⟨v0, vs0, d0, ds0, p0, q0, hargs, rfl, rfl, h0, r0⟩ := trodAll_cons hA
  obtain ⟨rfl, rfl, rfl⟩ := trodAll_nil r0
  obtain rfl : args = #[v0] := by cases args; simp_all
  obtain ⟨rfl, rfl⟩ := trodVars_none hV
  obtain ⟨a0, len0, cap0, rfl⟩ := okWide_slice Tryd.underlying32 (hval 0 32 v0 rfl rfl)
  have lt0 : ∀ x ∈ p0, x.block < W.heap.size := by obtain ⟨m, hm⟩ := h0; exact DataW.trod_lt m _ _ _ hm
  obtain ⟨ls, hls, rfl, hlm, hlb⟩ : ∃ ls : List Bs, SL W (.slice a0 len0 cap0) ls ∧ ls.length = len0 ∧ len0 ≤ maxLen ∧ ∀ l ∈ ls, l.length ≤ maxLen := by obtain ⟨fuel, hf⟩ := h0; exact open_lines hf
  clear hA0 hval0
  refine (walk a0 cap0 ls W hls hlm hlb).mono ?_
  rintro e W' ⟨rfl, bel⟩
  exact ⟨_, rfl, _, _, _, [], _, [], hW', trodAll_mk1 (shut_bool Tryd.underlying4 _), (trodAll_cons_mk (Below.trod laidOut (by kernel_rfl) (of_decide_eq_true (by kernel_rfl)) h0 bel lt0) trodAll_mk0), rfl, bel.frame _, fun h => by cases h⟩

theorem over : Rows.wordsTellsRow.holds Tryd.pinned (OpenSpec.ofChange Rows.wordsTellsSpec) :=
  OpenClaim.holds_of_cond 6 Tryd.f6 rfl rfl rfl rfl rfl rfl rfl ⟨rfl, rfl, rfl, rfl, rfl⟩ rfl rfl rfl rfl rfl (by kernel_rfl) Tryd.func6 (by kernel_rfl)
    (of_decide_eq_true (by kernel_rfl)) (by unfold Func.isWrapper; first | (rw [if_pos (by decide +kernel)]; kernel_rfl) | (rw [if_neg (by decide +kernel)]; exact ⟨rfl, rfl⟩))
    (fun os started H enc _ F => by rw [OpenClaim.pre_eq_preRow]; exact lifted os started H enc F)

/-- No parameter wants a stand-in. -/
theorem plain (f : FuncId) (fn : Func) (hf : Tryd.pinned.checked.prog.funcNamed Rows.wordsTellsRow.func = some f) (hfn : Tryd.pinned.checked.prog.funcs[f]? = some fn) :
    false = Tryd.pinned.checked.prog.looks [] ∧ ∀ (j : Nat) t, fn.params[j]? = some t → Tryd.pinned.checked.prog.wantsStandIn t = false := by
  obtain rfl : f = 6 := Option.some.inj ((show Tryd.prog.funcNamed Rows.wordsTellsRow.func = some 6 by kernel_rfl).symm.trans hf) |>.symm
  obtain rfl : fn = Tryd.f6 := (Option.some.inj (Tryd.func6.symm.trans hfn)).symm
  refine ⟨by kernel_rfl, fun j t ht => ?_⟩
  rw [Tryd.params6] at ht
  have hm := Array.mem_of_getElem? ht
  simp only [List.mem_toArray, List.mem_cons, List.not_mem_nil, or_false] at hm
  rcases hm with rfl
  · exact (show Tryd.prog.wantsStandIn 32 = false by kernel_rfl)
end Go.Proofs.YtjmjeiegbkfdbaaDoor.wordsTells
namespace Go.Proofs.YtjmjeiegbkfdbaaDoor
/-- THE STATEMENT. -/
theorem wordsTells_holds : Rows.WordsTellsCardSaid :=
  Claim7.holds_tied_plain_at .later [] _ _ _ _ wordsTells.over (fun _ h => by cases h) (by kernel_rfl) (fun _ h => by cases h) wordsTells_row_tie rfl ⟨rfl, rfl⟩ (by kernel_rfl) rfl wordsTells.plain (by kernel_rfl)
#print axioms wordsTells_holds
end Go.Proofs.YtjmjeiegbkfdbaaDoor
