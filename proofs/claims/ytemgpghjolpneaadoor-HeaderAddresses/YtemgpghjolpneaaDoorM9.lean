/- What this text holds: lines of fields with some names, or with others. -/
import Derived.Test.YtemgpghjolpneaaDoorM8
import Derived.Lib.OthersKept
namespace Go.Proofs.YtemgpghjolpneaaDoor
open Go.RowKit
set_option linter.unusedVariables false
set_option linter.unusedSimpArgs false

theorem Bld.later {B b : Nat} {bs : List Value} {w w' : World} (h : Go.Lib.IsBuilderF 67 5 B b bs w) (hb : Below w.heap.size w w') : Go.Lib.IsBuilderF 67 5 B b bs w' := by
  have hg : w.grownBy w' none := ⟨hb.os, hb.tape, hb.output, hb.size, fun k hk _ => hb.block k hk⟩
  rcases h with h | h
  · have hlt := h.lt
    obtain ⟨hB, v, hv, hown, hne⟩ := h
    exact .inl ⟨hB, v, (hb.block b hlt).trans hv, hown.kept hg (by cases hv : v.ownBlock <;> simp), hne⟩
  · have hlt := h.lt
    obtain ⟨hB, v, hv, hown, hne⟩ := h
    exact .inr ⟨hB, v, (hb.block b hlt).trans hv, hown.kept hg (by cases hv : v.ownBlock <;> simp), hne⟩
theorem Bld.at {B b : Nat} {bs : List Value} {w : World} (h : Go.Lib.IsBuilderF 67 5 B b bs w) : ∃ X, w.heap[b]? = some (.cells X 67 (0, 0)) := by
  rcases h with ⟨hB, v, hv, hown, hne⟩ | ⟨hB, v, hv, hown, hne⟩
  · exact ⟨_, hv⟩
  · exact ⟨_, hv⟩
theorem RO.others {w w' : World} {B T k b : Nat} {v : Value} {l : List (List Bs)} {X : Array Value} (h : RO w B T k v l) (hb : w.heap[b]? = some (.cells X 67 (0, 0))) (h5 : T ≠ 5) (h67 : 67 ≠ T) (ok : Go.Lib.OthersKept 5 (some b) w w') : RO w' B T k v l := by
  refine ⟨h.1, ownsRow_block h.2 (fun g hg => ?_)⟩
  rcases h.2.2 with ⟨h1, _⟩ | ⟨g', cap, cur, h1, _, h2, _⟩
  · subst h1; simp [Value.ownBlock] at hg
  · subst h1
    simp only [Value.ownBlock, Option.some.injEq] at hg
    subst hg
    rw [h2]
    refine ok g' _ h2 ?_ (fun c fz e => ?_)
    · intro e
      have e := Option.some.inj e
      subst e
      rw [h2] at hb
      simp at hb
      exact h67 hb.2.symm
    · simp at e
      exact h5 e.2.1
theorem RO.ra {w : World} {B T k g o n c : Nat} {l : List (List Bs)} (h : RO w B T k (.slice (some ⟨g, o, none⟩) n c) l) (h0 : l ≠ []) : RA w g o k l := by
  obtain ⟨_, a', c', hv, _, hr⟩ := h.rl
  rcases hr with hr | ⟨g', o', ha, hr, hg⟩
  · exact absurd hr h0
  · subst ha
    simp only [Value.slice.injEq, Option.some.injEq, Addr.mk.injEq, and_true] at hv
    obtain ⟨⟨rfl, rfl⟩, _, _⟩ := hv
    exact hr
theorem strCells_str (l : Bs) : Go.Lib.strCells (str l) = Go.Lib.byteCells l := by
  simp [Go.Lib.strCells, Go.Lib.byteCells, str]
def keepE (names : List Bs) (not : Bool) (e : Bs × Bs) : Bool := amongP e.1 names != not
def outP (L : List (Bs × Bs)) (names : List Bs) (not : Bool) : Bs := (L.filter (keepE names not)).flatMap (fun e => e.2)
theorem outP_next (L : List (Bs × Bs)) (names : List Bs) (not : Bool) (k : Nat) (hk : k < L.length) : outP (L.take (k + 1)) names not = outP (L.take k) names not ++ (if keepE names not L[k] then L[k].2 else []) := by
  unfold outP
  rw [List.take_succ_eq_append_getElem hk, List.filter_append, List.flatMap_append]
  congr 1
  by_cases h : keepE names not L[k] = true
  · simp [h]
  · simp [h]
theorem outP_le (L : List (Bs × Bs)) (names : List Bs) (not : Bool) (k : Nat) (hk : k < L.length) (h : (outP (L.take k) names not).length ≤ k * 1000000) (h2 : L[k].2.length ≤ 1000000) : (outP (L.take (k + 1)) names not).length ≤ (k + 1) * 1000000 := by
  rw [outP_next L names not k hk, List.length_append, Nat.succ_mul]
  refine Nat.add_le_add h ?_
  split
  · exact h2
  · simp
theorem onlyP_is (s : Bs) (not : Bool) (names : List Bs) : onlyP s not names = outP (ents s) names not ++ [13, 10] := rfl
theorem ents_in : ∀ (n : Nat) (s : Bs), s.length ≤ n → ∀ e ∈ ents s, e.1.length ≤ s.length ∧ e.2.length ≤ s.length
  | 0, s, h => by
    have : s = [] := List.eq_nil_of_length_eq_zero (by omega)
    subst this; simp [ents_nil]
  | n + 1, s, h => by
    by_cases h0 : s = []
    · subst h0; simp [ents_nil]
    · have h1 := ln_pos s h0
      have h2 := ln_le s
      have h3 := fl_pos s h0
      have h4 := fl_le s
      have h5 := ents_in n (s.drop (ln s)) (by simp; omega)
      have h6 := ents_in n (s.drop (fl s)) (by simp; omega)
      rw [ents_step s h0]
      split
      · intro e he
        have := h5 e he
        simp at this
        omega
      · rename_i hn
        intro e he
        rcases List.mem_cons.1 he with rfl | he
        · have h7 := nameB_lt _ hn
          simp at h7 ⊢
          omega
        · have := h6 e he
          simp at this
          omega

set_option maxRecDepth 100000 in
set_option maxHeartbeats 4000000 in
theorem only_any (s : Bs) (not : Bool) {w : World} (he : Env w) {vn : Value} {names : List Bs} (h' : RL w vn 1 (names.map sR)) (hs : s.length ≤ 1000000) (hnl : names.length ≤ 1000000) (hn : ∀ n ∈ names, n.length ≤ 10000000) :
    Calls Tryd.prog 21 #[.string (str s), .bool not, vn] w fun e w' => e = .returned (.string (str (onlyP s not names))) ∧ Below w.heap.size w w' := by
  rw [onlyP_is]
  have HI : Hid (Go.Lib.IsBuilderF 67 5 w.heap.size w.heap.size (Go.Lib.byteCells (outP [] names not)) (w.alloc (.cells #[.pointer none, .slice none 0 0] 67))) := by
    left
    refine ⟨Nat.le_refl _, .slice none 0 0, heap_alloc_new _ _, ?_, by simp [Value.ownBlock]⟩
    exact World.ownsRowF_of ⟨by simp [Go.Lib.byteCells, outP], .inl ⟨rfl, by simp [Go.Lib.byteCells, outP]⟩⟩
  have HB0 : Hid (Below w.heap.size w (w.alloc (.cells #[.pointer none, .slice none 0 0] 67))) := (Below.refl _ _).alloc (Nat.le_refl _) _
  have HLw := hid (lowered_any (h'.later HB0.out) hnl hn)
  have hpos := he.pos
  have HE := hid he
  have HEn := hid (fun W (h : Env W) => entries_any s h hs)
  have HLs := hid (ents_in _ s (Nat.le_refl _))
  have hLl := ents_len s
  clear he h' hn
  generalize ents s = L at *
  go_enter Tryd.func21, Tryd.ntmps21
  go_wp2_with fail
  refine HLw.out.mono ?_
  rintro e w1 ⟨⟨vs, rfl, hs1⟩, hb⟩
  have HB1 := hid (HB0.out.trans (hb.mono HB0.out.size))
  have HI1 := hid (Bld.later HI.out hb)
  have HS1 := hid hs1
  clear hb hs1 HLw HI
  go_wp2_with fail
  refine (HEn.out _ (HE.out.below HB1.out hpos)).mono ?_
  rintro e w2 ⟨⟨ve, rfl, ho⟩, hb⟩
  have HB2 := hid (HB1.out.trans (hb.mono HB1.out.size))
  have HI2 := hid (Bld.later HI1.out hb)
  have HS2 := hid (HS1.out.later hb)
  have HO2 := hid ho
  have hHS2 := hid HB2.out.size
  obtain ⟨hw, a, c, rfl, hc, hr⟩ := ho.rl
  rw [List.length_map] at *
  clear hb ho HI1 HS1 HEn
  generalize hB1 : (w.alloc (.cells #[.pointer none, .slice none 0 0] 67)).heap.size = b1 at *
  clear hB1
  rcases hr with hr | ⟨g, o, rfl, hr, hg⟩
  · have : L = [] := by simpa using hr
    subst this
    go_wp2_with fail
    go_loopw [16] (fun i wr => i = .int .i64 0 ∧ wr = w2) (fun _ _ => 0)
    case atStart => exact ⟨rfl, rfl⟩
    case round =>
      obtain ⟨rfl, rfl⟩ := hrel
      have HWr := hid (Tryd.Builder_WriteString_k w.heap.size w.heap.size _ (str [13, 10]) wr HI2.out (by rw [Go.Lib.byteCells_length, str_size]; simp [outP]) HB2.out.size)
      go_wp2_with fail
      refine HWr.out.mono ?_
      rintro e w5 ⟨rfl, hi5, hb5, ok5⟩
      have HI5 : Hid (Go.Lib.IsBuilderF 67 5 w.heap.size w.heap.size (Go.Lib.byteCells (outP [] names not ++ [13, 10])) w5) := by
        rw [strCells_str, ← Go.Lib.byteCells_append] at hi5
        exact .inr hi5
      have HB5 := hid (HB2.out.trans hb5)
      clear hi5 hb5 ok5 HWr
      go_wp2_with fail
      refine (Tryd.Builder_String_any_k w.heap.size w.heap.size _ w5 HI5.out HB5.out.size).mono ?_
      rintro e w6 ⟨rfl, _, hb6, _⟩
      have HB6 := hid (HB5.out.trans hb6)
      clear hb6
      go_wp2_with fail
      go_ret
      exact ⟨rfl, HB6.out⟩
  · clear hr
    go_wp2_with fail
    go_loopw [16] (fun i wr => ∃ k : Nat, k ≤ L.length ∧ i = .int .i64 k ∧ Go.Lib.IsBuilderF 67 5 w.heap.size w.heap.size (Go.Lib.byteCells (outP (L.take k) names not)) wr ∧ RO wr b1 9 1 vs ((names.map low).map sR) ∧ RO wr w1.heap.size 54 3 (.slice (some ⟨g, o, none⟩) L.length c) (L.map entR) ∧ Below w.heap.size w wr ∧ (outP (L.take k) names not).length ≤ k * 1000000) (fun i _ => L.length - (intOf i).toNat)
    case atStart => exact ⟨0, by omega, rfl, HI2.out, HS2.out, HO2.out, HB2.out, by simp [outP]⟩
    case round =>
      obtain ⟨k, hk, rfl, hi, hs3, ho3, hb3, hol⟩ := hrel
      have HI3 := hid hi
      have HS3 := hid hs3
      have HO3 := hid ho3
      have HB3 := hid hb3
      have HOl := hid hol
      clear hi hs3 ho3 hb3 hol HI2 HS2 HO2 HB2
      by_cases hlt : k < L.length
      · have hlt' : (k : Int) < L.length := by omega
        have HR := hid (HO3.out.ra (by intro e; have h := congrArg List.length e; rw [List.length_map, List.length_nil] at h; omega))
        have hrec : (L.map entR)[k]? = some (entR L[k]) := by rw [List.getElem?_map, List.getElem?_eq_getElem hlt]; rfl
        have hc0 : wr.cell? ⟨g, o + k * 3, none⟩ = some (.string (str L[k].1)) := HR.out.rec k _ hrec 0 _ rfl
        have hc1 : wr.cell? ⟨g, o + k * 3 + 1, none⟩ = some (.string (str (bare (L[k].2.drop (L[k].1.length + 1))))) := HR.out.rec k _ hrec 1 _ rfl
        have hc2 : wr.cell? ⟨g, o + k * 3 + 2, none⟩ = some (.string (str L[k].2)) := HR.out.rec k _ hrec 2 _ rfl
        have HN := hid (outP_next L names not k hlt)
        have hx := (HLs.out _ (List.getElem_mem hlt)).1
        have hz := (HLs.out _ (List.getElem_mem hlt)).2
        have HLn := hid (outP_le L names not k hlt HOl.out (by omega))
        have HK : Hid (keepE names not L[k] = (amongP L[k].1 names != not)) := rfl
        clear hrec
        generalize keepE names not L[k] = kp at *
        generalize L[k].1 = x at *
        generalize bare (L[k].2.drop (x.length + 1)) = y at *
        generalize L[k].2 = z at *
        have HAs : Hid ((wr.alloc (.cells #[.string (str x), .string (str y), .string (str z)] 54)).heap.size = wr.heap.size + 1) := by simp [Hid]
        have hal : Below wr.heap.size wr (wr.alloc (.cells #[.string (str x), .string (str y), .string (str z)] 54)) := (Below.refl _ wr).alloc (Nat.le_refl _) _
        have HBa := hid (HB3.out.trans (hal.mono HB3.out.size))
        have HIa := hid (Bld.later HI3.out hal)
        have HSa := hid (HS3.out.later hal)
        have HOa := hid (HO3.out.later hal)
        have HCa : Hid ((wr.alloc (.cells #[.string (str x), .string (str y), .string (str z)] 54)).cell? ⟨wr.heap.size, 2, none⟩ = some (.string (str z))) := by simp only [Hid, World.cell?, heap_alloc_new]; rfl
        have HCn := hid (named_any HSa.out.rl x y (by omega) (by simp; omega))
        rw [← among_is] at HCn
        clear hal
        generalize hm : amongP x names = am at *
        have hlw := HB3.out.size
        cases hkp : kp
        · have hq : (am == not) = true := by have := HK.out; rw [hkp] at this; simpa using this.symm
          rw [hkp] at HN
          clear HK
          go_wp2_with fail
          refine HCn.out.mono ?_
          rintro e w4 ⟨rfl, hb4⟩
          have HB4 := hid (HBa.out.trans (hb4.mono HBa.out.size))
          have HI4 := hid (Bld.later HIa.out hb4)
          have HS4 := hid (HSa.out.later hb4)
          have HO4 := hid (HOa.out.later hb4)
          clear hb4
          go_wp2_with fail
          go_roundw
          case rel => exact ⟨k + 1, by omega, by go_num, by rw [HN.out]; simpa using HI4.out, HS4.out, HO4.out, HB4.out, HLn.out⟩
          case measure => simp [intOf]; omega
        · have hq : (am == not) = false := by have := HK.out; rw [hkp] at this; simpa using this.symm
          rw [hkp] at HN
          clear HK
          go_wp2_with fail
          refine HCn.out.mono ?_
          rintro e w4 ⟨rfl, hb4⟩
          have HB4 := hid (HBa.out.trans (hb4.mono HBa.out.size))
          have HI4 := hid (Bld.later HIa.out hb4)
          have HS4 := hid (HSa.out.later hb4)
          have HO4 := hid (HOa.out.later hb4)
          have hc4 : w4.cell? ⟨wr.heap.size, 2, none⟩ = some (.string (str z)) := (World.cell?_of_block (hb4.block wr.heap.size (by rw [HAs.out]; omega))).trans HCa.out
          clear hb4
          have HWr := hid (Tryd.Builder_WriteString_k w.heap.size w.heap.size _ (str z) w4 HI4.out (by have := HOl.out; rw [Go.Lib.byteCells_length, str_size]; omega) HB4.out.size)
          go_wp2_with fail
          refine HWr.out.mono ?_
          rintro e w5 ⟨rfl, hi5, hb5, ok5⟩
          obtain ⟨X, hX⟩ := Bld.at HI4.out
          have HI5 : Hid (Go.Lib.IsBuilderF 67 5 w.heap.size w.heap.size (Go.Lib.byteCells (outP (L.take (k + 1)) names not)) w5) := by
            rw [Hid, HN.out]
            rw [strCells_str, ← Go.Lib.byteCells_append] at hi5
            exact .inr hi5
          have HS5 := hid (HS4.out.others hX (by decide) (by decide) ok5)
          have HO5 := hid (HO4.out.others hX (by decide) (by decide) ok5)
          have HB5 := hid (HB4.out.trans hb5)
          clear hi5 hb5 ok5 hX HWr
          go_wp2_with fail
          go_roundw
          case rel => exact ⟨k + 1, by omega, by go_num, HI5.out, HS5.out, HO5.out, HB5.out, HLn.out⟩
          case measure => simp [intOf]; omega
      · have hlt' : ¬ (k : Int) < L.length := by omega
        have HT : Hid (L.take k = L) := List.take_of_length_le (by omega)
        have HWr := hid (Tryd.Builder_WriteString_k w.heap.size w.heap.size _ (str [13, 10]) wr HI3.out (by have := HOl.out; rw [Go.Lib.byteCells_length, str_size]; simp; omega) HB3.out.size)
        go_wp2_with fail
        refine HWr.out.mono ?_
        rintro e w5 ⟨rfl, hi5, hb5, ok5⟩
        have HI5 : Hid (Go.Lib.IsBuilderF 67 5 w.heap.size w.heap.size (Go.Lib.byteCells (outP L names not ++ [13, 10])) w5) := by
          rw [strCells_str, ← Go.Lib.byteCells_append, HT.out] at hi5
          exact .inr hi5
        have HB5 := hid (HB3.out.trans hb5)
        clear hi5 hb5 ok5 HWr
        go_wp2_with fail
        refine (Tryd.Builder_String_any_k w.heap.size w.heap.size _ w5 HI5.out HB5.out.size).mono ?_
        rintro e w6 ⟨rfl, _, hb6, _⟩
        have HB6 := hid (HB5.out.trans hb6)
        clear hb6
        go_wp2_with fail
        go_ret
        exact ⟨rfl, HB6.out⟩
end Go.Proofs.YtemgpghjolpneaaDoor
