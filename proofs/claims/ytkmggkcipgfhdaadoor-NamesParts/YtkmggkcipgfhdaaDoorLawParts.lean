/- Proved here: a name's parts joined are the name; those of two names joined are the parts of both; it is under just those that Up tells (NamesParts returns true for every input, and leaves its arguments as they were). No condition beyond what the card says: two tables of the library hold what its text lays. -/
import Derived.Test.YtkmggkcipgfhdaaDoorCards
import Derived.Test.YtkmggkcipgfhdaaDoorTie
import Derived.Test.YtkmggkcipgfhdaaDoorFrame
import Derived.Test.YtkmggkcipgfhdaaDoorR2
import Derived.ProofKit
import Derived.OpenShut
import Derived.ShutString
import Derived.Below
namespace Go.Proofs.YtkmggkcipgfhdaaDoor.namesParts
open Go.ChangeShapes Go.WideShapes Go.ChangeAt Go.RowKit
open Go.ChangeMaps (open_string shut_string)
set_option linter.unusedVariables false
set_option linter.unusedSimpArgs false

theorem sl_two (w : World) (p q : List UInt8) : SL (w.alloc (.cells #[.string (str p), .string (str q)] 9)) (.slice (some ⟨w.heap.size, 0, none⟩) 2 2) [p, q] := by
  refine ⟨_, 2, rfl, by simp, .inr ⟨_, 0, rfl, fun j x hx => ?_⟩⟩
  simp only [World.cell?, heap_alloc_new, Nat.zero_add]
  match j, hx with
  | 0, hx => simp at hx; subst hx; rfl
  | 1, hx => simp at hx; subst hx; rfl
  | j + 2, hx => simp at hx
theorem wpList_append_runG {ops : Array Oper} {rest : List Oper} {Q : Exit → Act → World → Prop} {a : Act} {x y : Operand} {u s : Value} {w w' : World} {v : Value} {d : Option Tmp} {t t2 ty : Nat} {pos : String} {af : Array Edge} {g : Option (Nat × Bool)}
    (hw : Region.wanted ⟨d, .call { callee := .builtin .append, args := #[x, y], argTypes := #[t, t2] }, ty, pos, af, g⟩ (yielded ops a.tmps) = true) (hx : a.eval x = u) (hy : a.eval y = s)
    (hrun : (Builtin.append_ #[t, t2] ty #[u, s]).run Tryd.prog w = .ok v w') (h : wpList Tryd.prog ops Q rest (a.put d v) w') : wpList Tryd.prog ops Q (⟨d, .call { callee := .builtin .append, args := #[x, y], argTypes := #[t, t2] }, ty, pos, af, g⟩ :: rest) a w :=
  wpList_step fun K hK => by
    rw [if_pos hw]
    unfold Oper.wp
    rw [exec_append hx hy hrun]
    exact hK _ _ h
theorem parts_le (l : List UInt8) : (parts l).length ≤ l.length + 1 := by
  rw [parts_len]
  have := List.count_le_length (a := (47 : UInt8)) (l := l)
  omega

set_option maxRecDepth 100000 in
set_option maxHeartbeats 4000000 in
theorem walk (a0 a1 : ByteArray) {w : World} (h : Env w) (h0 : a0.size ≤ maxLen) (h1 : a1.size ≤ maxLen) :
    Calls Tryd.prog 6 #[.string a0, .string a1] w fun e w' => e = .returned (.bool true) ∧ Below w.heap.size w w' := by
  have HE := hid h
  clear h
  unfold maxLen at h0 h1
  by_cases g0 : (600 : Int) < a0.size
  · go_enter Tryd.func6, Tryd.ntmps6
    go_wp2_with fail
    refine (alive_any HE.out).mono ?_
    rintro e w1 ⟨rfl, hb⟩
    have HB := hid hb
    clear hb
    go_wp2_with fail
    go_ret
    exact ⟨rfl, HB.out⟩
  by_cases g1 : (600 : Int) < a1.size
  · go_enter Tryd.func6, Tryd.ntmps6
    go_wp2_with fail
    refine (alive_any HE.out).mono ?_
    rintro e w1 ⟨rfl, hb⟩
    have HB := hid hb
    clear hb
    go_wp2_with fail
    go_ret
    exact ⟨rfl, HB.out⟩
  have hp0 := parts_le a0.data.toList
  have hp1 := parts_le a1.data.toList
  rw [← Go.Lib.size_eq] at hp0 hp1
  have q0 : ((str a0.data.toList).toList == a0.toList) = true := by rw [str_of]; simp
  have q0n : ((str a0.data.toList).toList != a0.toList) = false := by rw [str_of]; simp
  go_enter Tryd.func6, Tryd.ntmps6
  go_wp2_with fail
  refine (parts_any a0 HE.out (by omega)).mono ?_
  rintro e w1 ⟨rfl, hw1⟩
  have HB1 : Hid (Below w.heap.size w w1) := by rw [hw1]; exact (Below.refl _ _).alloc (Nat.le_refl _) _
  have HS1 : Hid (SL w1 (.slice (some ⟨w.heap.size, 0, none⟩) (parts a0.data.toList).length (parts a0.data.toList).length) (parts a0.data.toList)) := by rw [hw1]; exact sl_parts w _
  clear hw1
  go_wp2_with fail
  refine (parts_any a1 (HE.out.later HB1.out) (by omega)).mono ?_
  rintro e w2 ⟨rfl, hw2⟩
  have HB12 : Hid (Below w1.heap.size w1 w2) := by rw [hw2]; exact (Below.refl _ _).alloc (Nat.le_refl _) _
  have HS2 : Hid (SL w2 (.slice (some ⟨w1.heap.size, 0, none⟩) (parts a1.data.toList).length (parts a1.data.toList).length) (parts a1.data.toList)) := by rw [hw2]; exact sl_parts w1 _
  have HS1b := hid (HS1.out.later HB12.out)
  have HB2 := hid (HB1.out.trans (HB12.out.mono HB1.out.size))
  clear hw2 HS1 HB12
  generalize hn0 : (parts a0.data.toList).length = n0 at *
  generalize hn1 : (parts a1.data.toList).length = n1 at *
  have HN0 := hid hn0
  have HN1 := hid hn1
  clear hn0 hn1
  go_wp2_with fail
  have C := join_any HS1b.out (by rw [join_parts, ← Go.Lib.size_eq]; omega) (by rw [HN0.out]; omega)
  rw [join_parts] at C
  refine C.mono ?_
  clear C
  rintro e w3 ⟨rfl, hb3⟩
  have HB23 := hid hb3
  have HB3 := hid (HB2.out.trans (hb3.mono HB2.out.size))
  clear hb3
  go_wp2_with fail
  have HAL : Hid (Below w3.heap.size w3 (w3.alloc (.cells #[.string a0, .string a1] 9))) := (Below.refl _ _).alloc (Nat.le_refl _) _
  have HST : Hid (SL (w3.alloc (.cells #[.string a0, .string a1] 9)) (.slice (some ⟨w3.heap.size, 0, none⟩) 2 2) [a0.data.toList, a1.data.toList]) := by
    have := sl_two w3 a0.data.toList a1.data.toList
    rw [str_of, str_of] at this
    exact this
  have HB3b := hid (HB3.out.trans (HAL.out.mono HB3.out.size))
  have HB23b := hid (HB23.out.trans (HAL.out.mono HB23.out.size))
  generalize w3.alloc (.cells #[.string a0, .string a1] 9) = w4 at HAL HST HB3b HB23b ⊢
  have hj : joinP [a0.data.toList, a1.data.toList] = a0.data.toList ++ 47 :: a1.data.toList := rfl
  have hjl : (a0.data.toList ++ 47 :: a1.data.toList).length = a0.size + 1 + a1.size := by rw [List.length_append, List.length_cons, ← Go.Lib.size_eq, ← Go.Lib.size_eq]; omega
  have HJL := hid hjl
  have C := join_any HST.out (by rw [hj, hjl]; omega) (by simp)
  rw [hj] at C
  refine C.mono ?_
  clear C hj hjl
  rintro e w5 ⟨rfl, hb5⟩
  have HB5 := hid (HB3b.out.trans (hb5.mono HB3b.out.size))
  have HB25 := hid (HB23b.out.trans (hb5.mono HB23b.out.size))
  clear hb5
  go_wp2_with fail
  have C := parts_any (str (a0.data.toList ++ 47 :: a1.data.toList)) (HE.out.later HB5.out) (by rw [str_size, HJL.out]; omega)
  rw [str_data, parts_two] at C
  refine C.mono ?_
  clear C
  rintro e w6 ⟨rfl, hw6⟩
  have HB56 : Hid (Below w5.heap.size w5 w6) := by rw [hw6]; exact (Below.refl _ _).alloc (Nat.le_refl _) _
  have HS6 : Hid (SL w6 (.slice (some ⟨w5.heap.size, 0, none⟩) (parts a0.data.toList ++ parts a1.data.toList).length (parts a0.data.toList ++ parts a1.data.toList).length) (parts a0.data.toList ++ parts a1.data.toList)) := by rw [hw6]; exact sl_parts w5 _
  have HB6 := hid (HB5.out.trans (HB56.out.mono HB5.out.size))
  have HB26 := hid (HB25.out.trans (HB56.out.mono HB25.out.size))
  clear hw6
  generalize hn2 : (parts a0.data.toList ++ parts a1.data.toList).length = n2 at *
  have HN2 := hid hn2
  have hn2' : n2 = n0 + n1 := by rw [← hn2, List.length_append, HN0.out, HN1.out]
  have HN2' := hid hn2'
  clear hn2 hn2'
  have HB67 : Hid (Below w6.heap.size w6 (w6.alloc (.cells #[] 9))) := (Below.refl _ _).alloc (Nat.le_refl _) _
  have HO0 : Hid (SO (w6.alloc (.cells #[] 9)) w6.heap.size (.slice (some ⟨w6.heap.size, 0, none⟩) 0 0) []) :=
    ⟨rfl, .inr ⟨w6.heap.size, 0, #[], rfl, Nat.le_refl _, heap_alloc_new _ _, Nat.le_refl _, by unfold maxLen; omega, rfl, rfl⟩⟩
  have HS1c := hid ((HS1b.out.later HB26.out).later HB67.out)
  have HS2c := hid ((HS2.out.later HB26.out).later HB67.out)
  obtain ⟨v8, w8, hr8, ho8, hb8⟩ := so_more HO0.out (by simp) HS1c.out (by simp) (by rw [HN0.out]; omega) (parts_ne _)
  have HR8 := hid hr8
  obtain ⟨x8, c8, rfl⟩ := ho8.slice
  rw [List.nil_append] at ho8 hr8
  have hB8 : Below (w6.alloc (.cells #[] 9)).heap.size (w6.alloc (.cells #[] 9)) w8 → True := fun _ => trivial
  clear hB8
  have HB28 : Hid (Below w6.heap.size w6 w8) := HB67.out.trans hb8
  have HS2d := hid ((HS2.out.later HB26.out).later HB28.out)
  have HO8 := hid ho8
  obtain ⟨v9, w9, hr9, ho9, hb9⟩ := so_more HO8.out (by have := HB28.out.size; omega) HS2d.out (by rw [HN0.out]; omega) (by rw [HN1.out]; omega) (parts_ne _)
  have HR9 := hid hr9
  have HO9 := hid ho9
  have HB29 : Hid (Below w6.heap.size w6 w9) := HB28.out.trans hb9
  obtain ⟨x9, c9, rfl⟩ := ho9.slice
  rw [List.nil_append] at HR8
  rw [HN0.out] at HR8 HR9
  rw [HN2.out] at HR9 HO9
  clear hr8 ho8 hb8 hr9 ho9 hb9
  go_wp2_with (first | (at_builtin; first | (refine wpList_append_runG rfl rfl rfl HR8.out ?_; clear HR8) | (refine wpList_append_runG rfl rfl rfl HR9.out ?_; clear HR9)))
  have HB269 := hid (HB6.out.trans (HB29.out.mono HB6.out.size))
  have C := same_any (HS6.out.later HB29.out) HO9.out.sl (by rw [HN2.out, HN2'.out]; omega) (by rw [HN2.out, HN2'.out]; omega)
  rw [decide_eq_true rfl] at C
  refine C.mono ?_
  clear C
  rintro e wa ⟨rfl, hba⟩
  have HBa := hid (HB269.out.trans (hba.mono HB269.out.size))
  clear hba
  go_wp2_with fail
  refine (up_any a0 wa (by omega)).mono ?_
  rintro e wb ⟨⟨v, rfl, hov⟩, hbb⟩
  obtain ⟨xv, cv, rfl⟩ := hov.slice
  have hul : (upK a0.data.toList a0.size).length = n0 - 1 := by
    rw [count_up _ _ (by rw [Go.Lib.size_eq]; exact Nat.le_refl _), List.take_of_length_le (by rw [Go.Lib.size_eq]; exact Nat.le_refl _), ← HN0.out, parts_len]
    omega
  have hn0 : 1 ≤ n0 := by rw [← HN0.out, parts_len]; omega
  have hneq : (((upK a0.data.toList a0.size).length : Int) != (n0 : Int) - 1) = false := by rw [hul]; simp; omega
  have HBb := hid (HBa.out.trans (hbb.mono HBa.out.size))
  clear hov hbb hul
  go_wp2_with fail
  clear hneq
  refine (up_any a0 wb (by omega)).mono ?_
  rintro e wc ⟨⟨v, rfl, hov⟩, hbc⟩
  obtain ⟨xw, cw, rfl⟩ := hov.slice
  have HSL := hid hov.sl
  have HBc := hid (HBb.out.trans (hbc.mono HBb.out.size))
  clear hov hbc
  have HUn : Hid (∀ x ∈ upK a0.data.toList a0.size, underB a0.data.toList x = true) := fun x hx => up_under (by rw [Go.Lib.size_eq]; exact Nat.le_refl _) hx
  have HUl : Hid (∀ x ∈ upK a0.data.toList a0.size, x.length ≤ 600) := fun x hx => by
    have := under_len (HUn.out x hx)
    rw [← Go.Lib.size_eq] at this
    omega
  have hulen := upK_len a0.data.toList a0.size
  generalize upK a0.data.toList a0.size = U at *
  generalize hUn : U.length = un at *
  have HUL := hid hUn
  clear hUn
  go_wp2_with fail
  go_loop [52] (fun i => ∃ k : Nat, k ≤ un ∧ i = .int .i64 k) (fun i => un - (intOf i).toNat)
  case atStart => exact ⟨0, by omega, rfl⟩
  case round =>
    obtain ⟨k, hk, rfl⟩ := hrel
    by_cases hlt : k < un
    · have hlt' : (k : Int) < un := by omega
      have hkU : k < U.length := by rw [HUL.out]; exact hlt
      obtain ⟨gg, oo, rfl, hcell⟩ := HSL.out.at k hkU
      have hu1 := HUn.out _ (List.getElem_mem hkU)
      have hu2 := HUl.out _ (List.getElem_mem hkU)
      generalize U[k]'hkU = x at hcell hu1 hu2
      have HU1 := hid hu1
      clear hu1
      go_wp2_with fail
      have C := under_any a0 (str x) wc (by rw [str_size]; omega)
      rw [str_data, HU1.out] at C
      refine C.mono ?_
      clear C
      rintro e wd ⟨rfl, rfl⟩
      go_wp2_with fail
      go_round
      case rel => exact ⟨k + 1, by omega, by go_num⟩
      case measure => simp [intOf]; omega
    · go_wp2_with fail
      have HAL2 : Hid (Below wc.heap.size wc (wc.alloc (.cells #[.string a0, .string a1] 9))) := (Below.refl _ _).alloc (Nat.le_refl _) _
      have HST2 : Hid (SL (wc.alloc (.cells #[.string a0, .string a1] 9)) (.slice (some ⟨wc.heap.size, 0, none⟩) 2 2) [a0.data.toList, a1.data.toList]) := by
        have := sl_two wc a0.data.toList a1.data.toList
        rw [str_of, str_of] at this
        exact this
      have HBd := hid (HBc.out.trans (HAL2.out.mono HBc.out.size))
      generalize wc.alloc (.cells #[.string a0, .string a1] 9) = wd at HST2 HBd ⊢
      have C := join_any HST2.out (by rw [show joinP [a0.data.toList, a1.data.toList] = a0.data.toList ++ 47 :: a1.data.toList from rfl, HJL.out]; omega) (by simp)
      rw [show joinP [a0.data.toList, a1.data.toList] = a0.data.toList ++ 47 :: a1.data.toList from rfl] at C
      refine C.mono ?_
      clear C
      rintro e we ⟨rfl, hbe⟩
      have HBe := hid (HBd.out.trans (hbe.mono HBd.out.size))
      clear hbe
      go_wp2_with fail
      have C := under_any (str (a0.data.toList ++ 47 :: a1.data.toList)) a0 we (by omega)
      rw [str_data, show underB (a0.data.toList ++ 47 :: a1.data.toList) a0.data.toList = true from by unfold underB Go.Lib.hasPrefix; rw [List.isPrefixOf_iff_prefix]; exact ⟨a1.data.toList, by simp⟩] at C
      refine C.mono ?_
      clear C
      rintro e wf ⟨rfl, rfl⟩
      go_wp2_with fail
      have C := under_any a0 a0 wf (by omega)
      rw [not_under_self] at C
      refine C.mono ?_
      clear C
      rintro e wg ⟨rfl, rfl⟩
      go_wp2_with fail
      refine (alive_any (HE.out.later HBe.out)).mono ?_
      rintro e wz ⟨rfl, hbz⟩
      have HBz := hid (HBe.out.trans (hbz.mono HBe.out.size))
      clear hbz
      go_wp2_with fail
      go_ret
      exact ⟨rfl, HBz.out⟩

theorem witness (os : Os) {H : Type} (enc : TypeId × Value → H) :
    (OpenSpec.ofChange Rows.namesPartsSpec).preRow enc Tryd.prog Tryd.f6 Rows.namesPartsRow.domain false Rows.namesPartsRow.laid ((laidWorld os).forCall (fun _ _ => 0) ⟨#[], #[.string ⟨#[]⟩, .string ⟨#[]⟩], []⟩).memory #[.string ⟨#[]⟩, .string ⟨#[]⟩] := by
  have hw : (DataW.whole enc Tryd.prog ((laidWorld os).forCall (fun _ _ => 0) ⟨#[], #[.string ⟨#[]⟩, .string ⟨#[]⟩], []⟩).memory Tryd.f6.params.toList Rows.namesPartsSpec.vars false (#[.string ⟨#[]⟩, .string ⟨#[]⟩] : Array Value).toList 8).map (fun x => (x.1, x.2.1)) =
      some ([.lit (.string []), .lit (.string [])], []) := by kernel_rfl
  obtain ⟨⟨x1, x2, x3⟩, hx, hx1⟩ := Option.map_eq_some_iff.1 hw
  simp only [Prod.mk.injEq] at hx1
  obtain ⟨rfl, rfl⟩ := hx1
  exact OpenSpec.preRow_of_cond 8 hx (by kernel_rfl) (fun k hk => by cases hk) (by kernel_rfl) (laid_met os _)

set_option maxRecDepth 100000 in
set_option maxHeartbeats 2000000 in
theorem lifted (os : Os) (started : os.Started) (H : Type) (enc : TypeId × Value → H) (F : Stop.Interp) :
    ReturnsInHanded {} Tryd.checked os 6 .any ((OpenSpec.ofChange Rows.namesPartsSpec).preRow enc Tryd.prog Tryd.f6 Rows.namesPartsRow.domain false Rows.namesPartsRow.laid) (((OpenSpec.ofChange Rows.namesPartsSpec).at F).post enc Tryd.prog Tryd.f6 false true false false) := by
  refine returnsInHanded_of_row (C := Tryd.checked) (s := OpenSpec.ofChange Rows.namesPartsSpec) own started (by kernel_rfl) Tryd.func6
    (witness_row_atRef (enc := enc) (C := Tryd.checked) false (laidWorld os) #[.string ⟨#[]⟩, .string ⟨#[]⟩] rfl (by kernel_rfl) (by kernel_rfl) (by kernel_rfl) (witness os enc)) ?_
  intro W base args ds gs before hval0 hW _ _ _ hL hsh _
  have hval : ∀ (j : Nat) t v, Tryd.f6.params[j]? = some t → args[j]? = some v → Value.okWide Tryd.prog W .any base t v := hval0
  have hW' := hW
  obtain ⟨p, q, hA0, hV, rfl, hfz, hnd⟩ := hW
  have hA : DataW.TrodAll enc Tryd.prog W 0 (fun _ => true) true Tryd.f6.params.toList args.toList ds p := hA0
  rw [Tryd.params6] at hA hval
  obtain ⟨v0, vs0, d0, ds0, p0, q0, hargs, rfl, rfl, h0, r0⟩ := trodAll_cons hA
  obtain ⟨v1, vs1, d1, ds1, p1, q1, rfl, rfl, rfl, h1, r1⟩ := trodAll_cons r0
  obtain ⟨rfl, rfl, rfl⟩ := trodAll_nil r1
  obtain rfl : args = #[v0, v1] := by cases args; simp_all
  obtain ⟨rfl, rfl⟩ := trodVars_none hV
  obtain ⟨a0, rfl, rfl, rfl, w0⟩ := open_string Tryd.underlying9 (hval 0 9 v0 rfl rfl) h0
  obtain ⟨a1, rfl, rfl, rfl, w1⟩ := open_string Tryd.underlying9 (hval 1 9 v1 rfl rfl) h1
  clear hA0 hval0
  refine (walk a0 a1 (env_of hL hsh) w0 w1).mono ?_
  rintro e W' ⟨rfl, bel⟩
  exact ⟨_, rfl, _, _, _, [], _, [], hW', trodAll_mk1 (shut_bool Tryd.underlying4 _), (trodAll_cons_mk (shut_string Tryd.underlying9 w0) (trodAll_cons_mk (shut_string Tryd.underlying9 w1) trodAll_mk0)), rfl, bel.frame _, fun h => by cases h⟩

theorem over : Rows.namesPartsRow.holds Tryd.pinned (OpenSpec.ofChange Rows.namesPartsSpec) :=
  OpenClaim.holds_of_cond 6 Tryd.f6 rfl rfl rfl rfl rfl rfl rfl ⟨rfl, rfl, rfl, rfl, rfl⟩ rfl rfl rfl rfl rfl (by kernel_rfl) Tryd.func6 (by kernel_rfl)
    (of_decide_eq_true (by kernel_rfl)) (by unfold Func.isWrapper; first | (rw [if_pos (by decide +kernel)]; kernel_rfl) | (rw [if_neg (by decide +kernel)]; exact ⟨rfl, rfl⟩))
    (fun os started H enc _ F => by rw [OpenClaim.pre_eq_preRow]; exact lifted os started H enc F)

/-- No parameter wants a stand-in. -/
theorem plain (f : FuncId) (fn : Func) (hf : Tryd.pinned.checked.prog.funcNamed Rows.namesPartsRow.func = some f) (hfn : Tryd.pinned.checked.prog.funcs[f]? = some fn) :
    false = Tryd.pinned.checked.prog.looks [] ∧ ∀ (j : Nat) t, fn.params[j]? = some t → Tryd.pinned.checked.prog.wantsStandIn t = false := by
  obtain rfl : f = 6 := Option.some.inj ((show Tryd.prog.funcNamed Rows.namesPartsRow.func = some 6 by kernel_rfl).symm.trans hf) |>.symm
  obtain rfl : fn = Tryd.f6 := (Option.some.inj (Tryd.func6.symm.trans hfn)).symm
  refine ⟨by kernel_rfl, fun j t ht => ?_⟩
  rw [Tryd.params6] at ht
  obtain rfl : t = 9 := by simpa using Array.mem_of_getElem? ht
  exact (show Tryd.prog.wantsStandIn 9 = false by kernel_rfl)
end Go.Proofs.YtkmggkcipgfhdaaDoor.namesParts
namespace Go.Proofs.YtkmggkcipgfhdaaDoor
/-- THE STATEMENT. -/
theorem namesParts_holds : Rows.NamesPartsCardSaid :=
  Claim7.holds_tied_plain_at .later [] _ _ _ _ namesParts.over (fun _ h => by cases h) (by kernel_rfl) (fun _ h => by cases h) namesParts_row_tie rfl ⟨rfl, rfl⟩ (by kernel_rfl) rfl namesParts.plain (by kernel_rfl)
#print axioms namesParts_holds
end Go.Proofs.YtkmggkcipgfhdaaDoor
