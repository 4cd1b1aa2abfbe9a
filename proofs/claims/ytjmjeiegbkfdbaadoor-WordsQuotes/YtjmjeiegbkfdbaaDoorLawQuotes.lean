/- Proved here: bytes of which each is written as = and two digits are read as they were, in quoted-printable text and in an encoded word (WordsQuotes returns true for every input, and leaves its arguments as they were). No condition beyond what the card says: two tables of the library hold what its text lays. -/
import Derived.Test.YtjmjeiegbkfdbaaDoorCards
import Derived.Test.YtjmjeiegbkfdbaaDoorTie
import Derived.Test.YtjmjeiegbkfdbaaDoorFrame
import Derived.Test.YtjmjeiegbkfdbaaDoorPure4
import Derived.ProofKit
import Derived.OpenShut
import Derived.ShutString
import Derived.Below
namespace Go.Proofs.YtjmjeiegbkfdbaaDoor.wordsQuotes
open Go.ChangeShapes Go.WideShapes Go.ChangeAt Go.RowKit
open Go.ChangeMaps (open_string shut_string)
set_option linter.unusedVariables false
set_option linter.unusedSimpArgs false

theorem slOne (w : World) (X : ByteArray) (x : Bs) (h : X = str x) : SL (w.alloc (.cells #[.string X] 9)) (.slice (some ⟨w.heap.size, 0, none⟩) 1 1) [x] := by
  subst h
  refine ⟨_, _, rfl, by simp, .inr ⟨_, _, rfl, ?_⟩⟩
  intro j y hy
  match j, hy with
  | 0, hy =>
    cases hy
    simp only [World.cell?, heap_alloc_new]
    rfl
  | (j + 1), hy => simp at hy
def bigS : ByteArray := ⟨#[48, 49, 50, 51, 52, 53, 54, 55, 56, 57, 65, 66, 67, 68, 69, 70]⟩
theorem cutBig (n : Nat) (h : n < 16) : bigS.extract n (n + 1) = str [dig false n] := by
  rw [Go.Lib.extract_eq, show bigS.data.toList = bigD from rfl, show n + 1 - n = 1 by omega, List.drop_eq_getElem_cons (by exact h)]
  unfold dig
  rw [List.getD_eq_getElem?_getD]
  simp [bigD, str, List.getElem?_eq_getElem, show n < 16 from h]
theorem cutHex (n : Nat) (h : n < 16) : hexS.extract n (n + 1) = str [dig true n] := by
  rw [Go.Lib.extract_eq, show hexS.data.toList = hexL from rfl, show n + 1 - n = 1 by omega, List.drop_eq_getElem_cons (by exact h)]
  unfold dig
  rw [List.getD_eq_getElem?_getD]
  simp [hexL, str, List.getElem?_eq_getElem, show n < 16 from h]
theorem and15 (x : Nat) (h : x < 256) : Go.bits .and .u8 (x : Int) 15 = ((x % 16 : Nat) : Int) := by
  have h1 : (BitVec.ofInt 8 (x : Int)).toNat = x := by
    rw [BitVec.ofInt_natCast, BitVec.toNat_ofNat]; exact Nat.mod_eq_of_lt (by omega)
  show IntKind.u8.wrap ((BitVec.ofInt 8 (x : Int) &&& BitVec.ofInt 8 15).toNat : Int) = _
  rw [BitVec.toNat_and, h1, show (BitVec.ofInt 8 15).toNat = 2 ^ 4 - 1 by decide, Nat.and_two_pow_sub_one_eq_mod, IntKind.wrap_u8]
  omega
theorem add4 (a : Bs) (b c : UInt8) : str a ++ ⟨#[61]⟩ ++ str [b] ++ str [c] = str (a ++ [61] ++ [b] ++ [c]) := by
  rw [show (⟨#[61]⟩ : ByteArray) = str [61] from rfl, app_str, app_str, app_str]
theorem tw (t : Bs) : str t ++ ⟨#[61, 13, 10]⟩ ++ str t ++ ⟨#[61, 10]⟩ = str (t ++ [61, 13, 10] ++ t ++ [61, 10]) := by
  rw [show (⟨#[61, 13, 10]⟩ : ByteArray) = str [61, 13, 10] from rfl, show (⟨#[61, 10]⟩ : ByteArray) = str [61, 10] from rfl, app_str, app_str, app_str]
theorem e8 (t : Bs) : (⟨#[61, 63, 117, 116, 102, 45, 56, 63, 81, 63]⟩ : ByteArray) ++ str t ++ ⟨#[63, 61]⟩ = str (qu8 t) := by
  rw [show (⟨#[61, 63, 117, 116, 102, 45, 56, 63, 81, 63]⟩ : ByteArray) = str [61, 63, 117, 116, 102, 45, 56, 63, 81, 63] from rfl, show (⟨#[63, 61]⟩ : ByteArray) = str [63, 61] from rfl, app_str, app_str]
  rfl
theorem e1 (t : Bs) : (⟨#[61, 63, 105, 115, 111, 45, 56, 56, 53, 57, 45, 49, 63, 81, 63]⟩ : ByteArray) ++ str t ++ ⟨#[63, 61]⟩ = str (qi1 t) := by
  rw [show (⟨#[61, 63, 105, 115, 111, 45, 56, 56, 53, 57, 45, 49, 63, 81, 63]⟩ : ByteArray) = str [61, 63, 105, 115, 111, 45, 56, 56, 53, 57, 45, 49, 63, 81, 63] from rfl, show (⟨#[63, 61]⟩ : ByteArray) = str [63, 61] from rfl, app_str, app_str]
  rfl

set_option maxRecDepth 100000 in
set_option maxHeartbeats 8000000 in
theorem walk (a0 : ByteArray) (a1 : Bool) (w : World) (h0 : a0.size ≤ maxLen) :
    Calls Tryd.prog 8 #[.string a0, .bool a1] w fun e w' => e = .returned (.bool true) ∧ Below w.heap.size w w' := by
  obtain ⟨x, rfl⟩ : ∃ x, a0 = str x := ⟨a0.data.toList, (str_of a0).symm⟩
  unfold maxLen at h0
  have hx := str_size x
  rw [hx] at h0
  by_cases g0 : (500 : Int) < x.length
  · go_enter Tryd.func8, Tryd.ntmps8
    go_wp2_with fail
    refine (alive_any w).mono ?_
    rintro e w1 ⟨rfl, hb⟩
    have HB := hid hb
    clear hb
    go_wp2_with fail
    go_ret
    exact ⟨rfl, HB.out⟩
  cases a1
  · have HQL := hid (quo_len false x)
    have hql : ((quo false x).length : Int) ≤ 1500 := by rw [HQL.out]; omega
    have hqs := str_size (quo false x)
    have qa : ((str x).toList == (str x).toList) = true := by simp
    have qb : ((str (x ++ x)).toList == (str x ++ str x).toList) = true := by rw [app_str]; simp
    have qc : ((str (latin x)).toList == (str (latin x)).toList) = true := by simp
    have HLa := hid (latin_len x)
    go_enter Tryd.func8, Tryd.ntmps8
    go_wp2_with fail
    go_loopw [6, 15] (fun v i wr => ∃ k : Nat, k ≤ x.length ∧ i = .int .i64 k ∧ v = .string (str (quo false (x.take k))) ∧ Below w.heap.size w wr) (fun _ i _ => x.length - (intOf i).toNat)
    case atStart => exact ⟨0, by omega, rfl, rfl, Below.refl _ _⟩
    case round =>
      obtain ⟨k, hk, rfl, rfl, hb⟩ := hrel
      have HB := hid hb
      clear hb
      by_cases hlt : k < x.length
      · have hlt' : (k : Int) < x.length := by omega
        have hlts : k < (str x).size := by omega
        have g : ((str x)[k]'hlts) = x[k] := rfl
        have HN := hid (quo_next false x k hlt)
        have hql2 := quo_len false (x.take k)
        rw [List.length_take] at hql2
        have hqs2 := str_size (quo false (x.take k))
        have hq3 : ((quo false (x.take k)).length : Int) ≤ 1500 := by omega
        clear hql2
        have h8 := x[k].toNat_lt
        have h15 := and15 x[k].toNat (by omega)
        have HC1 := hid (cutBig (x[k].toNat / 16) (by omega))
        have HC2 := hid (cutBig (x[k].toNat % 16) (by omega))
        have HV : Hid (str (quo false (x.take k)) ++ ⟨#[61]⟩ ++ bigS.extract (x[k].toNat / 16) (x[k].toNat / 16 + 1) ++ bigS.extract (x[k].toNat % 16) (x[k].toNat % 16 + 1) = str (quo false (x.take (k + 1)))) := by
          rw [Hid, HC1.out, HC2.out, add4, HN.out]
          rfl
        clear HC1 HC2 HN
        go_wp2_with fail
        go_quiet (fail)
        go_wp2_with fail
        go_roundw
        case rel => exact ⟨k + 1, by omega, by go_num, congrArg Value.string HV.out, HB.out.trans (drewN_below _ _ _)⟩
        case measure => simp [intOf]; omega
      · have hlt' : ¬ (k : Int) < x.length := by omega
        have hkx : x.take k = x := List.take_of_length_le (by omega)
        rw [hkx]
        clear hkx
        go_wp2_with fail
        have C := unquote_any (quo false x) wr (by rw [HQL.out]; omega)
        rw [un1 false x] at C
        refine C.mono ?_
        clear C
        rintro e v1 ⟨rfl, hb⟩
        have HBv1 := hid (HB.out.trans (hb.mono HB.out.size))
        clear hb
        go_wp2_with fail
        have HTw := hid (tw (quo false x))
        have C := unquote_any (quo false x ++ [61, 13, 10] ++ quo false x ++ [61, 10]) v1 (by simp only [List.length_append, List.length_cons, List.length_nil]; omega)
        rw [un2 false x, ← HTw.out] at C
        refine C.mono ?_
        clear C
        rintro e v2 ⟨rfl, hb⟩
        have HBv2 := hid (HBv1.out.trans (hb.mono HBv1.out.size))
        clear hb
        go_wp2_with fail
        have C := words_any [qu8 (quo false x)] _ _ (slOne v2 _ _ (e8 (quo false x))) (by simp) (by rw [joined1]; unfold qu8; rw [ew_len, HQL.out]; simp; omega)
        rw [w8 false x] at C
        refine C.mono ?_
        clear C
        rintro e v3 ⟨rfl, hb⟩
        have HBv3 := hid ((HBv2.out.alloc HBv2.out.size _).trans (hb.mono (by have := HBv2.out.size; simp; omega)))
        clear hb
        go_wp2_with fail
        have C := words_any [qi1 (quo false x)] _ _ (slOne v3 _ _ (e1 (quo false x))) (by simp) (by rw [joined1]; unfold qi1; rw [ew_len, HQL.out]; simp; omega)
        rw [w1 false x] at C
        refine C.mono ?_
        clear C
        rintro e v4 ⟨rfl, hb⟩
        have HBv4 := hid ((HBv3.out.alloc HBv3.out.size _).trans (hb.mono (by have := HBv3.out.size; simp; omega)))
        clear hb
        go_wp2_with fail
        have C := latin_any x v4 (by omega)
        refine C.mono ?_
        clear C
        rintro e v5 ⟨rfl, hb⟩
        have HBv5 := hid (HBv4.out.trans (hb.mono HBv4.out.size))
        clear hb
        go_wp2_with fail
        have C := alive_any v5
        refine C.mono ?_
        clear C
        rintro e z ⟨rfl, hb⟩
        have HBz := hid (HBv5.out.trans (hb.mono HBv5.out.size))
        clear hb
        go_wp2_with fail
        go_ret
        exact ⟨rfl, HBz.out⟩
  · have HQL := hid (quo_len true x)
    have hql : ((quo true x).length : Int) ≤ 1500 := by rw [HQL.out]; omega
    have hqs := str_size (quo true x)
    have qa : ((str x).toList == (str x).toList) = true := by simp
    have qb : ((str (x ++ x)).toList == (str x ++ str x).toList) = true := by rw [app_str]; simp
    have qc : ((str (latin x)).toList == (str (latin x)).toList) = true := by simp
    have HLa := hid (latin_len x)
    go_enter Tryd.func8, Tryd.ntmps8
    go_wp2_with fail
    go_loopw [6, 15] (fun v i wr => ∃ k : Nat, k ≤ x.length ∧ i = .int .i64 k ∧ v = .string (str (quo true (x.take k))) ∧ Below w.heap.size w wr) (fun _ i _ => x.length - (intOf i).toNat)
    case atStart => exact ⟨0, by omega, rfl, rfl, Below.refl _ _⟩
    case round =>
      obtain ⟨k, hk, rfl, rfl, hb⟩ := hrel
      have HB := hid hb
      clear hb
      by_cases hlt : k < x.length
      · have hlt' : (k : Int) < x.length := by omega
        have hlts : k < (str x).size := by omega
        have g : ((str x)[k]'hlts) = x[k] := rfl
        have HN := hid (quo_next true x k hlt)
        have hql2 := quo_len true (x.take k)
        rw [List.length_take] at hql2
        have hqs2 := str_size (quo true (x.take k))
        have hq3 : ((quo true (x.take k)).length : Int) ≤ 1500 := by omega
        clear hql2
        have h8 := x[k].toNat_lt
        have h15 := and15 x[k].toNat (by omega)
        have HC1 := hid (cutHex (x[k].toNat / 16) (by omega))
        have HC2 := hid (cutHex (x[k].toNat % 16) (by omega))
        have HV : Hid (str (quo true (x.take k)) ++ ⟨#[61]⟩ ++ hexS.extract (x[k].toNat / 16) (x[k].toNat / 16 + 1) ++ hexS.extract (x[k].toNat % 16) (x[k].toNat % 16 + 1) = str (quo true (x.take (k + 1)))) := by
          rw [Hid, HC1.out, HC2.out, add4, HN.out]
          rfl
        clear HC1 HC2 HN
        go_wp2_with fail
        go_quiet (fail)
        go_wp2_with fail
        go_roundw
        case rel => exact ⟨k + 1, by omega, by go_num, congrArg Value.string HV.out, HB.out.trans (drewN_below _ _ _)⟩
        case measure => simp [intOf]; omega
      · have hlt' : ¬ (k : Int) < x.length := by omega
        have hkx : x.take k = x := List.take_of_length_le (by omega)
        rw [hkx]
        clear hkx
        go_wp2_with fail
        have C := unquote_any (quo true x) wr (by rw [HQL.out]; omega)
        rw [un1 true x] at C
        refine C.mono ?_
        clear C
        rintro e v1 ⟨rfl, hb⟩
        have HBv1 := hid (HB.out.trans (hb.mono HB.out.size))
        clear hb
        go_wp2_with fail
        have HTw := hid (tw (quo true x))
        have C := unquote_any (quo true x ++ [61, 13, 10] ++ quo true x ++ [61, 10]) v1 (by simp only [List.length_append, List.length_cons, List.length_nil]; omega)
        rw [un2 true x, ← HTw.out] at C
        refine C.mono ?_
        clear C
        rintro e v2 ⟨rfl, hb⟩
        have HBv2 := hid (HBv1.out.trans (hb.mono HBv1.out.size))
        clear hb
        go_wp2_with fail
        have C := words_any [qu8 (quo true x)] _ _ (slOne v2 _ _ (e8 (quo true x))) (by simp) (by rw [joined1]; unfold qu8; rw [ew_len, HQL.out]; simp; omega)
        rw [w8 true x] at C
        refine C.mono ?_
        clear C
        rintro e v3 ⟨rfl, hb⟩
        have HBv3 := hid ((HBv2.out.alloc HBv2.out.size _).trans (hb.mono (by have := HBv2.out.size; simp; omega)))
        clear hb
        go_wp2_with fail
        have C := words_any [qi1 (quo true x)] _ _ (slOne v3 _ _ (e1 (quo true x))) (by simp) (by rw [joined1]; unfold qi1; rw [ew_len, HQL.out]; simp; omega)
        rw [w1 true x] at C
        refine C.mono ?_
        clear C
        rintro e v4 ⟨rfl, hb⟩
        have HBv4 := hid ((HBv3.out.alloc HBv3.out.size _).trans (hb.mono (by have := HBv3.out.size; simp; omega)))
        clear hb
        go_wp2_with fail
        have C := latin_any x v4 (by omega)
        refine C.mono ?_
        clear C
        rintro e v5 ⟨rfl, hb⟩
        have HBv5 := hid (HBv4.out.trans (hb.mono HBv4.out.size))
        clear hb
        go_wp2_with fail
        have C := alive_any v5
        refine C.mono ?_
        clear C
        rintro e z ⟨rfl, hb⟩
        have HBz := hid (HBv5.out.trans (hb.mono HBv5.out.size))
        clear hb
        go_wp2_with fail
        go_ret
        exact ⟨rfl, HBz.out⟩

theorem witness (os : Os) {H : Type} (enc : TypeId × Value → H) :
    (OpenSpec.ofChange Rows.wordsQuotesSpec).preRow enc Tryd.prog Tryd.f8 Rows.wordsQuotesRow.domain false Rows.wordsQuotesRow.laid ((laidWorld os).forCall (fun _ _ => 0) ⟨#[], #[.string ⟨#[]⟩, .bool false], []⟩).memory #[.string ⟨#[]⟩, .bool false] := by
  have hw : (DataW.whole enc Tryd.prog ((laidWorld os).forCall (fun _ _ => 0) ⟨#[], #[.string ⟨#[]⟩, .bool false], []⟩).memory Tryd.f8.params.toList Rows.wordsQuotesSpec.vars false (#[.string ⟨#[]⟩, .bool false] : Array Value).toList 8).map (fun x => (x.1, x.2.1)) =
      some ([.lit (.string []), .lit (.bool false)], []) := by kernel_rfl
  obtain ⟨⟨x1, x2, x3⟩, hx, hx1⟩ := Option.map_eq_some_iff.1 hw
  simp only [Prod.mk.injEq] at hx1
  obtain ⟨rfl, rfl⟩ := hx1
  exact OpenSpec.preRow_of_cond 8 hx (by kernel_rfl) (fun k hk => by cases hk) (by kernel_rfl) (laid_met os _)

set_option maxRecDepth 100000 in
set_option maxHeartbeats 2000000 in
theorem lifted (os : Os) (started : os.Started) (H : Type) (enc : TypeId × Value → H) (F : Stop.Interp) :
    ReturnsInHanded {} Tryd.checked os 8 .any ((OpenSpec.ofChange Rows.wordsQuotesSpec).preRow enc Tryd.prog Tryd.f8 Rows.wordsQuotesRow.domain false Rows.wordsQuotesRow.laid) (((OpenSpec.ofChange Rows.wordsQuotesSpec).at F).post enc Tryd.prog Tryd.f8 false true false false) := by
  refine returnsInHanded_of_row (C := Tryd.checked) (s := OpenSpec.ofChange Rows.wordsQuotesSpec) own started (by kernel_rfl) Tryd.func8
    (witness_row_atRef (enc := enc) (C := Tryd.checked) false (laidWorld os) #[.string ⟨#[]⟩, .bool false] rfl (by kernel_rfl) (by kernel_rfl) (by kernel_rfl) (witness os enc)) ?_
  intro W base args ds gs before hval0 hW _ _ _ hL hsh _
  have hval : ∀ (j : Nat) t v, Tryd.f8.params[j]? = some t → args[j]? = some v → Value.okWide Tryd.prog W .any base t v := hval0
  have hW' := hW
  obtain ⟨p, q, hA0, hV, rfl, hfz, hnd⟩ := hW
  have hA : DataW.TrodAll enc Tryd.prog W 0 (fun _ => true) true Tryd.f8.params.toList args.toList ds p := hA0
  rw [Tryd.params8] at hA hval
  obtain ⟨v0, vs0, d0, ds0, p0, q0, hargs, rfl, rfl, h0, r0⟩ := trodAll_cons hA
  obtain ⟨v1, vs1, d1, ds1, p1, q1, rfl, rfl, rfl, h1, r1⟩ := trodAll_cons r0
  obtain ⟨rfl, rfl, rfl⟩ := trodAll_nil r1
  obtain rfl : args = #[v0, v1] := by cases args; simp_all
  obtain ⟨rfl, rfl⟩ := trodVars_none hV
  obtain ⟨a0, rfl, rfl, rfl, w0⟩ := open_string Tryd.underlying9 (hval 0 9 v0 rfl rfl) h0
  obtain ⟨a1, rfl, rfl, rfl⟩ := open_bool Tryd.underlying4 (hval 1 4 v1 rfl rfl) h1
  clear hA0 hval0
  refine (walk a0 a1 W w0).mono ?_
  rintro e W' ⟨rfl, bel⟩
  exact ⟨_, rfl, _, _, _, [], _, [], hW', trodAll_mk1 (shut_bool Tryd.underlying4 _), (trodAll_cons_mk (shut_string Tryd.underlying9 w0) (trodAll_cons_mk (shut_bool Tryd.underlying4 a1) trodAll_mk0)), rfl, bel.frame _, fun h => by cases h⟩

theorem over : Rows.wordsQuotesRow.holds Tryd.pinned (OpenSpec.ofChange Rows.wordsQuotesSpec) :=
  OpenClaim.holds_of_cond 8 Tryd.f8 rfl rfl rfl rfl rfl rfl rfl ⟨rfl, rfl, rfl, rfl, rfl⟩ rfl rfl rfl rfl rfl (by kernel_rfl) Tryd.func8 (by kernel_rfl)
    (of_decide_eq_true (by kernel_rfl)) (by unfold Func.isWrapper; first | (rw [if_pos (by decide +kernel)]; kernel_rfl) | (rw [if_neg (by decide +kernel)]; exact ⟨rfl, rfl⟩))
    (fun os started H enc _ F => by rw [OpenClaim.pre_eq_preRow]; exact lifted os started H enc F)

/-- No parameter wants a stand-in. -/
theorem plain (f : FuncId) (fn : Func) (hf : Tryd.pinned.checked.prog.funcNamed Rows.wordsQuotesRow.func = some f) (hfn : Tryd.pinned.checked.prog.funcs[f]? = some fn) :
    false = Tryd.pinned.checked.prog.looks [] ∧ ∀ (j : Nat) t, fn.params[j]? = some t → Tryd.pinned.checked.prog.wantsStandIn t = false := by
  obtain rfl : f = 8 := Option.some.inj ((show Tryd.prog.funcNamed Rows.wordsQuotesRow.func = some 8 by kernel_rfl).symm.trans hf) |>.symm
  obtain rfl : fn = Tryd.f8 := (Option.some.inj (Tryd.func8.symm.trans hfn)).symm
  refine ⟨by kernel_rfl, fun j t ht => ?_⟩
  rw [Tryd.params8] at ht
  have hm := Array.mem_of_getElem? ht
  simp only [List.mem_toArray, List.mem_cons, List.not_mem_nil, or_false] at hm
  rcases hm with rfl | rfl
  · exact (show Tryd.prog.wantsStandIn 9 = false by kernel_rfl)
  · exact (show Tryd.prog.wantsStandIn 4 = false by kernel_rfl)
end Go.Proofs.YtjmjeiegbkfdbaaDoor.wordsQuotes
namespace Go.Proofs.YtjmjeiegbkfdbaaDoor
/-- THE STATEMENT. -/
theorem wordsQuotes_holds : Rows.WordsQuotesCardSaid :=
  Claim7.holds_tied_plain_at .later [] _ _ _ _ wordsQuotes.over (fun _ h => by cases h) (by kernel_rfl) (fun _ h => by cases h) wordsQuotes_row_tie rfl ⟨rfl, rfl⟩ (by kernel_rfl) rfl wordsQuotes.plain (by kernel_rfl)
#print axioms wordsQuotes_holds
end Go.Proofs.YtjmjeiegbkfdbaaDoor
