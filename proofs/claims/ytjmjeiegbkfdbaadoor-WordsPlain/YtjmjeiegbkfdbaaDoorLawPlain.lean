/- Proved here: a text without = stays, an encoded word of any bytes says them, and two of them with blanks between say both (WordsPlain returns true for every input, and leaves its arguments as they were). No condition beyond what the card says: two tables of the library hold what its text lays. -/
import Derived.Test.YtjmjeiegbkfdbaaDoorCards
import Derived.Test.YtjmjeiegbkfdbaaDoorTie
import Derived.Test.YtjmjeiegbkfdbaaDoorFrame
import Derived.Test.YtjmjeiegbkfdbaaDoorPure3
import Derived.ProofKit
import Derived.OpenShut
import Derived.ShutString
import Derived.Below
namespace Go.Proofs.YtjmjeiegbkfdbaaDoor.wordsPlain
open Go.ChangeShapes Go.WideShapes Go.ChangeAt Go.RowKit
open Go.ChangeMaps (open_string shut_string)
set_option linter.unusedVariables false
set_option linter.unusedSimpArgs false

theorem slOne (w : World) (X : ByteArray) (x : Bs) (h : X = str x) : SL (w.alloc (.cells #[.string X] 9)) (.slice (some ⟨w.heap.size, 0, none⟩) 1 1) [x] := by
  subst h
  refine ⟨_, _, rfl, by simp, .inr ⟨_, _, rfl, ?_⟩⟩
  intro j y hy
  match j, hy with
  | 0, hy =>
    cases hy
    simp only [World.cell?, heap_alloc_new]
    rfl
  | (j + 1), hy => simp at hy
theorem slTwo (w : World) (X Y : ByteArray) (x y : Bs) (h : X = str x) (h2 : Y = str y) : SL (w.alloc (.cells #[.string X, .string Y] 9)) (.slice (some ⟨w.heap.size, 0, none⟩) 2 2) [x, y] := by
  subst h
  subst h2
  refine ⟨_, _, rfl, by simp, .inr ⟨_, _, rfl, ?_⟩⟩
  intro j y hy
  match j, hy with
  | 0, hy =>
    cases hy
    simp only [World.cell?, heap_alloc_new]
    rfl
  | 1, hy =>
    cases hy
    simp only [World.cell?, heap_alloc_new]
    rfl
  | (j + 2), hy => simp at hy
theorem ones (x : Bs) : (⟨#[61, 63, 85, 84, 70, 45, 56, 63, 98, 63]⟩ : ByteArray) ++ str (b64 x) ++ ⟨#[63, 61]⟩ = str (oneL x) := by
  rw [show (⟨#[61, 63, 85, 84, 70, 45, 56, 63, 98, 63]⟩ : ByteArray) = str [61, 63, 85, 84, 70, 45, 56, 63, 98, 63] from rfl, show (⟨#[63, 61]⟩ : ByteArray) = str [63, 61] from rfl, app_str, app_str]
  rfl
theorem twos (x : Bs) : (⟨#[61, 63, 117, 115, 45, 97, 115, 99, 105, 105, 63, 66, 63]⟩ : ByteArray) ++ str (b64 x) ++ ⟨#[63, 61]⟩ = str (twoL x) := by
  rw [show (⟨#[61, 63, 117, 115, 45, 97, 115, 99, 105, 105, 63, 66, 63]⟩ : ByteArray) = str [61, 63, 117, 115, 45, 97, 115, 99, 105, 105, 63, 66, 63] from rfl, show (⟨#[63, 61]⟩ : ByteArray) = str [63, 61] from rfl, app_str, app_str]
  rfl
def gap (n : Nat) : Bs := List.replicate n 32
theorem gap_len (n : Nat) : (str (gap n)).size = n := by rw [str_size]; simp [gap]
theorem gaps (n : Nat) : ∀ k, str (gap k) ++ ⟨#[32]⟩ = str (gap (k + 1)) := by
  intro k
  rw [show (⟨#[32]⟩ : ByteArray) = str [32] from rfl, app_str]
  unfold gap
  rw [List.replicate_succ']
theorem gap_blank (n : Nat) : ∀ c ∈ gap n, blank c = true := by
  intro c hc
  rw [(List.mem_replicate.1 hc).2]
  decide
theorem exs (x y : Bs) : str x ++ ⟨#[120]⟩ ++ str y = str (x ++ [120] ++ y) := by
  rw [show (⟨#[120]⟩ : ByteArray) = str [120] from rfl, app_str, app_str]
/-- No = among the first bytes. -/
def noEq (x : Bs) (k : Nat) : Bool := (x.take k).all (fun c => c != 61)
theorem noEq_next (x : Bs) (k : Nat) (hk : k < x.length) : noEq x (k + 1) = (noEq x k && x[k] != 61) := by
  unfold noEq
  rw [List.take_succ_eq_append_getElem hk, List.all_append]
  simp

set_option maxRecDepth 100000 in
set_option maxHeartbeats 8000000 in
theorem walk (a0 a1 : ByteArray) (a2 : Int) (w : World) (h0 : a0.size ≤ maxLen) (h1 : a1.size ≤ maxLen) (h2 : -9223372036854775808 ≤ a2 ∧ a2 ≤ 9223372036854775807) :
    Calls Tryd.prog 7 #[.string a0, .string a1, .int .i64 a2] w fun e w' => e = .returned (.bool true) ∧ Below w.heap.size w w' := by
  obtain ⟨x, rfl⟩ : ∃ x, a0 = str x := ⟨a0.data.toList, (str_of a0).symm⟩
  obtain ⟨y, rfl⟩ : ∃ y, a1 = str y := ⟨a1.data.toList, (str_of a1).symm⟩
  unfold maxLen at h0 h1
  have hx := str_size x
  have hy := str_size y
  rw [hx] at h0
  rw [hy] at h1
  by_cases g0 : (1000 : Int) < x.length
  · go_enter Tryd.func7, Tryd.ntmps7
    go_wp2_with fail
    refine (alive_any w).mono ?_
    rintro e w1 ⟨rfl, hb⟩
    have HB := hid hb
    clear hb
    go_wp2_with fail
    go_ret
    exact ⟨rfl, HB.out⟩
  by_cases g1 : (1000 : Int) < y.length
  · go_enter Tryd.func7, Tryd.ntmps7
    go_wp2_with fail
    refine (alive_any w).mono ?_
    rintro e w1 ⟨rfl, hb⟩
    have HB := hid hb
    clear hb
    go_wp2_with fail
    go_ret
    exact ⟨rfl, HB.out⟩
  obtain ⟨n, hn, hcnt⟩ : ∃ n : Nat, n < 50 ∧ (wrap64 (a2.tmod 50 + 50)).tmod 50 = (n : Int) := by
    have hm1 := Int.tmod_lt_of_pos a2 (show (0 : Int) < 50 by omega)
    have hm2 : -50 < a2.tmod 50 := by
      have := Int.lt_tmod_of_pos a2 (show (0 : Int) < 50 by omega)
      omega
    have e1 : wrap64 (a2.tmod 50 + 50) = a2.tmod 50 + 50 := by unfold wrap64; omega
    have e2 : (a2.tmod 50 + 50).tmod 50 = (a2.tmod 50 + 50) % 50 := Int.tmod_eq_emod_of_nonneg (by omega)
    refine ⟨((a2.tmod 50 + 50) % 50).toNat, by omega, ?_⟩
    rw [e1, e2]
    omega
  have HO := hid (ones x)
  have HT := hid (twos y)
  have HG := hid (gaps n)
  have HX := hid (exs x y)
  have hs1 := str_size (oneL x)
  have hs2 := str_size (twoL y)
  have hl3 : (oneL x).length = 5 + (b64 x).length + 7 := ew_len _ _ _
  have hl4 : (twoL y).length = 8 + (b64 y).length + 7 := ew_len _ _ _
  have HGL : Hid (∀ k, (gap k).length = k) := fun k => by simp [gap]
  have q1 : ((str (x ++ y)).toList == (str x ++ str y).toList) = true := by rw [app_str]; simp
  have q2 : ((str (x ++ 120 :: y)).toList == (str x ++ ⟨#[120]⟩ ++ str y).toList) = true := by rw [exs]; simp
  have q3 : ((str []).toList == []) = true := by rw [eq_lit]; simp
  have hb1 := str_size (b64 x)
  have hb2 := str_size (b64 y)
  have hl1 := b64_len x
  have hl2 := b64_len y
  have hg3 : ((b64 x).length : Int) ≤ 1400 := by omega
  have hg4 : ((b64 y).length : Int) ≤ 1400 := by omega
  have hg5 : ((oneL x).length : Int) ≤ 1420 := by omega
  have hg6 : ((twoL y).length : Int) ≤ 1420 := by omega
  clear hl3 hl4
  have HL1 := hid hl1
  have HL2 := hid hl2
  clear hl1 hl2
  go_enter Tryd.func7, Tryd.ntmps7
  go_wp2_with fail
  go_loop [7, 23] (fun v i => ∃ k : Nat, k ≤ x.length ∧ i = .int .i64 k ∧ v = .bool (noEq x k)) (fun _ i => x.length - (intOf i).toNat)
  case atStart => exact ⟨0, by omega, rfl, rfl⟩
  case round =>
    obtain ⟨k, hk, rfl, rfl⟩ := hrel
    by_cases hlt : k < x.length
    · have hlt' : (k : Int) < x.length := by omega
      have hlts : k < (str x).size := by omega
      have g : ((str x)[k]'hlts) = x[k] := rfl
      have HN := hid (noEq_next x k hlt)
      rcases Bool.eq_false_or_eq_true (noEq x k) with hb | hb
      · rw [hb, Bool.true_and] at HN
        have HC : Hid (((x[k].toNat : Int) != 61) = (x[k] != 61)) := by
          rw [Hid, Bool.eq_iff_iff, bne_iff_ne, bne_iff_ne]
          constructor
          · intro h e; rw [e] at h; exact h rfl
          · intro h e; exact h (UInt8.toNat_inj.1 (by show _ = 61; omega))
        rw [hb]
        clear hb
        go_wp2_with fail
        go_round
        case rel => exact ⟨k + 1, by omega, by go_num, by rw [HN.out]; exact congrArg Value.bool HC.out⟩
        case measure => simp [intOf]; omega
      · rw [hb, Bool.false_and] at HN
        rw [hb]
        clear hb
        go_wp2_with fail
        go_round
        case rel => exact ⟨k + 1, by omega, by go_num, by rw [HN.out]⟩
        case measure => simp [intOf]; omega
    · have hk2 : noEq x k = x.all (fun c => c != 61) := by
        unfold noEq
        rw [List.take_of_length_le (by omega)]
      have hlt' : ¬ (k : Int) < x.length := by omega
      rw [hk2]
      clear hk2
      have q0 : ((str x).toList == (str x).toList) = true := by simp
      rcases Bool.eq_false_or_eq_true (x.all (fun c => c != 61)) with hb | hb
      · have HW : Hid (wordsP false (joined [x]) = x) := by
          rw [Hid, joined1]
          exact words_plain _ _ x (Nat.le_refl _) (by simpa using hb)
        rw [hb]
        clear hb
        go_wp2_with fail
        have C := words_any [x] _ _ (slOne w (str x) x rfl) (by simp) (by rw [joined1]; omega)
        rw [HW.out] at C
        refine C.mono ?_
        clear C
        rintro e u1 ⟨rfl, hb⟩
        have HBu1 := hid (((Below.refl _ w).alloc (Nat.le_refl _) _).trans (hb.mono (by simp)))
        clear hb
        go_wp2_with fail
        go_loop [9, 46] (fun v i => ∃ k : Nat, k ≤ n ∧ i = .int .i64 k ∧ v = .string (str (gap k))) (fun _ i => n - (intOf i).toNat)
        case atStart => exact ⟨0, by omega, rfl, rfl⟩
        case round =>
          obtain ⟨k, hk, rfl, rfl⟩ := hrel
          have hgl := gap_len k
          by_cases hkn : k < n
          · have hkn' : (k : Int) < n := by omega
            go_wp2_with fail
            go_round
            case rel => exact ⟨k + 1, by omega, by go_num, by rw [← HG.out]⟩
            case measure => simp [intOf]; omega
          · have hkn' : ¬ (k : Int) < n := by omega
            go_wp2_with fail
            have C := base64_any x u1 (by omega)
            refine C.mono ?_
            clear C
            rintro e v1 ⟨rfl, hb⟩
            have HBv1 := hid (HBu1.out.trans (hb.mono HBu1.out.size))
            clear hb
            go_wp2_with fail
            have C := base64_any y v1 (by omega)
            refine C.mono ?_
            clear C
            rintro e v2 ⟨rfl, hb⟩
            have HBv2 := hid (HBv1.out.trans (hb.mono HBv1.out.size))
            clear hb
            go_wp2_with fail
            rw [HO.out, HT.out]
            have C := words_any [oneL x] _ _ (slOne v2 (str (oneL x)) (oneL x) rfl) (by simp) (by rw [joined1]; omega)
            rw [pl1 x] at C
            refine C.mono ?_
            clear C
            rintro e v3 ⟨rfl, hb⟩
            have HBv3 := hid ((HBv2.out.alloc HBv2.out.size _).trans (hb.mono (by have := HBv2.out.size; simp; omega)))
            clear hb
            have HGT := hid (app_str (gap k) (twoL y))
            go_wp2_with fail
            have C := words_any [oneL x, gap k ++ twoL y] _ _ (slTwo v3 (str (oneL x)) (str (gap k) ++ str (twoL y)) (oneL x) (gap k ++ twoL y) rfl HGT.out) (by simp) (by rw [joined2]; simp only [List.length_append, List.length_cons]; have := HGL.out k; omega)
            rw [pl2 x y _ (gap_blank k)] at C
            refine C.mono ?_
            clear C
            rintro e v4 ⟨rfl, hb⟩
            have HBv4 := hid ((HBv3.out.alloc HBv3.out.size _).trans (hb.mono (by have := HBv3.out.size; simp; omega)))
            clear hb
            go_wp2_with fail
            have C := words_any [oneL x ++ [120] ++ twoL y] _ _ (slOne v4 (str (oneL x) ++ ⟨#[120]⟩ ++ str (twoL y)) (oneL x ++ [120] ++ twoL y) (exs _ _)) (by simp) (by rw [joined1]; simp only [List.length_append, List.length_cons, List.length_nil]; omega)
            rw [pl3 x y] at C
            refine C.mono ?_
            clear C
            rintro e v5 ⟨rfl, hb⟩
            have HBv5 := hid ((HBv4.out.alloc HBv4.out.size _).trans (hb.mono (by have := HBv4.out.size; simp; omega)))
            clear hb
            go_wp2_with fail
            have C := words_any [] (.slice none 0 0) v5 ⟨none, 0, rfl, Nat.le_refl _, .inl rfl⟩ (by simp) (by decide)
            rw [show wordsP false (joined []) = [] from rfl] at C
            refine C.mono ?_
            clear C
            rintro e v6 ⟨rfl, hb⟩
            have HBv6 := hid (HBv5.out.trans (hb.mono HBv5.out.size))
            clear hb
            go_wp2_with fail
            have C := alive_any v6
            refine C.mono ?_
            clear C
            rintro e z ⟨rfl, hb⟩
            have HBz := hid (HBv6.out.trans (hb.mono HBv6.out.size))
            clear hb
            go_wp2_with fail
            go_ret
            exact ⟨rfl, HBz.out⟩
      · rw [hb]
        clear hb
        go_wp2_with fail
        go_loop [9, 46] (fun v i => ∃ k : Nat, k ≤ n ∧ i = .int .i64 k ∧ v = .string (str (gap k))) (fun _ i => n - (intOf i).toNat)
        case atStart => exact ⟨0, by omega, rfl, rfl⟩
        case round =>
          obtain ⟨k, hk, rfl, rfl⟩ := hrel
          have hgl := gap_len k
          by_cases hkn : k < n
          · have hkn' : (k : Int) < n := by omega
            go_wp2_with fail
            go_round
            case rel => exact ⟨k + 1, by omega, by go_num, by rw [← HG.out]⟩
            case measure => simp [intOf]; omega
          · have hkn' : ¬ (k : Int) < n := by omega
            go_wp2_with fail
            have C := base64_any x w (by omega)
            refine C.mono ?_
            clear C
            rintro e v1 ⟨rfl, hb⟩
            have HBv1 := hid hb
            clear hb
            go_wp2_with fail
            have C := base64_any y v1 (by omega)
            refine C.mono ?_
            clear C
            rintro e v2 ⟨rfl, hb⟩
            have HBv2 := hid (HBv1.out.trans (hb.mono HBv1.out.size))
            clear hb
            go_wp2_with fail
            rw [HO.out, HT.out]
            have C := words_any [oneL x] _ _ (slOne v2 (str (oneL x)) (oneL x) rfl) (by simp) (by rw [joined1]; omega)
            rw [pl1 x] at C
            refine C.mono ?_
            clear C
            rintro e v3 ⟨rfl, hb⟩
            have HBv3 := hid ((HBv2.out.alloc HBv2.out.size _).trans (hb.mono (by have := HBv2.out.size; simp; omega)))
            clear hb
            have HGT := hid (app_str (gap k) (twoL y))
            go_wp2_with fail
            have C := words_any [oneL x, gap k ++ twoL y] _ _ (slTwo v3 (str (oneL x)) (str (gap k) ++ str (twoL y)) (oneL x) (gap k ++ twoL y) rfl HGT.out) (by simp) (by rw [joined2]; simp only [List.length_append, List.length_cons]; have := HGL.out k; omega)
            rw [pl2 x y _ (gap_blank k)] at C
            refine C.mono ?_
            clear C
            rintro e v4 ⟨rfl, hb⟩
            have HBv4 := hid ((HBv3.out.alloc HBv3.out.size _).trans (hb.mono (by have := HBv3.out.size; simp; omega)))
            clear hb
            go_wp2_with fail
            have C := words_any [oneL x ++ [120] ++ twoL y] _ _ (slOne v4 (str (oneL x) ++ ⟨#[120]⟩ ++ str (twoL y)) (oneL x ++ [120] ++ twoL y) (exs _ _)) (by simp) (by rw [joined1]; simp only [List.length_append, List.length_cons, List.length_nil]; omega)
            rw [pl3 x y] at C
            refine C.mono ?_
            clear C
            rintro e v5 ⟨rfl, hb⟩
            have HBv5 := hid ((HBv4.out.alloc HBv4.out.size _).trans (hb.mono (by have := HBv4.out.size; simp; omega)))
            clear hb
            go_wp2_with fail
            have C := words_any [] (.slice none 0 0) v5 ⟨none, 0, rfl, Nat.le_refl _, .inl rfl⟩ (by simp) (by decide)
            rw [show wordsP false (joined []) = [] from rfl] at C
            refine C.mono ?_
            clear C
            rintro e v6 ⟨rfl, hb⟩
            have HBv6 := hid (HBv5.out.trans (hb.mono HBv5.out.size))
            clear hb
            go_wp2_with fail
            have C := alive_any v6
            refine C.mono ?_
            clear C
            rintro e z ⟨rfl, hb⟩
            have HBz := hid (HBv6.out.trans (hb.mono HBv6.out.size))
            clear hb
            go_wp2_with fail
            go_ret
            exact ⟨rfl, HBz.out⟩

theorem witness (os : Os) {H : Type} (enc : TypeId × Value → H) :
    (OpenSpec.ofChange Rows.wordsPlainSpec).preRow enc Tryd.prog Tryd.f7 Rows.wordsPlainRow.domain false Rows.wordsPlainRow.laid ((laidWorld os).forCall (fun _ _ => 0) ⟨#[], #[.string ⟨#[]⟩, .string ⟨#[]⟩, .int .i64 0], []⟩).memory #[.string ⟨#[]⟩, .string ⟨#[]⟩, .int .i64 0] := by
  have hw : (DataW.whole enc Tryd.prog ((laidWorld os).forCall (fun _ _ => 0) ⟨#[], #[.string ⟨#[]⟩, .string ⟨#[]⟩, .int .i64 0], []⟩).memory Tryd.f7.params.toList Rows.wordsPlainSpec.vars false (#[.string ⟨#[]⟩, .string ⟨#[]⟩, .int .i64 0] : Array Value).toList 8).map (fun x => (x.1, x.2.1)) =
      some ([.lit (.string []), .lit (.string []), .lit (.int .i64 0)], []) := by kernel_rfl
  obtain ⟨⟨x1, x2, x3⟩, hx, hx1⟩ := Option.map_eq_some_iff.1 hw
  simp only [Prod.mk.injEq] at hx1
  obtain ⟨rfl, rfl⟩ := hx1
  exact OpenSpec.preRow_of_cond 8 hx (by kernel_rfl) (fun k hk => by cases hk) (by kernel_rfl) (laid_met os _)

set_option maxRecDepth 100000 in
set_option maxHeartbeats 2000000 in
theorem lifted (os : Os) (started : os.Started) (H : Type) (enc : TypeId × Value → H) (F : Stop.Interp) :
    ReturnsInHanded {} Tryd.checked os 7 .any ((OpenSpec.ofChange Rows.wordsPlainSpec).preRow enc Tryd.prog Tryd.f7 Rows.wordsPlainRow.domain false Rows.wordsPlainRow.laid) (((OpenSpec.ofChange Rows.wordsPlainSpec).at F).post enc Tryd.prog Tryd.f7 false true false false) := by
  refine returnsInHanded_of_row (C := Tryd.checked) (s := OpenSpec.ofChange Rows.wordsPlainSpec) own started (by kernel_rfl) Tryd.func7
    (witness_row_atRef (enc := enc) (C := Tryd.checked) false (laidWorld os) #[.string ⟨#[]⟩, .string ⟨#[]⟩, .int .i64 0] rfl (by kernel_rfl) (by kernel_rfl) (by kernel_rfl) (witness os enc)) ?_
  intro W base args ds gs before hval0 hW _ _ _ hL hsh _
  have hval : ∀ (j : Nat) t v, Tryd.f7.params[j]? = some t → args[j]? = some v → Value.okWide Tryd.prog W .any base t v := hval0
  have hW' := hW
  obtain ⟨p, q, hA0, hV, rfl, hfz, hnd⟩ := hW
  have hA : DataW.TrodAll enc Tryd.prog W 0 (fun _ => true) true Tryd.f7.params.toList args.toList ds p := hA0
  rw [Tryd.params7] at hA hval
  obtain ⟨v0, vs0, d0, ds0, p0, q0, hargs, rfl, rfl, h0, r0⟩ := trodAll_cons hA
  obtain ⟨v1, vs1, d1, ds1, p1, q1, rfl, rfl, rfl, h1, r1⟩ := trodAll_cons r0
  obtain ⟨v2, vs2, d2, ds2, p2, q2, rfl, rfl, rfl, h2, r2⟩ := trodAll_cons r1
  obtain ⟨rfl, rfl, rfl⟩ := trodAll_nil r2
  obtain rfl : args = #[v0, v1, v2] := by cases args; simp_all
  obtain ⟨rfl, rfl⟩ := trodVars_none hV
  obtain ⟨a0, rfl, rfl, rfl, w0⟩ := open_string Tryd.underlying9 (hval 0 9 v0 rfl rfl) h0
  obtain ⟨a1, rfl, rfl, rfl, w1⟩ := open_string Tryd.underlying9 (hval 1 9 v1 rfl rfl) h1
  obtain ⟨a2, rfl, rfl, rfl, w2⟩ := open_int Tryd.underlying3 (hval 2 3 v2 rfl rfl) h2
  clear hA0 hval0
  refine (walk a0 a1 a2 W w0 w1 (bounds_i64 w2)).mono ?_
  rintro e W' ⟨rfl, bel⟩
  exact ⟨_, rfl, _, _, _, [], _, [], hW', trodAll_mk1 (shut_bool Tryd.underlying4 _), (trodAll_cons_mk (shut_string Tryd.underlying9 w0) (trodAll_cons_mk (shut_string Tryd.underlying9 w1) (trodAll_cons_mk (shut_int Tryd.underlying3 w2) trodAll_mk0))), rfl, bel.frame _, fun h => by cases h⟩

theorem over : Rows.wordsPlainRow.holds Tryd.pinned (OpenSpec.ofChange Rows.wordsPlainSpec) :=
  OpenClaim.holds_of_cond 7 Tryd.f7 rfl rfl rfl rfl rfl rfl rfl ⟨rfl, rfl, rfl, rfl, rfl⟩ rfl rfl rfl rfl rfl (by kernel_rfl) Tryd.func7 (by kernel_rfl)
    (of_decide_eq_true (by kernel_rfl)) (by unfold Func.isWrapper; first | (rw [if_pos (by decide +kernel)]; kernel_rfl) | (rw [if_neg (by decide +kernel)]; exact ⟨rfl, rfl⟩))
    (fun os started H enc _ F => by rw [OpenClaim.pre_eq_preRow]; exact lifted os started H enc F)

/-- No parameter wants a stand-in. -/
theorem plain (f : FuncId) (fn : Func) (hf : Tryd.pinned.checked.prog.funcNamed Rows.wordsPlainRow.func = some f) (hfn : Tryd.pinned.checked.prog.funcs[f]? = some fn) :
    false = Tryd.pinned.checked.prog.looks [] ∧ ∀ (j : Nat) t, fn.params[j]? = some t → Tryd.pinned.checked.prog.wantsStandIn t = false := by
  obtain rfl : f = 7 := Option.some.inj ((show Tryd.prog.funcNamed Rows.wordsPlainRow.func = some 7 by kernel_rfl).symm.trans hf) |>.symm
  obtain rfl : fn = Tryd.f7 := (Option.some.inj (Tryd.func7.symm.trans hfn)).symm
  refine ⟨by kernel_rfl, fun j t ht => ?_⟩
  rw [Tryd.params7] at ht
  have hm := Array.mem_of_getElem? ht
  simp only [List.mem_toArray, List.mem_cons, List.not_mem_nil, or_false] at hm
  rcases hm with rfl | rfl | rfl
  · exact (show Tryd.prog.wantsStandIn 9 = false by kernel_rfl)
  · exact (show Tryd.prog.wantsStandIn 9 = false by kernel_rfl)
  · exact (show Tryd.prog.wantsStandIn 3 = false by kernel_rfl)
end Go.Proofs.YtjmjeiegbkfdbaaDoor.wordsPlain
namespace Go.Proofs.YtjmjeiegbkfdbaaDoor
/-- THE STATEMENT. -/
theorem wordsPlain_holds : Rows.WordsPlainCardSaid :=
  Claim7.holds_tied_plain_at .later [] _ _ _ _ wordsPlain.over (fun _ h => by cases h) (by kernel_rfl) (fun _ h => by cases h) wordsPlain_row_tie rfl ⟨rfl, rfl⟩ (by kernel_rfl) rfl wordsPlain.plain (by kernel_rfl)
#print axioms wordsPlain_holds
end Go.Proofs.YtjmjeiegbkfdbaaDoor
