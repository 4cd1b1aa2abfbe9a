/- Proved here: what is renamed is moved back by the other name; what is not under it stays (NamesMoved returns true for every input, and leaves its arguments as they were). No condition beyond what the card says: two tables of the library hold what its text lays. -/
import Derived.Test.YtkmggkcipgfhdaaDoorCards
import Derived.Test.YtkmggkcipgfhdaaDoorTie
import Derived.Test.YtkmggkcipgfhdaaDoorFrame
import Derived.ProofKit
import Derived.OpenShut
import Derived.ShutString
import Derived.Below
namespace Go.Proofs.YtkmggkcipgfhdaaDoor.namesMoved
open Go.ChangeShapes Go.WideShapes Go.ChangeAt Go.RowKit
open Go.ChangeMaps (open_string shut_string)
set_option linter.unusedVariables false
set_option linter.unusedSimpArgs false

/-- Back again. -/
theorem under_at (a r : List UInt8) : underB (a ++ 47 :: r) a = true := by
  unfold underB Go.Lib.hasPrefix
  rw [List.isPrefixOf_iff_prefix]
  exact ⟨r, by simp⟩
theorem under_form {name a : List UInt8} (h : underB name a = true) : ∃ r, name = a ++ 47 :: r := by
  unfold underB Go.Lib.hasPrefix at h
  obtain ⟨r, hr⟩ := List.isPrefixOf_iff_prefix.1 h
  exact ⟨r, by rw [← hr]; simp⟩
theorem back (name a b : List UInt8) (h : (movedP name a b).2 = true) : movedP (movedP name a b).1 b a = (name, true) ∧ ((movedP name a b).1 = b ∨ underB (movedP name a b).1 b = true) := by
  unfold movedP at h ⊢
  by_cases hc : name = a ∨ underB name a = true
  · simp only [if_pos hc]
    rcases hc with rfl | hu
    · simp
    · obtain ⟨r, rfl⟩ := under_form hu
      simp [under_at]
  · rw [if_neg hc] at h
    cases h
theorem stay (name a b : List UInt8) (h : (movedP name a b).2 = false) : (movedP name a b).1 = name ∧ name ≠ a ∧ underB name a = false := by
  unfold movedP at h ⊢
  by_cases hc : name = a ∨ underB name a = true
  · rw [if_pos hc] at h; cases h
  · rw [if_neg hc]
    exact ⟨rfl, fun e => hc (.inl e), by simpa using fun e => hc (.inr e)⟩

set_option maxRecDepth 100000 in
set_option maxHeartbeats 2000000 in
theorem walk (a0 a1 a2 : ByteArray) {w : World} (h : Env w) (h0 : a0.size ≤ maxLen) (h1 : a1.size ≤ maxLen) (h2 : a2.size ≤ maxLen) :
    Calls Tryd.prog 7 #[.string a0, .string a1, .string a2] w fun e w' => e = .returned (.bool true) ∧ Below w.heap.size w w' := by
  have HE := hid h
  clear h
  unfold maxLen at h0 h1 h2
  by_cases g0 : (600 : Int) < a0.size
  · go_enter Tryd.func7, Tryd.ntmps7
    go_wp2_with fail
    refine (alive_any HE.out).mono ?_
    rintro e w1 ⟨rfl, hb⟩
    have HB := hid hb
    clear hb
    go_wp2_with fail
    go_ret
    exact ⟨rfl, HB.out⟩
  by_cases g1 : (600 : Int) < a1.size
  · go_enter Tryd.func7, Tryd.ntmps7
    go_wp2_with fail
    refine (alive_any HE.out).mono ?_
    rintro e w1 ⟨rfl, hb⟩
    have HB := hid hb
    clear hb
    go_wp2_with fail
    go_ret
    exact ⟨rfl, HB.out⟩
  by_cases g2 : (600 : Int) < a2.size
  · go_enter Tryd.func7, Tryd.ntmps7
    go_wp2_with fail
    refine (alive_any HE.out).mono ?_
    rintro e w1 ⟨rfl, hb⟩
    have HB := hid hb
    clear hb
    go_wp2_with fail
    go_ret
    exact ⟨rfl, HB.out⟩
  have HX := hid (moved_any a0 a1 a2 w (by omega) (by omega) (by omega))
  have HLx : Hid ((movedP a0.data.toList a1.data.toList a2.data.toList).1.length ≤ 100000) := by
    unfold Hid movedP
    split
    · have e1 := Go.Lib.size_eq a2
      have e2 := Go.Lib.size_eq a0
      simp only [List.length_append, List.length_drop]
      omega
    · have e2 := Go.Lib.size_eq a0
      simp only
      omega
  have HBk := hid (back a0.data.toList a1.data.toList a2.data.toList)
  have HSt := hid (stay a0.data.toList a1.data.toList a2.data.toList)
  generalize hm : movedP a0.data.toList a1.data.toList a2.data.toList = m at HX HLx HBk HSt
  clear hm
  obtain ⟨x, is⟩ := m
  simp only at HX HLx HBk HSt
  cases is with
  | false =>
    obtain ⟨s1, s2, s3⟩ := HSt.out rfl
    subst s1
    have q1 : ((str a0.data.toList).toList == a0.toList) = true := by rw [str_of]; simp
    have q2 : (a0.toList == a1.toList) = false := by rw [beq_eq_false_iff_ne, Go.Lib.toList_data, Go.Lib.toList_data]; exact s2
    have HU := hid s3
    clear s2 s3 HBk HSt
    go_enter Tryd.func7, Tryd.ntmps7
    go_wp2_with fail
    refine HX.out.mono ?_
    rintro e w1 ⟨rfl, rfl⟩
    go_wp2_with fail
    refine (under_any a0 a1 w1 (by omega)).mono ?_
    rw [HU.out]
    rintro e w2 ⟨rfl, rfl⟩
    go_wp2_with fail
    refine (alive_any HE.out).mono ?_
    rintro e w3 ⟨rfl, hb⟩
    have HB := hid hb
    clear hb
    go_wp2_with fail
    go_ret
    exact ⟨rfl, HB.out⟩
  | true =>
    obtain ⟨b1, b2⟩ := HBk.out rfl
    clear HBk HSt
    have HY := hid (moved_any (str x) a2 a1 w (by rw [str_size]; exact HLx.out) (by omega) (by omega))
    rw [str_data, b1] at HY
    have q1 : ((str a0.data.toList).toList == a0.toList) = true := by rw [str_of]; simp
    clear b1
    by_cases hx : x = a2.data.toList
    · have q2 : ((str x).toList == a2.toList) = true := by rw [hx, str_of]; simp
      clear hx b2
      go_enter Tryd.func7, Tryd.ntmps7
      go_wp2_with fail
      refine HX.out.mono ?_
      rintro e w1 ⟨rfl, rfl⟩
      go_wp2_with fail
      refine HY.out.mono ?_
      rintro e w2 ⟨rfl, rfl⟩
      go_wp2_with fail
      refine (alive_any HE.out).mono ?_
      rintro e w3 ⟨rfl, hb⟩
      have HB := hid hb
      clear hb
      go_wp2_with fail
      go_ret
      exact ⟨rfl, HB.out⟩
    · have q2 : ((str x).toList == a2.toList) = false := by rw [beq_eq_false_iff_ne, Go.Lib.toList_data, Go.Lib.toList_data, str_data]; exact hx
      have HU := hid (b2.resolve_left hx)
      clear hx b2
      go_enter Tryd.func7, Tryd.ntmps7
      go_wp2_with fail
      refine HX.out.mono ?_
      rintro e w1 ⟨rfl, rfl⟩
      go_wp2_with fail
      refine HY.out.mono ?_
      rintro e w2 ⟨rfl, rfl⟩
      go_wp2_with fail
      refine (under_any (str x) a2 w2 (by omega)).mono ?_
      rw [str_data, HU.out]
      rintro e w4 ⟨rfl, rfl⟩
      go_wp2_with fail
      refine (alive_any HE.out).mono ?_
      rintro e w3 ⟨rfl, hb⟩
      have HB := hid hb
      clear hb
      go_wp2_with fail
      go_ret
      exact ⟨rfl, HB.out⟩

theorem witness (os : Os) {H : Type} (enc : TypeId × Value → H) :
    (OpenSpec.ofChange Rows.namesMovedSpec).preRow enc Tryd.prog Tryd.f7 Rows.namesMovedRow.domain false Rows.namesMovedRow.laid ((laidWorld os).forCall (fun _ _ => 0) ⟨#[], #[.string ⟨#[]⟩, .string ⟨#[]⟩, .string ⟨#[]⟩], []⟩).memory #[.string ⟨#[]⟩, .string ⟨#[]⟩, .string ⟨#[]⟩] := by
  have hw : (DataW.whole enc Tryd.prog ((laidWorld os).forCall (fun _ _ => 0) ⟨#[], #[.string ⟨#[]⟩, .string ⟨#[]⟩, .string ⟨#[]⟩], []⟩).memory Tryd.f7.params.toList Rows.namesMovedSpec.vars false (#[.string ⟨#[]⟩, .string ⟨#[]⟩, .string ⟨#[]⟩] : Array Value).toList 8).map (fun x => (x.1, x.2.1)) =
      some ([.lit (.string []), .lit (.string []), .lit (.string [])], []) := by kernel_rfl
  obtain ⟨⟨x1, x2, x3⟩, hx, hx1⟩ := Option.map_eq_some_iff.1 hw
  simp only [Prod.mk.injEq] at hx1
  obtain ⟨rfl, rfl⟩ := hx1
  exact OpenSpec.preRow_of_cond 8 hx (by kernel_rfl) (fun k hk => by cases hk) (by kernel_rfl) (laid_met os _)

set_option maxRecDepth 100000 in
set_option maxHeartbeats 2000000 in
theorem lifted (os : Os) (started : os.Started) (H : Type) (enc : TypeId × Value → H) (F : Stop.Interp) :
    ReturnsInHanded {} Tryd.checked os 7 .any ((OpenSpec.ofChange Rows.namesMovedSpec).preRow enc Tryd.prog Tryd.f7 Rows.namesMovedRow.domain false Rows.namesMovedRow.laid) (((OpenSpec.ofChange Rows.namesMovedSpec).at F).post enc Tryd.prog Tryd.f7 false true false false) := by
  refine returnsInHanded_of_row (C := Tryd.checked) (s := OpenSpec.ofChange Rows.namesMovedSpec) own started (by kernel_rfl) Tryd.func7
    (witness_row_atRef (enc := enc) (C := Tryd.checked) false (laidWorld os) #[.string ⟨#[]⟩, .string ⟨#[]⟩, .string ⟨#[]⟩] rfl (by kernel_rfl) (by kernel_rfl) (by kernel_rfl) (witness os enc)) ?_
  intro W base args ds gs before hval0 hW _ _ _ hL hsh _
  have hval : ∀ (j : Nat) t v, Tryd.f7.params[j]? = some t → args[j]? = some v → Value.okWide Tryd.prog W .any base t v := hval0
  have hW' := hW
  obtain ⟨p, q, hA0, hV, rfl, hfz, hnd⟩ := hW
  have hA : DataW.TrodAll enc Tryd.prog W 0 (fun _ => true) true Tryd.f7.params.toList args.toList ds p := hA0
  rw [Tryd.params7] at hA hval
  obtain ⟨v0, vs0, d0, ds0, p0, q0, hargs, rfl, rfl, h0, r0⟩ := trodAll_cons hA
  obtain ⟨v1, vs1, d1, ds1, p1, q1, rfl, rfl, rfl, h1, r1⟩ := trodAll_cons r0
  obtain ⟨v2, vs2, d2, ds2, p2, q2, rfl, rfl, rfl, h2, r2⟩ := trodAll_cons r1
  obtain ⟨rfl, rfl, rfl⟩ := trodAll_nil r2
  obtain rfl : args = #[v0, v1, v2] := by cases args; simp_all
  obtain ⟨rfl, rfl⟩ := trodVars_none hV
  obtain ⟨a0, rfl, rfl, rfl, w0⟩ := open_string Tryd.underlying9 (hval 0 9 v0 rfl rfl) h0
  obtain ⟨a1, rfl, rfl, rfl, w1⟩ := open_string Tryd.underlying9 (hval 1 9 v1 rfl rfl) h1
  obtain ⟨a2, rfl, rfl, rfl, w2⟩ := open_string Tryd.underlying9 (hval 2 9 v2 rfl rfl) h2
  clear hA0 hval0
  refine (walk a0 a1 a2 (env_of hL hsh) w0 w1 w2).mono ?_
  rintro e W' ⟨rfl, bel⟩
  exact ⟨_, rfl, _, _, _, [], _, [], hW', trodAll_mk1 (shut_bool Tryd.underlying4 _), (trodAll_cons_mk (shut_string Tryd.underlying9 w0) (trodAll_cons_mk (shut_string Tryd.underlying9 w1) (trodAll_cons_mk (shut_string Tryd.underlying9 w2) trodAll_mk0))), rfl, bel.frame _, fun h => by cases h⟩

theorem over : Rows.namesMovedRow.holds Tryd.pinned (OpenSpec.ofChange Rows.namesMovedSpec) :=
  OpenClaim.holds_of_cond 7 Tryd.f7 rfl rfl rfl rfl rfl rfl rfl ⟨rfl, rfl, rfl, rfl, rfl⟩ rfl rfl rfl rfl rfl (by kernel_rfl) Tryd.func7 (by kernel_rfl)
    (of_decide_eq_true (by kernel_rfl)) (by unfold Func.isWrapper; first | (rw [if_pos (by decide +kernel)]; kernel_rfl) | (rw [if_neg (by decide +kernel)]; exact ⟨rfl, rfl⟩))
    (fun os started H enc _ F => by rw [OpenClaim.pre_eq_preRow]; exact lifted os started H enc F)

/-- No parameter wants a stand-in. -/
theorem plain (f : FuncId) (fn : Func) (hf : Tryd.pinned.checked.prog.funcNamed Rows.namesMovedRow.func = some f) (hfn : Tryd.pinned.checked.prog.funcs[f]? = some fn) :
    false = Tryd.pinned.checked.prog.looks [] ∧ ∀ (j : Nat) t, fn.params[j]? = some t → Tryd.pinned.checked.prog.wantsStandIn t = false := by
  obtain rfl : f = 7 := Option.some.inj ((show Tryd.prog.funcNamed Rows.namesMovedRow.func = some 7 by kernel_rfl).symm.trans hf) |>.symm
  obtain rfl : fn = Tryd.f7 := (Option.some.inj (Tryd.func7.symm.trans hfn)).symm
  refine ⟨by kernel_rfl, fun j t ht => ?_⟩
  rw [Tryd.params7] at ht
  obtain rfl : t = 9 := by simpa using Array.mem_of_getElem? ht
  exact (show Tryd.prog.wantsStandIn 9 = false by kernel_rfl)
end Go.Proofs.YtkmggkcipgfhdaaDoor.namesMoved
namespace Go.Proofs.YtkmggkcipgfhdaaDoor
/-- THE STATEMENT. -/
theorem namesMoved_holds : Rows.NamesMovedCardSaid :=
  Claim7.holds_tied_plain_at .later [] _ _ _ _ namesMoved.over (fun _ h => by cases h) (by kernel_rfl) (fun _ h => by cases h) namesMoved_row_tie rfl ⟨rfl, rfl⟩ (by kernel_rfl) rfl namesMoved.plain (by kernel_rfl)
#print axioms namesMoved_holds
end Go.Proofs.YtkmggkcipgfhdaaDoor
