/- What this text holds: settle of the document's own pager. · What this text holds: Read and Put of the document's own pager. · What this text holds: Put of the document's own pager. -/
import Derived.Test.YtambgimfbdecpaaQ23
import Derived.Lib.ConvBytes
namespace Go.Proofs.Ytambgimfbdecpaa
open Go.RowKit
set_option linter.unusedVariables false

/-- Is a page held? -/
def heldP (pins : List Int) (f : Int) : Bool := pins.any fun p => decide (p < f)
theorem heldP_step (pins : List Int) (f : Int) (j : Nat) (hj : j < pins.length) : heldP (pins.take (j + 1)) f = (heldP (pins.take j) f || decide (pins.getD j 0 < f)) := by
  unfold heldP
  rw [← List.take_append_getElem hj, List.any_append]
  simp [List.getD, List.getElem?_eq_getElem hj]
def seF (fo pins : List Int) (i : Nat) (x : Int) : Int := if 2 ≤ i ∧ x = 4 ∧ heldP pins (fo.getD i 0) = false then 0 else x
def RS.settle (R : RS) : RS := { R with is := R.is.mapIdx (seF R.fo R.pins) }
theorem mapI_two (f : Nat → Int → Int) (l : List Int) (h : ∀ i x, i < 2 → f i x = x) : mapI f l 2 = l := by
  apply List.ext_getElem (by simp [mapI])
  intro i h1 h2
  simp only [mapI, List.getElem_mapIdx]
  split
  · exact h _ _ (by assumption)
  · rfl

section
variable {w w' : World} {B b c gi gf : Nat} {pv : Value} {own : List Nat} {R : RS}
theorem RAt.pvSlice (h : RAt w B b c gi gf pv own R) : ∃ a cp, pv = .slice a R.pins.length cp ∧ R.pins.length ≤ maxLen := by
  rcases h.pins.2 with ⟨h1, h2⟩ | ⟨g, cap, cur, h1, h2, h3, h4, h5, _⟩
  · exact ⟨none, 0, by rw [h1, h2], by rw [h2]; exact Nat.zero_le _⟩
  · exact ⟨_, _, h1, Nat.le_trans h4 h5⟩
theorem RAt.pinAt (h : RAt w B b c gi gf pv own R) (j : Nat) (hj : j < R.pins.length) : ∃ gp cp, pv = .slice (some ⟨gp, 0, none⟩) R.pins.length cp ∧ w.cell? ⟨gp, j, none⟩ = some (.int .i64 (R.pins.getD j 0)) := by
  have hp := h.pins
  obtain ⟨gp, cp, e, _⟩ := ownsRow_some hp (by omega)
  subst e
  exact ⟨gp, cp, rfl, by rw [hp.cellAt _ (by omega), ints_at _ _ hj]⟩

set_option maxRecDepth 100000 in
set_option maxHeartbeats 4000000 in
theorem rsettle_at (h : RAt w B b c gi gf pv own R) : Calls Try.prog 85 #[.pointer (some ⟨b, 0, none⟩)] w fun e w' => e = .returned (.tuple #[]) ∧ RAt w' B b c gi gf pv own R.settle ∧ Kept [gi] w w' := by
  have hm := h.max
  have hn := h.n
  obtain ⟨pa, pc, hpv, hpl⟩ := h.pvSlice
  subst hpv
  have HH := hid h
  have HL := hid h.li
  unfold maxLen at hpl
  clear h
  go_enter Try.func85, Try.ntmps85
  go_wp2
  go_loopw [2] (fun q wr => ∃ k : Nat, 2 ≤ k ∧ k ≤ R.D.n ∧ q = .int .i64 k ∧ RAt wr B b c gi gf (.slice pa R.pins.length pc) own { R with is := mapI (seF R.fo R.pins) R.is k } ∧ Kept [gi] w wr) (fun q _ => R.D.n - (intOf q).toNat)
  case atStart => exact ⟨2, Nat.le_refl _, by omega, rfl, by rw [mapI_two _ _ (fun i x hi => by simp [seF]; omega)]; exact HH.out, Kept.refl _ _⟩
  case round =>
    obtain ⟨k, hk2, hkn, rfl, hr, hkp⟩ := hrel
    obtain ⟨c0, c1, c2, c3, c4, c5, c6⟩ := hr.cells
    by_cases hlt : k < R.D.n
    · have hlt' : (k : Int) < R.D.n := by omega
      have hl : k < R.is.length := by rw [HL.out]; exact hlt
      have HR := hid hr
      have HKP := hid hkp
      obtain ⟨f, hf⟩ : ∃ f, f = R.fo.getD k 0 := ⟨_, rfl⟩
      have HF := hid hf
      clear hr hkp hf
      obtain ⟨wo, rfl⟩ : ∃ wo : World, wo = wr := ⟨_, rfl⟩
      go_wp2
      go_loopw [4, 3] (fun q hv wi => ∃ j : Nat, j ≤ R.pins.length ∧ q = .int .i64 j ∧ hv = .bool (heldP (R.pins.take j) f) ∧ Kept [] wo wi) (fun q _ _ => R.pins.length - (intOf q).toNat)
      case atStart => exact ⟨0, Nat.zero_le _, rfl, rfl, Kept.refl _ _⟩
      case round =>
        obtain ⟨j, hjn, rfl, rfl, hkj⟩ := hrel
        have hr2 := HR.out.keep hkj (by simp)
        obtain ⟨d0, d1, d2, d3, d4, d5, d6⟩ := hr2.cells
        by_cases hjl : j < R.pins.length
        · have hjl' : (j : Int) < R.pins.length := by omega
          obtain ⟨gp, cp, e, hp⟩ := hr2.pinAt j hjl
          simp only [Value.slice.injEq, true_and] at e
          obtain ⟨rfl, rfl⟩ := e
          have hfo := hr2.foAt k hlt
          have hst := heldP_step R.pins f j hjl
          simp only at hp hfo
          rw [← HF.out] at hfo
          obtain ⟨p, hpe⟩ : ∃ p, p = R.pins.getD j 0 := ⟨_, rfl⟩
          rw [← hpe] at hp hst
          have HST := hid hst
          have HR2 := hid hr2
          have HKJ := hid hkj
          clear hst hr2 hkj hpe
          cases hh : heldP (R.pins.take j) f with
          | true =>
            rw [hh] at HST
            clear hh
            go_wp2
            go_quiet (fail)
            go_wp2
            go_roundw
            case rel => exact ⟨j + 1, by omega, by go_num, by rw [HST.out]; rfl, HKJ.out.trans (Kept.drewN [] _ _) (fun _ _ h => h)⟩
            case measure => simp [intOf]; omega
          | false =>
            rw [hh] at HST
            clear hh
            go_wp2
            go_quiet (fail)
            go_wp2
            go_roundw
            case rel => exact ⟨j + 1, by omega, by go_num, by rw [HST.out]; rfl, HKJ.out.trans (Kept.drewN [] _ _) (fun _ _ h => h)⟩
            case measure => simp [intOf]; omega
        · have hjl' : ¬ (j : Int) < R.pins.length := by omega
          rw [List.take_of_length_le (by omega)]
          have hs := hr2.isAt k hlt
          simp only at hs
          rw [mapI_get] at hs
          have hfz := hr2.freeI k
          obtain ⟨x, hx⟩ : ∃ x, x = R.is.getD k 0 := ⟨_, rfl⟩
          rw [← hx] at hs
          have HX := hid hx
          have HR2 := hid hr2
          have HKJ := hid ((HKP.out.trans (hkj.mono (T := [gi]) (by simp)) (fun _ _ h => h)))
          clear hr2 hkj hx
          by_cases h4 : x = 4
          · subst h4
            cases hh : heldP R.pins f with
            | true =>
              have HE : Hid (mapI (seF R.fo R.pins) R.is (k + 1) = mapI (seF R.fo R.pins) R.is k) := mapI_same _ _ _ hl (by rw [← HX.out]; unfold seF; rw [← HF.out, hh]; simp)
              clear hh
              go_wp2
              go_roundw
              case rel => exact ⟨k + 1, by omega, by omega, by go_num, by rw [HE.out]; exact HR2.out, HKJ.out⟩
              case measure => simp [intOf]; omega
            | false =>
              have HE : Hid (mapI (seF R.fo R.pins) R.is (k + 1) = (mapI (seF R.fo R.pins) R.is k).set k 0) := by
                have e : seF R.fo R.pins k 4 = 0 := by unfold seF; rw [← HF.out, hh, if_pos ⟨hk2, rfl, rfl⟩]
                rw [mapI_succ _ _ _ hl, ← HX.out, e]; rfl
              clear hh
              go_wp2
              go_roundw
              case rel => exact ⟨k + 1, by omega, by omega, by go_num, by rw [HE.out]; exact HR2.out.setIs k 0, HKJ.out.trans (Kept.setCell [gi] _ _ _ (by simp)) (fun _ _ h => h)⟩
              case measure => simp [intOf]; omega
          · have h4' : (x == 4) = false := by rw [beq_eq_false_iff_ne]; exact h4
            have HE : Hid (mapI (seF R.fo R.pins) R.is (k + 1) = mapI (seF R.fo R.pins) R.is k) := mapI_same _ _ _ hl (by rw [← HX.out]; unfold seF; rw [if_neg (fun h => h4 h.2.1)])
            clear h4
            go_wp2
            go_roundw
            case rel => exact ⟨k + 1, by omega, by omega, by go_num, by rw [HE.out]; exact HR2.out, HKJ.out⟩
            case measure => simp [intOf]; omega
    · have hlt' : ¬ (k : Int) < R.D.n := by omega
      have HR := hid hr
      clear hr
      go_wp2
      go_end0
      refine ⟨rfl, ?_, hkp⟩
      have := HR.out
      rw [mapI_all _ _ _ (by rw [HL.out]; omega)] at this
      exact this
end
end Go.Proofs.Ytambgimfbdecpaa
namespace Go.Proofs.Ytambgimfbdecpaa
open Go.RowKit
set_option linter.unusedVariables false

/-- Read. -/
def RS.read (R : RS) (n : Int) : RdV × RS :=
  if R.dead = true then (⟨0, ⟨#[]⟩, 9⟩, R) else if ¬ (2 ≤ n ∧ n < R.D.n) then (⟨0, ⟨#[]⟩, 3⟩, R) else if R.is.getD n.toNat 0 = 0 then (⟨0, ⟨#[]⟩, 3⟩, R)
  else if R.D.gone = true then (⟨0, ⟨#[]⟩, 9⟩, { R with dead := true })
  else if isPage (R.D.read n.toNat) then (⟨kindOf (R.D.read n.toNat), strOf (conOf (R.D.read n.toNat)), 0⟩, R) else (⟨0, ⟨#[]⟩, 10⟩, R)

section
variable {w w' : World} {B b c gi gf : Nat} {pv : Value} {own : List Nat} {R : RS}

set_option maxRecDepth 100000 in
set_option maxHeartbeats 2000000 in
theorem rread_at (h : RAt w B b c gi gf pv own R) (n : Int) : Calls Try.prog 52 #[.pointer (some ⟨b, 0, none⟩), .int .i64 n] w (DidR w B b c (rall b gi gf pv own) (R.read n).1.val (R.read n).2) := by
  obtain ⟨c0, c1, c2, c3, c4, c5, c6⟩ := h.cells
  have HU := hid (rpage_any h n)
  have HH := hid h
  have hm := h.max
  unfold RS.read
  by_cases hd : R.dead = true
  · rw [if_pos hd]
    rw [hd] at c6
    clear h hd
    go_enter Try.func52, Try.ntmps52
    go_wp2
    go_ret3
    exact DidR.same HH.out
  · rw [if_neg hd]
    have hd' : R.dead = false := by simpa using hd
    rw [hd'] at c6
    by_cases hu : 2 ≤ n ∧ n < R.D.n
    · rw [if_neg (by simpa using hu)]
      rw [decide_eq_true hu] at HU
      obtain ⟨k, rfl⟩ : ∃ k : Nat, n = k := ⟨n.toNat, by omega⟩
      have hkn : k < R.D.n := by omega
      have hkn' : (k : Int) < R.D.n := by omega
      have ds := h.isAt k hkn
      rw [Int.toNat_natCast]
      have HRD := hid (rread_all h.disk k)
      have HAns : Hid (R.D.ans k = if R.D.gone then ([], 9) else (R.D.read k, 0)) := by
        simp only [DS.ans, Int.toNat_natCast]; rw [if_pos ⟨by omega, hkn'⟩]; rfl
      have hl := h.disk.good.read k hkn
      have hby := h.byt.read k
      clear h hd hd' hu
      obtain ⟨x, hx⟩ : ∃ x, x = R.is.getD k 0 := ⟨_, rfl⟩
      rw [← hx] at ds ⊢
      clear hx
      by_cases h0 : x = 0
      · rw [if_pos h0]
        subst h0
        go_enter Try.func52, Try.ntmps52
        go_wp2_with (go_at_call 83; refine HU.out.mono ?_; rintro e w ⟨rfl, rfl⟩)
        go_ret3
        exact DidR.same HH.out
      · rw [if_neg h0]
        have h0' : (x == 0) = false := by rw [beq_eq_false_iff_ne]; exact h0
        clear h0
        cases hg : R.D.gone with
        | true =>
          rw [if_pos rfl]
          have e : R.D.ans k = ([], 9) := by rw [HAns.out, hg]; rfl
          rw [e] at HRD
          have HT := hid (rtold_yes HH.out)
          clear hg e HAns
          go_enter Try.func52, Try.ntmps52
          go_wp2_with (first | (go_at_call 83; refine HU.out.mono ?_; rintro e w ⟨rfl, rfl⟩) | (go_at_call 78; refine HRD.out.mono ?_; rintro e w ⟨rfl, rfl⟩) | (go_at_call 82; refine HT.out.mono ?_; rintro e w ⟨rfl, rfl⟩))
          go_ret3
          exact DidR.at HH.out.setDead ((Kept.setCell [b] w _ _ (by simp)).mono (fun i _ hi => by simp only [List.mem_singleton] at hi; simp [hi, rall]))
        | false =>
          rw [if_neg (by simp)]
          have e : R.D.ans k = (R.D.read k, 0) := by rw [HAns.out, hg]; rfl
          rw [e] at HRD
          have HO := hid (rdoc_any (strOf (R.D.read k)) (R.D.read k) (bOf_strOf _ hby) w hl)
          generalize R.D.read k = X at HRD HO ⊢
          clear hg e HAns hl hby
          unfold openV at HO
          by_cases hp : isPage X
          · rw [if_pos hp] at HO ⊢
            clear hp
            go_enter Try.func52, Try.ntmps52
            go_wp2_with (first | (go_at_call 83; refine HU.out.mono ?_; rintro e w ⟨rfl, rfl⟩) | (go_at_call 78; refine HRD.out.mono ?_; rintro e w ⟨rfl, rfl⟩))
            refine HO.out.mono ?_
            rintro e w1 ⟨rfl, hb1⟩
            have HB := hid hb1
            clear hb1
            go_wp2_with fail
            go_ret3
            exact DidR.at (HH.out.later HB.out) (Kept.ofBelow HB.out _)
          · rw [if_neg hp] at HO ⊢
            clear hp
            go_enter Try.func52, Try.ntmps52
            go_wp2_with (first | (go_at_call 83; refine HU.out.mono ?_; rintro e w ⟨rfl, rfl⟩) | (go_at_call 78; refine HRD.out.mono ?_; rintro e w ⟨rfl, rfl⟩))
            refine HO.out.mono ?_
            rintro e w1 ⟨rfl, hb1⟩
            have HB := hid hb1
            clear hb1
            go_wp2_with fail
            go_ret3
            exact DidR.at (HH.out.later HB.out) (Kept.ofBelow HB.out _)
    · rw [if_pos hu]
      rw [decide_eq_false hu] at HU
      clear h hd hd' hu
      go_enter Try.func52, Try.ntmps52
      go_wp2_with (go_at_call 83; refine HU.out.mono ?_; rintro e w ⟨rfl, rfl⟩)
      go_ret3
      exact DidR.same HH.out
end
end Go.Proofs.Ytambgimfbdecpaa
namespace Go.Proofs.Ytambgimfbdecpaa
open Go.RowKit
set_option linter.unusedVariables false

def RS.hear (R : RS) (r : Int) : RS := if r = 9 then { R with dead := true } else R
/-- The lowest free page. -/
def rlow (is : List Int) : Nat := lowFree (is.map fun x => (x, 0))
theorem stOf_pair (is : List Int) (k : Nat) : stOf (is.map fun x => (x, 0)) k = is.getD k 0 := by
  simp only [stOf, List.getD, List.getElem?_map]
  cases is[k]? <;> rfl
def RS.putTo (R : RS) (X : List Int) : (Int × Int) × RS :=
  if rlow R.is = 0 then ((0, 6), R)
  else if (R.D.write (rlow R.is) X).1 = 0 then ((rlow R.is, 0), { R with D := (R.D.write (rlow R.is) X).2, is := R.is.set (rlow R.is) 2 })
  else ((0, (R.D.write (rlow R.is) X).1), RS.hear { R with D := (R.D.write (rlow R.is) X).2 } (R.D.write (rlow R.is) X).1)
def RS.put (R : RS) (kind : Int) (s : ByteArray) : (Int × Int) × RS :=
  if R.dead = true then ((0, 9), R) else if sealE kind (R.gen + 1) s.size ≠ 0 then ((0, sealE kind (R.gen + 1) s.size), R) else R.putTo (sealL kind (R.gen + 1) (bOf s))

/-- A string as bytes. -/
theorem conv_made (w : World) (l : List Int) (hb : Byt l) : ∃ cap w', (convert 9 46 (.string (strOf l))).run Try.prog w = .ok (.slice (some ⟨w.heap.size, 0, none⟩) l.length cap) w' ∧ SrcAt ⟨w.heap.size, 0, none⟩ l w' ∧ Below w.heap.size w w' ∧ w'.heap.size = w.heap.size + 1 := by
  have hS := bOf_strOf l hb
  have hsz : (strOf l).size = l.length := by rw [← bOf_length, hS]
  refine ⟨grownCap w (strOf l).size 0 5, Lib.bytesWorld w 5 (strOf l), ?_, ?_, ?_, Lib.bytesWorld_size w 5 (strOf l)⟩
  · rw [← hsz]; exact Lib.run_convert_string_bytes w 9 46 5 (strOf l) Try.underlying9 Try.underlying46 Try.underlying5
  · intro j v hv
    rw [Addr.add_mid, Nat.zero_add]
    have hj : j < l.length := by
      have := (List.getElem?_eq_some_iff.1 hv).1
      simpa [bc] using this
    rw [Lib.bytesWorld_cell w 5 (strOf l) j (by omega)]
    have e := bOf_at (strOf l) j (by omega)
    rw [hS] at e
    simp only [bc, List.getElem?_map, e, Option.map_some] at hv
    rw [← hv]
    have hj2 : j < (strOf l).data.toList.length := by rw [Array.length_toList]; show j < (strOf l).size; omega
    simp [List.getD, List.getElem?_eq_getElem hj2]
  · exact ⟨rfl, rfl, rfl, by rw [Lib.bytesWorld_size]; omega, fun k hk => Lib.bytesWorld_at_old w 5 (strOf l) k hk⟩

section
variable {w w0 w' : World} {B b c gi gf : Nat} {pv : Value} {own : List Nat} {R : RS}

theorem DidR.d {w w1 w' w2 : World} {own' : List Nat} {R' : RS} {v : Value} (hb : Below w.heap.size w w1) (hk : Kept own w1 w') (hn : ∀ k ∈ own', k ∈ own ∨ w1.heap.size ≤ k) (hk2 : Kept [b, gi, gf] w' w2) (h : RAt w2 B b c gi gf pv own' R') :
    DidR w B b c (rall b gi gf pv own) v R' (.returned v) w2 := by
  refine ⟨rfl, _, ⟨gi, gf, pv, own', h, rfl⟩, ((Kept.ofBelow hb _).trans hk (fun i _ hi => by simp [rall, hi])).trans hk2 (fun i _ hi => by simp only [List.mem_cons, List.not_mem_nil, or_false] at hi; simp only [rall, List.mem_cons]; rcases hi with h | h | h <;> simp [h]), ?_⟩
  intro k hk'
  simp only [rall, List.mem_cons, List.mem_append] at hk' ⊢
  rcases hk' with h | h | h | h | h
  · simp [h]
  · simp [h]
  · simp [h]
  · exact .inl (.inr (.inr (.inr (.inl h))))
  · rcases hn k h with h | h
    · simp [h]
    · right; have := hb.size; omega

set_option maxRecDepth 100000 in
set_option maxHeartbeats 2000000 in
theorem rput_at (h : RAt w0 B b c gi gf pv own R) (hs : R.D.steps < 1000) (hw : R.D.waits.length < 200) (kind : Int) (s : ByteArray) (hm : s.size ≤ maxLen) :
    Calls Try.prog 51 #[.pointer (some ⟨b, 0, none⟩), .int .i64 kind, .string s] w0 (DidR w0 B b c (rall b gi gf pv own) (.tuple #[.int .i64 (R.put kind s).1.1, .int .i64 (R.put kind s).1.2]) (R.put kind s).2) := by
  obtain ⟨c0, c1, c2, c3, c4, c5, c6⟩ := h.cells
  have HH := hid h
  have hg0 := h.g0
  have hg1 := h.g1
  have hmx := h.max
  have HM := hid hm
  have HHS := hid hs
  have HHW := hid hw
  clear hm hs hw
  unfold RS.put
  by_cases hd : R.dead = true
  · rw [if_pos hd]
    rw [hd] at c6
    clear h
    go_enter Try.func51, Try.ntmps51
    go_wp2
    go_ret2
    exact DidR.same HH.out
  · rw [if_neg hd]
    have hd' : R.dead = false := by simpa using hd
    rw [hd'] at c6
    have HSA := hid (fun w => rseal_all kind (R.gen + 1) s w HM.out)
    by_cases he : sealE kind (R.gen + 1) s.size ≠ 0
    · rw [if_pos he]
      have he' : (sealE kind (R.gen + 1) s.size != 0) = true := by rw [bne_iff_ne]; exact he
      clear h he hd hd'
      generalize sealE kind (R.gen + 1) s.size = E1 at he' HSA ⊢
      go_enter Try.func51, Try.ntmps51
      go_wp2_with fail
      refine (HSA.out _).mono ?_
      rintro e w1 ⟨rfl, hb1⟩
      have HB := hid hb1
      clear hb1
      go_wp2_with fail
      go_ret2
      exact DidR.at (HH.out.later HB.out) (Kept.ofBelow HB.out _)
    · rw [if_neg he]
      have he0 : sealE kind (R.gen + 1) s.size = 0 := by simpa using he
      obtain ⟨hp1, hp2⟩ := sealE_zero he0
      have hln := sealL_length kind (R.gen + 1) (bOf s) (by rw [bOf_length]; exact hp2)
      have hby := byt_seal kind (R.gen + 1) (bOf s) (bOf_range s)
      have hss : sealS kind (R.gen + 1) (bOf s) = sealL kind (R.gen + 1) (bOf s) := by unfold sealS; rw [bOf_length, he0, if_pos rfl]
      rw [hss, he0] at HSA
      generalize sealL kind (R.gen + 1) (bOf s) = X at HSA hln hby ⊢
      have HLn := hid hln
      have HBy := hid hby
      clear h he he0 hp1 hp2 hln hby hss hd hd'
      go_enter Try.func51, Try.ntmps51
      go_wp2_with fail
      refine (HSA.out _).mono ?_
      rintro e w1 ⟨rfl, hb1⟩
      have HB := hid hb1
      clear hb1
      have H1 := hid (HH.out.later HB.out)
      obtain ⟨d0, d1, d2, d3, d4, d5, d6⟩ := H1.out.cells
      have hn4 := H1.out.n
      go_wp2_with fail
      go_loop [10] (fun q => ∃ k : Nat, 2 ≤ k ∧ k ≤ R.D.n ∧ q = .int .i64 k ∧ Hid (∀ j, 2 ≤ j → j < k → R.is.getD j 0 ≠ 0)) (fun q => R.D.n - (intOf q).toNat)
      case atStart => exact ⟨2, Nat.le_refl _, by omega, rfl, fun j h1 h2 => by omega⟩
      case round =>
        obtain ⟨k, hk2, hkn, rfl, hrest⟩ := hrel
        by_cases hlt : k < R.D.n
        · have hlt' : (k : Int) < R.D.n := by omega
          have hs := H1.out.isAt k hlt
          obtain ⟨x, hx⟩ : ∃ x, x = R.is.getD k 0 := ⟨_, rfl⟩
          rw [← hx] at hs
          have HX := hid hx
          clear hx
          by_cases h0 : x = 0
          · subst h0
            have HLow : Hid (rlow R.is = k) := lowFree_yes (by rw [List.length_map, H1.out.li]; exact hlt) hk2 (by rw [stOf_pair]; exact HX.out.symm) (fun j h1 h2 => by rw [stOf_pair]; exact hrest.out j h1 h2)
            obtain ⟨cap, w2, hrun, hsrc, hb2, hsz⟩ := conv_made w1 X HBy.out
            rw [HLn.out] at hrun
            have H2 := hid (H1.out.later hb2)
            obtain ⟨f0, f1, f2, f3, f4, f5, f6⟩ := H2.out.cells
            have hwg := (write_grow R.D k X).1
            have hwb := H1.out.byt.write k X HBy.out
            have hwe := write_err R.D k X HLn.out ⟨by omega, by omega⟩
            have HWA := hid (rwrite_all H2.out.disk HHS.out HHW.out k ⟨w1.heap.size, 0, none⟩ 512 cap X (by unfold maxLen; omega) HLn.out hsrc (fun hm => by have := (H1.out.disk.lt _ hm).2; simp only at this; omega))
            have hZX : R.putTo X = R.putTo X := rfl
            conv at hZX => rhs; rw [RS.putTo, HLow.out, if_neg (by omega)]
            generalize R.D.write k X = RR at hwg hwb hwe HWA hZX
            obtain ⟨r, D'⟩ := RR
            simp only at hwg hwb hwe HWA hZX
            have HZX := hid hZX
            clear hZX
            have HB2 := hid (HB.out.trans (hb2.mono HB.out.size))
            have HWb := hid hwb
            clear hsrc hb2 hwb
            go_wp2_with fail
            refine HWA.out.mono ?_
            rintro e w3 ⟨rfl, own3, hd3, hk3, hn3⟩
            have H3 := hid (H2.out.setDisk hd3 hk3 hn3 hwg HWb.out)
            have HK3 := hid hk3
            have HN3 := hid hn3
            obtain ⟨e0, e1, e2, e3, e4, e5, e6⟩ := H3.out.cells
            have hfz := H3.out.freeI k
            simp only at e3
            rw [hwg] at e3
            have hi3 := H3.out.isAt k (by simp only; rw [hwg]; exact hlt)
            clear hd3 hk3 hn3 hwg hrun
            rcases hwe with rfl | rfl
            · have HT := hid (rtold_no b w3 0 (by decide))
              have HE : Hid (R.putTo X = (((k : Int), 0), { R with D := D', is := R.is.set k 2 })) := by rw [HZX.out, if_pos rfl]; rfl
              clear HZX
              go_wp2_with (go_at_call 82; refine HT.out.mono ?_; rintro e w ⟨rfl, rfl⟩)
              go_ret2
              rw [HE.out]
              exact DidR.d HB2.out HK3.out HN3.out ((Kept.setCell [gi] _ _ _ (by simp)).mono (fun i _ hi => by simp only [List.mem_singleton] at hi; simp [hi])) (H3.out.setIs k 2)
            · have HT := hid (rtold_yes H3.out)
              have HE : Hid (R.putTo X = ((0, 9), { R with D := D', dead := true })) := by rw [HZX.out, if_neg (by decide)]; rfl
              clear HZX
              go_wp2_with (go_at_call 82; refine HT.out.mono ?_; rintro e w ⟨rfl, rfl⟩)
              go_ret2
              rw [HE.out]
              exact DidR.d HB2.out HK3.out HN3.out ((Kept.setCell [b] _ _ _ (by simp)).mono (fun i _ hi => by simp only [List.mem_singleton] at hi; simp [hi])) H3.out.setDead
          · have h0' : (x == 0) = false := by rw [beq_eq_false_iff_ne]; exact h0
            have HZ := hid (HX.out ▸ h0)
            clear h0
            go_wp2_with fail
            go_round
            case rel =>
              refine ⟨k + 1, by omega, by omega, by go_num, fun j h1 h2 => ?_⟩
              by_cases e : j = k
              · subst e; exact HZ.out
              · exact hrest.out j h1 (by omega)
            case measure => simp [intOf]; omega
        · have hlt' : ¬ (k : Int) < R.D.n := by omega
          have HLow : Hid (rlow R.is = 0) := lowFree_no (fun j h1 h2 => by rw [stOf_pair]; rw [List.length_map, H1.out.li] at h2; exact hrest.out j h1 (by omega))
          have HZX : Hid (R.putTo X = ((0, 6), R)) := by show R.putTo X = _; rw [RS.putTo, HLow.out, if_pos rfl]
          go_wp2_with fail
          go_ret2
          rw [HZX.out]
          exact DidR.at H1.out (Kept.ofBelow HB.out _)
end
end Go.Proofs.Ytambgimfbdecpaa
