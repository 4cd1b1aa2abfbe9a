/- What this text holds: Use of the document's own pager. · What this text holds: Pin and Unpin of a pager. -/
import Derived.Test.YtambgimfbdecpaaQ26
import Derived.Test.YtambgimfbdecpaaQ13
namespace Go.Proofs.Ytambgimfbdecpaa
open Go.RowKit
set_option linter.unusedVariables false

/-- What is wrong with a page of a list. -/
def RS.useAt (R : RS) (l : List Int) (i : Nat) : Option Int :=
  if ¬ (2 ≤ l.getD i 0 ∧ l.getD i 0 < R.D.n) then some 3
  else if R.is.getD (l.getD i 0).toNat 0 ≠ 0 then some 8
  else if (l.take i).any (fun x => x == l.getD i 0) = true then some 8 else none
def RS.useE (R : RS) (l : List Int) : Int := ((List.range l.length).findSome? (R.useAt l)).getD 0
def usedL (is l : List Int) : List Int := l.foldl (fun is x => is.set x.toNat 1) is
def RS.use (R : RS) (l : List Int) : Int × RS := if R.dead = true then (9, R) else if R.useE l ≠ 0 then (R.useE l, R) else (0, { R with is := usedL R.is l })

theorem range_split (n k : Nat) (hk : k < n) : ∃ t, List.range n = List.range k ++ k :: t := by
  refine ⟨(List.range (n - k - 1)).map (fun x => k + (x + 1)), ?_⟩
  have e : n = k + (n - k - 1 + 1) := by omega
  conv => lhs; rw [e]
  rw [List.range_add, List.range_succ_eq_map]
  simp
theorem useE_some {R : RS} {l : List Int} {k : Nat} {e : Int} (hk : k < l.length) (h : ∀ j, j < k → R.useAt l j = none) (he : R.useAt l k = some e) : R.useE l = e := by
  obtain ⟨t, ht⟩ := range_split _ _ hk
  unfold RS.useE
  rw [ht, List.findSome?_append, List.findSome?_eq_none_iff.2 (fun j hj => h j (by simpa using hj))]
  simp [he]
theorem useE_none {R : RS} {l : List Int} (h : ∀ j, j < l.length → R.useAt l j = none) : R.useE l = 0 := by
  unfold RS.useE
  rw [List.findSome?_eq_none_iff.2 (fun j hj => h j (by simpa using hj))]; rfl
theorem any_step (l : List Int) (i j : Nat) (x : Int) (hj : j < l.length) : (l.take (j + 1)).any (fun y => y == x) = ((l.take j).any (fun y => y == x) || (l.getD j 0 == x)) := by
  rw [← List.take_append_getElem hj, List.any_append]
  simp [List.getD, List.getElem?_eq_getElem hj]
theorem usedL_step (is l : List Int) (k : Nat) (hk : k < l.length) : usedL is (l.take (k + 1)) = (usedL is (l.take k)).set (l.getD k 0).toNat 1 := by
  unfold usedL
  rw [← List.take_append_getElem hk, List.foldl_append]
  simp [List.getD, List.getElem?_eq_getElem hk]

section
variable {w w0 w' : World} {B b c gi gf : Nat} {pv : Value} {own : List Nat} {R : RS}

set_option maxRecDepth 100000 in
set_option maxHeartbeats 4000000 in
theorem ruse_at (h : RAt w B b c gi gf pv own R) (l : List Int) (g cp : Nat) (hl : l.length ≤ 100) (hc : ∀ j, j < l.length → w.cell? ⟨g, j, none⟩ = some (.int .i64 (l.getD j 0))) (hgi : g ≠ gi) :
    Calls Try.prog 58 #[.pointer (some ⟨b, 0, none⟩), .slice (some ⟨g, 0, none⟩) l.length cp] w (DidR w B b c (rall b gi gf pv own) (.int .i64 (R.use l).1) (R.use l).2) := by
  obtain ⟨c0, c1, c2, c3, c4, c5, c6⟩ := h.cells
  have HH := hid h
  have hm := h.max
  have HC := hid hc
  have HGI := hid hgi
  by_cases hd : R.dead = true
  · have HE : Hid (R.use l = (9, R)) := by show R.use l = _; unfold RS.use; rw [if_pos hd]
    rw [hd] at c6
    clear h hd hc
    go_enter Try.func58, Try.ntmps58
    go_wp2
    go_ret
    rw [HE.out]
    exact DidR.same HH.out
  · have hd' : R.dead = false := by simpa using hd
    rw [hd'] at c6
    have HE : Hid (R.use l = if R.useE l ≠ 0 then (R.useE l, R) else (0, { R with is := usedL R.is l })) := by show R.use l = _; unfold RS.use; rw [if_neg hd]
    clear h hd hd' hc hgi
    go_enter Try.func58, Try.ntmps58
    go_wp2
    go_loopw [5] (fun q wr => ∃ k : Nat, k ≤ l.length ∧ q = .int .i64 k ∧ Hid (∀ j, j < k → R.useAt l j = none) ∧ Kept [] w wr) (fun q _ => l.length - (intOf q).toNat)
    case atStart => exact ⟨0, Nat.zero_le _, rfl, fun j hj => by omega, Kept.refl _ _⟩
    case round =>
      obtain ⟨k, hkn, rfl, HF, hkp⟩ := hrel
      have hr := HH.out.keep hkp (by simp)
      obtain ⟨d0, d1, d2, d3, d4, d5, d6⟩ := hr.cells
      by_cases hlt : k < l.length
      · have hlt' : (k : Int) < l.length := by omega
        have hx := hkp.cell (HC.out k hlt) (by simp)
        obtain ⟨x, hxe⟩ : ∃ x, x = l.getD k 0 := ⟨_, rfl⟩
        rw [← hxe] at hx
        have HU := hid (rpage_any hr x)
        have HXE := hid hxe
        have HR := hid hr
        have HKP := hid hkp
        clear hr hkp hxe
        by_cases hp : 2 ≤ x ∧ x < R.D.n
        · rw [decide_eq_true hp] at HU
          obtain ⟨n, rfl⟩ : ∃ n : Nat, x = n := ⟨x.toNat, by omega⟩
          have hn : n < R.D.n := by omega
          have hn' : (n : Int) < R.D.n := by omega
          have hs := HR.out.isAt n hn
          obtain ⟨s, hse⟩ : ∃ s, s = R.is.getD n 0 := ⟨_, rfl⟩
          rw [← hse] at hs
          have HSE := hid hse
          have HP2 := hid hp
          clear hse hp
          obtain ⟨wo, rfl⟩ : ∃ wo : World, wo = wr := ⟨_, rfl⟩
          go_wp2_with (go_at_call 83; refine HU.out.mono ?_; rintro e wo ⟨rfl, rfl⟩)
          go_quiet (fail)
          go_wp2
          go_loopw [7, 6] (fun q tv wi => ∃ j : Nat, j ≤ k ∧ q = .int .i64 j ∧ tv = .bool ((s != 0) || (l.take j).any (fun y => y == (n : Int))) ∧ Kept [] wo wi) (fun q _ _ => k - (intOf q).toNat)
          case atStart => exact ⟨0, Nat.zero_le _, rfl, by simp, Kept.drewN [] _ _⟩
          case round =>
            obtain ⟨j, hjn, rfl, rfl, hkj⟩ := hrel
            have hr2 := HR.out.keep hkj (by simp)
            obtain ⟨t0, t1, t2, t3, t4, t5, t6⟩ := hr2.cells
            by_cases hjl : j < k
            · have hjl' : (j : Int) < k := by omega
              have hyc := hkj.cell (HKP.out.cell (HC.out j (by omega)) (by simp)) (by simp)
              have hxc := hkj.cell hx (by simp)
              obtain ⟨y, hye⟩ : ∃ y, y = l.getD j 0 := ⟨_, rfl⟩
              rw [← hye] at hyc
              have HST := hid (any_step l k j (n : Int) (by omega))
              rw [← hye] at HST
              have hjL : (j : Int) < l.length := by omega
              have HKJ := hid hkj
              clear hr2 hkj hye
              obtain ⟨T, hT⟩ : ∃ T, T = ((s != 0) || (l.take j).any (fun y => y == (n : Int))) := ⟨_, rfl⟩
              rw [← hT]
              have HT := hid hT
              clear hT
              cases T with
              | true =>
                go_wp2
                go_quiet (fail)
                go_wp2
                go_roundw
                case rel => exact ⟨j + 1, by omega, by go_num, by rw [HST.out, ← Bool.or_assoc, ← HT.out]; rfl, HKJ.out.trans (Kept.drewN [] _ _) (fun _ _ h => h)⟩
                case measure => simp [intOf]; omega
              | false =>
                go_wp2
                go_quiet (fail)
                go_wp2
                go_roundw
                case rel => exact ⟨j + 1, by omega, by go_num, by rw [HST.out, ← Bool.or_assoc, ← HT.out]; rfl, HKJ.out.trans (Kept.drewN [] _ _) (fun _ _ h => h)⟩
                case measure => simp [intOf]; omega
            · have hjl' : ¬ (j : Int) < k := by omega
              obtain rfl : j = k := by omega
              have HR2 := hid hr2
              have HKJ := hid (HKP.out.trans hkj (fun _ _ h => h))
              clear hr2 hkj
              obtain ⟨T, hT⟩ : ∃ T, T = ((s != 0) || (l.take j).any (fun y => y == (n : Int))) := ⟨_, rfl⟩
              rw [← hT]
              have HT := hid hT
              clear hT
              have HPg : Hid (¬ ¬ (2 ≤ l.getD j 0 ∧ l.getD j 0 < R.D.n)) := by show ¬ ¬ _; rw [← HXE.out]; exact fun h => h HP2.out
              have eN : (l.getD j 0).toNat = n := by rw [← HXE.out]; rfl
              have HEN := hid eN
              clear eN
              cases T with
              | true =>
                have HA : Hid (R.useAt l j = some 8) := by
                  show R.useAt l j = _
                  unfold RS.useAt
                  rw [if_neg HPg.out, HEN.out, ← HSE.out]
                  by_cases h0 : s = 0
                  · rw [if_neg (by simpa using h0), if_pos]
                    have e := HT.out
                    rw [← HXE.out]
                    simpa [h0] using e.symm
                  · rw [if_pos h0]
                have HE2 : Hid (R.use l = (8, R)) := by
                  show R.use l = _
                  rw [HE.out, useE_some hlt HF.out HA.out, if_pos (by decide)]
                go_wp2
                go_ret
                rw [HE2.out]
                exact DidR.at HR2.out (HKJ.out.mono (by simp))
              | false =>
                have HA : Hid (R.useAt l j = none) := by
                  show R.useAt l j = _
                  have e := HT.out.symm
                  rw [Bool.or_eq_false_iff] at e
                  unfold RS.useAt
                  rw [if_neg HPg.out, HEN.out, ← HSE.out, if_neg (by simpa using e.1), if_neg]
                  rw [← HXE.out, e.2]
                  decide
                go_wp2
                go_roundw
                case rel =>
                  refine ⟨j + 1, by omega, by go_num, fun i hi => ?_, HKJ.out⟩
                  by_cases e : i = j
                  · rw [e]; exact HA.out
                  · exact HF.out i (by omega)
                case measure => simp [intOf]; omega
        · have HE2 : Hid (R.use l = (3, R)) := by
            show R.use l = _
            have e := useE_some hlt HF.out (e := 3) (by unfold RS.useAt; rw [← HXE.out, if_pos hp])
            rw [HE.out, e, if_pos (by decide)]
          rw [decide_eq_false hp] at HU
          clear hp
          go_wp2_with (go_at_call 83; refine HU.out.mono ?_; rintro e w ⟨rfl, rfl⟩)
          go_ret
          rw [HE2.out]
          exact DidR.at HR.out (HKP.out.mono (by simp))
      · have hlt' : ¬ (k : Int) < l.length := by omega
        obtain rfl : k = l.length := by omega
        have HE2 : Hid (R.use l = (0, { R with is := usedL R.is l })) := by
          show R.use l = _
          rw [HE.out, useE_none HF.out, if_neg (by decide)]
        have HR := hid hr
        have HKP := hid hkp
        obtain ⟨wo, rfl⟩ : ∃ wo : World, wo = wr := ⟨_, rfl⟩
        clear hr hkp
        go_wp2
        go_loopw [8] (fun q wi => ∃ k : Nat, k ≤ l.length ∧ q = .int .i64 k ∧ RAt wi B b c gi gf pv own { R with is := usedL R.is (l.take k) } ∧ Kept [gi] w wi) (fun q _ => l.length - (intOf q).toNat)
        case atStart => exact ⟨0, Nat.zero_le _, rfl, HR.out, HKP.out.mono (by simp)⟩
        case round =>
          obtain ⟨k, hkn, rfl, hr, hkp⟩ := hrel
          obtain ⟨t0, t1, t2, t3, t4, t5, t6⟩ := hr.cells
          simp only at t3
          by_cases hlt : k < l.length
          · have hlt' : (k : Int) < l.length := by omega
            have hx := hkp.cell (HC.out k hlt) (by simpa using HGI.out)
            obtain ⟨x, hxe⟩ : ∃ x, x = l.getD k 0 := ⟨_, rfl⟩
            have hpg : 2 ≤ x ∧ x < R.D.n := by
              have e := HF.out k hlt
              unfold RS.useAt at e
              rw [← hxe] at e
              by_cases hp : 2 ≤ x ∧ x < R.D.n
              · exact hp
              · rw [if_pos hp] at e; cases e
            rw [← hxe] at hx
            obtain ⟨n, rfl⟩ : ∃ n : Nat, x = n := ⟨x.toNat, by omega⟩
            have hn : n < R.D.n := by omega
            have hn' : (n : Int) < R.D.n := by omega
            have HST := hid (usedL_step R.is l k hlt)
            rw [← hxe, Int.toNat_natCast] at HST
            have hs := hr.isAt n (by simp only; exact hn)
            have hfz := hr.freeI n
            have HR2 := hid hr
            have HK2 := hid hkp
            have hnx := hid (hr.setIs n 1)
            obtain ⟨y0, y1, y2, y3, y4, y5, y6⟩ := hnx.out.cells
            simp only at y3
            have hx' := (Kept.setCell [gi] wr ⟨gi, n, none⟩ (.int .i64 1) (by simp)).cell hx (by simpa using HGI.out)
            clear hr hkp hxe hpg
            go_wp2
            go_region_held3 (fun w' => w'.cell? ⟨b, 3, none⟩ = some (.slice (some ⟨gi, 0, none⟩) R.D.n R.D.n) ∧ w'.cell? ⟨g, k, none⟩ = some (.int .i64 n)) (first | exact ⟨y3, hx'⟩ | exact ⟨by assumption, by assumption⟩ | go_keep) (fail)
            go_wp2
            go_roundw
            case rel => exact ⟨k + 1, by omega, by go_num, by rw [HST.out]; exact hnx.out.keep (Kept.drew [] _) (by simp), HK2.out.trans ((Kept.setCell [gi] _ _ _ (by simp)).trans (Kept.drew [gi] _) (fun _ _ h => h)) (fun _ _ h => h)⟩
            case measure => simp [intOf]; omega
          · have hlt' : ¬ (k : Int) < l.length := by omega
            rw [List.take_of_length_le (by omega)] at hr
            have HR2 := hid hr
            have HK2 := hid hkp
            clear hr hkp
            go_wp2
            go_ret
            rw [HE2.out]
            exact DidR.at HR2.out (HK2.out.mono (fun i _ hi => by simp only [List.mem_singleton] at hi; simp [hi, rall]))
end
end Go.Proofs.Ytambgimfbdecpaa
namespace Go.Proofs.Ytambgimfbdecpaa
open Go.RowKit Go.Maps
set_option linter.unusedVariables false

/-- Pin. -/
def PS.pin (P : PS) : PS := { P with pins := P.pins ++ [P.gen], pm := P.pm + 1 }
/-- Unpin. -/
def PS.unpin (P : PS) (g : Int) : Int × PS :=
  if P.pins.count g = 0 then (7, P)
  else if P.pins.count g = 1 then (0, { P with pins := P.pins.erase g, pm := P.pm + 1, st := P.st.map (relF (lowPin (P.pins.erase g) P.gen)) })
  else (0, { P with pins := P.pins.erase g, pm := P.pm + 1 })

theorem key_ne {x y : Int} (h : x ≠ y) : (Lit.int .i64 x) ≠ (Lit.int .i64 y) := fun e => h (by injection e)
theorem PinsD.add {w w' : World} {mb m : Nat} {pins : List Int} {D : DataW Unit} (h : PinsD w mb m pins D) (g : Int) (ho : w'.ownsMap Try.prog 3 (plainElem (H := Unit) Try.prog 3) mb (m + 1) (D.put (.int .i64 g) (.lit (.int .i64 ((pins.count g : Nat) + 1 : Int))))) : PinsAt w' mb (m + 1) (pins ++ [g]) := by
  refine ⟨_, ho, fun x => ?_, fun x => ?_⟩
  · by_cases e : x = g
    · subst e
      rw [has_put_same (k := Lit.int .i64 x) h.own.isMap trivial]
      simp
    · rw [has_put_other (key_ne e), h.has x]
      simp [e]
  · by_cases e : x = g
    · subst e
      rw [atKey_put_same (k := Lit.int .i64 x) h.own.isMap trivial]
      rw [List.count_append]
      simp
    · rw [atKey_put_other (key_ne e), h.cnt x, List.count_append, List.count_singleton]
      have : (g == x) = false := by rw [beq_eq_false_iff_ne]; exact fun h => e h.symm
      rw [this]
      simp
theorem count_erase_other {pins : List Int} {g x : Int} (e : x ≠ g) : (pins.erase g).count x = pins.count x := by
  rw [List.count_erase]
  have : (g == x) = false := by rw [beq_eq_false_iff_ne]; exact fun h => e h.symm
  rw [this]
  simp
theorem mem_erase_other {pins : List Int} {g x : Int} (e : x ≠ g) : x ∈ pins.erase g ↔ x ∈ pins := List.mem_erase_of_ne e
theorem PinsD.less {w w' : World} {mb m : Nat} {pins : List Int} {D : DataW Unit} (h : PinsD w mb m pins D) (g : Int) (h2 : 2 ≤ pins.count g) (ho : w'.ownsMap Try.prog 3 (plainElem (H := Unit) Try.prog 3) mb (m + 1) (D.put (.int .i64 g) (.lit (.int .i64 ((pins.count g : Nat) - 1 : Int))))) : PinsAt w' mb (m + 1) (pins.erase g) := by
  refine ⟨_, ho, fun x => ?_, fun x => ?_⟩
  · by_cases e : x = g
    · subst e
      rw [has_put_same (k := Lit.int .i64 x) h.own.isMap trivial]
      have : x ∈ pins.erase x := by
        rw [← List.count_pos_iff, List.count_erase_self]; omega
      simp [this]
    · rw [has_put_other (key_ne e), h.has x]
      simp [mem_erase_other e]
  · by_cases e : x = g
    · subst e
      rw [atKey_put_same (k := Lit.int .i64 x) h.own.isMap trivial, List.count_erase_self]
      congr 2
      omega
    · rw [atKey_put_other (key_ne e), h.cnt x, count_erase_other e]
theorem PinsD.gone {w w' : World} {mb m : Nat} {pins : List Int} {D : DataW Unit} (h : PinsD w mb m pins D) (g : Int) (h1 : pins.count g = 1) (d : DataW Unit) (ho : w'.ownsMap Try.prog 3 (plainElem (H := Unit) Try.prog 3) mb (m + 1) ((D.put (.int .i64 g) d).del (.int .i64 g))) : PinsAt w' mb (m + 1) (pins.erase g) := by
  refine ⟨_, ho, fun x => ?_, fun x => ?_⟩
  · by_cases e : x = g
    · subst e
      rw [has_del_same]
      have : x ∉ pins.erase x := by
        rw [← List.count_eq_zero, List.count_erase_self]; omega
      simp [this]
    · rw [has_del_other (key_ne e), has_put_other (key_ne e), h.has x]
      simp [mem_erase_other e]
  · by_cases e : x = g
    · subst e
      rw [atKey_del_same, List.count_erase_self, h1]
      rfl
    · rw [atKey_del_other (key_ne e), atKey_put_other (key_ne e), h.cnt x, count_erase_other e]

theorem field114_2 (b : Nat) (w : World) : (Instr.fieldAt 114 (.pointer (some ⟨b, 0, none⟩)) 2).run Try.prog w = .ok (.pointer (some ⟨b, 2, none⟩)) w := by kernel_rfl
theorem field114_3 (b : Nat) (w : World) : (Instr.fieldAt 114 (.pointer (some ⟨b, 0, none⟩)) 3).run Try.prog w = .ok (.pointer (some ⟨b, 3, none⟩)) w := by kernel_rfl
theorem load112 {b k : Nat} {v : Value} {w : World} (h : w.cell? ⟨b, k, none⟩ = some v) : (Instr.loadAt 112 (.pointer (some ⟨b, k, none⟩))).run Try.prog w = .ok v w := by
  simp [Instr.loadAt, Instr.sureAddr, loadVar, isAgg, run_underlying Try.underlying112, h]
theorem load3c {b k : Nat} {v : Value} {w : World} (h : w.cell? ⟨b, k, none⟩ = some v) : (Instr.loadAt 3 (.pointer (some ⟨b, k, none⟩))).run Try.prog w = .ok v w := by
  simp [Instr.loadAt, Instr.sureAddr, loadVar, isAgg, run_underlying Try.underlying3, h]
theorem exec_lookup {a : Act} {x y : Operand} {u s v : Value} {w : World} {d : Option Tmp} {t ty : Nat} {pos : String} {af : Array Edge} {g : Option (Nat × Bool)} (hx : a.eval x = u) (hy : a.eval y = s)
    (h : (Instr.lookup t u s false).run Try.prog w = .ok v w) : (execOp a.eval ⟨d, .lookup t x y false, ty, pos, af, g⟩).run Try.prog w = .ok (.value v) w := by
  simp only [execOp, hx, hy]
  exact exec_v h
theorem exec_mapUpdate {a : Act} {x y z : Operand} {u s v : Value} {w w' : World} {d : Option Tmp} {t ty : Nat} {pos : String} {af : Array Edge} {g : Option (Nat × Bool)} (hx : a.eval x = u) (hy : a.eval y = s) (hz : a.eval z = v)
    (h : (Instr.mapUpdate t u s v).run Try.prog w = .ok () w') : (execOp a.eval ⟨d, .mapUpdate t x y z, ty, pos, af, g⟩).run Try.prog w = .ok .skip w' := by
  simp only [execOp, hx, hy, hz, Sem.run_bind, h, Result.andThen_ok, Sem.run_pure]
theorem exec_addI {a : Act} {x : Operand} {c : Int} {w : World} {d : Option Tmp} {ty : Nat} {pos : String} {af : Array Edge} {g : Option (Nat × Bool)} (hx : a.eval x = .int .i64 c) (h0 : 0 ≤ c) (h1 : c ≤ 100000) :
    (execOp a.eval ⟨d, .binOp .add 3 x (.const (.int .i64 1)) 3, ty, pos, af, g⟩).run Try.prog w = .ok (.value (.int .i64 (c + 1))) w := by
  have hw := wrap_i64 (c + 1) (by omega) (by omega)
  have h2 : a.eval (.const (.int .i64 1)) = .int .i64 1 := rfl
  simp only [execOp, hx, h2]
  simp [go_sem]
  omega
theorem PinsD.lookup {w : World} {mb m : Nat} {pins : List Int} {D : DataW Unit} (h : PinsD w mb m pins D) (g : Int) (hw : (Lit.int .i64 g).wf = true) : (Instr.lookup 112 (.map (some mb)) (.int .i64 g) false).run Try.prog w = .ok (.int .i64 (pins.count g : Nat)) w := by
  obtain ⟨c, hlk, hat, hwc⟩ := h.own.lookup_int law3 Try.underlying112 Try.underlying3 (zero3 _) (keyOf_int_mk Try.underlying3 hw)
  have hc : c = (pins.count g : Nat) := by
    have := h.cnt g
    rw [hat] at this
    exact (Lit.int.inj (DataW.lit.inj this)).2
  subst hc
  exact hlk
theorem PinsD.heap {w w2 : World} {mb m : Nat} {pins : List Int} {D : DataW Unit} (h : PinsD w mb m pins D) (e : w2.heap = w.heap) : PinsD w2 mb m pins D := by
  obtain ⟨es, clock, hb, r⟩ := h.own
  exact ⟨⟨es, clock, by rw [e]; exact hb, r⟩, h.has, h.cnt⟩
theorem cell_heap {w w2 : World} {p : Addr} {v : Value} (h : w.cell? p = some v) (e : w2.heap = w.heap) : w2.cell? p = some v := by
  have : w2.cell? p = w.cell? p := World.cell?_of_block (by rw [e])
  rw [this, h]

set_option maxRecDepth 100000 in
set_option maxHeartbeats 2000000 in
theorem pin_at {w : World} {B b db gs mb : Nat} {own : List Nat} {P : PS} (h : PAt w B b db gs mb own P) (hp : P.pins.length ≤ 1000) (hm : P.pm ≤ 1000) :
    Calls Try.prog 35 #[.pointer (some ⟨b, 0, none⟩)] w (DidP w B b db (b :: gs :: mb :: own) (.int .i64 P.gen) P.pin) := by
  obtain ⟨c0, c1, c2, c3, c4, c5⟩ := h.cells
  have HN := hid (none_any h)
  have HH := hid h
  obtain ⟨D, hD⟩ := h.pins
  have g0 := h.g0
  have g1 := h.g1
  have hwf : (Lit.int .i64 P.gen).wf = true := WalkArith.wf_i64 (by omega)
  have hkey := keyOf_int_mk Try.underlying3 hwf
  have hcl : P.pins.count P.gen ≤ 1000 := Nat.le_trans List.count_le_length hp
  have hval : (Lit.int .i64 (((P.pins.count P.gen : Nat) : Int) + 1)).wf = true := WalkArith.wf_i64 (by omega)
  obtain ⟨w', hup, ho, hg⟩ := (hD.heap (w2 := w.drew) rfl).own.update (t := 112) law3 Try.underlying112 (by unfold maxLen; omega) hkey (plainElem_int Try.underlying3 hval)
  have hpn := hD.add P.gen ho
  have hk : Kept [mb] w w' := (Kept.drew [mb] w).trans (Kept.ofGrown hg [mb] (fun k h => by simpa using h.symm)) (fun _ _ h => h)
  have HF := hid (HH.out.setPins hpn hk)
  have HK := hid hk
  have HUp := hid hup
  have d3 : w'.cell? ⟨b, 3, none⟩ = some (.int .i64 P.gen) := hk.cell c3 (by simpa using fun e => HH.out.n3 e.symm)
  have d2 : w'.cell? ⟨b, 2, none⟩ = some (.map (some mb)) := hk.cell c2 (by simpa using fun e => HH.out.n3 e.symm)
  have HL : Hid (∀ w2 : World, w2.heap = w.heap → (Instr.lookup 112 (.map (some mb)) (.int .i64 P.gen) false).run Try.prog w2 = .ok (.int .i64 (P.pins.count P.gen : Nat)) w2) := fun w2 e => (hD.heap e).lookup P.gen hwf
  have HC := hid hcl
  clear h hD hpn hk hup ho hg hval hwf hkey
  go_enter Try.func35, Try.ntmps35
  go_wp2_with (first | (go_at_call 59; refine HN.out.mono ?_; rintro e wa ⟨rfl, rfl⟩))
  refine wp_region_held_drew (S := fun X => X.cell? ⟨b, 2, none⟩ = some (.map (some mb)) ∧ X.cell? ⟨b, 3, none⟩ = some (.int .i64 P.gen)) (by kernel_rfl) ⟨c2, c3⟩ ?_
  intro hS
  refine anyH_take 0 ⟨some 5, .move (.tmp 0), _, _, _, none⟩ (.pointer (some ⟨b, 0, none⟩)) rfl rfl (by kernel_rfl) (by kernel_rfl) (by kernel_rfl) (fun _ _ _ h => h) (fun _ _ => rfl) hS ?_
  simp only [Act.put, List.setIfInBounds_toArray, List.set_cons_zero, List.set_cons_succ]
  refine anyH_take 1 ⟨some 6, .nilCheck (.tmp 5), _, _, _, none⟩ (.pointer (some ⟨b, 0, none⟩)) rfl rfl (by kernel_rfl) (by kernel_rfl) (by kernel_rfl) (fun _ _ _ h => h) (fun _ _ => rfl) hS ?_
  simp only [Act.put, List.setIfInBounds_toArray, List.set_cons_zero, List.set_cons_succ]
  refine anyH_take 2 ⟨some 7, .fieldAddr 114 (.tmp 6) 2, _, _, _, none⟩ (.pointer (some ⟨b, 2, none⟩)) rfl rfl (by kernel_rfl) (by kernel_rfl) (by kernel_rfl) (fun _ _ _ h => h) (fun w _ => exec_v (field114_2 b w)) hS ?_
  simp only [Act.put, List.setIfInBounds_toArray, List.set_cons_zero, List.set_cons_succ]
  refine anyH_take 3 ⟨some 8, .load 112 (.tmp 7), _, _, _, none⟩ (.map (some mb)) rfl rfl (by kernel_rfl) (by kernel_rfl) (by kernel_rfl) (fun _ _ _ h => h) (fun w hw => exec_v (load112 hw.1)) hS ?_
  simp only [Act.put, List.setIfInBounds_toArray, List.set_cons_zero, List.set_cons_succ]
  refine anyH_take 4 ⟨some 9, .move (.tmp 0), _, _, _, none⟩ (.pointer (some ⟨b, 0, none⟩)) rfl rfl (by kernel_rfl) (by kernel_rfl) (by kernel_rfl) (fun _ _ _ h => h) (fun _ _ => rfl) hS ?_
  simp only [Act.put, List.setIfInBounds_toArray, List.set_cons_zero, List.set_cons_succ]
  refine anyH_take 5 ⟨some 10, .nilCheck (.tmp 9), _, _, _, none⟩ (.pointer (some ⟨b, 0, none⟩)) rfl rfl (by kernel_rfl) (by kernel_rfl) (by kernel_rfl) (fun _ _ _ h => h) (fun _ _ => rfl) hS ?_
  simp only [Act.put, List.setIfInBounds_toArray, List.set_cons_zero, List.set_cons_succ]
  refine anyH_take 6 ⟨some 11, .fieldAddr 114 (.tmp 10) 3, _, _, _, none⟩ (.pointer (some ⟨b, 3, none⟩)) rfl rfl (by kernel_rfl) (by kernel_rfl) (by kernel_rfl) (fun _ _ _ h => h) (fun w _ => exec_v (field114_3 b w)) hS ?_
  simp only [Act.put, List.setIfInBounds_toArray, List.set_cons_zero, List.set_cons_succ]
  refine anyH_take 7 ⟨some 12, .load 3 (.tmp 11), _, _, _, none⟩ (.int .i64 P.gen) rfl rfl (by kernel_rfl) (by kernel_rfl) (by kernel_rfl) (fun _ _ _ h => h) (fun w hw => exec_v (load3 hw.2)) hS ?_
  simp only [Act.put, List.setIfInBounds_toArray, List.set_cons_zero, List.set_cons_succ]
  refine anyH_one 8 ⟨some 13, .lookup 112 (.tmp 8) (.tmp 12) false, _, _, _, none⟩ (.int .i64 (P.pins.count P.gen : Nat)) wa.drew (by kernel_rfl) rfl rfl (exec_lookup rfl rfl (HL.out _ rfl)) hS ?_
  simp only [Act.put, List.setIfInBounds_toArray, List.set_cons_zero, List.set_cons_succ]
  refine anyH_one 9 ⟨some 14, .binOp .add 3 (.tmp 13) (.const (.int .i64 1)) 3, _, _, _, none⟩ (.int .i64 ((P.pins.count P.gen : Nat) + 1)) wa.drew (by kernel_rfl) rfl rfl (exec_addI rfl (by omega) (by have := HC.out; omega)) hS ?_
  simp only [Act.put, List.setIfInBounds_toArray, List.set_cons_zero, List.set_cons_succ]
  refine anyH_oneSkip 10 ⟨none, .mapUpdate 112 (.tmp 8) (.tmp 12) (.tmp 14), _, _, _, none⟩ w' (by kernel_rfl) rfl rfl (exec_mapUpdate rfl rfl rfl HUp.out) ⟨d2, d3⟩ ?_
  refine wpAnyH_done (by kernel_rfl) ?_ _
  clear c0 c1 c2 c3 c4 c5 d2
  go_wp2_with fail
  go_ret
  exact DidP.at HF.out (HK.out.mono (fun i _ hi => by simp only [List.mem_singleton] at hi; simp [hi]))

set_option maxRecDepth 100000 in
set_option maxHeartbeats 2000000 in
theorem unpin_at {w : World} {B b db gs mb : Nat} {own : List Nat} {P : PS} (h : PAt w B b db gs mb own P) (hp : P.pins.length ≤ 1000) (hm : P.pm ≤ 1000) (g : Int) (hg : -9223372036854775808 ≤ g ∧ g ≤ 9223372036854775807) :
    Calls Try.prog 37 #[.pointer (some ⟨b, 0, none⟩), .int .i64 g] w (DidP w B b db (b :: gs :: mb :: own) (.int .i64 (P.unpin g).1) (P.unpin g).2) := by
  obtain ⟨c0, c1, c2, c3, c4, c5⟩ := h.cells
  have HN := hid (none_any h)
  have HH := hid h
  obtain ⟨D, hD⟩ := h.pins
  have hwf : (Lit.int .i64 g).wf = true := WalkArith.wf_i64 (by omega)
  have hkey := keyOf_int_mk Try.underlying3 hwf
  have hcl : P.pins.count g ≤ 1000 := Nat.le_trans List.count_le_length hp
  have hlk := hD.lookup g hwf
  unfold PS.unpin
  by_cases h0 : P.pins.count g = 0
  · rw [if_pos h0]
    rw [h0] at hlk
    clear h hD
    go_enter Try.func37, Try.ntmps37
    go_wp2_with (first | (go_at_call 59; refine HN.out.mono ?_; rintro e wa ⟨rfl, rfl⟩))
    go_ret
    exact DidP.same HH.out
  · rw [if_neg h0]
    have hval : (Lit.int .i64 (((P.pins.count g : Nat) : Int) - 1)).wf = true := WalkArith.wf_i64 (by omega)
    have h0' : (((P.pins.count g : Nat) : Int) == 0) = false := by rw [beq_eq_false_iff_ne]; omega
    obtain ⟨w1, hup, ho, hgr⟩ := hD.own.update (t := 112) law3 Try.underlying112 (by unfold maxLen; omega) hkey (plainElem_int Try.underlying3 hval)
    have hk1 : Kept [mb] w w1 := Kept.ofGrown hgr [mb] (fun k h => by simpa using h.symm)
    have e2 : w1.cell? ⟨b, 2, none⟩ = some (.map (some mb)) := hk1.cell c2 (by simpa using fun e => HH.out.n3 e.symm)
    have hz0 : (zeroValue 3).run Try.prog w1 = .ok (.int .i64 0) w1 := zero3 _
    obtain ⟨c, hlk1, hat, _⟩ := ho.lookup_int law3 Try.underlying112 Try.underlying3 hz0 hkey
    have hc : c = ((P.pins.count g : Nat) : Int) - 1 := by
      rw [atKey_put_same (k := Lit.int .i64 g) hD.own.isMap trivial] at hat
      exact (Lit.int.inj (DataW.lit.inj hat)).2.symm
    subst hc
    by_cases h1 : P.pins.count g = 1
    · rw [if_pos h1]
      have hlk1' : (Instr.lookup 112 (.map (some mb)) (.int .i64 g) false).run Try.prog w1 = .ok (.int .i64 0) w1 := by rw [hlk1, h1]; rfl
      obtain ⟨w2, hdl, ho2, ht2⟩ := ho.drop (t := 112) law3 Try.underlying112 hkey 0
      have hdl' : ∀ ty, (Builtin.delete_ #[112, 3] ty #[.map (some mb), .int .i64 g]).run Try.prog w1 = .ok (.tuple #[]) w2 := fun ty => by
        rw [← hdl]; rfl
      have hk2 : Kept [mb] w1 w2 := Kept.ofGrown ht2.grown [mb] (fun k h => by simpa using h.symm)
      have hk12 := hk1.trans hk2 (fun _ _ h => h)
      have HP2 := hid (HH.out.setPins (hD.gone g h1 _ ho2) hk12)
      have HK2 := hid hk12
      rw [h1] at hlk hup
      have hup' : (Instr.mapUpdate 112 (.map (some mb)) (.int .i64 g) (.int .i64 0)).run Try.prog w = .ok () w1 := hup
      have hlk' : (Instr.lookup 112 (.map (some mb)) (.int .i64 g) false).run Try.prog w = .ok (.int .i64 1) w := hlk
      clear h hD ho ho2 ht2 hgr hk1 hk2 hk12 hlk1 hdl hat h0' hup hlk hkey hwf hval hcl h0 h1
      go_enter Try.func37, Try.ntmps37
      go_wp2_with (first | (go_at_call 59; refine HN.out.mono ?_; rintro e wa ⟨rfl, rfl⟩))
      refine (release_any HP2.out.shAt HP2.out.pins HP2.out.n1 HP2.out.n2 HP2.out.cells.2.2.1 HP2.out.cells.2.2.2.1).mono ?_
      rintro e w3 ⟨rfl, hs3, hk3⟩
      have H3 := hid (HP2.out.setSt hs3 hk3)
      have HK3 := hid ((HK2.out.mono (T := b :: gs :: mb :: own) (fun i _ hi => by simp only [List.mem_singleton] at hi; simp [hi])).trans hk3 (fun i _ hi => by simp only [List.mem_singleton] at hi; simp [hi]))
      clear hs3 hk3
      go_wp2_with fail
      go_ret
      exact DidP.at H3.out HK3.out
    · rw [if_neg h1]
      have HP2 := hid (HH.out.setPins (hD.less g (by omega) ho) hk1)
      have HK2 := hid (hk1.mono (T := b :: gs :: mb :: own) (fun i _ hi => by simp only [List.mem_singleton] at hi; simp [hi]))
      have hb1 : (((P.pins.count g : Nat) : Int) - 1 == 0) = false := by rw [beq_eq_false_iff_ne]; omega
      clear h hD ho hgr hk1 hat hkey hwf hval
      generalize P.pins.count g = C at *
      have hC1 : 2 ≤ C := by omega
      clear h0 h1
      go_enter Try.func37, Try.ntmps37
      go_wp2_with (first | (go_at_call 59; refine HN.out.mono ?_; rintro e wa ⟨rfl, rfl⟩))
      go_ret
      exact DidP.at HP2.out HK2.out
theorem pin_all {w : World} {B b db : Nat} {all : List Nat} {P : PS} (h : Pgr w B b db all P) (hp : P.pins.length ≤ 1000) (hm : P.pm ≤ 1000) :
    Calls Try.prog 35 #[.pointer (some ⟨b, 0, none⟩)] w (DidP w B b db all (.int .i64 P.gen) P.pin) := by
  obtain ⟨gs, mb, own, h, rfl⟩ := h
  exact pin_at h hp hm
theorem unpin_all {w : World} {B b db : Nat} {all : List Nat} {P : PS} (h : Pgr w B b db all P) (hp : P.pins.length ≤ 1000) (hm : P.pm ≤ 1000) (g : Int) (hg : -9223372036854775808 ≤ g ∧ g ≤ 9223372036854775807) :
    Calls Try.prog 37 #[.pointer (some ⟨b, 0, none⟩), .int .i64 g] w (DidP w B b db all (.int .i64 (P.unpin g).1) (P.unpin g).2) := by
  obtain ⟨gs, mb, own, h, rfl⟩ := h
  exact unpin_at h hp hm g hg
end Go.Proofs.Ytambgimfbdecpaa
