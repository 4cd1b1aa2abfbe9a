/- What this text holds: Params, and what a kind's text says: the program's calls. -/
import Derived.Test.YtgolcmafbenjbaaGreatDoorN2
namespace Go.Proofs.YtgolcmafbenjbaaGreatDoor
open Go.RowKit
set_option linter.unusedVariables false
set_option linter.unusedSimpArgs false

/-- Two strings in a block. -/
def S2 (w : World) (A : Nat) (x y : ByteArray) : Prop := w.heap[A]? = some (.cells #[.string x, .string y] 44 (0, 0))
theorem S2.c0 {w : World} {A : Nat} {x y : ByteArray} (h : S2 w A x y) : w.cell? ⟨A, 0, none⟩ = some (.string x) := by simp [World.cell?, show w.heap[A]? = _ from h]
theorem S2.c1 {w : World} {A : Nat} {x y : ByteArray} (h : S2 w A x y) : w.cell? ⟨A, 1, none⟩ = some (.string y) := by simp [World.cell?, show w.heap[A]? = _ from h]
theorem S2.fz {w : World} {A : Nat} {x y : ByteArray} (h : S2 w A x y) : ∀ k, w.frozen? ⟨A, k, none⟩ = false := fun k => by simp [World.frozen?, show w.heap[A]? = _ from h]
theorem S2.kept {S : List Nat} {w w' : World} {A : Nat} {x y : ByteArray} (h : S2 w A x y) (k : Kept S w w') (hn : A ∉ S) : S2 w' A x y := (k.block A (lt_of_some h) hn).trans h
theorem S2.later {w w' : World} {A : Nat} {x y : ByteArray} (h : S2 w A x y) (hb : Below w.heap.size w w') : S2 w' A x y := (hb.block A (lt_of_some h)).trans h
def put2 (w : World) (A : Nat) (x y : ByteArray) : World := (w.setCell ⟨A, 0, none⟩ (.string x)).setCell ⟨A, 1, none⟩ (.string y)
theorem put2_is {w : World} {A : Nat} {x y : ByteArray} (h : S2 w A x y) (x' y' : ByteArray) : S2 (put2 w A x' y') A x' y' := by
  unfold put2 S2
  rw [heap_setCell_same _ _ _ _ _ _ (heap_setCell_same _ _ _ _ _ _ h)]
  rfl
theorem put2_kept {S : List Nat} {w w' : World} (A : Nat) (x y : ByteArray) (k : Kept S w w') (hA : w.heap.size ≤ A) : Kept S w (put2 w' A x y) :=
  k.trans ((Kept.setCell [A] w' ⟨A, 0, none⟩ _ (by simp)).trans (Kept.setCell [A] _ ⟨A, 1, none⟩ _ (by simp)) (fun i _ hi => hi)) (fun i hi hm => by
    simp at hm; omega)
theorem MAt.put2 {w : World} {b A : Nat} {l : Bs} (h : MAt w b l) (x y : ByteArray) (hA : A ≠ b) : MAt (put2 w A x y) b l := by
  refine ⟨?_⟩
  have := ((Kept.setCell [A] w ⟨A, 0, none⟩ (.string x) (by simp)).trans (Kept.setCell [A] _ ⟨A, 1, none⟩ (.string y) (by simp)) (fun i _ hi => hi)).block b h.lt (by simp; exact fun e => hA e.symm)
  exact this.trans h.at_
theorem MAt.kept {S : List Nat} {w w' : World} {b : Nat} {l : Bs} (h : MAt w b l) (k : Kept S w w') (hn : b ∉ S) : MAt w' b l := ⟨(k.block b h.lt hn).trans h.at_⟩
set_option maxRecDepth 100000 in
theorem results35_run {w : World} {A : Nat} {x y : ByteArray} {v : Value} (tmps : Array Value) (h2 : tmps[2]? = some (.pointer (some ⟨A, 0, none⟩))) (h3 : tmps[3]? = some v) (hA : S2 w A x y) :
    (results Tryz.f35 tmps).run Tryz.prog w = .ok (.tuple #[.agg #[.string x, .string y], v]) w := by
  have c0 := hA.c0
  have c1 := hA.c1
  simp [results, Tryz.results35, go_sem, h2, h3, c0, c1]

/-- What a reader of a Param answers. -/
def POut (b : Nat) (l : Bs) (w : World) (o : Option ((Bs × Bs) × Bs)) (e : Ending) (w' : World) : Prop :=
  Kept [b] w w' ∧ match o with
    | some r => e = .returned (.tuple #[.agg #[.string (str r.1.1), .string (str r.1.2)], .bool true]) ∧ MAt w' b r.2
    | none => e = .returned (.tuple #[.agg #[.string ⟨#[]⟩, .string ⟨#[]⟩], .bool false]) ∧ ∃ q, MAt w' b q ∧ q.length ≤ l.length
theorem s2_new (w : World) (x y : ByteArray) : S2 (w.alloc (.cells #[.string x, .string y] 44)) w.heap.size x y := heap_alloc_new _ _

set_option maxRecDepth 100000 in
set_option maxHeartbeats 4000000 in
theorem param_any {w : World} {b : Nat} {l : Bs} (h : MAt w b l) (hl : l.length ≤ 10000000) :
    Calls Tryz.prog 35 #[.pointer (some ⟨b, 0, none⟩)] w (POut b l w (parM l)) := by
  have hS0 := s2_new w ⟨#[]⟩ ⟨#[]⟩
  have hK0 : Kept [b] w (w.alloc (.cells #[.string ⟨#[]⟩, .string ⟨#[]⟩] 44)) := Kept.alloc _ _ _
  have hm0 : MAt (w.alloc (.cells #[.string ⟨#[]⟩, .string ⟨#[]⟩] 44)) b l := h.later ((Below.refl _ _).alloc (Nat.le_refl _) _)
  have hAb : w.heap.size ∉ [b] := by have := h.lt; simp; omega
  have hAn : w.heap.size ≠ b := by have := h.lt; omega
  have HA : Hid (w.heap.size ≤ w.heap.size) := Nat.le_refl _
  have HS0 := hid hS0
  have HK0 := hid hK0
  have HAb := hid hAb
  have HAn := hid hAn
  cases hs : sgn 59 l with
  | none =>
    have HE : Hid (parM l = none) := by unfold parM; rw [hs]; rfl
    have HC := hid (sign_no hm0 59 hs hl)
    have hpl := pb_len l
    rw [HE.out]
    clear hS0 hK0 hm0 hAb hAn h hs HE
    go_enter Tryz.func35, Tryz.ntmps35
    go_wp2_with fail
    refine HC.out.mono ?_
    rintro e w1 ⟨rfl, hm, hk⟩
    have hs1 := HS0.out.kept hk HAb.out
    have c0 := hs1.c0
    have c1 := hs1.c1
    have fz := hs1.fz
    have HS1 := hid hs1
    have HK1 := hid (HK0.out.tr hk)
    have HM := hid hm
    clear hm hk hs1 HC
    go_wp2_with fail
    have p1 := put2_is HS1.out ⟨#[]⟩ ⟨#[]⟩
    refine bodyPost_ret (w := put2 w1 w.heap.size ⟨#[]⟩ ⟨#[]⟩) (results35_run _ rfl rfl p1) rfl ?_
    exact ⟨put2_kept _ _ _ HK1.out HA.out, rfl, _, HM.out.put2 _ _ HAn.out, by omega⟩
  | some t =>
    have HC := hid (sign_yes hm0 59 hs hl)
    have hlt := sgn_len hs
    have hrl := tokR_len t
    have HE : Hid (parM l = if tokT t = [] then none else match sgn 61 (tokR t) with
      | none => none
      | some u => match valM u with
        | none => none
        | some r => some ((low (tokT t), r.1), r.2)) := by unfold parM; rw [hs]; rfl
    rw [HE.out]
    have htl := tokT_len t
    clear hS0 hK0 hm0 hAb hAn h hs HE
    have HC2 : Hid (∀ w1, MAt w1 b t → Calls Tryz.prog 32 #[.pointer (some ⟨b, 0, none⟩)] w1 fun e w' => e = .returned (.tuple #[.string (str (tokT t)), .bool (decide (tokT t ≠ []))]) ∧ MAt w' b (tokR t) ∧ Kept [b] w1 w') := fun w1 h1 => token_any h1 (by omega)
    generalize tokT t = T at *
    generalize tokR t = R at *
    by_cases h0 : T = []
    · have hd : decide (T ≠ []) = false := by simp [h0]
      rw [hd] at HC2
      rw [if_pos h0]
      clear h0 hd
      go_enter Tryz.func35, Tryz.ntmps35
      go_wp2_with fail
      refine HC.out.mono ?_
      rintro e w1 ⟨rfl, hm, hk⟩
      have HC3 := hid (HC2.out w1 hm)
      have HS1 := hid (HS0.out.kept hk HAb.out)
      have HK1 := hid (HK0.out.tr hk)
      clear hm hk HC
      go_wp2_with fail
      refine HC3.out.mono ?_
      rintro e w2 ⟨rfl, hm, hk⟩
      have hs1 := HS1.out.kept hk HAb.out
      have c0 := hs1.c0
      have c1 := hs1.c1
      have fz := hs1.fz
      have HS2 := hid hs1
      have HK2 := hid (HK1.out.tr hk)
      have HM := hid hm
      clear hm hk hs1 HC3
      go_wp2_with fail
      have p1 := put2_is HS2.out ⟨#[]⟩ ⟨#[]⟩
      refine bodyPost_ret (w := put2 w2 w.heap.size ⟨#[]⟩ ⟨#[]⟩) (results35_run _ rfl rfl p1) rfl ?_
      exact ⟨put2_kept _ _ _ HK2.out HA.out, rfl, _, HM.out.put2 _ _ HAn.out, by omega⟩
    · have hd : decide (T ≠ []) = true := by simp [h0]
      rw [hd] at HC2
      rw [if_neg h0]
      clear h0 hd
      cases hs : sgn 61 R with
      | none =>
        have HS := hid hs
        have hpl := pb_len R
        clear hs
        simp only
        go_enter Tryz.func35, Tryz.ntmps35
        go_wp2_with fail
        refine HC.out.mono ?_
        rintro e w1 ⟨rfl, hm, hk⟩
        have HC3 := hid (HC2.out w1 hm)
        have HS1 := hid (HS0.out.kept hk HAb.out)
        have HK1 := hid (HK0.out.tr hk)
        clear hm hk HC
        go_wp2_with fail
        refine HC3.out.mono ?_
        rintro e w2 ⟨rfl, hm, hk⟩
        have HC4 := hid (sign_no hm 61 HS.out (by omega))
        have HS2 := hid (HS1.out.kept hk HAb.out)
        have HK2 := hid (HK1.out.tr hk)
        clear hm hk HC3
        go_wp2_with fail
        refine HC4.out.mono ?_
        rintro e w3 ⟨rfl, hm, hk⟩
        have hs1 := HS2.out.kept hk HAb.out
        have c0 := hs1.c0
        have c1 := hs1.c1
        have fz := hs1.fz
        have HS3 := hid hs1
        have HK3 := hid (HK2.out.tr hk)
        have HM := hid hm
        clear hm hk hs1 HC4
        go_wp2_with fail
        have p1 := put2_is HS3.out ⟨#[]⟩ ⟨#[]⟩
        refine bodyPost_ret (w := put2 w3 w.heap.size ⟨#[]⟩ ⟨#[]⟩) (results35_run _ rfl rfl p1) rfl ?_
        exact ⟨put2_kept _ _ _ HK3.out HA.out, rfl, _, HM.out.put2 _ _ HAn.out, by omega⟩
      | some u =>
        have HS := hid hs
        have hul := sgn_len hs
        clear hs
        simp only
        have HV : Hid (∀ w1, MAt w1 b u → Calls Tryz.prog 47 #[.pointer (some ⟨b, 0, none⟩)] w1 (VOut b u w1 (valM u))) := fun w1 h1 => value_any h1 (by omega)
        generalize valM u = o at *
        go_enter Tryz.func35, Tryz.ntmps35
        go_wp2_with fail
        refine HC.out.mono ?_
        rintro e w1 ⟨rfl, hm, hk⟩
        have HC3 := hid (HC2.out w1 hm)
        have HS1 := hid (HS0.out.kept hk HAb.out)
        have HK1 := hid (HK0.out.tr hk)
        clear hm hk HC
        go_wp2_with fail
        refine HC3.out.mono ?_
        rintro e w2 ⟨rfl, hm, hk⟩
        have HC4 := hid (sign_yes hm 61 HS.out (by omega))
        have HS2 := hid (HS1.out.kept hk HAb.out)
        have HK2 := hid (HK1.out.tr hk)
        clear hm hk HC3
        go_wp2_with fail
        refine HC4.out.mono ?_
        rintro e w3 ⟨rfl, hm, hk⟩
        have HC5 := hid (HV.out w3 hm)
        have HS3 := hid (HS2.out.kept hk HAb.out)
        have HK3 := hid (HK2.out.tr hk)
        clear hm hk HC4
        go_wp2_with fail
        refine HC5.out.mono ?_
        rintro e w4 ⟨hk, hv⟩
        have hs1 := HS3.out.kept hk HAb.out
        have HS4 := hid hs1
        have HK4 := hid (HK3.out.tr hk)
        clear hk HC5
        cases o with
        | none =>
          obtain ⟨⟨s, rfl⟩, q, hm, hq⟩ := hv
          have c0 := hs1.c0
          have c1 := hs1.c1
          have fz := hs1.fz
          have HM := hid hm
          clear hm hs1
          go_wp2_with fail
          have p1 := put2_is HS4.out ⟨#[]⟩ ⟨#[]⟩
          refine bodyPost_ret (w := put2 w4 w.heap.size ⟨#[]⟩ ⟨#[]⟩) (results35_run _ rfl rfl p1) rfl ?_
          exact ⟨put2_kept _ _ _ HK4.out HA.out, rfl, _, HM.out.put2 _ _ HAn.out, by omega⟩
        | some r =>
          obtain ⟨rfl, hm⟩ := hv
          have HM := hid hm
          have HC6 := hid (lower_any T w4 (by omega))
          clear hm hs1
          go_wp2_with fail
          refine HC6.out.mono ?_
          rintro e w5 ⟨rfl, hb5⟩
          have hs1 := HS4.out.later hb5
          have c0 := hs1.c0
          have c1 := hs1.c1
          have fz := hs1.fz
          have HS5 := hid hs1
          have HM5 := hid (HM.out.later hb5)
          have HK5 := hid (HK4.out.tr (Kept.ofBelow hb5 _))
          clear hs1 hb5 HC6
          go_wp2_with fail
          have p1 := put2_is HS5.out (str (low T)) (str r.1)
          refine bodyPost_ret (w := put2 w5 w.heap.size (str (low T)) (str r.1)) (results35_run _ rfl rfl p1) rfl ?_
          exact ⟨put2_kept _ _ _ HK5.out HA.out, rfl, HM5.out.put2 _ _ HAn.out⟩
end Go.Proofs.YtgolcmafbenjbaaGreatDoor
