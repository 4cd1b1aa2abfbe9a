/- What this text holds: what is quoted, values, Params, and what a kind's text says: the program's calls. -/
import Derived.Test.YtgolcmafbenjbaaGreatDoorN1
namespace Go.Proofs.YtgolcmafbenjbaaGreatDoor
open Go.RowKit
set_option linter.unusedVariables false
set_option linter.unusedSimpArgs false

/-- What a reader of a value answers. -/
def VOut (b : Nat) (l : Bs) (w : World) (o : Option (Bs × Bs)) (e : Ending) (w' : World) : Prop :=
  Kept [b] w w' ∧ match o with
    | some r => e = .returned (.tuple #[.string (str r.1), .bool true]) ∧ MAt w' b r.2
    | none => (∃ s, e = .returned (.tuple #[.string s, .bool false])) ∧ ∃ q, MAt w' b q ∧ q.length ≤ l.length
theorem str_cells1 (c : UInt8) : Go.Lib.strCells (str [c]) = bu [c] := rfl
theorem said_more {w : World} {B b : Nat} {v : Value} {d q : Bs} (ho : w.ownsRow B 5 1 v d.length (bu d)) (hm : MAt w b q) (c : UInt8) (hB : B ≤ w.heap.size) (hd : d.length ≤ 100000000) :
    ∃ v' w', (Builtin.append_ #[69, 9] 69 #[v, .string (str [c])]).run Tryz.prog w = .ok v' w' ∧ w'.ownsRow B 5 1 v' (d ++ [c]).length (bu (d ++ [c])) ∧ MAt w' b q ∧ (∀ i, i < B → w'.heap[i]? = w.heap[i]?) ∧ w'.os = w.os ∧ w'.tape = w.tape ∧ w'.output = w.output ∧ w.heap.size ≤ w'.heap.size := by
  obtain ⟨i, hi, hz0, hz1, hz2⟩ := info_parts Tryz.info5
  obtain ⟨v', w', hr, ho', hg, _⟩ := Go.Lib.run_append_own_string (P := Tryz.prog) w B 69 9 69 5 i Tryz.underlying69 Tryz.underlying9 hi hz0 hz1 hz2 v d.length (bu d) ho (str [c]) (by rw [str_size]; simp [maxLen]; omega) (by rw [str_size]; simp; omega) hB
  rw [str_cells1, ← bu_append, str_size, show d.length + [c].length = (d ++ [c]).length by simp] at ho'
  refine ⟨v', w', hr, ho', ⟨?_⟩, ?_, hg.os, hg.tape, hg.output, hg.size⟩
  · rw [hg.block b hm.lt (fun e => own_ne (by decide) hm.at_ ho e.symm)]
    exact hm.at_
  · intro k hk
    refine hg.block k (by omega) (fun e => ?_)
    have := (ho.lt k e.symm).1
    omega

set_option maxRecDepth 100000 in
set_option maxHeartbeats 4000000 in
theorem quoted_any {w : World} {b : Nat} {l : Bs} (h : MAt w b l) (hl : l.length ≤ 10000000) :
    Calls Tryz.prog 62 #[.pointer (some ⟨b, 0, none⟩)] w (VOut b l w (quM l)) := by
  have HH := hid h
  have HK0 : Hid (Kept [b] w w) := Kept.refl _ _
  clear h
  go_enter Tryz.func62, Tryz.ntmps62
  go_wp2_with fail
  go_loopw [4] (fun v wr => ∃ (q dd : Bs), MAt wr b q ∧ wr.ownsRow w.heap.size 5 1 v dd.length (bu dd) ∧ Kept [b] w wr ∧ quM l = (quM q).map (fun r => (dd ++ r.1, r.2)) ∧ dd.length + q.length ≤ l.length) (fun _ wr => leftN b wr)
  case atStart => exact ⟨l, [], HH.out, ⟨by simp [bu], .inl ⟨rfl, rfl⟩⟩, HK0.out, by simp, by simp⟩
  case round =>
    obtain ⟨q, dd, hm, ho, hk, hq, hn⟩ := hrel
    have HM := hid hm
    have HO := hid ho
    have HK := hid hk
    have HQ := hid hq
    have HL : Hid (leftN b wr = q.length) := leftN_is hm.cell
    have hc := hm.cell
    have hqe := eqL q []
    clear hm ho hk hq HH HK0
    cases q with
    | nil =>
      have hqe2 : ((str []).toList == []) = true := by rw [hqe]; simp
      clear hqe
      go_wp2_with fail
      go_ret2
      rw [HQ.out]
      exact ⟨HK.out, ⟨_, rfl⟩, [], HM.out, by simp⟩
    | cons c t =>
      have hqe2 : ((str (c :: t)).toList == []) = false := by rw [hqe]; simp
      have HT := hid (take_any HM.out 1 (by simp) (by simp at hn ⊢; omega))
      rw [show (c :: t).take 1 = [c] from rfl, show (c :: t).drop 1 = t from rfl] at HT
      have q34 := eqL [c] [34]
      have q92 := eqL [c] [92]
      have HM1 := hid (HM.out.set t)
      have HO1 : Hid ((wr.setCell ⟨b, 0, none⟩ (.string (str t))).ownsRow w.heap.size 5 1 u4 dd.length (bu dd)) := ownsRow_setCell_other HO.out (own_ne (by decide) HM.out.at_ HO.out) _
      have HK1 := hid (HK.out.tr (kept_set wr b (.string (str t))))
      have HL1 : Hid (leftN b wr = t.length + 1) := HL.out
      simp only [List.length_cons] at hn
      by_cases h1 : c = 34
      · have e34 : ((str [c]).toList == [34]) = true := by rw [q34]; simp [h1]
        have HE : Hid (quM (c :: t) = some ([], t)) := by rw [Hid, h1, quM_end]
        clear q34 q92 hqe h1
        go_wp2_with fail
        refine HT.out.mono ?_
        rintro e w1 ⟨rfl, rfl⟩
        have hcv := conv_bytes HO1.out
        go_wp2_with fail
        go_ret2
        rw [HQ.out, HE.out]
        exact ⟨HK1.out, by simp, HM1.out⟩
      · have e34 : ((str [c]).toList == [34]) = false := by rw [q34]; simp [h1]
        by_cases h2 : c = 92
        · have e92 : ((str [c]).toList == [92]) = true := by rw [q92]; simp [h2]
          cases t with
          | nil =>
            have HE : Hid (quM [c] = none) := by rw [Hid, h2, quM_esc0]
            have hte : ((str []).toList == []) = true := by rw [eqL]; simp
            clear q34 q92 hqe h1 h2
            go_wp2_with fail
            refine HT.out.mono ?_
            rintro e w1 ⟨rfl, rfl⟩
            have hc1 := HM1.out.cell
            obtain ⟨v', w', hr, ho', hm', hb', ho1, ho2, ho3, hs'⟩ := said_more HO1.out HM1.out c (Nat.le_trans (Nat.le_refl _) HK1.out.size) (by omega)
            have HR := hid hr
            have HOx := hid ho'
            have HMx := hid hm'
            have HKx : Hid (Kept [b] w w') := ⟨ho1.trans HK1.out.os, ho2.trans HK1.out.tape, ho3.trans HK1.out.output, Nat.le_trans HK1.out.size hs', fun i hi hn => (hb' i hi).trans (HK1.out.block i hi hn)⟩
            have HLx : Hid (leftN b w' = 0) := leftN_is hm'.cell
            clear hr ho' hm' hb' ho1 ho2 ho3 hs'
            go_wp2_with (at_builtin; refine wpList_append_run rfl rfl HR.out ?_)
            go_roundw
            case rel => exact ⟨[], dd ++ [c], HMx.out, HOx.out, HKx.out, by rw [HQ.out, HE.out]; rfl, by simp; omega⟩
            case measure => rw [HLx.out, HL1.out]; simp
          | cons d u =>
            have HE : Hid (quM (c :: d :: u) = (quM u).map fun r => (d :: r.1, r.2)) := by rw [Hid, h2, quM_esc]
            have hte : ((str (d :: u)).toList == []) = false := by rw [eqL]; simp
            simp only [List.length_cons] at hn
            have HT2 := hid (take_any HM1.out 1 (by simp) (by simp; omega))
            rw [show (d :: u).take 1 = [d] from rfl, show (d :: u).drop 1 = u from rfl] at HT2
            clear q34 q92 hqe h1 h2
            go_wp2_with fail
            refine HT.out.mono ?_
            rintro e w1 ⟨rfl, rfl⟩
            have hc1 := HM1.out.cell
            have HM2 := hid (HM1.out.set u)
            have HO2 : Hid (((wr.setCell ⟨b, 0, none⟩ (.string (str (d :: u)))).setCell ⟨b, 0, none⟩ (.string (str u))).ownsRow w.heap.size 5 1 u4 dd.length (bu dd)) := ownsRow_setCell_other HO1.out (own_ne (by decide) HM1.out.at_ HO1.out) _
            have HK2 := hid (HK1.out.tr (kept_set _ b (.string (str u))))
            obtain ⟨v', w', hr, ho', hm', hb', ho1, ho2, ho3, hs'⟩ := said_more HO2.out HM2.out d (Nat.le_trans (Nat.le_refl _) HK2.out.size) (by omega)
            have HR := hid hr
            have HOx := hid ho'
            have HMx := hid hm'
            have HKx : Hid (Kept [b] w w') := ⟨ho1.trans HK2.out.os, ho2.trans HK2.out.tape, ho3.trans HK2.out.output, Nat.le_trans HK2.out.size hs', fun i hi hn => (hb' i hi).trans (HK2.out.block i hi hn)⟩
            have HLx : Hid (leftN b w' = u.length) := leftN_is hm'.cell
            clear hr ho' hm' hb' ho1 ho2 ho3 hs'
            go_wp2_with fail
            refine HT2.out.mono ?_
            rintro e w2 ⟨rfl, rfl⟩
            go_wp2_with (at_builtin; refine wpList_append_run rfl rfl HR.out ?_)
            go_roundw
            case rel => exact ⟨u, dd ++ [d], HMx.out, HOx.out, HKx.out, by rw [HQ.out, HE.out]; simp [Function.comp_def], by simp; omega⟩
            case measure => rw [HLx.out, HL1.out]; simp; omega
        · have e92 : ((str [c]).toList == [92]) = false := by rw [q92]; simp [h2]
          have HE : Hid (quM (c :: t) = (quM t).map fun r => (c :: r.1, r.2)) := by rw [Hid, quM_other c t h1 h2]
          clear q34 q92 hqe h1 h2
          go_wp2_with fail
          refine HT.out.mono ?_
          rintro e w1 ⟨rfl, rfl⟩
          obtain ⟨v', w', hr, ho', hm', hb', ho1, ho2, ho3, hs'⟩ := said_more HO1.out HM1.out c (Nat.le_trans (Nat.le_refl _) HK1.out.size) (by omega)
          have HR := hid hr
          have HOx := hid ho'
          have HMx := hid hm'
          have HKx : Hid (Kept [b] w w') := ⟨ho1.trans HK1.out.os, ho2.trans HK1.out.tape, ho3.trans HK1.out.output, Nat.le_trans HK1.out.size hs', fun i hi hn => (hb' i hi).trans (HK1.out.block i hi hn)⟩
          have HLx : Hid (leftN b w' = t.length) := leftN_is hm'.cell
          clear hr ho' hm' hb' ho1 ho2 ho3 hs'
          go_wp2_with (at_builtin; refine wpList_append_run rfl rfl HR.out ?_)
          go_roundw
          case rel => exact ⟨t, dd ++ [c], HMx.out, HOx.out, HKx.out, by rw [HQ.out, HE.out]; simp [Function.comp_def], by simp; omega⟩
          case measure => rw [HLx.out, HL1.out]; simp

theorem VOut.none {b : Nat} {l : Bs} {w w' : World} {s : ByteArray} {q : Bs} (hk : Kept [b] w w') (hm : MAt w' b q) (hq : q.length ≤ l.length) : VOut b l w none (.returned (.tuple #[.string s, .bool false])) w' := ⟨hk, ⟨s, rfl⟩, q, hm, hq⟩
theorem VOut.some {b : Nat} {l : Bs} {w w' : World} {r : Bs × Bs} (hk : Kept [b] w w') (hm : MAt w' b r.2) : VOut b l w (some r) (.returned (.tuple #[.string (str r.1), .bool true])) w' := ⟨hk, rfl, hm⟩

def tokO (T R : Bs) : Option (Bs × Bs) := if T = [] then none else some (T, R)
def hedO (T t r : Bs) : Option (Bs × Bs × Bs) := if t = [] then none else some (T, t, r)
theorem VOut.tok {b : Nat} {l : Bs} {w w' : World} {T R : Bs} (hk : Kept [b] w w') (hm : MAt w' b R) (hq : R.length ≤ l.length) : VOut b l w (tokO T R) (.returned (.tuple #[.string (str T), .bool (!decide (T = []))])) w' := by
  unfold tokO
  by_cases h0 : T = []
  · rw [if_pos h0, show (!decide (T = [])) = false by simp [h0]]
    exact VOut.none hk hm hq
  · rw [if_neg h0, show (!decide (T = [])) = true by simp [h0]]
    exact VOut.some (r := (T, R)) hk hm
set_option maxRecDepth 100000 in
set_option maxHeartbeats 2000000 in
theorem value_any {w : World} {b : Nat} {l : Bs} (h : MAt w b l) (hl : l.length ≤ 10000000) :
    Calls Tryz.prog 47 #[.pointer (some ⟨b, 0, none⟩)] w (VOut b l w (valM l)) := by
  cases hs : sgn 34 l with
  | some t =>
    have HC := hid (sign_yes h 34 hs hl)
    have hlt := sgn_len hs
    have HV : Hid (valM l = quM t) := by unfold valM; rw [hs]; rfl
    rw [HV.out]
    clear h hs HV
    go_enter Tryz.func47, Tryz.ntmps47
    go_wp2_with fail
    refine HC.out.mono ?_
    rintro e w1 ⟨rfl, hm, hk⟩
    have HQ := hid (quoted_any hm (by omega))
    have HK := hid hk
    clear hm hk
    generalize quM t = o at *
    go_wp2_with fail
    refine HQ.out.mono ?_
    rintro e w2 ⟨hk2, hv⟩
    have HK2 := hid (HK.out.tr hk2)
    clear hk2 HQ
    cases o with
    | none =>
      obtain ⟨⟨s, rfl⟩, q, hm, hq⟩ := hv
      have HM := hid hm
      clear hm
      go_wp2_with fail
      go_ret2
      exact VOut.none HK2.out HM.out (by omega)
    | some r =>
      obtain ⟨rfl, hm⟩ := hv
      have HM := hid hm
      clear hm
      go_wp2_with fail
      go_ret2
      exact VOut.some HK2.out HM.out
  | none =>
    have HC := hid (sign_no h 34 hs hl)
    have hpl := pb_len l
    have HV : Hid (valM l = tokO (tokT l) (tokR l)) := by unfold valM; rw [hs]; rfl
    have HLR := hid (tokR_len l)
    rw [HV.out]
    clear h hs HV
    go_enter Tryz.func47, Tryz.ntmps47
    go_wp2_with fail
    refine HC.out.mono ?_
    rintro e w1 ⟨rfl, hm, hk⟩
    have C := token_any hm (by omega)
    rw [tokT_pb, tokR_pb] at C
    have HT := hid C
    have HK := hid hk
    clear hm hk C
    go_wp2_with fail
    refine HT.out.mono ?_
    rintro e w2 ⟨rfl, hm, hk2⟩
    have HM := hid hm
    have HK2 := hid (HK.out.tr hk2)
    clear hm hk2 HT
    go_wp2_with fail
    go_ret2
    simp
    exact VOut.tok HK2.out HM.out HLR.out

/-- The kind's three things. -/
def HOut (b : Nat) (l : Bs) (w : World) (o : Option (Bs × Bs × Bs)) (e : Ending) (w' : World) : Prop :=
  Kept [b] w w' ∧ match o with
    | some r => e = .returned (.tuple #[.string (str r.1), .string (str r.2.1), .bool true]) ∧ MAt w' b r.2.2
    | none => ∃ s t, e = .returned (.tuple #[.string s, .string t, .bool false])
theorem HOut.none {b : Nat} {l : Bs} {w w' : World} {s t : ByteArray} (hk : Kept [b] w w') : HOut b l w none (.returned (.tuple #[.string s, .string t, .bool false])) w' := ⟨hk, s, t, rfl⟩
theorem HOut.some {b : Nat} {l : Bs} {w w' : World} {r : Bs × Bs × Bs} (hk : Kept [b] w w') (hm : MAt w' b r.2.2) : HOut b l w (some r) (.returned (.tuple #[.string (str r.1), .string (str r.2.1), .bool true])) w' := ⟨hk, rfl, hm⟩
theorem HOut.tok {b : Nat} {l : Bs} {w w' : World} {T t r : Bs} (hk : Kept [b] w w') (hm : MAt w' b r) : HOut b l w (hedO T t r) (.returned (.tuple #[.string (str T), .string (str t), .bool (!decide (t = []))])) w' := by
  unfold hedO
  by_cases h0 : t = []
  · rw [if_pos h0, show (!decide (t = [])) = false by simp [h0]]
    exact HOut.none hk
  · rw [if_neg h0, show (!decide (t = [])) = true by simp [h0]]
    exact HOut.some (r := (T, t, r)) hk hm
set_option maxRecDepth 100000 in
set_option maxHeartbeats 2000000 in
theorem head_any {w : World} {b : Nat} {l : Bs} (h : MAt w b l) (hl : l.length ≤ 10000000) :
    Calls Tryz.prog 19 #[.pointer (some ⟨b, 0, none⟩)] w (HOut b l w (headM l)) := by
  have HC := hid (token_any h hl)
  have hrl := tokR_len l
  have HE : Hid (headM l = if tokT l = [] then none else match sgn 47 (tokR l) with
    | none => none
    | some t => hedO (tokT l) (tokT t) (tokR t)) := rfl
  rw [HE.out]
  clear h HE
  generalize tokT l = T at *
  generalize tokR l = R at *
  by_cases h0 : T = []
  · have hd : decide (T ≠ []) = false := by simp [h0]
    rw [hd] at HC
    rw [if_pos h0]
    clear h0 hd
    go_enter Tryz.func19, Tryz.ntmps19
    go_wp2_with fail
    refine HC.out.mono ?_
    rintro e w1 ⟨rfl, hm, hk⟩
    have HK := hid hk
    clear hm hk HC
    go_wp2_with fail
    go_ret3
    exact HOut.none HK.out
  · have hd : decide (T ≠ []) = true := by simp [h0]
    rw [hd] at HC
    rw [if_neg h0]
    clear h0 hd
    cases hs : sgn 47 R with
    | none =>
      have HS := hid hs
      clear hs
      go_enter Tryz.func19, Tryz.ntmps19
      go_wp2_with fail
      refine HC.out.mono ?_
      rintro e w1 ⟨rfl, hm, hk⟩
      have HK := hid hk
      have HC2 := hid (sign_no hm 47 HS.out (by omega))
      clear hm hk HC
      go_wp2_with fail
      refine HC2.out.mono ?_
      rintro e w2 ⟨rfl, hm, hk⟩
      have HK2 := hid (HK.out.tr hk)
      clear hm hk
      go_wp2_with fail
      go_ret3
      exact HOut.none HK2.out
    | some t =>
      have HS := hid hs
      have hlt := sgn_len hs
      clear hs
      simp only
      go_enter Tryz.func19, Tryz.ntmps19
      go_wp2_with fail
      refine HC.out.mono ?_
      rintro e w1 ⟨rfl, hm, hk⟩
      have HK := hid hk
      have HC2 := hid (sign_yes hm 47 HS.out (by omega))
      clear hm hk HC
      go_wp2_with fail
      refine HC2.out.mono ?_
      rintro e w2 ⟨rfl, hm, hk⟩
      have HK2 := hid (HK.out.tr hk)
      have HC3 := hid (token_any hm (by omega))
      clear hm hk HC2
      go_wp2_with fail
      refine HC3.out.mono ?_
      rintro e w3 ⟨rfl, hm, hk⟩
      have HK3 := hid (HK2.out.tr hk)
      have HM := hid hm
      clear hm hk HC3
      go_wp2_with fail
      go_ret3
      simp
      exact HOut.tok HK3.out HM.out
end Go.Proofs.YtgolcmafbenjbaaGreatDoor
