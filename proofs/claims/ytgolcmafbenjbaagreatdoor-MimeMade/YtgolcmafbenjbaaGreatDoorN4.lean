/- What this text holds: Params one behind the other, and what a kind's text says: the program's calls. -/
import Derived.Test.YtgolcmafbenjbaaGreatDoorN3
namespace Go.Proofs.YtgolcmafbenjbaaGreatDoor
open Go.RowKit
set_option linter.unusedVariables false
set_option linter.unusedSimpArgs false

theorem Tryz.info44 : (Tryz.prog.info? 44).map (fun i => (i.zero, i.size, i.bytes)) = some (some (.agg #[.string ⟨#[]⟩, .string ⟨#[]⟩]), 2, 32) := by kernel_rfl
def pR (p : Bs × Bs) : List Bs := [p.1, p.2]
theorem pR_map (p : Bs × Bs) : (pR p).map (fun q => Value.string (str q)) = [.string (str p.1), .string (str p.2)] := rfl
/-- What comes behind: the one at hand, and those of the rest. -/
def tailL (is : Bool) (p : Bs × Bs) (q : Bs) : List (Bs × Bs) := match is with
  | true => p :: parsM q
  | false => []
def boolN : Value → Nat
  | .bool true => 1
  | _ => 0
/-- A Param, or none, and what is left. -/
def ParNow (b : Nat) (l : Bs) (w : World) (e : Ending) (w' : World) : Prop :=
  ∃ (p : Bs × Bs) (is : Bool) (q : Bs), e = .returned (.tuple #[.agg #[.string (str p.1), .string (str p.2)], .bool is]) ∧ MAt w' b q ∧ Kept [b] w w' ∧ q.length + boolN (.bool is) ≤ l.length ∧ parsM l = tailL is p q
theorem param_now {w : World} {b : Nat} {l : Bs} (h : MAt w b l) (hl : l.length ≤ 10000000) : Calls Tryz.prog 35 #[.pointer (some ⟨b, 0, none⟩)] w (ParNow b l w) := by
  refine (param_any h hl).mono ?_
  rintro e w' ⟨hk, hv⟩
  cases ho : parM l with
  | none =>
    rw [ho] at hv
    obtain ⟨rfl, q, hm, hq⟩ := hv
    exact ⟨([], []), false, q, rfl, hm, hk, by simp [boolN]; exact hq, pars_none ho⟩
  | some r =>
    rw [ho] at hv
    obtain ⟨rfl, hm⟩ := hv
    have := parM_len ho
    exact ⟨r.1, true, r.2, rfl, hm, hk, by simp [boolN]; omega, pars_some ho⟩
theorem RO.kept {S : List Nat} {w w' : World} {B T k : Nat} {v : Value} {l : List (List Bs)} (h : RO w B T k v l) (hk : Kept S w w') (hn : ∀ g, v.ownBlock = some g → g ∉ S) : RO w' B T k v l :=
  ⟨h.1, ownsRow_block h.2 (fun g hg => hk.block g (World.ownsRow.lt h.2 g hg).2 (hn g hg))⟩
theorem put2_self (w : World) (A : Nat) (x y : ByteArray) : Kept [A] w (put2 w A x y) := (Kept.setCell [A] w ⟨A, 0, none⟩ _ (by simp)).trans (Kept.setCell [A] _ ⟨A, 1, none⟩ _ (by simp)) (fun i _ hi => hi)
/-- One Param more. -/
theorem par_more {w0 w : World} {A b : Nat} {q : Bs} {v : Value} {L : List (Bs × Bs)} {p : Bs × Bs} (ho : RO w w0.heap.size 44 2 v (L.map pR)) (hs : S2 w A (str p.1) (str p.2)) (hA : v.ownBlock ≠ some A) (hm : MAt w b q) (hb : b < w0.heap.size) (hk : Kept [b] w0 w) (hL : L.length ≤ 10000000) :
    ∃ v' w', (Builtin.append_ #[23, 23] 23 #[v, .slice (some ⟨w.heap.size, 0, none⟩) 1 1]).run Tryz.prog (w.alloc (.cells #[.string (str p.1), .string (str p.2)] 44)) = .ok v' w' ∧ RO w' w0.heap.size 44 2 v' ((L ++ [p]).map pR) ∧ S2 w' A (str p.1) (str p.2) ∧ MAt w' b q ∧ Kept [b] w0 w' := by
  have hb1 : Below w.heap.size w (w.alloc (.cells #[.string (str p.1), .string (str p.2)] 44)) := (Below.refl _ _).alloc (Nat.le_refl _) _
  have hra := ra_one w (pR p) 44
  rw [pR_map] at hra
  have hBw := hk.size
  obtain ⟨v', w', h1, h2, h3, h4⟩ := ro_more Tryz.underlying23 Tryz.info44 rfl (by omega) (by omega) (ho.later hb1) (Nat.le_trans hBw hb1.size) hra (by simpa using hL) (by simp) (by simp)
  have hvb : v.ownBlock ≠ some b := fun e => by have := (World.ownsRow.lt ho.2 b e).1; omega
  have hsA := hs.later hb1
  have hmA := hm.later hb1
  refine ⟨v', w', h1, ?_, ?_, ?_, ?_⟩
  · rw [List.map_append, List.map_singleton]; exact h2
  · exact (h4.block A (lt_of_some hsA) (fun e => hA e.symm)).trans hsA
  · exact ⟨(h4.block b hmA.lt (fun e => hvb e.symm)).trans hmA.at_⟩
  · have k1 := hk.trans (Kept.ofBelow hb1 ([] : List Nat)) (fun i _ hi => by simp at hi)
    refine ⟨h4.os.trans k1.os, h4.tape.trans k1.tape, h4.output.trans k1.output, Nat.le_trans k1.size h4.size, fun i hi hn => ?_⟩
    refine (h4.block i (by have := k1.size; omega) (fun e => ?_)).trans (k1.block i hi hn)
    have := (World.ownsRow.lt ho.2 i e.symm).1
    omega
theorem S2.rne {w : World} {A B T k : Nat} {v : Value} {l : List (List Bs)} (ho : RO w B T k v l) (hA : w.heap.size ≤ A) : v.ownBlock ≠ some A := fun e => by have := (World.ownsRow.lt ho.2 A e).2; omega

set_option maxRecDepth 100000 in
set_option maxHeartbeats 4000000 in
theorem params_any {w : World} {b : Nat} {l : Bs} (h : MAt w b l) (hl : l.length ≤ 1000000) :
    Calls Tryz.prog 21 #[.pointer (some ⟨b, 0, none⟩)] w fun e w' => (∃ v, e = .returned v ∧ RO w' w.heap.size 44 2 v ((parsM l).map pR)) ∧ Kept [b] w w' := by
  have HC := hid (param_now h (by omega))
  have HBl := hid h.lt
  have HLn := hid (pars_len _ l (Nat.le_refl _))
  clear h
  go_enter Tryz.func21, Tryz.ntmps21
  go_wp2_with fail
  refine HC.out.mono ?_
  rintro e w1 ⟨p0, is0, q0, rfl, hm, hk, hq, hp⟩
  have HS0 := hid (s2_new w1 (str p0.1) (str p0.2))
  have HM0 := hid (hm.later ((Below.refl _ w1).alloc (Nat.le_refl _) (.cells #[.string (str p0.1), .string (str p0.2)] 44)))
  have HK0 := hid (hk.tr (Kept.alloc [b] w1 (.cells #[.string (str p0.1), .string (str p0.2)] 44)))
  have HP0 := hid hp
  have HQ0 := hid hq
  have HA0 := hid hk.size
  clear hm hk hp hq HC
  go_wp2_with fail
  go_loopw [3, 4, 5] (fun v a i wr => ∃ (done : List (Bs × Bs)) (A : Nat) (p : Bs × Bs) (is : Bool) (q : Bs), a = .pointer (some ⟨A, 0, none⟩) ∧ i = .bool is ∧ RO wr w.heap.size 44 2 v (done.map pR) ∧ S2 wr A (str p.1) (str p.2) ∧ v.ownBlock ≠ some A ∧ w.heap.size ≤ A ∧ MAt wr b q ∧ Kept [b] w wr ∧ q.length + boolN (.bool is) ≤ l.length ∧ parsM l = done ++ tailL is p q) (fun _ _ i wr => leftN b wr + boolN i)
  case atStart => exact ⟨[], w1.heap.size, p0, is0, q0, rfl, rfl, RO.nil _ _ _ _, HS0.out, by simp [Value.ownBlock], HA0.out, HM0.out, HK0.out, HQ0.out, by rw [HP0.out]; rfl⟩
  case round =>
    obtain ⟨done, A, p, is, q, rfl, rfl, ho, hs, hne, hA, hm, hk, hq, hp⟩ := hrel
    have HO := hid ho
    have HS := hid hs
    have HNe := hid hne
    have HA := hid hA
    have HM := hid hm
    have HK := hid hk
    have HP := hid hp
    clear HS0 HM0 HK0 HP0 HQ0 HA0
    cases is with
    | false =>
      clear ho hs hne hA hm hk hp
      go_wp2_with fail
      go_ret
      have e := HP.out
      simp only [tailL, List.append_nil] at e
      rw [e]
      exact ⟨⟨_, rfl, HO.out⟩, HK.out⟩
    | true =>
      have hdl : done.length ≤ 1000000 := by have h1 := HLn.out; rw [hp] at h1; simp at h1; omega
      obtain ⟨v', w', hr, ho', hs', hm', hk'⟩ := par_more ho hs hne hm HBl.out hk (by omega)
      have c0 := hs.c0
      have c1 := hs.c1
      have d0 := hs'.c0
      have d1 := hs'.c1
      have HR := hid hr
      have HO' := hid ho'
      have HM' := hid (hm'.later ((Below.refl _ w').alloc (Nat.le_refl _) (.cells #[.string (str p.1), .string (str p.2)] 44)))
      have HK' := hid (hk'.tr (Kept.alloc [b] w' (.cells #[.string (str p.1), .string (str p.2)] 44)))
      have HA' := hid hk'.size
      have HO2 := hid (ho'.later ((Below.refl _ w').alloc (Nat.le_refl _) (.cells #[.string (str p.1), .string (str p.2)] 44)))
      have HSn := hid (s2_new w' (str p.1) (str p.2))
      have HCp := hid (param_now HM'.out (by simp [boolN] at hq; omega))
      have HLq : Hid (leftN b wr = q.length) := leftN_is hm.cell
      obtain ⟨a0, c00, hv0⟩ := HO.out.sliceN (n := done.length) (by simp)
      obtain ⟨a5, c5, hv5⟩ := HO'.out.sliceN (n := done.length + 1) (by simp)
      subst hv0 hv5
      have HNn := hid (S2.rne HO'.out (Nat.le_refl w'.heap.size))
      have HPq : Hid (parsM l = (done ++ [p]) ++ parsM q) := by rw [Hid, hp]; simp [tailL]
      have HAb : Hid (w'.heap.size ∉ [b]) := by have := HBl.out; have := HA'.out; rw [Hid, List.mem_singleton]; omega
      clear ho hs hne hA hm hk hp hr ho' hs' hm' hk'
      go_wp2_with (at_builtin; refine wpList_append_run rfl rfl HR.out ?_)
      refine HCp.out.mono ?_
      rintro e w2 ⟨p2, is2, q2, rfl, hm2, hk2, hq2, hp2⟩
      have hs2 := HSn.out.kept hk2 HAb.out
      have e0 := hs2.c0
      have e1 := hs2.c1
      have fz := hs2.fz
      have HS2 := hid hs2
      have HM2 := hid hm2
      have HK2 := hid (HK'.out.tr hk2)
      have HO3 := hid (HO2.out.kept hk2 (fun g hg => by have h1 := (World.ownsRow.lt HO'.out.2 g hg).1; have h2 := HBl.out; rw [List.mem_singleton]; omega))
      have HQ2 := hid hq2
      have HP2 := hid hp2
      clear hs2 hm2 hk2 hq2 hp2 HCp
      go_wp2_with fail
      go_roundw
      case rel =>
        refine ⟨done ++ [p], w'.heap.size, p2, is2, q2, rfl, rfl, ?_, put2_is HS2.out _ _, HNn.out, HA'.out, HM2.out.put2 _ _ (by have := HAb.out; rw [List.mem_singleton] at this; exact this), put2_kept _ _ _ HK2.out HA'.out, ?_, by rw [HPq.out, HP2.out]⟩
        · refine HO3.out.kept (S := [w'.heap.size]) (put2_self _ _ _ _) ?_
          intro g hg
          rw [List.mem_singleton]
          exact fun e => HNn.out (e ▸ hg)
        · have := HQ2.out; simp [boolN] at hq this ⊢; omega
      case measure =>
        have h1 := (HM2.out.put2 (str p2.1) (str p2.2) (by have := HAb.out; rw [List.mem_singleton] at this; exact this) : MAt (put2 w2 w'.heap.size (str p2.1) (str p2.2)) b q2)
        have h2 : leftN b (put2 w2 w'.heap.size (str p2.1) (str p2.2)) = q2.length := leftN_is h1.cell
        have h3 := HQ2.out
        rw [HLq.out]
        unfold put2 at h2
        rw [h2]
        simp [boolN] at hq h3 ⊢
        omega

/-- The block of a list. -/
def blk : Value → Option Nat
  | .slice (some a) _ _ => some a.block
  | _ => none
theorem RO.blk {w : World} {B T k : Nat} {v : Value} {l : List (List Bs)} (h : RO w B T k v l) : ∀ g, blk v = some g → B ≤ g ∧ g < w.heap.size := by
  intro g hg
  rcases h.2.2 with ⟨rfl, _⟩ | ⟨g', cap, cur, rfl, hb, hx, _⟩
  · simp [Go.Proofs.YtgolcmafbenjbaaGreatDoor.blk] at hg
  · simp [Go.Proofs.YtgolcmafbenjbaaGreatDoor.blk] at hg
    have := lt_of_some hx
    omega
theorem RL.keptB {A k : Nat} {w w' : World} {v : Value} {l : List (List Bs)} (h : RL w v k l) (hk : Kept [A] w w') (hn : ∀ g, blk v = some g → g ≠ A) : RL w' v k l := by
  obtain ⟨hw, a, c, rfl, hc, h⟩ := h
  refine ⟨hw, a, c, rfl, hc, ?_⟩
  rcases h with h | ⟨g, o, rfl, h, hg⟩
  · exact .inl h
  · have hgA : g ≠ A := hn g rfl
    refine .inr ⟨g, o, rfl, fun j i r p h1 h2 => ?_, Nat.lt_of_lt_of_le hg hk.size⟩
    exact hk.cell (h j i r p h1 h2) (by simpa using hgA)
/-- What a kind's text says. -/
def KindIs (s : Bs) (w : World) (e : Ending) (w' : World) : Prop :=
  (∃ v, e = .returned (.tuple #[.string (str (kindM s).1), .string (str (kindM s).2.1), v]) ∧ RL w' v 2 ((kindM s).2.2.map pR) ∧ ∀ g, blk v = some g → w.heap.size ≤ g ∧ g < w'.heap.size) ∧ Below w.heap.size w w'
set_option maxRecDepth 100000 in
set_option maxHeartbeats 4000000 in
theorem kind_any (s : Bs) (w : World) (hs : s.length ≤ 1000000) : Calls Tryz.prog 9 #[.string (str s)] w (KindIs s w) := by
  have HM : Hid (MAt (w.alloc (.cells #[.string (str s)] 46)) w.heap.size s) := ⟨heap_alloc_new _ _⟩
  have HB0 : Hid (Below w.heap.size w (w.alloc (.cells #[.string (str s)] 46))) := (Below.refl _ _).alloc (Nat.le_refl _) _
  have HC := hid (head_any HM.out (by omega))
  have HKd : Hid (kindM s = match headM s with
    | none => (wText, wPlain, [])
    | some r => (low r.1, low r.2.1, parsM r.2.2)) := rfl
  have hr1 := tokT_len s
  have hhl : ∀ r, headM s = some r → r.1.length ≤ s.length ∧ r.2.1.length ≤ s.length ∧ r.2.2.length ≤ s.length := by
    intro r hr
    unfold headM at hr
    split at hr
    · cases hr
    · split at hr
      · cases hr
      · rename_i t ht
        have h1 := sgn_len ht
        have h2 := tokR_len s
        have h3 := tokT_len t
        have h4 := tokR_len t
        split at hr
        · cases hr
        · cases hr
          exact ⟨hr1, by show (tokT t).length ≤ _; omega, by show (tokR t).length ≤ _; omega⟩
  cases ho : headM s with
  | none =>
    rw [ho] at HC HKd
    have HKd2 : Hid (kindM s = (wText, wPlain, [])) := HKd.out
    clear HKd ho hhl hr1
    go_enter Tryz.func9, Tryz.ntmps9
    go_wp2_with fail
    refine HC.out.mono ?_
    rintro e w1 ⟨hk, x, y, rfl⟩
    have HB := hid (below_kept HB0.out hk (by simp) HB0.out.size)
    clear hk HC
    go_wp2_with fail
    go_ret3
    refine ⟨?_, HB.out⟩
    rw [HKd2.out]
    exact ⟨_, rfl, (RO.nil _ 0 44 2).rl, fun g hg => by simp [blk] at hg⟩
  | some r =>
    obtain ⟨l1, l2, l3⟩ := hhl r ho
    rw [ho] at HC HKd
    have HKd2 : Hid (kindM s = (low r.1, low r.2.1, parsM r.2.2)) := HKd.out
    clear HKd ho hhl hr1
    go_enter Tryz.func9, Tryz.ntmps9
    go_wp2_with fail
    refine HC.out.mono ?_
    rintro e w1 ⟨hk, rfl, hm⟩
    have HB := hid (below_kept HB0.out hk (by simp) HB0.out.size)
    have HM1 := hid hm
    have HC2 := hid (lower_any r.1 w1 (by omega))
    clear hk hm HC
    go_wp2_with fail
    refine HC2.out.mono ?_
    rintro e w2 ⟨rfl, hb2⟩
    have HB2 := hid (HB.out.trans (hb2.mono HB.out.size))
    have HM2 := hid (HM1.out.later hb2)
    have HC3 := hid (lower_any r.2.1 w2 (by omega))
    clear hb2 HC2
    go_wp2_with fail
    refine HC3.out.mono ?_
    rintro e w3 ⟨rfl, hb3⟩
    have HB3 := hid (HB2.out.trans (hb3.mono HB2.out.size))
    have HM3 := hid (HM2.out.later hb3)
    have HC4 := hid (params_any HM3.out (by omega))
    clear hb3 HC3
    go_wp2_with fail
    refine HC4.out.mono ?_
    rintro e w4 ⟨⟨v, rfl, ho4⟩, hk4⟩
    have HB4 := hid (below_kept HB3.out hk4 (by simp) HB3.out.size)
    have HO4 := hid ho4.rl
    have HBk := hid ho4.blk
    have HW3 := hid HB3.out.size
    clear hk4 ho4 HC4
    go_wp2_with fail
    go_ret3
    refine ⟨?_, HB4.out⟩
    rw [HKd2.out]
    exact ⟨_, rfl, HO4.out, fun g hg => ⟨Nat.le_trans HW3.out (HBk.out g hg).1, (HBk.out g hg).2⟩⟩
end Go.Proofs.YtgolcmafbenjbaaGreatDoor
