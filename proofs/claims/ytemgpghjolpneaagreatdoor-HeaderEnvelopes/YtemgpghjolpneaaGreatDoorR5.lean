/- What this text holds: the document's fields. -/
import Derived.Test.YtemgpghjolpneaaGreatDoorR4
import Derived.Deep.SlicePairs
namespace Go.Proofs.YtemgpghjolpneaaGreatDoor
open Go.RowKit
set_option linter.unusedVariables false
set_option linter.unusedSimpArgs false

theorem step_append_run {ops : Array Oper} {o : Oper} {a : Act} {K : Act → World → Prop} {Q : Exit → Act → World → Prop} {E : Prop} {w w' : World} {v u y : Value} (hgd : o.guard = none) (s x : Operand) (t : TypeId)
    (ho : o.op = .call { callee := .builtin .append, args := #[s, x], argTypes := #[t, t] }) (hs : a.eval s = u) (hx : a.eval x = y) (hrun : (Builtin.append_ #[t, t] o.type #[u, y]).run Tryz.prog w = .ok v w') (h : K (a.put o.dst v) w') :
    if Region.wanted o (yielded ops a.tmps) = true then Oper.wp Tryz.prog o a w K Q else E := by
  have hw : Region.wanted o (yielded ops a.tmps) = true := by simp [Region.wanted, hgd]
  rw [if_pos hw]
  unfold Oper.wp execOp
  simp only [ho, resolve, invoke, builtin, Sem.run_bind, Sem.run_pure, Result.andThen_ok, List.map_toArray, List.map_cons, List.map_nil, hs, hx, hrun]
  exact h
theorem ents_name : ∀ (n : Nat) (s : Bs), s.length ≤ n → ∀ e ∈ ents s, e.1.length + 1 ≤ e.2.length
  | 0, s, h => by
    have : s = [] := List.eq_nil_of_length_eq_zero (by omega)
    subst this; simp [ents_nil]
  | n + 1, s, h => by
    by_cases h0 : s = []
    · subst h0; simp [ents_nil]
    · have h1 := ln_pos s h0
      have h2 := ln_le s
      have h3 := fl_pos s h0
      have h4 := fl_le s
      have hfl : fl s = ln s + more (s.drop (ln s)) := rfl
      have h5 := ents_name n (s.drop (ln s)) (by simp; omega)
      have h6 := ents_name n (s.drop (fl s)) (by simp; omega)
      rw [ents_step s h0]
      split
      · exact h5
      · rename_i hn
        intro e he
        rcases List.mem_cons.1 he with rfl | he
        · have h7 := nameB_lt _ hn
          simp at h7 ⊢
          omega
        · exact h6 e he
set_option maxRecDepth 100000 in
set_option maxHeartbeats 8000000 in
theorem rfields_of (s : Bs) (w : World) (hs : s.length ≤ 10000) (HB : Calls Tryz.prog 22 #[.string (str s)] w fun e w' => (∃ v, e = .returned v ∧ RO w' w.heap.size 53 2 v ((ents s).map fR)) ∧ Below w.heap.size w w') :
    Calls Tryz.prog 9 #[.string (str s)] w fun e w' => (∃ v, e = .returned v ∧ RO w' w.heap.size 36 2 v ((fieldsP s).map fR)) ∧ Below w.heap.size w w' := by
  have HC := hid HB
  clear HB
  rw [fields_map]
  have hLl := ents_len s
  have HIn := hid (ents_in _ s (Nat.le_refl _))
  have HNl := hid (ents_name _ s (Nat.le_refl _))
  generalize ents s = L at *
  go_enter Tryz.func9, Tryz.ntmps9
  go_wp2_with fail
  refine HC.out.mono ?_
  rintro e w1 ⟨⟨v, rfl, ho⟩, hb⟩
  obtain ⟨hw, a, c, rfl, hc, hr⟩ := ho.rl
  have HB1 := hid hb
  rw [List.length_map] at *
  clear ho hb HC
  rcases hr with hr | ⟨g, o, rfl, hr, hg⟩
  · have : L = [] := by simpa using hr
    subst this
    go_wp2_with fail
    go_loopw [4, 5] (fun v i wr => v = .slice none 0 0 ∧ i = .int .i64 0 ∧ wr = w1) (fun _ _ _ => 0)
    case atStart => exact ⟨rfl, rfl, rfl⟩
    case round =>
      obtain ⟨rfl, rfl, rfl⟩ := hrel
      go_wp2_with fail
      go_ret
      exact ⟨⟨_, rfl, RO.nil _ _ _ _⟩, HB1.out⟩
  · have HR := hid hr
    have HW1 := hid HB1.out.size
    clear hr
    go_wp2_with fail
    go_loopw [4, 5] (fun v i wr => ∃ k : Nat, k ≤ L.length ∧ i = .int .i64 k ∧ RO wr w1.heap.size 36 2 v ((L.take k).map fOf) ∧ Below w1.heap.size w1 wr) (fun _ i _ => L.length - (intOf i).toNat)
    case atStart => exact ⟨0, by omega, rfl, RO.nil _ _ _ _, Below.refl _ _⟩
    case round =>
      obtain ⟨k, hk, rfl, ho2, hb2⟩ := hrel
      have HB2 := hid hb2
      have HO2 := hid ho2
      clear ho2 hb2
      by_cases hlt : k < L.length
      · have hlt' : (k : Int) < L.length := by omega
        have HR2 := hid (HR.out.later HB2.out)
        have hrec : (L.map fR)[k]? = some (fR L[k]) := by rw [List.getElem?_map, List.getElem?_eq_getElem hlt]; rfl
        have hc0 : wr.cell? ⟨g, o + k * 2, none⟩ = some (.string (str L[k].1)) := HR2.out.rec k _ hrec 0 _ rfl
        have hc1 : wr.cell? ⟨g, o + k * 2 + 1, none⟩ = some (.string (str L[k].2)) := HR2.out.rec k _ hrec 1 _ rfl
        have HN : Hid ((L.take (k + 1)).map fOf = (L.take k).map fOf ++ [fOf L[k]]) := by rw [Hid, List.take_succ_eq_append_getElem hlt, List.map_append]; rfl
        have HF : Hid (fOf L[k] = [L[k].1, bare (L[k].2.drop (L[k].1.length + 1))]) := rfl
        have hin := HIn.out _ (List.getElem_mem hlt)
        have hnl := HNl.out _ (List.getElem_mem hlt)
        have hs1 : (0 : Int) ≤ (L[k].1.length : Int) + 1 := by omega
        have hs2 : (L[k].1.length : Int) + 1 ≤ L[k].2.length := by omega
        have hfr : fR L[k] = [L[k].1, L[k].2] := rfl
        rw [hfr] at hrec
        clear hfr
        generalize L[k].1 = x at *
        generalize L[k].2 = z at *
        have hxs := str_size x
        have hzs := str_size z
        have HBa := hid (fun W => rbare_any (z.drop (x.length + 1)) W (by rw [List.length_drop]; omega))
        have HDs : Hid ((str z).extract (x.length + 1) z.length = str (z.drop (x.length + 1))) := by
          have := drop_str z (x.length + 1)
          rw [str_size] at this
          exact this
        generalize hy : bare (z.drop (x.length + 1)) = y at *
        clear hy
        obtain ⟨v', w', hr', ho', hb'⟩ := ro_one Tryz.underlying29 Tryz.info36 rfl (by omega) (by omega) (HO2.out.drewN 1) HB2.out.size (by simp; omega) (fOf L[k]) rfl wr.heap.size rfl
        rw [← HN.out] at ho'
        rw [HF.out] at hr'
        have HR' := hid hr'
        have HO' := hid ho'
        have HB' := hid ((HB2.out.trans (drewN_below _ 1 _)).trans hb')
        have q0' : w'.cell? ⟨g, o + k * 2, none⟩ = some (.string (str x)) := (HR.out.later HB'.out).rec k _ hrec 0 _ rfl
        have q1' : w'.cell? ⟨g, o + k * 2 + 1, none⟩ = some (.string (str z)) := (HR.out.later HB'.out).rec k _ hrec 1 _ rfl
        clear hr' ho' hb' hrec HN HF
        obtain ⟨a0, c0, hv0⟩ := HO2.out.sliceN (n := k) (by simp; omega)
        obtain ⟨a5, c5, hv5⟩ := HO'.out.sliceN (n := k + 1) (by simp; omega)
        subst hv0 hv5
        have hw1x : IntKind.i64.wrap ((x.length : Int) + 1) = ((x.length + 1 : Nat) : Int) := by rw [IntKind.wrap_i64]; omega
        go_wp2_with fail
        go_region_held3 (fun w' => w'.cell? ⟨g, o + k * 2, none⟩ = some (.string (str x)) ∧ w'.cell? ⟨g, o + k * 2 + 1, none⟩ = some (.string (str z))) (first | go_keep | exact ⟨q0', q1'⟩) (first | (go_at_call 23; rw [HDs.out]; refine (HBa.out _).mono ?_; rintro e w2 ⟨rfl, rfl⟩) | (refine step_append_run (by rfl) _ _ _ (by rfl) (by rfl) (by rfl) HR'.out ?_))
        go_wp2_with fail
        go_roundw
        case rel => exact ⟨k + 1, by omega, by go_num, HO'.out, HB'.out⟩
        case measure => simp [intOf]; omega
      · have hlt' : ¬ (k : Int) < L.length := by omega
        go_wp2_with fail
        go_ret
        have e := HO2.out
        rw [List.take_of_length_le (by omega)] at e
        exact ⟨⟨_, rfl, e.base HW1.out⟩, HB1.out.trans (HB2.out.mono HW1.out)⟩
theorem rfields_any (s : Bs) (w : World) (hs : s.length ≤ 10000) :
    Calls Tryz.prog 9 #[.string (str s)] w fun e w' => (∃ v, e = .returned v ∧ RO w' w.heap.size 36 2 v ((fieldsP s).map fR)) ∧ Below w.heap.size w w' := rfields_of s w hs (rblocks_any s w hs)
end Go.Proofs.YtemgpghjolpneaaGreatDoor
