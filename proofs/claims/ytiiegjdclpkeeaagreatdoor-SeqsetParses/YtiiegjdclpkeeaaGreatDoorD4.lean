/- What this text holds: the document's words for which set a text is. -/
import Derived.Test.YtiiegjdclpkeeaaGreatDoorD3
import Derived.Test.YtiiegjdclpkeeaaGreatDoorM19
namespace Go.Proofs.YtiiegjdclpkeeaaGreatDoor
open Go.RowKit
set_option linter.unusedVariables false
set_option linter.unusedSimpArgs false

theorem spl_len (c : UInt8) : ∀ (l : Bs), (splB c l).length ≤ l.length + 1 ∧ ∀ p ∈ splB c l, p.length ≤ l.length
  | [] => by simp [splB]
  | x :: l => by
    obtain ⟨h1, h2⟩ := spl_len c l
    rw [splB]
    split
    · refine ⟨by simp; omega, fun p hp => ?_⟩
      rcases List.mem_cons.1 hp with rfl | hp
      · simp
      · have := h2 p hp; simp; omega
    · rcases h : splB c l with _ | ⟨q, qs⟩
      · exact absurd h (splB_ne c l)
      · rw [h] at h1 h2
        refine ⟨by simp at *; omega, fun p hp => ?_⟩
        rcases List.mem_cons.1 hp with rfl | hp
        · have := h2 q (by simp); simp; omega
        · have := h2 p (by simp [hp]); simp; omega
theorem doc_next {ps : List Bs} {k : Nat} (hk : k < ps.length) {x : Sp} (h : docSp ps[k] = some x) (D : List Sp) : (docL (ps.drop k)).map (D ++ ·) = (docL (ps.drop (k + 1))).map ((D ++ [x]) ++ ·) := by
  rw [List.drop_eq_getElem_cons hk, docL, h]
  simp only [Option.map_map]
  congr 1
  funext z
  simp
theorem doc_stop {ps : List Bs} {k : Nat} (hk : k < ps.length) (h : docSp ps[k] = none) : docL (ps.drop k) = none := by
  rw [List.drop_eq_getElem_cons hk, docL, h]
/-- What the document's Parse answers. -/
def RParseIs (s : Bs) (w : World) (e : Ending) (w' : World) : Prop := (∃ v, e = .returned (.tuple #[v, .int .i64 (parR s).2]) ∧ GO eSp w' w.heap.size v (parR s).1) ∧ Below w.heap.size w w'
theorem rparse_end {s : Bs} {w w' : World} {n : Int} (hp : parR s = ([], n)) (hb : Below w.heap.size w w') : RParseIs s w (.returned (.tuple #[.slice none 0 0, .int .i64 n])) w' := by
  unfold RParseIs; rw [hp]; exact ⟨⟨_, rfl, GO.nil _ _ _⟩, hb⟩
theorem docSp_long {p : Bs} (h : 2 < (splB 58 p).length) : docSp p = none := by unfold docSp; rw [if_pos h]
theorem docSp_bad {p : Bs} (h : ¬ 2 < (splB 58 p).length) (h2 : numR ((splB 58 p).headD []) = -1 ∨ numR ((splB 58 p).getLastD []) = -1) : docSp p = none := by unfold docSp; rw [if_neg h, if_pos h2]
theorem docSp_ok {p : Bs} (h : ¬ 2 < (splB 58 p).length) (h2 : ¬ (numR ((splB 58 p).headD []) = -1 ∨ numR ((splB 58 p).getLastD []) = -1)) : docSp p = some (numR ((splB 58 p).headD []), numR ((splB 58 p).getLastD [])) := by unfold docSp; rw [if_neg h, if_neg h2]
theorem head_at (q : List Bs) (h : q ≠ []) : q[0]? = some (q.headD []) := by
  cases q with
  | nil => exact absurd rfl h
  | cons a q => rfl
theorem last_at (q : List Bs) (h : q ≠ []) : q[q.length - 1]? = some (q.getLastD []) := by
  rcases List.eq_nil_or_concat q with e | ⟨q', a, e⟩
  · exact absurd e h
  · rw [List.concat_eq_append] at e
    subst e
    simp
set_option maxRecDepth 100000 in
set_option maxHeartbeats 8000000 in
theorem rparse_any (s : Bs) (w : World) (hl : s.length ≤ 100000) : Calls Tryz.prog 10 #[.string (str s)] w (RParseIs s w) := by
  have C : Calls Tryz.prog 27 #[.string (str s), .int .u8 44] w fun e w' => (∃ v, e = .returned v ∧ GO eS w' w.heap.size v (splB 44 s)) ∧ Below w.heap.size w w' := rsplit_any s 44 w (by omega)
  have HPl := hid (spl_len 44 s)
  have HNone : Hid (docL (splB 44 s) = none → parR s = ([], 11)) := fun h => by unfold parR; rw [h]
  have HSome : Hid (∀ D, docL (splB 44 s) = some D → parR s = if D.any gr2 then ([], 3) else if 1000 < D.length then ([], 5) else (D, 0)) := fun D h => by unfold parR; rw [h]
  generalize splB 44 s = ps at *
  have hpl : ps.length ≤ 100001 := by have := HPl.out.1; omega
  go_enter Tryz.func10, Tryz.ntmps10
  go_wp2_with fail
  refine C.mono ?_
  clear C
  rintro e w1 ⟨⟨v1, rfl, ho1⟩, hb1⟩
  have HB1 := hid hb1
  obtain ⟨a1, c1, rfl, hg1, hc1⟩ := gl_slice ho1.gl
  have HG1 := hid hg1
  clear ho1 hb1 hg1
  go_wp2_with fail
  go_loopw [5, 6, 7] (fun v gr i wr => ∃ (k : Nat) (D : List Sp), k ≤ ps.length ∧ i = .int .i64 k ∧ D.length = k ∧ GO eSp wr w1.heap.size v D ∧ gr = .bool (D.any gr2) ∧ docL ps = (docL (ps.drop k)).map (D ++ ·) ∧ Below w1.heap.size w1 wr) (fun _ _ i _ => ps.length - (intOf i).toNat)
  case atStart => exact ⟨0, [], by omega, rfl, rfl, GO.nil _ _ _, rfl, by rw [List.drop_zero]; cases docL ps <;> rfl, Below.refl _ _⟩
  case round =>
    obtain ⟨k, D, hk, rfl, hD, ho, rfl, he, hb⟩ := hrel
    have HO := hid ho
    have HE := hid he
    have HB := hid hb
    have HD := hid hD
    clear ho he hb hD
    by_cases hlt : k < ps.length
    · have hlt' : (k : Int) < ps.length := by omega
      have hk0 : (0 : Int) ≤ k := by omega
      have hne : ps ≠ [] := by rintro rfl; simp at hlt
      obtain ⟨g, o, rfl, hga, hgz⟩ := HG1.out hne
      have hc0 := (hga.later HB.out).s k ps[k] (List.getElem?_eq_getElem hlt)
      have hpk := HPl.out.2 ps[k] (List.getElem_mem hlt)
      have HNx := hid (fun x h => @doc_next ps k hlt x h D)
      have HSt := hid (@doc_stop ps k hlt)
      clear hga hne
      generalize ps[k] = p at *
      have C2 : Calls Tryz.prog 27 #[.string (str p), .int .u8 58] wr fun e w' => (∃ v, e = .returned v ∧ GO eS w' wr.heap.size v (splB 58 p)) ∧ Below wr.heap.size wr w' := rsplit_any p 58 wr (by omega)
      have HPl2 := hid (spl_len 58 p)
      have HL := hid (@docSp_long p)
      have HBd := hid (@docSp_bad p)
      have HKk := hid (@docSp_ok p)
      have hqn := splB_ne 58 p
      have HH := hid (head_at _ hqn)
      have HLa := hid (last_at _ hqn)
      have hq1 : 1 ≤ (splB 58 p).length := List.length_pos_iff.2 hqn
      generalize splB 58 p = q at *
      have HQn := hid hqn
      clear hqn
      have hql : q.length ≤ 100001 := by have := HPl2.out.1; omega
      go_wp2_with fail
      refine C2.mono ?_
      clear C2
      rintro e w2 ⟨⟨v2, rfl, ho2⟩, hb2⟩
      have HB2 := hid (HB.out.trans (hb2.mono HB.out.size))
      have HO2 := hid (HO.out.later hb2)
      obtain ⟨a2, c2, rfl, hg2, hc2⟩ := gl_slice ho2.gl
      obtain ⟨g2, o2, rfl, hga2, hgz2⟩ := hg2 HQn.out
      have HGA2 := hid hga2
      clear ho2 hb2 hg2 hga2
      by_cases hlong : 2 < q.length
      · have d1 : (2 : Int) < q.length := by omega
        have HX := hid (HNone.out (by rw [HE.out, HSt.out (HL.out hlong)]; rfl))
        clear hlong
        go_wp2_with fail
        go_ret2
        exact rparse_end HX.out (HB1.out.trans (HB2.out.mono HB1.out.size))
      · have d1 : ¬ (2 : Int) < q.length := by omega
        have hc3 := HGA2.out.s 0 _ HH.out
        have hc4 := HGA2.out.s (q.length - 1) _ HLa.out
        have hsub : ((q.length : Int)) - 1 = ((q.length - 1 : Nat) : Int) := by omega
        have hl0 : (0 : Int) ≤ ((q.length - 1 : Nat) : Int) := by omega
        have hl1 : ((q.length - 1 : Nat) : Int) < q.length := by omega
        have hhl := HPl2.out.2 (q.headD []) (List.mem_of_getElem? HH.out)
        have hll := HPl2.out.2 (q.getLastD []) (List.mem_of_getElem? HLa.out)
        have HBd2 := hid (HBd.out hlong)
        have HKk2 := hid (HKk.out hlong)
        clear hlong HBd HKk HL
        generalize q.headD [] = hd at *
        generalize q.getLastD [] = la at *
        rw [Nat.add_zero] at hc3
        have C3 := fun W => rnumber_any hd W (by omega)
        have C4 := fun W => rnumber_any la W (by omega)
        generalize numR hd = x at *
        generalize numR la = y at *
        generalize hnn : q.length - 1 = nn at *
        have HNN := hid hnn
        clear hnn
        go_wp2_with fail
        refine (C3 _).mono ?_
        clear C3
        rintro e w3 ⟨rfl, rfl⟩
        go_wp2_with fail
        refine (C4 _).mono ?_
        clear C4
        rintro e w4 ⟨rfl, rfl⟩
        by_cases hx : x = -1
        · have e1 : (x == -1) = true := by simp [hx]
          have HX := hid (HNone.out (by rw [HE.out, HSt.out (HBd2.out (.inl hx))]; rfl))
          clear hx
          go_wp2_with fail
          go_ret2
          exact rparse_end HX.out (HB1.out.trans (HB2.out.mono HB1.out.size))
        · have e1 : (x == -1) = false := by simp [hx]
          by_cases hy : y = -1
          · have e2 : (y == -1) = true := by simp [hy]
            have HX := hid (HNone.out (by rw [HE.out, HSt.out (HBd2.out (.inr hy))]; rfl))
            clear hx hy
            go_wp2_with fail
            go_ret2
            exact rparse_end HX.out (HB1.out.trans (HB2.out.mono HB1.out.size))
          · have e2 : (y == -1) = false := by simp [hy]
            have HEx : Hid (docL ps = (docL (ps.drop (k + 1))).map ((D ++ [(x, y)]) ++ ·)) := by rw [Hid, HE.out]; exact HNx.out _ (HKk2.out (by omega))
            clear hx hy
            obtain ⟨v', w', hr', ho', hb', _⟩ := go_one eSp HO2.out HB2.out.size (by rw [HD.out]; omega) (x, y) w4.heap.size rfl
            have HR' := hid hr'
            have HO' := hid ho'
            have HB' := hid (HB2.out.trans hb')
            clear hr' ho' hb'
            obtain ⟨a0, c0, hv0⟩ := HO.out.slice (n := k) HD.out
            obtain ⟨a5, c5, hv5⟩ := HO'.out.slice (n := k + 1) (by rw [List.length_append, HD.out]; rfl)
            subst hv0 hv5
            have HAny0 : Hid ((D ++ [(x, y)]).any gr2 = (D.any gr2 || (decide (x = -2) || decide (y = -2)))) := by simp [Hid, gr2]
            generalize D.any gr2 = gb at *
            cases gb with
            | true =>
              have HAny : Hid ((D ++ [(x, y)]).any gr2 = true) := by rw [Hid, HAny0.out]; rfl
              go_wp2_with (at_builtin; refine wpList_append_run rfl rfl HR'.out ?_)
              go_roundw
              case rel => exact ⟨k + 1, D ++ [(x, y)], by omega, by go_num, by rw [List.length_append, HD.out]; rfl, HO'.out, by rw [HAny.out], HEx.out, HB'.out⟩
              case measure => simp [intOf]; omega
            | false =>
              by_cases hx2 : x = -2
              · have e3 : (x == -2) = true := by simp [hx2]
                have HAny : Hid ((D ++ [(x, y)]).any gr2 = true) := by rw [Hid, HAny0.out]; simp [hx2]
                clear hx2
                go_wp2_with (at_builtin; refine wpList_append_run rfl rfl HR'.out ?_)
                go_roundw
                case rel => exact ⟨k + 1, D ++ [(x, y)], by omega, by go_num, by rw [List.length_append, HD.out]; rfl, HO'.out, by rw [HAny.out], HEx.out, HB'.out⟩
                case measure => simp [intOf]; omega
              · have e3 : (x == -2) = false := by simp [hx2]
                by_cases hy2 : y = -2
                · have e4 : (y == -2) = true := by simp [hy2]
                  have HAny : Hid ((D ++ [(x, y)]).any gr2 = true) := by rw [Hid, HAny0.out]; simp [hy2]
                  clear hx2 hy2
                  go_wp2_with (at_builtin; refine wpList_append_run rfl rfl HR'.out ?_)
                  go_roundw
                  case rel => exact ⟨k + 1, D ++ [(x, y)], by omega, by go_num, by rw [List.length_append, HD.out]; rfl, HO'.out, by rw [HAny.out], HEx.out, HB'.out⟩
                  case measure => simp [intOf]; omega
                · have e4 : (y == -2) = false := by simp [hy2]
                  have HAny : Hid ((D ++ [(x, y)]).any gr2 = false) := by rw [Hid, HAny0.out]; simp [hx2, hy2]
                  clear hx2 hy2
                  go_wp2_with (at_builtin; refine wpList_append_run rfl rfl HR'.out ?_)
                  go_roundw
                  case rel => exact ⟨k + 1, D ++ [(x, y)], by omega, by go_num, by rw [List.length_append, HD.out]; rfl, HO'.out, by rw [HAny.out], HEx.out, HB'.out⟩
                  case measure => simp [intOf]; omega
    · have hlt' : ¬ (k : Int) < ps.length := by omega
      have HX : Hid (parR s = if D.any gr2 then ([], 3) else if 1000 < D.length then ([], 5) else (D, 0)) := HSome.out D (by rw [HE.out, List.drop_of_length_le (by omega)]; simp [docL])
      generalize D.any gr2 = gb at *
      obtain ⟨a0, c0, hv0⟩ := HO.out.slice (n := k) HD.out
      subst hv0
      cases gb with
      | true =>
        rw [if_pos rfl] at HX
        go_wp2_with fail
        go_ret2
        exact rparse_end HX.out (HB1.out.trans (HB.out.mono HB1.out.size))
      | false =>
        rw [if_neg (by simp)] at HX
        rw [HD.out] at HX
        by_cases hm : 1000 < k
        · have d1 : (1000 : Int) < k := by omega
          rw [if_pos hm] at HX
          go_wp2_with fail
          go_ret2
          exact rparse_end HX.out (HB1.out.trans (HB.out.mono HB1.out.size))
        · have d1 : ¬ (1000 : Int) < k := by omega
          rw [if_neg hm] at HX
          go_wp2_with fail
          go_ret2
          unfold RParseIs
          rw [HX.out]
          exact ⟨⟨_, rfl, HO.out.base HB1.out.size⟩, HB1.out.trans (HB.out.mono HB1.out.size)⟩
end Go.Proofs.YtiiegjdclpkeeaaGreatDoor
