/- What this text holds: the document's telling of lines. -/
import Derived.Test.YtpjcpdnolcehcaaGreatDoorM43
import Derived.Test.YtpjcpdnolcehcaaGreatDoorM45
import Derived.Test.YtpjcpdnolcehcaaGreatDoorM37
namespace Go.Proofs.YtpjcpdnolcehcaaGreatDoor
open Go.RowKit
set_option linter.unusedVariables false
set_option linter.unusedSimpArgs false

theorem line_ref {l : Ln} (h : lineB l = true) : lineT l = l.tag ++ [32] ++ (if l.st = [] then [] else l.st ++ [32]) ++ codeP l.code ++ l.x ++ toldL l.vals ++ [13, 10] ∧ rightsB 0 l.code = true ∧ rightsB 0 l.vals = true := by
  obtain ⟨tag, vals, st, code, x⟩ := l
  unfold lineB at h
  simp only [Bool.and_eq_true] at h
  obtain ⟨_, h3⟩ := h
  unfold lineT
  simp only
  split at h3
  · rename_i ht
    simp only [Bool.and_eq_true, beq_iff_eq, List.isEmpty_iff] at h3
    obtain ⟨⟨rfl, rfl⟩, rfl⟩ := h3
    rw [if_pos ht]
    exact ⟨by simp [codeP, toldL, toldS], rfl, rfl⟩
  · rename_i ht
    rw [if_neg ht]
    split at h3
    · rename_i hs
      simp only [Bool.and_eq_true, List.isEmpty_iff] at h3
      obtain ⟨⟨_, rfl⟩, hr⟩ := h3
      rw [if_pos hs, if_neg hs]
      exact ⟨by simp [toldL, toldS], hr, rfl⟩
    · rename_i hs
      have hs0 : st = [] := by simpa using hs
      subst hs0
      simp only [Bool.and_eq_true, List.isEmpty_iff, beq_iff_eq] at h3
      obtain ⟨⟨rfl, rfl⟩, hr⟩ := h3
      rw [if_neg (by simp), if_pos rfl]
      refine ⟨by simp [codeP], rfl, ?_⟩
      cases vals with
      | nil => rfl
      | cons v vs =>
        unfold someB at hr
        simp only [Bool.and_eq_true] at hr
        exact hr.2
set_option maxRecDepth 100000 in
set_option maxHeartbeats 8000000 in
theorem print_r (w : World) (N : Nat → Prop) (u : Value) (ls : List Ln) (hu : LsAt w N u ls) (hn : ∀ l ∈ ls, NumN l) (hkl : ls.length ≤ 1000000000) (hl : (ls.flatMap lineT).length ≤ 1000000000) : Calls Tryz.prog 14 #[u] w (St (printP ls) w) := by
  obtain ⟨rows, hv, rfl, hrow⟩ := hu
  obtain ⟨a, c, rfl, hc⟩ := hv.slice
  have HVs := hid hv
  have HRow := hid hrow
  have HN := hid hn
  have HL := hid hl
  clear hv hrow hn hl
  simp only [List.length_map] at hc hkl ⊢
  have hl0 := fldL0
  have hl1 := fldL1
  have hl2 := fldL2
  have hl3 := fldL3
  have hl4 := fldL4
  go_enter Tryz.func14, Tryz.ntmps14
  go_wp2_with fail
  go_loopw [3, 4] (fun s i wr => ∃ k : Nat, k ≤ rows.length ∧ i = .int .i64 k ∧ s = .string (str (((rows.map (·.2)).take k).flatMap lineT)) ∧ Below w.heap.size w wr ∧ (∀ p ∈ rows.take k, lineB p.2 = true)) (fun _ i _ => rows.length - (intOf i).toNat)
  case atStart => exact ⟨0, by omega, rfl, rfl, Below.refl _ _, by simp⟩
  case round =>
    obtain ⟨k, hk, rfl, rfl, h2, h3⟩ := hrel
    have H2 := hid h2
    have H3 := hid h3
    clear h2 h3
    by_cases hlt : k < rows.length
    · have hlt' : (k : Int) < rows.length := by omega
      have hne : rows.map (·.1) ≠ [] := by intro e; have := congrArg List.length e; simp at this; subst this; simp at hlt
      obtain ⟨g, o, c', he, hc', hga, hN, hg⟩ := (HVs.out.kept (Kept.ofBelow H2.out []) (by simp)).at_ hne
      simp only [Value.slice.injEq] at he
      obtain ⟨rfl, hlen, rfl⟩ := he
      obtain ⟨p, hpk⟩ : ∃ p, rows[k] = p := ⟨_, rfl⟩
      have hp := HRow.out rows[k] (List.getElem_mem hlt)
      have hc5 := hga.l k rows[k].1 (by rw [List.getElem?_map, List.getElem?_eq_getElem hlt]; rfl)
      rw [hpk] at hp hc5
      have hxm : p.2 ∈ rows.map (·.2) := by rw [← hpk]; exact List.mem_map_of_mem (List.getElem_mem hlt)
      have hmk : (rows.map (·.2))[k]'(by simpa using hlt) = p.2 := by simp [hpk]
      have hnx := flatT_next (rows.map (·.2)) k (by simpa using hlt)
      rw [hmk] at hnx
      have hle := flatT_le (rows.map (·.2)) (k + 1)
      rw [hnx, List.length_append] at hle
      have hyes : lineB p.2 = true → ∀ q ∈ rows.take (k + 1), lineB q.2 = true := by
        intro hh q hq
        rw [List.take_succ_eq_append_getElem hlt, List.mem_append] at hq
        rcases hq with hq | hq
        · exact H3.out q hq
        · simp at hq; rw [hq, hpk]; exact hh
      obtain ⟨⟨rt, ⟨va, vb, vc⟩, rs, ⟨ca, cb, cc⟩, rx⟩, x⟩ := p
      have hpr := hp.later H2.out
      obtain ⟨et, es, ex, hvs, hcs⟩ := id hpr
      simp only [Sl.v] at et es ex hvs hcs
      subst et es ex
      obtain ⟨_, _, he, _⟩ := hvs.slice
      simp only [Value.slice.injEq] at he
      obtain ⟨rfl, rfl, rfl⟩ := he
      obtain ⟨_, _, he, _⟩ := hcs.slice
      simp only [Value.slice.injEq] at he
      obtain ⟨rfl, rfl, rfl⟩ := he
      obtain ⟨c0, c1, c2, c3, c4⟩ := hc5
      simp only [Sl.v] at c1 c3 hxm hnx hle hyes
      have CR := right_r wr N ⟨x.tag, (va, x.vals.length, vc), x.st, (ca, x.code.length, cc), x.x⟩ x hpr (HN.out x hxm)
      rw [lV_mk] at CR
      have HXm := hid hxm
      have HY := hid hyes
      obtain ⟨n1, n2, n3, n4, n5, n6, n7⟩ := HN.out x hxm
      have HRef := hid (fun h : lineB x = true => line_ref (l := x) h)
      have CC := hid (fun (hr : rightsB 0 x.code = true) (hl2 : (toldL x.code).length ≤ 1000000000) (w' : World) (hW : Below wr.heap.size wr w') => ts_all (szL x.code) w' N 0 _ x.code (hcs.later hW) hr n2 (Nat.le_refl _) hl2 n7)
      have CV := hid (fun (hr : rightsB 0 x.vals = true) (hl2 : (toldL x.vals).length ≤ 1000000000) (w' : World) (hW : Below wr.heap.size wr w') => ts_all (szL x.vals) w' N 0 _ x.vals (hvs.later hW) hr n1 (Nat.le_refl _) hl2 n6)
      have HLe := hid hle
      have HNx := hid hnx
      have HCE : Hid (codeP x.code = if x.code.length = 0 then [] else [91] ++ toldL x.code ++ [93, 32]) := by
        unfold Hid codeP
        cases x.code <;> rfl
      have hgz : g < wr.heap.size := hg
      clear hga hp hpr hxm hpk hmk hnx hle hyes hvs hcs hlen hc' n1 n2 n3 n4 n5 n6 n7
      rcases hb : lineB x with _ | _
      · rw [hb] at CR
        have hX := hid (print_no HXm.out hb)
        clear hb
        go_wp2_with fail
        refine CR.mono ?_
        rintro e w2 ⟨rfl, b2⟩
        have B2 := hid (H2.out.trans (b2.mono H2.out.size))
        clear b2 CR
        go_wp2_with fail
        go_ret
        rw [hX.out]
        exact ⟨rfl, B2.out⟩
      · rw [hb] at CR
        obtain ⟨hT, hrc, hrv⟩ := HRef.out hb
        have hY := hid (HY.out hb)
        have hTl : (lineT x).length ≤ 1000000000 := by have := HLe.out; have := HL.out; omega
        rw [hT] at hTl
        have HT := hid hT
        have HBd := hid (show (((rows.map (·.2)).take k).flatMap lineT).length + (lineT x).length ≤ 1000000000 from by have := HLe.out; have := HL.out; omega)
        have hTl2 := hTl
        simp only [List.length_append, List.length_cons, List.length_nil] at hTl2
        have hcl : (toldL x.code).length ≤ 1000000000 := by
          by_cases h0 : x.code.length = 0
          · rw [List.eq_nil_of_length_eq_zero h0]; simp [toldL, toldS]
          · have h9 := HCE.out
            rw [if_neg h0] at h9
            rw [h9] at hTl2
            simp only [List.length_append, List.length_cons, List.length_nil] at hTl2
            omega
        have CC2 := hid (CC.out hrc hcl)
        have CV2 := hid (CV.out hrv (by omega))
        have hz1 := str_size x.tag
        have hz2 := str_size x.st
        have hz3 := str_size x.x
        have hz4 := str_size (toldL x.code)
        have hz5 := str_size (toldL x.vals)
        have hz6 := str_size (((rows.map (·.2)).take k).flatMap lineT)
        have y1 : (x.tag.length : Int) ≤ 1000000000 := by omega
        have y2 : (x.x.length : Int) ≤ 1000000000 := by omega
        have y3 : ((toldL x.vals).length : Int) ≤ 1000000000 := by omega
        have y4 : ((toldL x.code).length : Int) ≤ 1000000000 := by omega
        have y5 : ((((rows.map (·.2)).take k).flatMap lineT).length : Int) ≤ 1000000000 := by have := HLe.out; have := HL.out; omega
        have y6 : x.st = [] ∨ (x.st.length : Int) ≤ 1000000000 := by
          by_cases h : x.st = []
          · exact .inl h
          · right; rw [if_neg h] at hTl2; simp only [List.length_append, List.length_cons, List.length_nil] at hTl2; omega
        clear hT hTl hTl2 hrc hrv hcl CC CV HRef HY HXm hb
        obtain ⟨P, hP⟩ : ∃ P, ((rows.map (·.2)).take k).flatMap lineT = P := ⟨_, rfl⟩
        rw [hP] at HNx hz6 y5 HBd ⊢
        obtain ⟨TV, hTV⟩ : ∃ TV, toldL x.vals = TV := ⟨_, rfl⟩
        rw [hTV] at CV2 HT hz5 y3
        obtain ⟨TC, hTC⟩ : ∃ TC, toldL x.code = TC := ⟨_, rfl⟩
        rw [hTC] at CC2 HCE hz4 y4
        clear hP hTV hTC
        obtain ⟨tag, vals, st, code, tx⟩ := x
        simp only at CR CC2 CV2 HT HCE c0 c1 c2 c3 c4 hz1 hz2 hz3 y1 y2 y6
        generalize vals.length = V at *
        generalize code.length = K at *
        have b16 : (⟨#[32]⟩ : ByteArray) = str [32] := rfl
        have HFin : ∀ z : ByteArray, z = str (P ++ lineT ⟨tag, vals, st, code, tx⟩) → Value.string z = .string (str (((rows.map (·.2)).take (k + 1)).flatMap lineT)) := fun z hz => by rw [hz, HNx.out]
        have HFinH := hid HFin
        clear HFin b16 HN HL HLe HNx HRow
        go_wp2_with fail
        refine CR.mono ?_
        rintro e w2 ⟨rfl, b2⟩
        have B2w := hid b2
        have B2 := hid (H2.out.trans (b2.mono H2.out.size))
        have d0 := (b2.cell hgz).trans c0
        have d1 := (b2.cell hgz).trans c1
        have d2 := (b2.cell hgz).trans c2
        have d3 := (b2.cell hgz).trans c3
        have d4 := (b2.cell hgz).trans c4
        have hg2 : g < w2.heap.size := Nat.lt_of_lt_of_le hgz b2.size
        clear b2 CR c0 c1 c2 c3 c4
        by_cases hst : st = []
        · subst hst
          have s1 : (str ([] : Bs)).toList = ([] : Bs) := by rw [toL]
          have s2 : (str ([] : Bs)).toList.isEmpty = true := by rw [toL]; rfl
          clear y6
          by_cases hK : K = 0
          · subst hK
            go_wp2_with fail
            have hz : str P ++ str tag ++ (⟨#[32]⟩ : ByteArray) = str (P ++ tag ++ [32]) := by rw [show (⟨#[32]⟩ : ByteArray) = str [32] from rfl]; simp only [app_str]
            rw [hz]
            clear hz
            obtain ⟨Z, hZ⟩ : ∃ Z, P ++ tag ++ [32] = Z := ⟨_, rfl⟩
            rw [hZ]
            have HZ := hid hZ
            have hZl : Z.length + tx.length + TV.length + 2 ≤ 1000000000 := by
              have hh := HBd.out
              rw [← hZ]
              simp only [List.length_append, List.length_cons, List.length_nil]
              rw [HT.out, HCE.out] at hh
              simp [*] at hh
              omega
            clear hZ
            have HDr : Hid (Below w.heap.size w w2.drew) := B2.out.drew
            have CVd := hid (CV2.out w2.drew (B2w.out.drew))
            have hgd : g < w2.drew.heap.size := hg2
            clear CV2
            refine wp_region_held_drew (S := fun w' => w'.cell? ⟨g, o + k * 5 + 4, none⟩ = some (.string (str tx)) ∧ w'.cell? ⟨g, o + k * 5 + 1, none⟩ = some (.slice va V vc)) (by kernel_rfl) ⟨d4, d1⟩ ?_
            intro hS
            refine anyH_takeW 0 ⟨some 56, _, _, _, _, none⟩ (.string (str Z)) rfl (by kernel_rfl) (by kernel_rfl) (by kernel_rfl) (by kernel_rfl) (fun _ _ _ h => h) (fun _ _ => rfl) hS ?_
            simp only [Act.put, List.setIfInBounds_toArray, List.set_cons_zero, List.set_cons_succ]
            refine anyH_takeW 1 ⟨some 57, _, _, _, _, none⟩ (.slice (some ⟨g, o, none⟩) rows.length c) rfl (by kernel_rfl) (by kernel_rfl) (by kernel_rfl) (by kernel_rfl) (fun _ _ _ h => h) (fun _ _ => rfl) hS ?_
            simp only [Act.put, List.setIfInBounds_toArray, List.set_cons_zero, List.set_cons_succ]
            refine anyH_takeW 2 ⟨some 58, _, _, _, _, none⟩ (.int .i64 k) rfl (by kernel_rfl) (by kernel_rfl) (by kernel_rfl) (by kernel_rfl) (fun _ _ _ h => h) (fun _ _ => rfl) hS ?_
            simp only [Act.put, List.setIfInBounds_toArray, List.set_cons_zero, List.set_cons_succ]
            refine anyH_takeW 3 ⟨some 59, _, _, _, _, none⟩ (.pointer (some ⟨g, o + k * 5, none⟩)) rfl (by kernel_rfl) (by kernel_rfl) (by kernel_rfl) (by kernel_rfl) (fun _ _ _ h => h) (fun w' h => by (try dsimp only at h); obtain ⟨s0, s1⟩ := h; go_simp) hS ?_
            simp only [Act.put, List.setIfInBounds_toArray, List.set_cons_zero, List.set_cons_succ]
            refine anyH_takeW 4 ⟨some 60, _, _, _, _, none⟩ (.pointer (some ⟨g, o + k * 5 + 4, none⟩)) rfl (by kernel_rfl) (by kernel_rfl) (by kernel_rfl) (by kernel_rfl) (fun _ _ _ h => h) (fun w' h => by (try dsimp only at h); obtain ⟨s0, s1⟩ := h; go_simp) hS ?_
            simp only [Act.put, List.setIfInBounds_toArray, List.set_cons_zero, List.set_cons_succ]
            refine anyH_takeW 5 ⟨some 61, _, _, _, _, none⟩ (.string (str tx)) rfl (by kernel_rfl) (by kernel_rfl) (by kernel_rfl) (by kernel_rfl) (fun _ _ _ h => h) (fun w' h => by (try dsimp only at h); obtain ⟨s0, s1⟩ := h; go_simp) hS ?_
            simp only [Act.put, List.setIfInBounds_toArray, List.set_cons_zero, List.set_cons_succ]
            refine anyH_takeW 6 ⟨some 62, _, _, _, _, none⟩ (.string (str (Z ++ tx))) rfl (by kernel_rfl) (by kernel_rfl) (by kernel_rfl) (by kernel_rfl) (fun _ _ _ h => h) (fun w' h => exec_addL (l := Z) (m := tx) (by kernel_rfl) (by kernel_rfl) (by omega)) hS ?_
            simp only [Act.put, List.setIfInBounds_toArray, List.set_cons_zero, List.set_cons_succ]
            refine anyH_takeW 7 ⟨some 63, _, _, _, _, none⟩ (.slice (some ⟨g, o, none⟩) rows.length c) rfl (by kernel_rfl) (by kernel_rfl) (by kernel_rfl) (by kernel_rfl) (fun _ _ _ h => h) (fun _ _ => rfl) hS ?_
            simp only [Act.put, List.setIfInBounds_toArray, List.set_cons_zero, List.set_cons_succ]
            refine anyH_takeW 8 ⟨some 64, _, _, _, _, none⟩ (.int .i64 k) rfl (by kernel_rfl) (by kernel_rfl) (by kernel_rfl) (by kernel_rfl) (fun _ _ _ h => h) (fun _ _ => rfl) hS ?_
            simp only [Act.put, List.setIfInBounds_toArray, List.set_cons_zero, List.set_cons_succ]
            refine anyH_takeW 9 ⟨some 65, _, _, _, _, none⟩ (.pointer (some ⟨g, o + k * 5, none⟩)) rfl (by kernel_rfl) (by kernel_rfl) (by kernel_rfl) (by kernel_rfl) (fun _ _ _ h => h) (fun w' h => by (try dsimp only at h); obtain ⟨s0, s1⟩ := h; go_simp) hS ?_
            simp only [Act.put, List.setIfInBounds_toArray, List.set_cons_zero, List.set_cons_succ]
            refine anyH_takeW 10 ⟨some 66, _, _, _, _, none⟩ (.pointer (some ⟨g, o + k * 5 + 1, none⟩)) rfl (by kernel_rfl) (by kernel_rfl) (by kernel_rfl) (by kernel_rfl) (fun _ _ _ h => h) (fun w' h => by (try dsimp only at h); obtain ⟨s0, s1⟩ := h; go_simp) hS ?_
            simp only [Act.put, List.setIfInBounds_toArray, List.set_cons_zero, List.set_cons_succ]
            refine anyH_takeW 11 ⟨some 67, _, _, _, _, none⟩ (.slice va V vc) rfl (by kernel_rfl) (by kernel_rfl) (by kernel_rfl) (by kernel_rfl) (fun _ _ _ h => h) (fun w' h => by (try dsimp only at h); obtain ⟨s0, s1⟩ := h; go_simp) hS ?_
            simp only [Act.put, List.setIfInBounds_toArray, List.set_cons_zero, List.set_cons_succ]
            refine anyH_callW 12 ⟨some 68, _, _, _, _, none⟩ 40 #[.slice va V vc] (by kernel_rfl) rfl (by kernel_rfl) (exec_call40 (by kernel_rfl)) ?_
            refine CVd.out.mono ?_
            rintro e w9 ⟨rfl, hb9⟩
            have B9 := hid (HDr.out.trans (hb9.mono HDr.out.size))
            clear hS
            have hS : w9.cell? ⟨g, o + k * 5 + 4, none⟩ = some (.string (str tx)) ∧ w9.cell? ⟨g, o + k * 5 + 1, none⟩ = some (.slice va V vc) := ⟨(hb9.cell hgd).trans d4, (hb9.cell hgd).trans d1⟩
            clear hb9
            refine ⟨_, rfl, hS, ?_⟩
            simp only [Act.put, List.setIfInBounds_toArray, List.set_cons_zero, List.set_cons_succ]
            refine anyH_takeW 13 ⟨some 69, _, _, _, _, none⟩ (.string (str (Z ++ tx ++ TV))) rfl (by kernel_rfl) (by kernel_rfl) (by kernel_rfl) (by kernel_rfl) (fun _ _ _ h => h) (fun w' h => exec_addL (l := Z ++ tx) (m := TV) (by kernel_rfl) (by kernel_rfl) (by simp only [List.length_append, List.length_cons, List.length_nil]; omega)) hS ?_
            simp only [Act.put, List.setIfInBounds_toArray, List.set_cons_zero, List.set_cons_succ]
            refine anyH_takeW 14 ⟨some 70, _, _, _, _, none⟩ (.string (str (Z ++ tx ++ TV ++ [13, 10]))) rfl (by kernel_rfl) (by kernel_rfl) (by kernel_rfl) (by kernel_rfl) (fun _ _ _ h => h) (fun w' h => exec_addL (l := Z ++ tx ++ TV) (m := [13, 10]) (by kernel_rfl) (by kernel_rfl) (by simp only [List.length_append, List.length_cons, List.length_nil]; omega)) hS ?_
            simp only [Act.put, List.setIfInBounds_toArray, List.set_cons_zero, List.set_cons_succ]
            refine anyH_takeW 15 ⟨some 3, _, _, _, _, none⟩ (.string (str (Z ++ tx ++ TV ++ [13, 10]))) rfl (by kernel_rfl) (by kernel_rfl) (by kernel_rfl) (by kernel_rfl) (fun _ _ _ h => h) (fun _ _ => rfl) hS ?_
            simp only [Act.put, List.setIfInBounds_toArray, List.set_cons_zero, List.set_cons_succ]
            refine wpAnyH_done (by kernel_rfl) ?_ _
            go_wp2_with fail
            go_round
            case rel =>
              refine ⟨k + 1, by omega, by go_num, HFinH.out _ ?_, B9.out, hY.out⟩
              rw [HT.out, HCE.out, ← HZ.out]
              simp [*]
            case measure => simp [intOf]; omega
          · have hK1 : (0 : Int) < K := by omega
            have hK2 : 0 < K := by omega
            have CC3 := CC2.out w2 B2w.out
            clear CC2
            go_wp2_with fail
            refine CC3.mono ?_
            rintro e w3 ⟨rfl, b3⟩
            have B3w := hid (B2w.out.trans (b3.mono B2w.out.size))
            have B3 := hid (B2.out.trans (b3.mono B2.out.size))
            have f0 := (b3.cell hg2).trans d0
            have f1 := (b3.cell hg2).trans d1
            have f2 := (b3.cell hg2).trans d2
            have f3 := (b3.cell hg2).trans d3
            have f4 := (b3.cell hg2).trans d4
            have hg3 : g < w3.heap.size := Nat.lt_of_lt_of_le hg2 b3.size
            clear b3 CC3 d0 d1 d2 d3 d4
            go_wp2_with fail
            have hz : str P ++ str tag ++ (⟨#[32]⟩ : ByteArray) ++ (⟨#[91]⟩ : ByteArray) ++ str TC ++ (⟨#[93, 32]⟩ : ByteArray) = str (P ++ tag ++ [32] ++ [91] ++ TC ++ [93, 32]) := by rw [show (⟨#[32]⟩ : ByteArray) = str [32] from rfl, show (⟨#[91]⟩ : ByteArray) = str [91] from rfl, show (⟨#[93, 32]⟩ : ByteArray) = str [93, 32] from rfl]; simp only [app_str]
            rw [hz]
            clear hz
            obtain ⟨Z, hZ⟩ : ∃ Z, P ++ tag ++ [32] ++ [91] ++ TC ++ [93, 32] = Z := ⟨_, rfl⟩
            rw [hZ]
            have HZ := hid hZ
            have hZl : Z.length + tx.length + TV.length + 2 ≤ 1000000000 := by
              have hh := HBd.out
              rw [← hZ]
              simp only [List.length_append, List.length_cons, List.length_nil]
              rw [HT.out, HCE.out] at hh
              simp [*] at hh
              omega
            clear hZ
            have HDr : Hid (Below w.heap.size w w3.drew) := B3.out.drew
            have CVd := hid (CV2.out w3.drew (B3w.out.drew))
            have hgd : g < w3.drew.heap.size := hg3
            clear CV2
            refine wp_region_held_drew (S := fun w' => w'.cell? ⟨g, o + k * 5 + 4, none⟩ = some (.string (str tx)) ∧ w'.cell? ⟨g, o + k * 5 + 1, none⟩ = some (.slice va V vc)) (by kernel_rfl) ⟨f4, f1⟩ ?_
            intro hS
            refine anyH_takeW 0 ⟨some 56, _, _, _, _, none⟩ (.string (str Z)) rfl (by kernel_rfl) (by kernel_rfl) (by kernel_rfl) (by kernel_rfl) (fun _ _ _ h => h) (fun _ _ => rfl) hS ?_
            simp only [Act.put, List.setIfInBounds_toArray, List.set_cons_zero, List.set_cons_succ]
            refine anyH_takeW 1 ⟨some 57, _, _, _, _, none⟩ (.slice (some ⟨g, o, none⟩) rows.length c) rfl (by kernel_rfl) (by kernel_rfl) (by kernel_rfl) (by kernel_rfl) (fun _ _ _ h => h) (fun _ _ => rfl) hS ?_
            simp only [Act.put, List.setIfInBounds_toArray, List.set_cons_zero, List.set_cons_succ]
            refine anyH_takeW 2 ⟨some 58, _, _, _, _, none⟩ (.int .i64 k) rfl (by kernel_rfl) (by kernel_rfl) (by kernel_rfl) (by kernel_rfl) (fun _ _ _ h => h) (fun _ _ => rfl) hS ?_
            simp only [Act.put, List.setIfInBounds_toArray, List.set_cons_zero, List.set_cons_succ]
            refine anyH_takeW 3 ⟨some 59, _, _, _, _, none⟩ (.pointer (some ⟨g, o + k * 5, none⟩)) rfl (by kernel_rfl) (by kernel_rfl) (by kernel_rfl) (by kernel_rfl) (fun _ _ _ h => h) (fun w' h => by (try dsimp only at h); obtain ⟨s0, s1⟩ := h; go_simp) hS ?_
            simp only [Act.put, List.setIfInBounds_toArray, List.set_cons_zero, List.set_cons_succ]
            refine anyH_takeW 4 ⟨some 60, _, _, _, _, none⟩ (.pointer (some ⟨g, o + k * 5 + 4, none⟩)) rfl (by kernel_rfl) (by kernel_rfl) (by kernel_rfl) (by kernel_rfl) (fun _ _ _ h => h) (fun w' h => by (try dsimp only at h); obtain ⟨s0, s1⟩ := h; go_simp) hS ?_
            simp only [Act.put, List.setIfInBounds_toArray, List.set_cons_zero, List.set_cons_succ]
            refine anyH_takeW 5 ⟨some 61, _, _, _, _, none⟩ (.string (str tx)) rfl (by kernel_rfl) (by kernel_rfl) (by kernel_rfl) (by kernel_rfl) (fun _ _ _ h => h) (fun w' h => by (try dsimp only at h); obtain ⟨s0, s1⟩ := h; go_simp) hS ?_
            simp only [Act.put, List.setIfInBounds_toArray, List.set_cons_zero, List.set_cons_succ]
            refine anyH_takeW 6 ⟨some 62, _, _, _, _, none⟩ (.string (str (Z ++ tx))) rfl (by kernel_rfl) (by kernel_rfl) (by kernel_rfl) (by kernel_rfl) (fun _ _ _ h => h) (fun w' h => exec_addL (l := Z) (m := tx) (by kernel_rfl) (by kernel_rfl) (by omega)) hS ?_
            simp only [Act.put, List.setIfInBounds_toArray, List.set_cons_zero, List.set_cons_succ]
            refine anyH_takeW 7 ⟨some 63, _, _, _, _, none⟩ (.slice (some ⟨g, o, none⟩) rows.length c) rfl (by kernel_rfl) (by kernel_rfl) (by kernel_rfl) (by kernel_rfl) (fun _ _ _ h => h) (fun _ _ => rfl) hS ?_
            simp only [Act.put, List.setIfInBounds_toArray, List.set_cons_zero, List.set_cons_succ]
            refine anyH_takeW 8 ⟨some 64, _, _, _, _, none⟩ (.int .i64 k) rfl (by kernel_rfl) (by kernel_rfl) (by kernel_rfl) (by kernel_rfl) (fun _ _ _ h => h) (fun _ _ => rfl) hS ?_
            simp only [Act.put, List.setIfInBounds_toArray, List.set_cons_zero, List.set_cons_succ]
            refine anyH_takeW 9 ⟨some 65, _, _, _, _, none⟩ (.pointer (some ⟨g, o + k * 5, none⟩)) rfl (by kernel_rfl) (by kernel_rfl) (by kernel_rfl) (by kernel_rfl) (fun _ _ _ h => h) (fun w' h => by (try dsimp only at h); obtain ⟨s0, s1⟩ := h; go_simp) hS ?_
            simp only [Act.put, List.setIfInBounds_toArray, List.set_cons_zero, List.set_cons_succ]
            refine anyH_takeW 10 ⟨some 66, _, _, _, _, none⟩ (.pointer (some ⟨g, o + k * 5 + 1, none⟩)) rfl (by kernel_rfl) (by kernel_rfl) (by kernel_rfl) (by kernel_rfl) (fun _ _ _ h => h) (fun w' h => by (try dsimp only at h); obtain ⟨s0, s1⟩ := h; go_simp) hS ?_
            simp only [Act.put, List.setIfInBounds_toArray, List.set_cons_zero, List.set_cons_succ]
            refine anyH_takeW 11 ⟨some 67, _, _, _, _, none⟩ (.slice va V vc) rfl (by kernel_rfl) (by kernel_rfl) (by kernel_rfl) (by kernel_rfl) (fun _ _ _ h => h) (fun w' h => by (try dsimp only at h); obtain ⟨s0, s1⟩ := h; go_simp) hS ?_
            simp only [Act.put, List.setIfInBounds_toArray, List.set_cons_zero, List.set_cons_succ]
            refine anyH_callW 12 ⟨some 68, _, _, _, _, none⟩ 40 #[.slice va V vc] (by kernel_rfl) rfl (by kernel_rfl) (exec_call40 (by kernel_rfl)) ?_
            refine CVd.out.mono ?_
            rintro e w9 ⟨rfl, hb9⟩
            have B9 := hid (HDr.out.trans (hb9.mono HDr.out.size))
            clear hS
            have hS : w9.cell? ⟨g, o + k * 5 + 4, none⟩ = some (.string (str tx)) ∧ w9.cell? ⟨g, o + k * 5 + 1, none⟩ = some (.slice va V vc) := ⟨(hb9.cell hgd).trans f4, (hb9.cell hgd).trans f1⟩
            clear hb9
            refine ⟨_, rfl, hS, ?_⟩
            simp only [Act.put, List.setIfInBounds_toArray, List.set_cons_zero, List.set_cons_succ]
            refine anyH_takeW 13 ⟨some 69, _, _, _, _, none⟩ (.string (str (Z ++ tx ++ TV))) rfl (by kernel_rfl) (by kernel_rfl) (by kernel_rfl) (by kernel_rfl) (fun _ _ _ h => h) (fun w' h => exec_addL (l := Z ++ tx) (m := TV) (by kernel_rfl) (by kernel_rfl) (by simp only [List.length_append, List.length_cons, List.length_nil]; omega)) hS ?_
            simp only [Act.put, List.setIfInBounds_toArray, List.set_cons_zero, List.set_cons_succ]
            refine anyH_takeW 14 ⟨some 70, _, _, _, _, none⟩ (.string (str (Z ++ tx ++ TV ++ [13, 10]))) rfl (by kernel_rfl) (by kernel_rfl) (by kernel_rfl) (by kernel_rfl) (fun _ _ _ h => h) (fun w' h => exec_addL (l := Z ++ tx ++ TV) (m := [13, 10]) (by kernel_rfl) (by kernel_rfl) (by simp only [List.length_append, List.length_cons, List.length_nil]; omega)) hS ?_
            simp only [Act.put, List.setIfInBounds_toArray, List.set_cons_zero, List.set_cons_succ]
            refine anyH_takeW 15 ⟨some 3, _, _, _, _, none⟩ (.string (str (Z ++ tx ++ TV ++ [13, 10]))) rfl (by kernel_rfl) (by kernel_rfl) (by kernel_rfl) (by kernel_rfl) (fun _ _ _ h => h) (fun _ _ => rfl) hS ?_
            simp only [Act.put, List.setIfInBounds_toArray, List.set_cons_zero, List.set_cons_succ]
            refine wpAnyH_done (by kernel_rfl) ?_ _
            go_wp2_with fail
            go_round
            case rel =>
              refine ⟨k + 1, by omega, by go_num, HFinH.out _ ?_, B9.out, hY.out⟩
              rw [HT.out, HCE.out, ← HZ.out]
              simp [*]
            case measure => simp [intOf]; omega
        · have s1 : ((str st).toList == ([] : Bs)) = false := by rw [toL, beq_eq_false_iff_ne]; exact hst
          have s2 : (str st).toList.isEmpty = false := by rw [toL]; simpa using hst
          have s3 : ¬ (str st).toList = ([] : Bs) := by rw [toL]; exact hst
          have y7 : (st.length : Int) ≤ 1000000000 := y6.resolve_left hst
          clear y6
          by_cases hK : K = 0
          · subst hK
            go_wp2_with fail
            have hz : str P ++ str tag ++ (⟨#[32]⟩ : ByteArray) ++ str st ++ (⟨#[32]⟩ : ByteArray) = str (P ++ tag ++ [32] ++ st ++ [32]) := by rw [show (⟨#[32]⟩ : ByteArray) = str [32] from rfl]; simp only [app_str]
            rw [hz]
            clear hz
            obtain ⟨Z, hZ⟩ : ∃ Z, P ++ tag ++ [32] ++ st ++ [32] = Z := ⟨_, rfl⟩
            rw [hZ]
            have HZ := hid hZ
            have hZl : Z.length + tx.length + TV.length + 2 ≤ 1000000000 := by
              have hh := HBd.out
              rw [← hZ]
              simp only [List.length_append, List.length_cons, List.length_nil]
              rw [HT.out, HCE.out] at hh
              simp [*] at hh
              omega
            clear hZ
            have HDr : Hid (Below w.heap.size w w2.drew) := B2.out.drew
            have CVd := hid (CV2.out w2.drew (B2w.out.drew))
            have hgd : g < w2.drew.heap.size := hg2
            clear CV2
            refine wp_region_held_drew (S := fun w' => w'.cell? ⟨g, o + k * 5 + 4, none⟩ = some (.string (str tx)) ∧ w'.cell? ⟨g, o + k * 5 + 1, none⟩ = some (.slice va V vc)) (by kernel_rfl) ⟨d4, d1⟩ ?_
            intro hS
            refine anyH_takeW 0 ⟨some 56, _, _, _, _, none⟩ (.string (str Z)) rfl (by kernel_rfl) (by kernel_rfl) (by kernel_rfl) (by kernel_rfl) (fun _ _ _ h => h) (fun _ _ => rfl) hS ?_
            simp only [Act.put, List.setIfInBounds_toArray, List.set_cons_zero, List.set_cons_succ]
            refine anyH_takeW 1 ⟨some 57, _, _, _, _, none⟩ (.slice (some ⟨g, o, none⟩) rows.length c) rfl (by kernel_rfl) (by kernel_rfl) (by kernel_rfl) (by kernel_rfl) (fun _ _ _ h => h) (fun _ _ => rfl) hS ?_
            simp only [Act.put, List.setIfInBounds_toArray, List.set_cons_zero, List.set_cons_succ]
            refine anyH_takeW 2 ⟨some 58, _, _, _, _, none⟩ (.int .i64 k) rfl (by kernel_rfl) (by kernel_rfl) (by kernel_rfl) (by kernel_rfl) (fun _ _ _ h => h) (fun _ _ => rfl) hS ?_
            simp only [Act.put, List.setIfInBounds_toArray, List.set_cons_zero, List.set_cons_succ]
            refine anyH_takeW 3 ⟨some 59, _, _, _, _, none⟩ (.pointer (some ⟨g, o + k * 5, none⟩)) rfl (by kernel_rfl) (by kernel_rfl) (by kernel_rfl) (by kernel_rfl) (fun _ _ _ h => h) (fun w' h => by (try dsimp only at h); obtain ⟨s0, s1⟩ := h; go_simp) hS ?_
            simp only [Act.put, List.setIfInBounds_toArray, List.set_cons_zero, List.set_cons_succ]
            refine anyH_takeW 4 ⟨some 60, _, _, _, _, none⟩ (.pointer (some ⟨g, o + k * 5 + 4, none⟩)) rfl (by kernel_rfl) (by kernel_rfl) (by kernel_rfl) (by kernel_rfl) (fun _ _ _ h => h) (fun w' h => by (try dsimp only at h); obtain ⟨s0, s1⟩ := h; go_simp) hS ?_
            simp only [Act.put, List.setIfInBounds_toArray, List.set_cons_zero, List.set_cons_succ]
            refine anyH_takeW 5 ⟨some 61, _, _, _, _, none⟩ (.string (str tx)) rfl (by kernel_rfl) (by kernel_rfl) (by kernel_rfl) (by kernel_rfl) (fun _ _ _ h => h) (fun w' h => by (try dsimp only at h); obtain ⟨s0, s1⟩ := h; go_simp) hS ?_
            simp only [Act.put, List.setIfInBounds_toArray, List.set_cons_zero, List.set_cons_succ]
            refine anyH_takeW 6 ⟨some 62, _, _, _, _, none⟩ (.string (str (Z ++ tx))) rfl (by kernel_rfl) (by kernel_rfl) (by kernel_rfl) (by kernel_rfl) (fun _ _ _ h => h) (fun w' h => exec_addL (l := Z) (m := tx) (by kernel_rfl) (by kernel_rfl) (by omega)) hS ?_
            simp only [Act.put, List.setIfInBounds_toArray, List.set_cons_zero, List.set_cons_succ]
            refine anyH_takeW 7 ⟨some 63, _, _, _, _, none⟩ (.slice (some ⟨g, o, none⟩) rows.length c) rfl (by kernel_rfl) (by kernel_rfl) (by kernel_rfl) (by kernel_rfl) (fun _ _ _ h => h) (fun _ _ => rfl) hS ?_
            simp only [Act.put, List.setIfInBounds_toArray, List.set_cons_zero, List.set_cons_succ]
            refine anyH_takeW 8 ⟨some 64, _, _, _, _, none⟩ (.int .i64 k) rfl (by kernel_rfl) (by kernel_rfl) (by kernel_rfl) (by kernel_rfl) (fun _ _ _ h => h) (fun _ _ => rfl) hS ?_
            simp only [Act.put, List.setIfInBounds_toArray, List.set_cons_zero, List.set_cons_succ]
            refine anyH_takeW 9 ⟨some 65, _, _, _, _, none⟩ (.pointer (some ⟨g, o + k * 5, none⟩)) rfl (by kernel_rfl) (by kernel_rfl) (by kernel_rfl) (by kernel_rfl) (fun _ _ _ h => h) (fun w' h => by (try dsimp only at h); obtain ⟨s0, s1⟩ := h; go_simp) hS ?_
            simp only [Act.put, List.setIfInBounds_toArray, List.set_cons_zero, List.set_cons_succ]
            refine anyH_takeW 10 ⟨some 66, _, _, _, _, none⟩ (.pointer (some ⟨g, o + k * 5 + 1, none⟩)) rfl (by kernel_rfl) (by kernel_rfl) (by kernel_rfl) (by kernel_rfl) (fun _ _ _ h => h) (fun w' h => by (try dsimp only at h); obtain ⟨s0, s1⟩ := h; go_simp) hS ?_
            simp only [Act.put, List.setIfInBounds_toArray, List.set_cons_zero, List.set_cons_succ]
            refine anyH_takeW 11 ⟨some 67, _, _, _, _, none⟩ (.slice va V vc) rfl (by kernel_rfl) (by kernel_rfl) (by kernel_rfl) (by kernel_rfl) (fun _ _ _ h => h) (fun w' h => by (try dsimp only at h); obtain ⟨s0, s1⟩ := h; go_simp) hS ?_
            simp only [Act.put, List.setIfInBounds_toArray, List.set_cons_zero, List.set_cons_succ]
            refine anyH_callW 12 ⟨some 68, _, _, _, _, none⟩ 40 #[.slice va V vc] (by kernel_rfl) rfl (by kernel_rfl) (exec_call40 (by kernel_rfl)) ?_
            refine CVd.out.mono ?_
            rintro e w9 ⟨rfl, hb9⟩
            have B9 := hid (HDr.out.trans (hb9.mono HDr.out.size))
            clear hS
            have hS : w9.cell? ⟨g, o + k * 5 + 4, none⟩ = some (.string (str tx)) ∧ w9.cell? ⟨g, o + k * 5 + 1, none⟩ = some (.slice va V vc) := ⟨(hb9.cell hgd).trans d4, (hb9.cell hgd).trans d1⟩
            clear hb9
            refine ⟨_, rfl, hS, ?_⟩
            simp only [Act.put, List.setIfInBounds_toArray, List.set_cons_zero, List.set_cons_succ]
            refine anyH_takeW 13 ⟨some 69, _, _, _, _, none⟩ (.string (str (Z ++ tx ++ TV))) rfl (by kernel_rfl) (by kernel_rfl) (by kernel_rfl) (by kernel_rfl) (fun _ _ _ h => h) (fun w' h => exec_addL (l := Z ++ tx) (m := TV) (by kernel_rfl) (by kernel_rfl) (by simp only [List.length_append, List.length_cons, List.length_nil]; omega)) hS ?_
            simp only [Act.put, List.setIfInBounds_toArray, List.set_cons_zero, List.set_cons_succ]
            refine anyH_takeW 14 ⟨some 70, _, _, _, _, none⟩ (.string (str (Z ++ tx ++ TV ++ [13, 10]))) rfl (by kernel_rfl) (by kernel_rfl) (by kernel_rfl) (by kernel_rfl) (fun _ _ _ h => h) (fun w' h => exec_addL (l := Z ++ tx ++ TV) (m := [13, 10]) (by kernel_rfl) (by kernel_rfl) (by simp only [List.length_append, List.length_cons, List.length_nil]; omega)) hS ?_
            simp only [Act.put, List.setIfInBounds_toArray, List.set_cons_zero, List.set_cons_succ]
            refine anyH_takeW 15 ⟨some 3, _, _, _, _, none⟩ (.string (str (Z ++ tx ++ TV ++ [13, 10]))) rfl (by kernel_rfl) (by kernel_rfl) (by kernel_rfl) (by kernel_rfl) (fun _ _ _ h => h) (fun _ _ => rfl) hS ?_
            simp only [Act.put, List.setIfInBounds_toArray, List.set_cons_zero, List.set_cons_succ]
            refine wpAnyH_done (by kernel_rfl) ?_ _
            go_wp2_with fail
            go_round
            case rel =>
              refine ⟨k + 1, by omega, by go_num, HFinH.out _ ?_, B9.out, hY.out⟩
              rw [HT.out, HCE.out, ← HZ.out]
              simp [*]
            case measure => simp [intOf]; omega
          · have hK1 : (0 : Int) < K := by omega
            have hK2 : 0 < K := by omega
            have CC3 := CC2.out w2 B2w.out
            clear CC2
            go_wp2_with fail
            refine CC3.mono ?_
            rintro e w3 ⟨rfl, b3⟩
            have B3w := hid (B2w.out.trans (b3.mono B2w.out.size))
            have B3 := hid (B2.out.trans (b3.mono B2.out.size))
            have f0 := (b3.cell hg2).trans d0
            have f1 := (b3.cell hg2).trans d1
            have f2 := (b3.cell hg2).trans d2
            have f3 := (b3.cell hg2).trans d3
            have f4 := (b3.cell hg2).trans d4
            have hg3 : g < w3.heap.size := Nat.lt_of_lt_of_le hg2 b3.size
            clear b3 CC3 d0 d1 d2 d3 d4
            go_wp2_with fail
            have hz : str P ++ str tag ++ (⟨#[32]⟩ : ByteArray) ++ str st ++ (⟨#[32]⟩ : ByteArray) ++ (⟨#[91]⟩ : ByteArray) ++ str TC ++ (⟨#[93, 32]⟩ : ByteArray) = str (P ++ tag ++ [32] ++ st ++ [32] ++ [91] ++ TC ++ [93, 32]) := by rw [show (⟨#[32]⟩ : ByteArray) = str [32] from rfl, show (⟨#[91]⟩ : ByteArray) = str [91] from rfl, show (⟨#[93, 32]⟩ : ByteArray) = str [93, 32] from rfl]; simp only [app_str]
            rw [hz]
            clear hz
            obtain ⟨Z, hZ⟩ : ∃ Z, P ++ tag ++ [32] ++ st ++ [32] ++ [91] ++ TC ++ [93, 32] = Z := ⟨_, rfl⟩
            rw [hZ]
            have HZ := hid hZ
            have hZl : Z.length + tx.length + TV.length + 2 ≤ 1000000000 := by
              have hh := HBd.out
              rw [← hZ]
              simp only [List.length_append, List.length_cons, List.length_nil]
              rw [HT.out, HCE.out] at hh
              simp [*] at hh
              omega
            clear hZ
            have HDr : Hid (Below w.heap.size w w3.drew) := B3.out.drew
            have CVd := hid (CV2.out w3.drew (B3w.out.drew))
            have hgd : g < w3.drew.heap.size := hg3
            clear CV2
            refine wp_region_held_drew (S := fun w' => w'.cell? ⟨g, o + k * 5 + 4, none⟩ = some (.string (str tx)) ∧ w'.cell? ⟨g, o + k * 5 + 1, none⟩ = some (.slice va V vc)) (by kernel_rfl) ⟨f4, f1⟩ ?_
            intro hS
            refine anyH_takeW 0 ⟨some 56, _, _, _, _, none⟩ (.string (str Z)) rfl (by kernel_rfl) (by kernel_rfl) (by kernel_rfl) (by kernel_rfl) (fun _ _ _ h => h) (fun _ _ => rfl) hS ?_
            simp only [Act.put, List.setIfInBounds_toArray, List.set_cons_zero, List.set_cons_succ]
            refine anyH_takeW 1 ⟨some 57, _, _, _, _, none⟩ (.slice (some ⟨g, o, none⟩) rows.length c) rfl (by kernel_rfl) (by kernel_rfl) (by kernel_rfl) (by kernel_rfl) (fun _ _ _ h => h) (fun _ _ => rfl) hS ?_
            simp only [Act.put, List.setIfInBounds_toArray, List.set_cons_zero, List.set_cons_succ]
            refine anyH_takeW 2 ⟨some 58, _, _, _, _, none⟩ (.int .i64 k) rfl (by kernel_rfl) (by kernel_rfl) (by kernel_rfl) (by kernel_rfl) (fun _ _ _ h => h) (fun _ _ => rfl) hS ?_
            simp only [Act.put, List.setIfInBounds_toArray, List.set_cons_zero, List.set_cons_succ]
            refine anyH_takeW 3 ⟨some 59, _, _, _, _, none⟩ (.pointer (some ⟨g, o + k * 5, none⟩)) rfl (by kernel_rfl) (by kernel_rfl) (by kernel_rfl) (by kernel_rfl) (fun _ _ _ h => h) (fun w' h => by (try dsimp only at h); obtain ⟨s0, s1⟩ := h; go_simp) hS ?_
            simp only [Act.put, List.setIfInBounds_toArray, List.set_cons_zero, List.set_cons_succ]
            refine anyH_takeW 4 ⟨some 60, _, _, _, _, none⟩ (.pointer (some ⟨g, o + k * 5 + 4, none⟩)) rfl (by kernel_rfl) (by kernel_rfl) (by kernel_rfl) (by kernel_rfl) (fun _ _ _ h => h) (fun w' h => by (try dsimp only at h); obtain ⟨s0, s1⟩ := h; go_simp) hS ?_
            simp only [Act.put, List.setIfInBounds_toArray, List.set_cons_zero, List.set_cons_succ]
            refine anyH_takeW 5 ⟨some 61, _, _, _, _, none⟩ (.string (str tx)) rfl (by kernel_rfl) (by kernel_rfl) (by kernel_rfl) (by kernel_rfl) (fun _ _ _ h => h) (fun w' h => by (try dsimp only at h); obtain ⟨s0, s1⟩ := h; go_simp) hS ?_
            simp only [Act.put, List.setIfInBounds_toArray, List.set_cons_zero, List.set_cons_succ]
            refine anyH_takeW 6 ⟨some 62, _, _, _, _, none⟩ (.string (str (Z ++ tx))) rfl (by kernel_rfl) (by kernel_rfl) (by kernel_rfl) (by kernel_rfl) (fun _ _ _ h => h) (fun w' h => exec_addL (l := Z) (m := tx) (by kernel_rfl) (by kernel_rfl) (by omega)) hS ?_
            simp only [Act.put, List.setIfInBounds_toArray, List.set_cons_zero, List.set_cons_succ]
            refine anyH_takeW 7 ⟨some 63, _, _, _, _, none⟩ (.slice (some ⟨g, o, none⟩) rows.length c) rfl (by kernel_rfl) (by kernel_rfl) (by kernel_rfl) (by kernel_rfl) (fun _ _ _ h => h) (fun _ _ => rfl) hS ?_
            simp only [Act.put, List.setIfInBounds_toArray, List.set_cons_zero, List.set_cons_succ]
            refine anyH_takeW 8 ⟨some 64, _, _, _, _, none⟩ (.int .i64 k) rfl (by kernel_rfl) (by kernel_rfl) (by kernel_rfl) (by kernel_rfl) (fun _ _ _ h => h) (fun _ _ => rfl) hS ?_
            simp only [Act.put, List.setIfInBounds_toArray, List.set_cons_zero, List.set_cons_succ]
            refine anyH_takeW 9 ⟨some 65, _, _, _, _, none⟩ (.pointer (some ⟨g, o + k * 5, none⟩)) rfl (by kernel_rfl) (by kernel_rfl) (by kernel_rfl) (by kernel_rfl) (fun _ _ _ h => h) (fun w' h => by (try dsimp only at h); obtain ⟨s0, s1⟩ := h; go_simp) hS ?_
            simp only [Act.put, List.setIfInBounds_toArray, List.set_cons_zero, List.set_cons_succ]
            refine anyH_takeW 10 ⟨some 66, _, _, _, _, none⟩ (.pointer (some ⟨g, o + k * 5 + 1, none⟩)) rfl (by kernel_rfl) (by kernel_rfl) (by kernel_rfl) (by kernel_rfl) (fun _ _ _ h => h) (fun w' h => by (try dsimp only at h); obtain ⟨s0, s1⟩ := h; go_simp) hS ?_
            simp only [Act.put, List.setIfInBounds_toArray, List.set_cons_zero, List.set_cons_succ]
            refine anyH_takeW 11 ⟨some 67, _, _, _, _, none⟩ (.slice va V vc) rfl (by kernel_rfl) (by kernel_rfl) (by kernel_rfl) (by kernel_rfl) (fun _ _ _ h => h) (fun w' h => by (try dsimp only at h); obtain ⟨s0, s1⟩ := h; go_simp) hS ?_
            simp only [Act.put, List.setIfInBounds_toArray, List.set_cons_zero, List.set_cons_succ]
            refine anyH_callW 12 ⟨some 68, _, _, _, _, none⟩ 40 #[.slice va V vc] (by kernel_rfl) rfl (by kernel_rfl) (exec_call40 (by kernel_rfl)) ?_
            refine CVd.out.mono ?_
            rintro e w9 ⟨rfl, hb9⟩
            have B9 := hid (HDr.out.trans (hb9.mono HDr.out.size))
            clear hS
            have hS : w9.cell? ⟨g, o + k * 5 + 4, none⟩ = some (.string (str tx)) ∧ w9.cell? ⟨g, o + k * 5 + 1, none⟩ = some (.slice va V vc) := ⟨(hb9.cell hgd).trans f4, (hb9.cell hgd).trans f1⟩
            clear hb9
            refine ⟨_, rfl, hS, ?_⟩
            simp only [Act.put, List.setIfInBounds_toArray, List.set_cons_zero, List.set_cons_succ]
            refine anyH_takeW 13 ⟨some 69, _, _, _, _, none⟩ (.string (str (Z ++ tx ++ TV))) rfl (by kernel_rfl) (by kernel_rfl) (by kernel_rfl) (by kernel_rfl) (fun _ _ _ h => h) (fun w' h => exec_addL (l := Z ++ tx) (m := TV) (by kernel_rfl) (by kernel_rfl) (by simp only [List.length_append, List.length_cons, List.length_nil]; omega)) hS ?_
            simp only [Act.put, List.setIfInBounds_toArray, List.set_cons_zero, List.set_cons_succ]
            refine anyH_takeW 14 ⟨some 70, _, _, _, _, none⟩ (.string (str (Z ++ tx ++ TV ++ [13, 10]))) rfl (by kernel_rfl) (by kernel_rfl) (by kernel_rfl) (by kernel_rfl) (fun _ _ _ h => h) (fun w' h => exec_addL (l := Z ++ tx ++ TV) (m := [13, 10]) (by kernel_rfl) (by kernel_rfl) (by simp only [List.length_append, List.length_cons, List.length_nil]; omega)) hS ?_
            simp only [Act.put, List.setIfInBounds_toArray, List.set_cons_zero, List.set_cons_succ]
            refine anyH_takeW 15 ⟨some 3, _, _, _, _, none⟩ (.string (str (Z ++ tx ++ TV ++ [13, 10]))) rfl (by kernel_rfl) (by kernel_rfl) (by kernel_rfl) (by kernel_rfl) (fun _ _ _ h => h) (fun _ _ => rfl) hS ?_
            simp only [Act.put, List.setIfInBounds_toArray, List.set_cons_zero, List.set_cons_succ]
            refine wpAnyH_done (by kernel_rfl) ?_ _
            go_wp2_with fail
            go_round
            case rel =>
              refine ⟨k + 1, by omega, by go_num, HFinH.out _ ?_, B9.out, hY.out⟩
              rw [HT.out, HCE.out, ← HZ.out]
              simp [*]
            case measure => simp [intOf]; omega
    · have hlt' : ¬ (k : Int) < rows.length := by omega
      have HX : Hid (printP (rows.map (·.2)) = ((rows.map (·.2)).take k).flatMap lineT) := by
        have ht : (rows.map (·.2)).take k = rows.map (·.2) := List.take_of_length_le (by rw [List.length_map]; omega)
        rw [Hid, ht]
        unfold printP
        rw [if_pos]
        rw [List.all_eq_true]
        intro x hx
        obtain ⟨p, hp, rfl⟩ := List.mem_map.1 hx
        exact H3.out p (by rw [List.take_of_length_le (by omega)]; exact hp)
      go_wp2_with fail
      go_ret
      rw [HX.out]
      exact ⟨rfl, H2.out⟩
end Go.Proofs.YtpjcpdnolcehcaaGreatDoor
