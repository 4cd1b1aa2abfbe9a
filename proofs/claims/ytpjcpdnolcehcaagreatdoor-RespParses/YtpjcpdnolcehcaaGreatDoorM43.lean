/- What this text holds: the document's right lines. -/
import Derived.Test.YtpjcpdnolcehcaaGreatDoorM42
import Derived.Deep.CutRange
namespace Go.Proofs.YtpjcpdnolcehcaaGreatDoor
open Go.RowKit
set_option linter.unusedVariables false
set_option linter.unusedSimpArgs false

def tgB (s : Bs) : Bool := (s.all letB && (s != [])) && !(hasB s 42) && !(hasB s 43)
theorem tag_is (s : Bs) (h1 : ¬ s = [42]) (h2 : ¬ s = [43]) : tagB s = tgB s := by
  have e : (s.any fun c => c == 42 || c == 43) = (hasB s 42 || hasB s 43) := by
    unfold hasB
    rw [Bool.eq_iff_iff]
    simp only [List.any_eq_true, Bool.or_eq_true, beq_iff_eq, List.contains_iff_mem]
    constructor
    · rintro ⟨c, hc, rfl | rfl⟩
      · exact .inl hc
      · exact .inr hc
    · rintro (h | h)
      · exact ⟨_, h, .inl rfl⟩
      · exact ⟨_, h, .inr rfl⟩
  unfold tagB tgB
  rw [beq_eq_false_iff_ne.2 h1, beq_eq_false_iff_ne.2 h2, e]
  cases s.all letB <;> cases (s != []) <;> cases hasB s 42 <;> cases hasB s 43 <;> rfl
set_option maxRecDepth 100000 in
set_option maxHeartbeats 8000000 in
theorem right_r (w : World) (N : Nat → Prop) (r : Lw) (n : Ln) (hr : LnAt w N r n) (hn : NumN n) : Calls Tryz.prog 12 #[lV r] w (Bo (lineB n) w) := by
  obtain ⟨rt, ⟨va, vb, vc⟩, rs, ⟨ca, cb, cc⟩, rx⟩ := r
  obtain ⟨et, es, ex, hv, hc⟩ := hr
  obtain ⟨tag, vals, st, code, x⟩ := n
  simp only [Sl.v] at et es ex hv hc
  subst et es ex
  obtain ⟨_, _, he, _⟩ := hv.slice
  simp only [Value.slice.injEq] at he
  obtain ⟨rfl, rfl, rfl⟩ := he
  obtain ⟨_, _, he, _⟩ := hc.slice
  simp only [Value.slice.injEq] at he
  obtain ⟨rfl, rfl, rfl⟩ := he
  obtain ⟨n1, n2, n3, n4, n5, n6, n7⟩ := hn
  simp only at n1 n2 n3 n4 n5 n6 n7
  rw [lV_mk]
  have hA : Below w.heap.size w (w.alloc (.cells #[.string (str rt), .slice va vals.length vc, .string (str rs), .slice ca code.length cc, .string (str rx)] 28)) := al _ _
  have HA := hid hA
  have v1 : L5 (w.alloc (.cells #[.string (str rt), .slice va vals.length vc, .string (str rs), .slice ca code.length cc, .string (str rx)] 28)) w.heap.size ⟨rt, (va, vals.length, vc), rs, (ca, code.length, cc), rx⟩ := L5.new w ⟨rt, (va, vals.length, vc), rs, (ca, code.length, cc), rx⟩
  obtain ⟨x0, x1, x2, x3, x4⟩ := v1.cs
  simp only [Sl.v] at x1 x3
  have C1 := hid (fun (w' : World) => letters_r rt w' n3)
  have C2 := hid (fun (w' : World) => has_r rt 42 w' n3)
  have C3 := hid (fun (w' : World) => has_r rt 43 w' n3)
  rw [show (((42 : UInt8).toNat : Int)) = 42 from rfl] at C2
  rw [show (((43 : UInt8).toNat : Int)) = 43 from rfl] at C3
  have C4 := hid (fun (w' : World) => graphic_r rx w' n5)
  have C5 := hid (fun (w' : World) => status_r rs w')
  have CC := hid (fun (w' : World) (hW : Below w.heap.size w w') => rs_all (szL code) w' N 0 _ code (hc.later hW) n2 (Nat.le_refl _) (by omega) n7)
  have CV := hid (fun (w' : World) (hW : Below w.heap.size w w') => rs_all (szL vals) w' N 0 _ vals (hv.later hW) n1 (Nat.le_refl _) (by omega) n6)
  rw [show ((0 : Nat) : Int) = 0 from rfl] at CC CV
  have HSo : Hid (vals = [] ∨ ∃ (g o : Nat) (v0 : Vl), va = some ⟨g, o, none⟩ ∧ g < (w.alloc (.cells #[.string (str rt), .slice va vals.length vc, .string (str rs), .slice ca code.length cc, .string (str rx)] 28)).heap.size ∧ someB vals = (!(v0.k == 2 && statB v0.x) && rightsB 0 vals) ∧
      (w.alloc (.cells #[.string (str rt), .slice va vals.length vc, .string (str rs), .slice ca code.length cc, .string (str rx)] 28)).cell? ⟨g, o, none⟩ = some (.int .i64 v0.k) ∧ (w.alloc (.cells #[.string (str rt), .slice va vals.length vc, .string (str rs), .slice ca code.length cc, .string (str rx)] 28)).cell? ⟨g, o + 1, none⟩ = some (.string (str v0.x))) := by
    rcases vals with _ | ⟨v0, vs⟩
    · exact .inl rfl
    · right
      obtain ⟨rows, h1, h2, h3⟩ := (hv.later hA).open_
      rcases rows with _ | ⟨p, rows⟩
      · simp at h2
      · simp only [List.map_cons, List.cons.injEq] at h2
        obtain ⟨g, o, c, e, _, h, _, hg⟩ := h1.at_ (by simp)
        simp only [Value.slice.injEq] at e
        have h5 := h.v 0 p.1 rfl
        simp only [Nat.zero_mul, Nat.add_zero] at h5
        have hp := (h3 p (by simp)).h
        refine ⟨g, o, v0, e.1, hg, by simp [someB], ?_, ?_⟩
        · rw [h2.1, ← hp.1]; exact h5.1
        · rw [h2.1, ← hp.2.1]; exact h5.2.1
  have HL : Hid (lineB ⟨rt, vals, rs, code, rx⟩ = (tagB rt && textB ⟨rt, vals, rs, code, rx⟩ && (if rt = [43] then (rs == []) && code.isEmpty && vals.isEmpty else if rs ≠ [] then statB rs && vals.isEmpty && rightsB 0 code else (rx == []) && code.isEmpty && someB vals))) := rfl
  have HTx : Hid (textB ⟨rt, vals, rs, code, rx⟩ = (rx.all plB && (!decide (code.length = 0) || !([91] : Bs).isPrefixOf rx))) := by
    unfold Hid textB
    cases code <;> simp
  have HCE : Hid (code.isEmpty = decide (code.length = 0)) := by cases code <;> rfl
  have HVE : Hid (vals.isEmpty = decide (vals.length = 0)) := by cases vals <;> rfl
  have HVN : Hid (vals = [] → vals.length = 0) := fun h => by rw [h]; rfl
  have HSN : Hid (vals.length = 0 → someB vals = false) := fun h => by rw [List.eq_nil_of_length_eq_zero h]; rfl
  have hl0 := fun A => fldL A 0 (by omega)
  have hl1 := fun A => fldL A 1 (by omega)
  have hl2 := fun A => fldL A 2 (by omega)
  have hl3 := fun A => fldL A 3 (by omega)
  have hl4 := fun A => fldL A 4 (by omega)
  have hsx := str_size rx
  obtain ⟨tb, htb⟩ : ∃ q, textB ⟨rt, vals, rs, code, rx⟩ = q := ⟨_, rfl⟩
  rw [htb] at HL HTx
  obtain ⟨tg, htg⟩ : ∃ q, tgB rt = q := ⟨_, rfl⟩
  have HTG : Hid (tgB rt = tg) := htg
  have HTD : Hid (tg = ((rt.all letB && (rt != [])) && !(hasB rt 42) && !(hasB rt 43))) := htg.symm
  have HTI : Hid (¬ rt = [42] → ¬ rt = [43] → tagB rt = tg) := fun h1 h2 => (tag_is rt h1 h2).trans htg
  generalize lineB ⟨rt, vals, rs, code, rx⟩ = Z at *
  generalize vals.length = V at *
  generalize code.length = K at *
  generalize rightsB 0 code = RC at *
  clear htb htg hv hc n1 n2 n3 n4 n5 n6 n7 v1 hA
  go_enter Tryz.func12, Tryz.ntmps12
  go_upto_region 1 with fail
  go_cut [3] from 5 to 19 (fun t wx => t = .bool tg ∧ wx = w.alloc (.cells #[.string (str rt), .slice va V vc, .string (str rs), .slice ca K cc, .string (str rx)] 28))
  case first =>
    generalize (rt.all letB && (rt != [])) = L at *
    generalize hasB rt 42 = S at *
    generalize hasB rt 43 = P at *
    go_wp2_with fail
    refine (C1.out _).mono ?_
    rintro e w2 ⟨rfl, rfl⟩
    cases L
    · go_wp2_with fail
      go_meet
      exact ⟨by rw [HTD.out]; rfl, rfl⟩
    · go_wp2_with fail
      refine (C2.out _).mono ?_
      rintro e w2 ⟨rfl, rfl⟩
      cases S
      · go_wp2_with fail
        refine (C3.out _).mono ?_
        rintro e w2 ⟨rfl, rfl⟩
        cases P
        · go_wp2_with fail
          go_meet
          exact ⟨by rw [HTD.out]; rfl, rfl⟩
        · go_wp2_with fail
          go_meet
          exact ⟨by rw [HTD.out]; rfl, rfl⟩
      · go_wp2_with fail
        go_meet
        exact ⟨by rw [HTD.out]; simp, rfl⟩
  case rest =>
    obtain ⟨rfl, rfl⟩ := hcut
    by_cases h43 : rt = [43]
    · subst h43
      have t1 : (str ([43] : Bs)).toList = ([43] : Bs) := by rw [toL]
      have t2 : ((str ([43] : Bs)).toList == ([42] : Bs)) = false := by rw [toL]; rfl
      have t3 : ¬ (str ([43] : Bs)).toList = ([42] : Bs) := by rw [toL]; decide
      have htg : tg = false := by rw [← HTG.out]; rfl
      have HTT : Hid (tagB [43] = true) := rfl
      subst htg
      go_upto_region 4 with fail
      go_cut [4] from 20 to 51 (fun t wx => t = .bool tb ∧ wx = w.alloc (.cells #[.string (str [43]), .slice va V vc, .string (str rs), .slice ca K cc, .string (str rx)] 28))
      case first =>
        obtain ⟨G, hG⟩ : ∃ q, rx.all plB = q := ⟨_, rfl⟩
        have HG := hid hG
        have C4' := C4.out
        rw [hG] at C4'
        have C6 := hid C4'
        clear hG C4' C4
        go_wp2_with fail
        refine (C6.out _).mono ?_
        rintro e w2 ⟨rfl, rfl⟩
        cases G
        · go_wp2_with fail
          go_meet
          exact ⟨by rw [HTx.out, HG.out]; rfl, rfl⟩
        · by_cases hK : K = 0
          · subst hK
            rcases rx with _ | ⟨c, rx⟩
            · have g1 : (str ([] : Bs)).toList = ([] : Bs) := by rw [toL]
              have g2 : (str ([] : Bs)).toList.isEmpty = true := by rw [toL]; rfl
              go_wp2_with fail
              go_meet
              exact ⟨by rw [HTx.out]; rfl, rfl⟩
            · have g1 : ((str (c :: rx)).toList == ([] : Bs)) = false := by rw [toL]; rfl
              have g2 : (str (c :: rx)).toList.isEmpty = false := by rw [toL]; rfl
              have g3 : ¬ (str (c :: rx)).toList = ([] : Bs) := by rw [toL]; simp
              have hs0 : 0 < (str (c :: rx)).size := by rw [str_size]; simp
              have g : ((str (c :: rx))[0]'hs0) = c := rfl
              have hsx2 : (0 : Int) < (str (c :: rx)).size := by omega
              by_cases hc91 : c = 91
              · have e1 : (c.toNat : Int) = 91 := by rw [hc91]; rfl
                have HT2 : Hid (tb = false) := by rw [Hid, HTx.out, HG.out, hc91]; simp
                clear hc91
                go_wp2_with fail
                go_meet
                exact ⟨by rw [HT2.out], rfl⟩
              · have e1 : ¬ (c.toNat : Int) = 91 := fun h => hc91 (UInt8.toNat_inj.1 (by have : (91 : UInt8).toNat = 91 := rfl; omega))
                have HT2 : Hid (tb = true) := by rw [Hid, HTx.out, HG.out, show ([91] : Bs).isPrefixOf (c :: rx) = ((91 : UInt8) == c) from by simp [List.isPrefixOf], beq_eq_false_iff_ne.2 (fun h => hc91 h.symm)]; rfl
                clear hc91
                go_wp2_with fail
                go_meet
                exact ⟨by rw [HT2.out]; first | rfl | exact congrArg Value.bool (by simpa using e1), rfl⟩
          · have hK1 : (0 : Int) < K := by omega
            have hK2 : 0 < K := by omega
            have HT2 : Hid (tb = true) := by rw [Hid, HTx.out, HG.out]; simp [hK]
            go_wp2_with fail
            go_meet
            exact ⟨by rw [HT2.out], rfl⟩
      case rest =>
        obtain ⟨rfl, rfl⟩ := hcut
        clear C4
        cases tb
        case false =>
          have HZ : Hid (Z = false) := by rw [Hid, HL.out]; simp [HCE.out, HVE.out, HTT.out, *]
          go_wp2_with fail
          go_ret
          rw [HZ.out]
          exact ⟨by first | rfl | (simp; done) | (simp [*]; done) | simp_all, HA.out⟩
        by_cases hrs : rs = []
        case neg =>
          have s1 : ((str rs).toList == ([] : Bs)) = false := by rw [toL, beq_eq_false_iff_ne]; exact hrs
          have s2 : (str rs).toList.isEmpty = false := by rw [toL]; simpa using hrs
          have s3 : ¬ (str rs).toList = ([] : Bs) := by rw [toL]; exact hrs
          have HZ : Hid (Z = false) := by rw [Hid, HL.out]; simp [HCE.out, HVE.out, HTT.out, *]
          go_wp2_with fail
          go_ret
          rw [HZ.out]
          exact ⟨by first | rfl | (simp; done) | (simp [*]; done) | simp_all, HA.out⟩
        subst hrs
        have s1 : (str ([] : Bs)).toList = ([] : Bs) := by rw [toL]
        have s2 : (str ([] : Bs)).toList.isEmpty = true := by rw [toL]; rfl
        by_cases hK : K = 0
        case neg =>
          have hK1 : ¬ (K : Int) = 0 := by omega
          have HZ : Hid (Z = false) := by rw [Hid, HL.out]; simp [HCE.out, HVE.out, HTT.out, *]
          go_wp2_with fail
          go_ret
          rw [HZ.out]
          exact ⟨by first | rfl | (simp; done) | (simp [*]; done) | simp_all, HA.out⟩
        subst hK
        by_cases hV : V = 0
        case neg =>
          have hV1 : ¬ (V : Int) = 0 := by omega
          have HZ : Hid (Z = false) := by rw [Hid, HL.out]; simp [HCE.out, HVE.out, HTT.out, *]
          go_wp2_with fail
          go_ret
          rw [HZ.out]
          exact ⟨by first | rfl | (simp; done) | (simp [*]; done) | simp_all, HA.out⟩
        subst hV
        have HZ : Hid (Z = true) := by rw [Hid, HL.out]; simp [HCE.out, HVE.out, HTT.out, *]
        go_wp2_with fail
        go_ret
        rw [HZ.out]
        exact ⟨by first | rfl | (simp; done) | (simp [*]; done) | simp_all, HA.out⟩
    · have u1 : ((str rt).toList == ([43] : Bs)) = false := by rw [toL, beq_eq_false_iff_ne]; exact h43
      have u2 : ¬ (str rt).toList = ([43] : Bs) := by rw [toL]; exact h43
      by_cases h42 : rt = [42]
      · subst h42
        have t1 : (str ([42] : Bs)).toList = ([42] : Bs) := by rw [toL]
        have htg : tg = false := by rw [← HTG.out]; rfl
        have HTT : Hid (tagB [42] = true) := rfl
        subst htg
        go_upto_region 4 with fail
        go_cut [4] from 20 to 51 (fun t wx => t = .bool tb ∧ wx = w.alloc (.cells #[.string (str [42]), .slice va V vc, .string (str rs), .slice ca K cc, .string (str rx)] 28))
        case first =>
          obtain ⟨G, hG⟩ : ∃ q, rx.all plB = q := ⟨_, rfl⟩
          have HG := hid hG
          have C4' := C4.out
          rw [hG] at C4'
          have C6 := hid C4'
          clear hG C4' C4
          go_wp2_with fail
          refine (C6.out _).mono ?_
          rintro e w2 ⟨rfl, rfl⟩
          cases G
          · go_wp2_with fail
            go_meet
            exact ⟨by rw [HTx.out, HG.out]; rfl, rfl⟩
          · by_cases hK : K = 0
            · subst hK
              rcases rx with _ | ⟨c, rx⟩
              · have g1 : (str ([] : Bs)).toList = ([] : Bs) := by rw [toL]
                have g2 : (str ([] : Bs)).toList.isEmpty = true := by rw [toL]; rfl
                go_wp2_with fail
                go_meet
                exact ⟨by rw [HTx.out]; rfl, rfl⟩
              · have g1 : ((str (c :: rx)).toList == ([] : Bs)) = false := by rw [toL]; rfl
                have g2 : (str (c :: rx)).toList.isEmpty = false := by rw [toL]; rfl
                have g3 : ¬ (str (c :: rx)).toList = ([] : Bs) := by rw [toL]; simp
                have hs0 : 0 < (str (c :: rx)).size := by rw [str_size]; simp
                have g : ((str (c :: rx))[0]'hs0) = c := rfl
                have hsx2 : (0 : Int) < (str (c :: rx)).size := by omega
                by_cases hc91 : c = 91
                · have e1 : (c.toNat : Int) = 91 := by rw [hc91]; rfl
                  have HT2 : Hid (tb = false) := by rw [Hid, HTx.out, HG.out, hc91]; simp
                  clear hc91
                  go_wp2_with fail
                  go_meet
                  exact ⟨by rw [HT2.out], rfl⟩
                · have e1 : ¬ (c.toNat : Int) = 91 := fun h => hc91 (UInt8.toNat_inj.1 (by have : (91 : UInt8).toNat = 91 := rfl; omega))
                  have HT2 : Hid (tb = true) := by rw [Hid, HTx.out, HG.out, show ([91] : Bs).isPrefixOf (c :: rx) = ((91 : UInt8) == c) from by simp [List.isPrefixOf], beq_eq_false_iff_ne.2 (fun h => hc91 h.symm)]; rfl
                  clear hc91
                  go_wp2_with fail
                  go_meet
                  exact ⟨by rw [HT2.out]; first | rfl | exact congrArg Value.bool (by simpa using e1), rfl⟩
            · have hK1 : (0 : Int) < K := by omega
              have hK2 : 0 < K := by omega
              have HT2 : Hid (tb = true) := by rw [Hid, HTx.out, HG.out]; simp [hK]
              go_wp2_with fail
              go_meet
              exact ⟨by rw [HT2.out], rfl⟩
        case rest =>
          obtain ⟨rfl, rfl⟩ := hcut
          clear C4
          by_cases hrs : rs = []
          case neg =>
            have s1 : ((str rs).toList == ([] : Bs)) = false := by rw [toL, beq_eq_false_iff_ne]; exact hrs
            have s2 : (str rs).toList.isEmpty = false := by rw [toL]; simpa using hrs
            have s3 : ¬ (str rs).toList = ([] : Bs) := by rw [toL]; exact hrs
            cases tb
            case false =>
              have HZ : Hid (Z = false) := by rw [Hid, HL.out]; simp [HCE.out, HVE.out, HTT.out, *]
              clear hrs
              go_wp2_with fail
              go_ret
              rw [HZ.out]
              exact ⟨by first | rfl | (simp; done) | (simp [*]; done) | simp_all, HA.out⟩
            obtain ⟨ST, hST⟩ : ∃ q, statB rs = q := ⟨_, rfl⟩
            have HST := hid hST
            have C5' := C5.out
            rw [hST] at C5'
            have C6 := hid C5'
            clear hST C5' C5
            cases ST
            case false =>
              have HZ : Hid (Z = false) := by rw [Hid, HL.out]; have := HST.out; simp [HCE.out, HVE.out, HTT.out, *]
              clear hrs
              go_wp2_with fail
              refine (C6.out _).mono ?_
              rintro e w2 ⟨rfl, rfl⟩
              go_wp2_with fail
              go_ret
              rw [HZ.out]
              exact ⟨by first | rfl | (simp; done) | (simp [*]; done) | simp_all, HA.out⟩
            by_cases hV : V = 0
            case neg =>
              have hV1 : ¬ (V : Int) = 0 := by omega
              have HZ : Hid (Z = false) := by rw [Hid, HL.out]; have := HST.out; simp [HCE.out, HVE.out, HTT.out, *]
              clear hrs
              go_wp2_with fail
              refine (C6.out _).mono ?_
              rintro e w2 ⟨rfl, rfl⟩
              go_wp2_with fail
              go_ret
              rw [HZ.out]
              exact ⟨by first | rfl | (simp; done) | (simp [*]; done) | simp_all, HA.out⟩
            subst hV
            have HZ : Hid (Z = RC) := by rw [Hid, HL.out]; have := HST.out; simp [HCE.out, HVE.out, HTT.out, *]
            clear hrs
            go_wp2_with fail
            refine (C6.out _).mono ?_
            rintro e w2 ⟨rfl, rfl⟩
            go_wp2_with fail
            refine (CC.out _ HA.out).mono ?_
            rintro e w3 ⟨rfl, b2⟩
            have B3 := hid (HA.out.trans (b2.mono HA.out.size))
            go_wp2_with fail
            go_ret
            rw [HZ.out]
            exact ⟨by first | rfl | (simp; done) | (simp [*]; done) | simp_all, B3.out⟩
          subst hrs
          have s1 : (str ([] : Bs)).toList = ([] : Bs) := by rw [toL]
          have s2 : (str ([] : Bs)).toList.isEmpty = true := by rw [toL]; rfl
          by_cases hrx : rx = []
          case neg =>
            have r1 : ((str rx).toList == ([] : Bs)) = false := by rw [toL, beq_eq_false_iff_ne]; exact hrx
            have r2 : (str rx).toList.isEmpty = false := by rw [toL]; simpa using hrx
            have r3 : ¬ (str rx).toList = ([] : Bs) := by rw [toL]; exact hrx
            have HZ : Hid (Z = false) := by rw [Hid, HL.out]; (have := hrx); simp [HCE.out, HVE.out, HTT.out, *]
            clear hrx
            go_wp2_with fail
            go_ret
            rw [HZ.out]
            exact ⟨by first | rfl | (simp; done) | (simp [*]; done) | simp_all, HA.out⟩
          subst hrx
          by_cases hK : K = 0
          case neg =>
            have hK1 : ¬ (K : Int) = 0 := by omega
            have HZ : Hid (Z = false) := by rw [Hid, HL.out]; simp [HCE.out, HVE.out, HTT.out, *]
            go_wp2_with fail
            go_ret
            rw [HZ.out]
            exact ⟨by first | rfl | (simp; done) | (simp [*]; done) | simp_all, HA.out⟩
          subst hK
          have HTB : Hid (tb = true) := by rw [Hid, HTx.out]; rfl
          by_cases hV : V = 0
          case neg =>
            have hV1 : (0 : Int) < V := by omega
            have hV2 : 0 < V := by omega
            have hso := HSo.out
            rcases hso with hso | ⟨g, o, v0, hva, hg, hsb, hc0, hc1⟩
            · exact absurd (HVN.out hso) hV
            · subst hva
              obtain ⟨RV, hRV⟩ : ∃ q, rightsB 0 vals = q := ⟨_, rfl⟩
              have CV' := CV.out
              rw [hRV] at CV' hsb
              have C7 := hid CV'
              have HSB := hid hsb
              clear CV' CV hRV hsb
              cases RV
              case false =>
                have HZ : Hid (Z = false) := by rw [Hid, HL.out]; have := HSB.out; have := HTB.out; simp [HCE.out, HVE.out, HTT.out, *]
                go_wp2_with fail
                refine (C7.out _ HA.out).mono ?_
                rintro e w3 ⟨rfl, b2⟩
                have B3 := hid (HA.out.trans (b2.mono HA.out.size))
                go_wp2_with fail
                go_ret
                rw [HZ.out]
                exact ⟨by first | rfl | (simp; done) | (simp [*]; done) | simp_all, B3.out⟩
              obtain ⟨k0, t0, m0, ks0, fr0⟩ := v0
              simp only [Vl.k, Vl.x] at hc0 hc1 HSB
              by_cases hk2 : k0 = 2
              case neg =>
                have HZ : Hid (Z = true) := by rw [Hid, HL.out]; have := HSB.out; have := HTB.out; simp [HCE.out, HVE.out, HTT.out, *]
                go_wp2_with fail
                refine (C7.out _ HA.out).mono ?_
                rintro e w3 ⟨rfl, b2⟩
                have B3 := hid (HA.out.trans (b2.mono HA.out.size))
                have hd0 := (b2.cell hg).trans hc0
                have hd1 := (b2.cell hg).trans hc1
                have hd2 := (b2.cell (p := ⟨w.heap.size, 1, none⟩) (by simp)).trans x1
                clear b2 hc0 hc1
                go_wp2_with fail
                go_ret
                rw [HZ.out]
                exact ⟨by first | rfl | (simp; done) | (simp [*]; done) | simp_all, B3.out⟩
              subst hk2
              obtain ⟨SS, hSS⟩ : ∃ q, statB t0 = q := ⟨_, rfl⟩
              have C8 := hid (fun (w' : World) => status_r t0 w')
              rw [hSS] at C8 HSB
              clear hSS
              have HZ : Hid (Z = (!SS)) := by rw [Hid, HL.out]; have := HSB.out; have := HTB.out; simp [HCE.out, HVE.out, HTT.out, *]
              go_wp2_with fail
              refine (C7.out _ HA.out).mono ?_
              rintro e w3 ⟨rfl, b2⟩
              have B3 := hid (HA.out.trans (b2.mono HA.out.size))
              have hd0 := (b2.cell hg).trans hc0
              have hd1 := (b2.cell hg).trans hc1
              have hd2 := (b2.cell (p := ⟨w.heap.size, 1, none⟩) (by simp)).trans x1
              clear b2 hc0 hc1
              go_wp2_with fail
              refine (C8.out _).mono ?_
              rintro e w4 ⟨rfl, rfl⟩
              go_wp2_with fail
              go_ret
              rw [HZ.out]
              exact ⟨by first | rfl | (simp; done) | (simp [*]; done) | simp_all, B3.out⟩
          subst hV
          have HZ : Hid (Z = false) := by rw [Hid, HL.out]; have := HSN.out rfl; simp [HCE.out, HVE.out, HTT.out, *]
          go_wp2_with fail
          go_ret
          rw [HZ.out]
          exact ⟨by first | rfl | (simp; done) | (simp [*]; done) | simp_all, HA.out⟩
      · have t1 : ((str rt).toList == ([42] : Bs)) = false := by rw [toL, beq_eq_false_iff_ne]; exact h42
        have t2 : ¬ (str rt).toList = ([42] : Bs) := by rw [toL]; exact h42
        have HTT : Hid (tagB rt = tg) := HTI.out h42 h43
        cases tg
        case false =>
          have HZ : Hid (Z = false) := by rw [Hid, HL.out]; simp [HTT.out]
          clear h42 h43
          go_wp2_with fail
          go_ret
          rw [HZ.out]
          exact ⟨by first | rfl | (simp; done) | (simp [*]; done) | simp_all, HA.out⟩
        go_upto_region 4 with fail
        go_cut [4] from 20 to 51 (fun t wx => t = .bool tb ∧ wx = w.alloc (.cells #[.string (str rt), .slice va V vc, .string (str rs), .slice ca K cc, .string (str rx)] 28))
        case first =>
          obtain ⟨G, hG⟩ : ∃ q, rx.all plB = q := ⟨_, rfl⟩
          have HG := hid hG
          have C4' := C4.out
          rw [hG] at C4'
          have C6 := hid C4'
          clear hG C4' C4
          go_wp2_with fail
          refine (C6.out _).mono ?_
          rintro e w2 ⟨rfl, rfl⟩
          cases G
          · go_wp2_with fail
            go_meet
            exact ⟨by rw [HTx.out, HG.out]; rfl, rfl⟩
          · by_cases hK : K = 0
            · subst hK
              rcases rx with _ | ⟨c, rx⟩
              · have g1 : (str ([] : Bs)).toList = ([] : Bs) := by rw [toL]
                have g2 : (str ([] : Bs)).toList.isEmpty = true := by rw [toL]; rfl
                go_wp2_with fail
                go_meet
                exact ⟨by rw [HTx.out]; rfl, rfl⟩
              · have g1 : ((str (c :: rx)).toList == ([] : Bs)) = false := by rw [toL]; rfl
                have g2 : (str (c :: rx)).toList.isEmpty = false := by rw [toL]; rfl
                have g3 : ¬ (str (c :: rx)).toList = ([] : Bs) := by rw [toL]; simp
                have hs0 : 0 < (str (c :: rx)).size := by rw [str_size]; simp
                have g : ((str (c :: rx))[0]'hs0) = c := rfl
                have hsx2 : (0 : Int) < (str (c :: rx)).size := by omega
                by_cases hc91 : c = 91
                · have e1 : (c.toNat : Int) = 91 := by rw [hc91]; rfl
                  have HT2 : Hid (tb = false) := by rw [Hid, HTx.out, HG.out, hc91]; simp
                  clear hc91
                  go_wp2_with fail
                  go_meet
                  exact ⟨by rw [HT2.out], rfl⟩
                · have e1 : ¬ (c.toNat : Int) = 91 := fun h => hc91 (UInt8.toNat_inj.1 (by have : (91 : UInt8).toNat = 91 := rfl; omega))
                  have HT2 : Hid (tb = true) := by rw [Hid, HTx.out, HG.out, show ([91] : Bs).isPrefixOf (c :: rx) = ((91 : UInt8) == c) from by simp [List.isPrefixOf], beq_eq_false_iff_ne.2 (fun h => hc91 h.symm)]; rfl
                  clear hc91
                  go_wp2_with fail
                  go_meet
                  exact ⟨by rw [HT2.out]; first | rfl | exact congrArg Value.bool (by simpa using e1), rfl⟩
            · have hK1 : (0 : Int) < K := by omega
              have hK2 : 0 < K := by omega
              have HT2 : Hid (tb = true) := by rw [Hid, HTx.out, HG.out]; simp [hK]
              go_wp2_with fail
              go_meet
              exact ⟨by rw [HT2.out], rfl⟩
        case rest =>
          obtain ⟨rfl, rfl⟩ := hcut
          clear C4
          by_cases hrs : rs = []
          case neg =>
            have s1 : ((str rs).toList == ([] : Bs)) = false := by rw [toL, beq_eq_false_iff_ne]; exact hrs
            have s2 : (str rs).toList.isEmpty = false := by rw [toL]; simpa using hrs
            have s3 : ¬ (str rs).toList = ([] : Bs) := by rw [toL]; exact hrs
            cases tb
            case false =>
              have HZ : Hid (Z = false) := by rw [Hid, HL.out]; simp [HCE.out, HVE.out, HTT.out, *]
              clear hrs
              go_wp2_with fail
              go_ret
              rw [HZ.out]
              exact ⟨by first | rfl | (simp; done) | (simp [*]; done) | simp_all, HA.out⟩
            obtain ⟨ST, hST⟩ : ∃ q, statB rs = q := ⟨_, rfl⟩
            have HST := hid hST
            have C5' := C5.out
            rw [hST] at C5'
            have C6 := hid C5'
            clear hST C5' C5
            cases ST
            case false =>
              have HZ : Hid (Z = false) := by rw [Hid, HL.out]; have := HST.out; simp [HCE.out, HVE.out, HTT.out, *]
              clear hrs
              go_wp2_with fail
              refine (C6.out _).mono ?_
              rintro e w2 ⟨rfl, rfl⟩
              go_wp2_with fail
              go_ret
              rw [HZ.out]
              exact ⟨by first | rfl | (simp; done) | (simp [*]; done) | simp_all, HA.out⟩
            by_cases hV : V = 0
            case neg =>
              have hV1 : ¬ (V : Int) = 0 := by omega
              have HZ : Hid (Z = false) := by rw [Hid, HL.out]; have := HST.out; simp [HCE.out, HVE.out, HTT.out, *]
              clear hrs
              go_wp2_with fail
              refine (C6.out _).mono ?_
              rintro e w2 ⟨rfl, rfl⟩
              go_wp2_with fail
              go_ret
              rw [HZ.out]
              exact ⟨by first | rfl | (simp; done) | (simp [*]; done) | simp_all, HA.out⟩
            subst hV
            have HZ : Hid (Z = RC) := by rw [Hid, HL.out]; have := HST.out; simp [HCE.out, HVE.out, HTT.out, *]
            clear hrs
            go_wp2_with fail
            refine (C6.out _).mono ?_
            rintro e w2 ⟨rfl, rfl⟩
            go_wp2_with fail
            refine (CC.out _ HA.out).mono ?_
            rintro e w3 ⟨rfl, b2⟩
            have B3 := hid (HA.out.trans (b2.mono HA.out.size))
            go_wp2_with fail
            go_ret
            rw [HZ.out]
            exact ⟨by first | rfl | (simp; done) | (simp [*]; done) | simp_all, B3.out⟩
          subst hrs
          have s1 : (str ([] : Bs)).toList = ([] : Bs) := by rw [toL]
          have s2 : (str ([] : Bs)).toList.isEmpty = true := by rw [toL]; rfl
          by_cases hrx : rx = []
          case neg =>
            have r1 : ((str rx).toList == ([] : Bs)) = false := by rw [toL, beq_eq_false_iff_ne]; exact hrx
            have r2 : (str rx).toList.isEmpty = false := by rw [toL]; simpa using hrx
            have r3 : ¬ (str rx).toList = ([] : Bs) := by rw [toL]; exact hrx
            have HZ : Hid (Z = false) := by rw [Hid, HL.out]; (have := hrx); simp [HCE.out, HVE.out, HTT.out, *]
            clear hrx
            go_wp2_with fail
            go_ret
            rw [HZ.out]
            exact ⟨by first | rfl | (simp; done) | (simp [*]; done) | simp_all, HA.out⟩
          subst hrx
          by_cases hK : K = 0
          case neg =>
            have hK1 : ¬ (K : Int) = 0 := by omega
            have HZ : Hid (Z = false) := by rw [Hid, HL.out]; simp [HCE.out, HVE.out, HTT.out, *]
            go_wp2_with fail
            go_ret
            rw [HZ.out]
            exact ⟨by first | rfl | (simp; done) | (simp [*]; done) | simp_all, HA.out⟩
          subst hK
          have HTB : Hid (tb = true) := by rw [Hid, HTx.out]; rfl
          by_cases hV : V = 0
          case neg =>
            have hV1 : (0 : Int) < V := by omega
            have hV2 : 0 < V := by omega
            have hso := HSo.out
            rcases hso with hso | ⟨g, o, v0, hva, hg, hsb, hc0, hc1⟩
            · exact absurd (HVN.out hso) hV
            · subst hva
              obtain ⟨RV, hRV⟩ : ∃ q, rightsB 0 vals = q := ⟨_, rfl⟩
              have CV' := CV.out
              rw [hRV] at CV' hsb
              have C7 := hid CV'
              have HSB := hid hsb
              clear CV' CV hRV hsb
              cases RV
              case false =>
                have HZ : Hid (Z = false) := by rw [Hid, HL.out]; have := HSB.out; have := HTB.out; simp [HCE.out, HVE.out, HTT.out, *]
                go_wp2_with fail
                refine (C7.out _ HA.out).mono ?_
                rintro e w3 ⟨rfl, b2⟩
                have B3 := hid (HA.out.trans (b2.mono HA.out.size))
                go_wp2_with fail
                go_ret
                rw [HZ.out]
                exact ⟨by first | rfl | (simp; done) | (simp [*]; done) | simp_all, B3.out⟩
              obtain ⟨k0, t0, m0, ks0, fr0⟩ := v0
              simp only [Vl.k, Vl.x] at hc0 hc1 HSB
              by_cases hk2 : k0 = 2
              case neg =>
                have HZ : Hid (Z = true) := by rw [Hid, HL.out]; have := HSB.out; have := HTB.out; simp [HCE.out, HVE.out, HTT.out, *]
                go_wp2_with fail
                refine (C7.out _ HA.out).mono ?_
                rintro e w3 ⟨rfl, b2⟩
                have B3 := hid (HA.out.trans (b2.mono HA.out.size))
                have hd0 := (b2.cell hg).trans hc0
                have hd1 := (b2.cell hg).trans hc1
                have hd2 := (b2.cell (p := ⟨w.heap.size, 1, none⟩) (by simp)).trans x1
                clear b2 hc0 hc1
                go_wp2_with fail
                go_ret
                rw [HZ.out]
                exact ⟨by first | rfl | (simp; done) | (simp [*]; done) | simp_all, B3.out⟩
              subst hk2
              obtain ⟨SS, hSS⟩ : ∃ q, statB t0 = q := ⟨_, rfl⟩
              have C8 := hid (fun (w' : World) => status_r t0 w')
              rw [hSS] at C8 HSB
              clear hSS
              have HZ : Hid (Z = (!SS)) := by rw [Hid, HL.out]; have := HSB.out; have := HTB.out; simp [HCE.out, HVE.out, HTT.out, *]
              go_wp2_with fail
              refine (C7.out _ HA.out).mono ?_
              rintro e w3 ⟨rfl, b2⟩
              have B3 := hid (HA.out.trans (b2.mono HA.out.size))
              have hd0 := (b2.cell hg).trans hc0
              have hd1 := (b2.cell hg).trans hc1
              have hd2 := (b2.cell (p := ⟨w.heap.size, 1, none⟩) (by simp)).trans x1
              clear b2 hc0 hc1
              go_wp2_with fail
              refine (C8.out _).mono ?_
              rintro e w4 ⟨rfl, rfl⟩
              go_wp2_with fail
              go_ret
              rw [HZ.out]
              exact ⟨by first | rfl | (simp; done) | (simp [*]; done) | simp_all, B3.out⟩
          subst hV
          have HZ : Hid (Z = false) := by rw [Hid, HL.out]; have := HSN.out rfl; simp [HCE.out, HVE.out, HTT.out, *]
          go_wp2_with fail
          go_ret
          rw [HZ.out]
          exact ⟨by first | rfl | (simp; done) | (simp [*]; done) | simp_all, HA.out⟩
end Go.Proofs.YtpjcpdnolcehcaaGreatDoor
