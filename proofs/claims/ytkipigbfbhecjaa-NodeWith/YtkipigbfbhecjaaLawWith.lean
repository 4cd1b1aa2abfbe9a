/- Proved here: a key that is put in at its place is found there; taken out again it leaves the leaf as it was (NodeWith returns true for every input, and leaves its arguments as they were). No condition. -/
import Derived.Test.YtkipigbfbhecjaaRows
import Derived.Test.YtkipigbfbhecjaaN17
import Derived.Test.YtkipigbfbhecjaaN19
import Derived.Test.YtkipigbfbhecjaaN20
import Derived.Test.YtkipigbfbhecjaaN22
import Derived.Test.YtkipigbfbhecjaaN48
import Derived.Test.YtkipigbfbhecjaaN49
import Derived.ProofKit
import Derived.ShutString
import Derived.ChangeOld
import Derived.Below
namespace Go.Proofs.Ytkipigbfbhecjaa.nodeWith
open Go.ChangeShapes Go.WideShapes Go.ChangeAt Go.RowKit
set_option linter.unusedVariables false

theorem alive_any (w : World) : Calls Try.prog 11 #[] w fun e w' => e = .returned (.bool true) ∧ Below w.heap.size w w' := alive_of (fun _ _ _ h s => split_any h s) w

set_option maxRecDepth 100000 in
set_option maxHeartbeats 8000000 in
theorem walk {w : World} {v : Value} {n : Nd} (h : NAt w v n) (key val : ByteArray) (hks : key.size ≤ maxLen) (hvs : val.size ≤ maxLen) : Calls Try.prog 9 #[v, .string key, .string val] w fun e w' => e = .returned (.bool true) ∧ Below w.heap.size w w' := by
  obtain ⟨ka, kp, ia, ep, da, dp, rfl, _⟩ := h.at_
  unfold maxLen at hks hvs
  have HN := hid (h.later (below_box w (.cells #[.bool n.leaf, .slice ka n.keys.length kp, .slice ia n.items.length ep, .slice da n.kids.length dp] 26)))
  have HB0 := hid (below_box w (.cells #[.bool n.leaf, .slice ka n.keys.length kp, .slice ia n.items.length ep, .slice da n.kids.length dp] 26))
  have HX := hid (@box4 w _ _ _ _ _ _ (Below.refl (w.alloc (.cells #[.bool n.leaf, .slice ka n.keys.length kp, .slice ia n.items.length ep, .slice da n.kids.length dp] 26)).heap.size _))
  clear h
  unfold nv at HN ⊢
  go_enter Try.func9, Try.ntmps9
  go_wp2_with fail
  generalize w.alloc (.cells #[.bool n.leaf, .slice ka n.keys.length kp, .slice ia n.items.length ep, .slice da n.kids.length dp] 26) = W at HB0 HX HN ⊢
  have hB : w.heap.size ≤ W.heap.size := HB0.out.size
  generalize hBe : w.heap.size = B at HB0 HX hB ⊢
  refine (few_any HN.out).mono ?_
  rintro e w1 ⟨fb, rfl, hf, hb1⟩
  have HB1 := hid hb1
  obtain ⟨x0, x1, x2, x3⟩ := HX.out
  clear hb1 HX
  cases fb with
  | false =>
    clear hf
    go_wp2_with (first | (go_at_call 11; refine (alive_any _).mono ?_; rintro e wL ⟨rfl, hbL⟩; have HBL := hid (HB1.out.trans (hbL.mono HB1.out.size)); clear hbL))
    go_ret
    exact ⟨rfl, below3 hBe HB0.out hB HBL.out⟩
  | true =>
    obtain ⟨f1, f2, f3⟩ := hf rfl
    have HSm : Hid n.small := ⟨by omega, by omega, by omega⟩
    have hk2 : n.keys.length ≤ 200 := by omega
    clear f1 f2 f3 hf
    have c0 := cell_later HB1.out x0
    have c1 := cell_later HB1.out x1
    have c2 := cell_later HB1.out x2
    have c3 := cell_later HB1.out x3
    cases hl : n.leaf with
    | false =>
      rw [hl] at c0
      clear hl
      go_wp2_with (first | (go_at_call 11; refine (alive_any _).mono ?_; rintro e wL ⟨rfl, hbL⟩; have HBL := hid (HB1.out.trans (hbL.mono HB1.out.size)); clear hbL))
      go_ret
      exact ⟨rfl, below3 hBe HB0.out hB HBL.out⟩
    | true =>
      rw [hl] at c0 x0 HN
      have HLf := hid hl
      clear hl
      have HRn := hid (right_any (HN.out.later HB1.out) HSm.out)
      cases hr : rightB n with
      | false =>
        rw [hr] at HRn
        clear hr
        go_wp2_with (first | (go_at_call 12; (refine (HRn.out).mono ?_; rintro e wHB2 ⟨rfl, hbx⟩; have HB2 := hid (HB1.out.trans (hbx.mono HB1.out.size)); clear hbx)) | (go_at_call 11; refine (alive_any _).mono ?_; rintro e wL ⟨rfl, hbL⟩; have HBL := hid (HB2.out.trans (hbL.mono HB2.out.size)); clear hbL))
        go_ret
        exact ⟨rfl, below3 hBe HB0.out hB HBL.out⟩
      | true =>
        rw [hr] at HRn
        have HRt := hid hr
        clear hr
        by_cases hk6 : (60 : Int) < key.size
        · go_wp2_with (first | (go_at_call 12; (refine (HRn.out).mono ?_; rintro e wHB2 ⟨rfl, hbx⟩; have HB2 := hid (HB1.out.trans (hbx.mono HB1.out.size)); clear hbx)) | (go_at_call 11; refine (alive_any _).mono ?_; rintro e wL ⟨rfl, hbL⟩; have HBL := hid (HB2.out.trans (hbL.mono HB2.out.size)); clear hbL))
          go_ret
          exact ⟨rfl, below3 hBe HB0.out hB HBL.out⟩
        · by_cases hv6 : (60 : Int) < val.size
          · go_wp2_with (first | (go_at_call 12; (refine (HRn.out).mono ?_; rintro e wHB2 ⟨rfl, hbx⟩; have HB2 := hid (HB1.out.trans (hbx.mono HB1.out.size)); clear hbx)) | (go_at_call 11; refine (alive_any _).mono ?_; rintro e wL ⟨rfl, hbL⟩; have HBL := hid (HB2.out.trans (hbL.mono HB2.out.size)); clear hbL))
            go_ret
            exact ⟨rfl, below3 hBe HB0.out hB HBL.out⟩
          · have hri := ri_of HRt.out
            have hF : findV n key = .tuple #[.int .i64 ((lowN n.keys key : Nat) : Int), .bool (isB n.keys key)] := by
              unfold findV
              rw [if_pos HRt.out, HLf.out]
              simp
            have HF := hid (fun (w : World) (v : Value) (h : NAt w v n) => find_any h HSm.out key)
            rw [hF] at HF
            clear hF
            have hlo := lowN_le n.keys key
            have hin := (hri.leaf HLf.out).1
            cases hib : isB n.keys key with
            | true =>
              rw [hib] at HF
              generalize lowN n.keys key = i at *
              clear hib hin hri
              go_wp2_with (first | (go_at_call 12; (refine (HRn.out).mono ?_; rintro e wHB2 ⟨rfl, hbx⟩; have HB2 := hid (HB1.out.trans (hbx.mono HB1.out.size)); have d0 := cell_later hbx c0; have d1 := cell_later hbx c1; have d2 := cell_later hbx c2; have d3 := cell_later hbx c3; clear hbx)) | (go_at_call 22; (refine (HF.out _ _ (HN.out.later HB2.out)).mono ?_; rintro e wHB3 ⟨rfl, hbx⟩; have HB3 := hid (HB2.out.trans (hbx.mono HB2.out.size)); clear hbx)) | (go_at_call 11; refine (alive_any _).mono ?_; rintro e wL ⟨rfl, hbL⟩; have HBL := hid (HB3.out.trans (hbL.mono HB3.out.size)); clear hbL))
              go_ret
              exact ⟨rfl, below3 hBe HB0.out hB HBL.out⟩
            | false =>
              rw [hib] at HF
              have hrm := with_right (key := key) (val := val) hri HLf.out (by omega) (by omega) hib
              have hFm := find_key (of_ri hrm)
              have hzm := with_size (key := key) (val := val) HLf.out hlo hin (n.keys.length + 1)
              rw [if_neg (by omega), Nat.add_sub_cancel] at hzm
              have hout := with_out (i := lowN n.keys key) (key := key) (x := ⟨val, 0, 0⟩) hri HLf.out hlo
              have hmk : (withN n (lowN n.keys key) key ⟨val, 0, 0⟩).keys.length = n.keys.length + 1 := ins_length hlo
              have hmi : (withN n (lowN n.keys key) key ⟨val, 0, 0⟩).items.length = n.items.length + 1 := ins_length (by omega)
              have hit : (withN n (lowN n.keys key) key ⟨val, 0, 0⟩).items[lowN n.keys key]? = some ⟨val, 0, 0⟩ := by
                show (ins n.items _ _)[_]? = _
                rw [ins_get (by omega), if_neg (by omega), if_pos rfl]
              have hsm : (withN n (lowN n.keys key) key ⟨val, 0, 0⟩).small := ⟨by omega, by omega, by show (0 : Nat) ≤ _; omega⟩
              have hTn : sizeB n = sizeN n n.keys.length := by unfold sizeB; rw [if_pos HRt.out]
              have hTm : sizeB (withN n (lowN n.keys key) key ⟨val, 0, 0⟩) = sizeB n + (2 + key.size + val.size) := by
                unfold sizeB
                rw [if_pos (of_ri hrm), if_pos HRt.out, hmk, hzm]
              have hTl : sizeB n ≤ 6 + 122 * 200 := by rw [hTn]; have h1 := hri.sizeN_le n.keys.length (Nat.le_refl _); have := Nat.mul_le_mul_left 122 hk2; omega
              have HWp : Hid (∀ (w : World) (v : Value) (mb : Nat), NAt w v n → Row w mb 51 (itc ⟨val, 0, 0⟩) → Calls Try.prog 26 #[v, .int .i64 ((lowN n.keys key : Nat) : Int), .string key, .slice (some ⟨mb, 0, none⟩) 1 1] w fun e w' => ∃ v', e = .returned v' ∧ NAt w' v' (withN n (lowN n.keys key) key ⟨val, 0, 0⟩) ∧ Below w.heap.size w w') :=
                fun w v mb h hx => with_put h HSm.out HLf.out HRt.out hlo hx (by unfold maxLen; omega) (by unfold maxLen; omega)
              have HWd : Hid (∀ (w : World) {v : Value}, NAt w v (withN n (lowN n.keys key) key ⟨val, 0, 0⟩) → Calls Try.prog 26 #[v, .int .i64 ((lowN n.keys key : Nat) : Int), .string ⟨#[]⟩, .slice none 0 0] w fun e w' => ∃ v', e = .returned v' ∧ NAt w' v' n ∧ Below w.heap.size w w') :=
                fun w v h => by
                  have := with_del (key := ⟨#[]⟩) h hsm rfl (of_ri hrm) (show lowN n.keys key < _ by rw [hmk]; omega)
                  rw [hout] at this
                  exact this
              have HRm : Hid (∀ (w : World) {v : Value}, NAt w v (withN n (lowN n.keys key) key ⟨val, 0, 0⟩) → Calls Try.prog 12 #[v] w fun e w' => e = .returned (.bool true) ∧ Below w.heap.size w w') := fun w v h => by
                have := right_any h hsm
                rw [of_ri hrm] at this
                exact this
              have HFm : Hid (∀ (w : World) {v : Value}, NAt w v (withN n (lowN n.keys key) key ⟨val, 0, 0⟩) → Calls Try.prog 22 #[v, .string key] w fun e w' => e = .returned (.tuple #[.int .i64 ((lowN n.keys key : Nat) : Int), .bool true]) ∧ Below w.heap.size w w') := fun w v h => by
                have := find_any h hsm key
                rw [hFm] at this
                exact this
              have HZm : Hid (∀ (w : World) {v : Value}, NAt w v (withN n (lowN n.keys key) key ⟨val, 0, 0⟩) → Calls Try.prog 14 #[v] w fun e w' => e = .returned (.int .i64 ((sizeB (withN n (lowN n.keys key) key ⟨val, 0, 0⟩) : Nat) : Int)) ∧ Below w.heap.size w w') := fun w v h => size_any h hsm
              have HZn : Hid (∀ (w : World) {v : Value}, NAt w v n → Calls Try.prog 14 #[v] w fun e w' => e = .returned (.int .i64 ((sizeB n : Nat) : Int)) ∧ Below w.heap.size w w') := fun w v h => size_any h HSm.out
              have hmleaf : (withN n (lowN n.keys key) key ⟨val, 0, 0⟩).leaf = true := rfl
              have hmkids : (withN n (lowN n.keys key) key ⟨val, 0, 0⟩).kids.length = 0 := rfl
              rw [hTm] at HZm
              have hiI : lowN n.keys key ≤ n.items.length := by omega
              clear hrm hFm hzm hout hsm hTn hTm hib hri
              generalize withN n (lowN n.keys key) key ⟨val, 0, 0⟩ = m at *
              generalize lowN n.keys key = i at *
              generalize sizeB n = tn at *
              generalize hkn : n.keys.length = kn at *
              generalize hen : n.items.length = en at *
              generalize hdn : n.kids.length = dn at *
              have HEK := hid hin
              have Hkn := hid hkn
              have Hen := hid hen
              have en2 : en ≤ 200 := by omega
              clear hkn hen hdn hin
              go_wp2_with (first | (go_at_call 12; (refine (HRn.out).mono ?_; rintro e wHB2 ⟨rfl, hbx⟩; have HB2 := hid (HB1.out.trans (hbx.mono HB1.out.size)); have d0 := cell_later hbx c0; have d1 := cell_later hbx c1; have d2 := cell_later hbx c2; have d3 := cell_later hbx c3; clear hbx)))
              refine (HF.out _ _ (HN.out.later HB2.out)).mono ?_
              rintro e w3 ⟨rfl, hb3⟩
              have HB3 := hid (HB2.out.trans (hb3.mono HB2.out.size))
              have d0 := cell_later HB3.out x0
              have d1 := cell_later HB3.out x1
              have d2 := cell_later HB3.out x2
              have d3 := cell_later HB3.out x3
              clear hb3 c0 c1 c2 c3
              have HMB : Hid (Row (w3.alloc (.cells #[.string val, .int .i64 0, .int .i64 0] 51)) w3.heap.size 51 (itc ⟨val, 0, 0⟩)) := heap_alloc_new w3 (.cells #[.string val, .int .i64 0, .int .i64 0] 51)
              have HB4 := hid (HB3.out.trans ((below_box w3 (.cells #[.string val, .int .i64 0, .int .i64 0] 51)).mono HB3.out.size))
              go_wp2_with fail
              generalize w3.alloc (.cells #[.string val, .int .i64 0, .int .i64 0] 51) = w4 at *
              generalize w3.heap.size = mb at *
              clear d0 d1 d2 d3
              refine (HWp.out _ _ mb (HN.out.later HB4.out) HMB.out).mono ?_
              rintro e w5 ⟨vm, rfl, hvm, hb5⟩
              have HB5 := hid (HB4.out.trans (hb5.mono HB4.out.size))
              obtain ⟨ma, mp, mia, mip, mda, mdp, rfl, hmk1, hmi1, hmd1, ⟨mk1, mk2⟩, ⟨mi1, mi2⟩, _⟩ := hvm.at_
              have hil : i < m.items.length := by omega
              obtain ⟨qb, qo, rfl, g0, g1, g2⟩ := hmi1.item i hil
              have e3 : m.items[i] = ⟨val, 0, 0⟩ := by rw [List.getElem?_eq_getElem hil] at hit; exact Option.some.inj hit
              rw [e3] at g0 g1 g2
              unfold nv at hvm ⊢
              rw [hmleaf, hmkids, hmk, hmi] at hvm ⊢
              rw [hmk] at mk1
              rw [hmi] at mi1
              unfold maxLen at mk2 mi2
              clear hmk1 hmi1 hmd1 e3 hil hit hmleaf hmkids hmk hmi hb5 HMB
              have HVM := hid (hvm.later (below_box w5 (.cells #[.bool true, .slice ma (kn + 1) mp, .slice (some ⟨qb, qo, none⟩) (en + 1) mip, .slice mda 0 mdp] 26)))
              have HBV := hid (HB5.out.trans ((below_box w5 (.cells #[.bool true, .slice ma (kn + 1) mp, .slice (some ⟨qb, qo, none⟩) (en + 1) mip, .slice mda 0 mdp] 26)).mono HB5.out.size))
              have HNV := hid (HN.out.later HBV.out)
              have hc0 := cell_later (below_box w5 (.cells #[.bool true, .slice ma (kn + 1) mp, .slice (some ⟨qb, qo, none⟩) (en + 1) mip, .slice mda 0 mdp] 26)) g0
              have hc1 := cell_later (below_box w5 (.cells #[.bool true, .slice ma (kn + 1) mp, .slice (some ⟨qb, qo, none⟩) (en + 1) mip, .slice mda 0 mdp] 26)) g1
              have hc2 := cell_later (below_box w5 (.cells #[.bool true, .slice ma (kn + 1) mp, .slice (some ⟨qb, qo, none⟩) (en + 1) mip, .slice mda 0 mdp] 26)) g2
              obtain ⟨y0, y1, y2, y3⟩ := (cells4 (heap_alloc_new w5 (.cells #[.bool true, .slice ma (kn + 1) mp, .slice (some ⟨qb, qo, none⟩) (en + 1) mip, .slice mda 0 mdp] 26))).1
              have u0 := cell_later HBV.out x0
              have u1 := cell_later HBV.out x1
              have u2 := cell_later HBV.out x2
              have u3 := cell_later HBV.out x3
              clear hvm g0 g1 g2 x0 x1 x2 x3 HN HB5 HB4 HB3 HB2
              go_wp2_with fail
              generalize w5.alloc (.cells #[.bool true, .slice ma (kn + 1) mp, .slice (some ⟨qb, qo, none⟩) (en + 1) mip, .slice mda 0 mdp] 26) = V at *
              generalize w5.heap.size = M at *
              refine (HFm.out _ HVM.out).mono ?_
              rintro e w7 ⟨rfl, hb7⟩
              have HB7 := hid hb7
              clear hb7
              have hneq : ∀ w, (binOp .neq 51 (.agg #[.string val, .int .i64 0, .int .i64 0]) (.agg #[.string val, .int .i64 0, .int .i64 0])).run Try.prog w = .ok (.bool false) w := neq51 ⟨val, 0, 0⟩
              have hi0 : (0 : Int) ≤ i := by omega
              have hi1 : (i : Int) < (en : Int) + 1 := by omega
              have hw1 : IntKind.i64.wrap ((en : Int) + 1) = (en : Int) + 1 := by rw [IntKind.wrap_i64]; omega
              have hk60 : (key.size : Int) ≤ 60 := by omega
              have hv60 : (val.size : Int) ≤ 60 := by omega
              have hw2 : IntKind.i64.wrap ((tn : Int) + 2) = (tn : Int) + 2 := by rw [IntKind.wrap_i64]; omega
              have hw3 : IntKind.i64.wrap ((tn : Int) + 2 + key.size) = (tn : Int) + 2 + key.size := by rw [IntKind.wrap_i64]; omega
              have hw4 : IntKind.i64.wrap ((tn : Int) + 2 + key.size + val.size) = (tn : Int) + 2 + key.size + val.size := by rw [IntKind.wrap_i64]; omega
              have etm : ((tn + (2 + key.size + val.size) : Nat) : Int) = (tn : Int) + 2 + key.size + val.size := by omega
              rw [etm] at HZm
              clear etm
              go_wp2_with fail
              go_region_held3 (fun w' => w'.cell? ⟨B, 0, none⟩ = some (.bool true) ∧ w'.cell? ⟨B, 1, none⟩ = some (.slice ka kn kp) ∧ w'.cell? ⟨B, 2, none⟩ = some (.slice ia en ep) ∧ w'.cell? ⟨B, 3, none⟩ = some (.slice da dn dp) ∧ w'.cell? ⟨M, 0, none⟩ = some (.bool true) ∧ w'.cell? ⟨M, 1, none⟩ = some (.slice ma (kn + 1) mp) ∧ w'.cell? ⟨M, 2, none⟩ = some (.slice (some ⟨qb, qo, none⟩) (en + 1) mip) ∧ w'.cell? ⟨M, 3, none⟩ = some (.slice mda 0 mdp) ∧ w'.cell? ⟨qb, qo + i * 3, none⟩ = some (.string val) ∧ w'.cell? ⟨qb, qo + i * 3 + 1, none⟩ = some (.int .i64 0) ∧ w'.cell? ⟨qb, qo + i * 3 + 2, none⟩ = some (.int .i64 0) ∧ Below V.heap.size V w') (first | exact ⟨cell_later A3.out u0, cell_later A3.out u1, cell_later A3.out u2, cell_later A3.out u3, cell_later A3.out y0, cell_later A3.out y1, cell_later A3.out y2, cell_later A3.out y3, cell_later A3.out hc0, cell_later A3.out hc1, cell_later A3.out hc2, A3.out⟩ | exact ⟨cell_later A2.out u0, cell_later A2.out u1, cell_later A2.out u2, cell_later A2.out u3, cell_later A2.out y0, cell_later A2.out y1, cell_later A2.out y2, cell_later A2.out y3, cell_later A2.out hc0, cell_later A2.out hc1, cell_later A2.out hc2, A2.out⟩ | exact ⟨cell_later A1.out u0, cell_later A1.out u1, cell_later A1.out u2, cell_later A1.out u3, cell_later A1.out y0, cell_later A1.out y1, cell_later A1.out y2, cell_later A1.out y3, cell_later A1.out hc0, cell_later A1.out hc1, cell_later A1.out hc2, A1.out⟩ | exact ⟨cell_later HB7.out.drew u0, cell_later HB7.out.drew u1, cell_later HB7.out.drew u2, cell_later HB7.out.drew u3, cell_later HB7.out.drew y0, cell_later HB7.out.drew y1, cell_later HB7.out.drew y2, cell_later HB7.out.drew y3, cell_later HB7.out.drew hc0, cell_later HB7.out.drew hc1, cell_later HB7.out.drew hc2, HB7.out.drew⟩ | exact ⟨cell_later HB7.out u0, cell_later HB7.out u1, cell_later HB7.out u2, cell_later HB7.out u3, cell_later HB7.out y0, cell_later HB7.out y1, cell_later HB7.out y2, cell_later HB7.out y3, cell_later HB7.out hc0, cell_later HB7.out hc1, cell_later HB7.out hc2, HB7.out⟩) (first | (go_at_call 12; (refine (HRm.out _ (HVM.out.later HB7.out.drew)).mono ?_; rintro e wA1 ⟨rfl, hbx⟩; have A1 := hid (HB7.out.drew.trans (hbx.mono HB7.out.drew.size)); clear hbx)) | (go_at_call 14; first | (refine (HZn.out _ (HNV.out.later A2.out)).mono ?_; rintro e wA3 ⟨rfl, hbx⟩; have A3 := hid (A2.out.trans (hbx.mono A2.out.size)); clear hbx) | (refine (HZm.out _ (HVM.out.later A1.out)).mono ?_; rintro e wA2 ⟨rfl, hbx⟩; have A2 := hid (A1.out.trans (hbx.mono A1.out.size)); clear hbx)))
              go_wp2_with fail
              go_region_held3 (fun w' => w'.cell? ⟨B, 0, none⟩ = some (.bool true) ∧ w'.cell? ⟨B, 1, none⟩ = some (.slice ka kn kp) ∧ w'.cell? ⟨B, 2, none⟩ = some (.slice ia en ep) ∧ w'.cell? ⟨B, 3, none⟩ = some (.slice da dn dp) ∧ w'.cell? ⟨M, 0, none⟩ = some (.bool true) ∧ w'.cell? ⟨M, 1, none⟩ = some (.slice ma (kn + 1) mp) ∧ w'.cell? ⟨M, 2, none⟩ = some (.slice (some ⟨qb, qo, none⟩) (en + 1) mip) ∧ w'.cell? ⟨M, 3, none⟩ = some (.slice mda 0 mdp) ∧ Below V.heap.size V w') (first | exact ⟨cell_later C3.out u0, cell_later C3.out u1, cell_later C3.out u2, cell_later C3.out u3, cell_later C3.out y0, cell_later C3.out y1, cell_later C3.out y2, cell_later C3.out y3, C3.out⟩ | exact ⟨cell_later C2.out u0, cell_later C2.out u1, cell_later C2.out u2, cell_later C2.out u3, cell_later C2.out y0, cell_later C2.out y1, cell_later C2.out y2, cell_later C2.out y3, C2.out⟩ | exact ⟨cell_later C1.out u0, cell_later C1.out u1, cell_later C1.out u2, cell_later C1.out u3, cell_later C1.out y0, cell_later C1.out y1, cell_later C1.out y2, cell_later C1.out y3, C1.out⟩ | exact ⟨cell_later A3.out.drew u0, cell_later A3.out.drew u1, cell_later A3.out.drew u2, cell_later A3.out.drew u3, cell_later A3.out.drew y0, cell_later A3.out.drew y1, cell_later A3.out.drew y2, cell_later A3.out.drew y3, A3.out.drew⟩ | exact ⟨cell_later A3.out u0, cell_later A3.out u1, cell_later A3.out u2, cell_later A3.out u3, cell_later A3.out y0, cell_later A3.out y1, cell_later A3.out y2, cell_later A3.out y3, A3.out⟩) (first | (go_at_call 26; (refine (HWd.out _ (HVM.out.later A3.out.drew)).mono ?_; rintro e wC1 ⟨vd, rfl, hvd, hbx⟩; have C1 := hid (A3.out.drew.trans (hbx.mono A3.out.drew.size)); have HVD := hid hvd; clear hvd; clear hbx)) | (go_at_call 21; (refine (same_yes HVD.out (HNV.out.later C1.out) HSm.out).mono ?_; rintro e wC2 ⟨rfl, hbx⟩; have C2 := hid (C1.out.trans (hbx.mono C1.out.size)); clear hbx)) | (go_at_call 11; (refine (alive_any _).mono ?_; rintro e wC3 ⟨rfl, hbx⟩; have C3 := hid (C2.out.trans (hbx.mono C2.out.size)); clear hbx)))
              go_wp2_with fail
              go_ret
              exact ⟨rfl, below3 hBe HB0.out hB (HBV.out.trans (C3.out.mono HBV.out.size))⟩

theorem own : ownKnob Try.prog.godebug = none := by kernel_rfl
theorem laidOut : laidOutB Try.prog = true := by kernel_rfl

set_option maxRecDepth 100000 in
theorem lifted (os : Os) (started : os.Started) (H : Type) (enc : TypeId × Value → H) :
    ReturnsInHanded {} Try.checked os 9 .any (Rows.nodeWithSpec.pre6 enc Try.prog Try.f9 Rows.nodeWithRow.domain false) (Rows.nodeWithSpec.post enc Try.prog Try.f9 false true false false) := by
  refine returnsInHanded_of_change (C := Try.checked) own started (by kernel_rfl) Try.func9
    (ChangeSpec.witness6 (enc := enc) (C := Try.checked) false ⟨#[], #[.agg #[.bool false, .slice none 0 0, .slice none 0 0, .slice none 0 0], .string ⟨#[]⟩, .string ⟨#[]⟩], []⟩ 8 (by kernel_rfl) (by kernel_rfl) (by kernel_rfl) (by kernel_rfl)) ?_
  intro W base args ds gs before hval0 hW hcnd _
  have hval : ∀ (j : Nat) t v, Try.f9.params[j]? = some t → args[j]? = some v → Value.okWide Try.prog W .any base t v := hval0
  have hW' := hW
  obtain ⟨p, q, hA0, hV, rfl, hfz, hnd⟩ := hW
  have hA : DataW.TrodAll enc Try.prog W 0 (fun _ => true) true Try.f9.params.toList args.toList ds p := hA0
  rw [Try.params9] at hA hval
  obtain ⟨v0, vs0, d0, ds0, p0, q0, hargs, rfl, rfl, h0, r0⟩ := trodAll_cons hA
  obtain ⟨v1, vs1, d1, ds1, p1, q1, rfl, rfl, rfl, h1, r1⟩ := trodAll_cons r0
  obtain ⟨v2, vs2, d2, ds2, p2, q2, rfl, rfl, rfl, h2, r2⟩ := trodAll_cons r1
  obtain ⟨rfl, rfl, rfl⟩ := trodAll_nil r2
  obtain rfl : args = #[v0, v1, v2] := by cases args; simp_all
  obtain ⟨rfl, rfl⟩ := trodVars_none hV
  obtain ⟨cs0, rfl, sz0⟩ := okWide_struct Try.underlying26 (hval 0 26 v0 rfl rfl)
  have lt0 : ∀ x ∈ p0, x.block < W.heap.size := by obtain ⟨m, hm⟩ := h0; exact DataW.trod_lt m _ _ _ hm
  obtain ⟨l0, hl0⟩ : ∃ l, NAt W (.agg cs0) l := by obtain ⟨fuel, hf⟩ := h0; exact open_node (sz0.trans cells26) hf
  obtain ⟨a1, rfl⟩ := okWide_string Try.underlying9 (hval 1 9 v1 rfl rfl)
  have lt1 : ∀ x ∈ p1, x.block < W.heap.size := by obtain ⟨m, hm⟩ := h1; exact DataW.trod_lt m _ _ _ hm
  have hs1 : a1.size ≤ maxLen := by obtain ⟨fuel, hf⟩ := h1; exact open_str hf
  obtain ⟨a2, rfl⟩ := okWide_string Try.underlying9 (hval 2 9 v2 rfl rfl)
  have lt2 : ∀ x ∈ p2, x.block < W.heap.size := by obtain ⟨m, hm⟩ := h2; exact DataW.trod_lt m _ _ _ hm
  have hs2 : a2.size ≤ maxLen := by obtain ⟨fuel, hf⟩ := h2; exact open_str hf
  clear hA0 hval0
  refine (walk hl0 a1 a2 hs1 hs2).mono fun e W' ⟨he, bel⟩ => ?_
  subst he
  exact ⟨_, rfl, _, _, _, [], _, [], hW', trodAll_mk1 (shut_bool Try.underlying4 _), (trodAll_cons_mk (Below.trod laidOut (by kernel_rfl) (of_decide_eq_true (by kernel_rfl)) h0 bel lt0) (trodAll_cons_mk (Below.trod laidOut (by kernel_rfl) (of_decide_eq_true (by kernel_rfl)) h1 bel lt1) (trodAll_cons_mk (Below.trod laidOut (by kernel_rfl) (of_decide_eq_true (by kernel_rfl)) h2 bel lt2) trodAll_mk0))), rfl, bel.frame _, fun h => by cases h⟩

theorem over : Rows.nodeWithRow.holds Try.pinned (OpenSpec.ofChange Rows.nodeWithSpec) :=
  OpenClaim.holds_of_wide 9 Try.f9 rfl rfl rfl rfl rfl rfl rfl ⟨rfl, rfl, rfl, rfl, rfl⟩ rfl rfl rfl rfl rfl (by kernel_rfl) Try.func9 (by kernel_rfl)
    (of_decide_eq_true (by kernel_rfl)) (by unfold Func.isWrapper; first | (rw [if_pos (by decide +kernel)]; kernel_rfl) | (rw [if_neg (by decide +kernel)]; exact ⟨rfl, rfl⟩))
    (fun os started H enc _ => lifted os started H enc)
end Go.Proofs.Ytkipigbfbhecjaa.nodeWith
namespace Go.Proofs.Ytkipigbfbhecjaa
/-- THE STATEMENT. -/
theorem nodeWith_holds : Rows.NodeWithSaid := nodeWith.over
#print axioms nodeWith_holds
end Go.Proofs.Ytkipigbfbhecjaa
