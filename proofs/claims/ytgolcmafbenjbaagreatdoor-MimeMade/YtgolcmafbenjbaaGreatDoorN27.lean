/- What this text holds: the chapter's examples: the law's own call. (Written by gen27.py.) -/
import Derived.Test.YtgolcmafbenjbaaGreatDoorN26
namespace Go.Proofs.YtgolcmafbenjbaaGreatDoor
open Go.RowKit
set_option linter.unusedVariables false
set_option linter.unusedSimpArgs false

theorem exec_eql3 {a : Act} {x y : Operand} {m n : Int} {w : World} {d : Option Tmp} {ty : Nat} {pos : String} {af : Array Edge} {g : Option (Nat × Bool)} (hx : a.eval x = .int .i64 m) (hy : a.eval y = .int .i64 n) (h : m = n) :
    (execOp a.eval ⟨d, .binOp .eql 3 x y 3, ty, pos, af, g⟩).run Tryz.prog w = .ok (.value (.bool true)) w := by
  subst h
  simp [execOp, hx, hy, eqGuard, binOp, Op.intCmp]
theorem exec_sub3 {a : Act} {x y : Operand} {m n k : Int} {w : World} {d : Option Tmp} {ty : Nat} {pos : String} {af : Array Edge} {g : Option (Nat × Bool)} (hx : a.eval x = .int .i64 m) (hy : a.eval y = .int .i64 n) (hk : IntKind.i64.wrap (m - n) = k) :
    (execOp a.eval ⟨d, .binOp .sub 3 x y 3, ty, pos, af, g⟩).run Tryz.prog w = .ok (.value (.int .i64 k)) w := by
  subst hk
  simp [execOp, hx, hy, eqGuard, binOp]
  rfl
theorem fieldg33 (g o : Nat) (w : World) (k : Nat) (hk : k = 7 ∨ k = 8 ∨ k = 10) : (Instr.fieldAt 33 (.pointer (some ⟨g, o, none⟩)) k).run Tryz.prog w = .ok (.pointer (some ⟨g, o + k, none⟩)) w := by
  rcases hk with rfl | rfl | rfl <;> kernel_rfl
theorem load31 {b k : Nat} {v : Value} {w : World} (h : w.cell? ⟨b, k, none⟩ = some v) : (Instr.loadAt 31 (.pointer (some ⟨b, k, none⟩))).run Tryz.prog w = .ok v w := by
  simp [Instr.loadAt, Instr.sureAddr, loadVar, isAgg, run_underlying Tryz.underlying31, h]
theorem exec_idx31 {a : Act} {x : Operand} {g o n c : Nat} {w : World} {d : Option Tmp} {ty : Nat} {pos : String} {af : Array Edge} {gd : Option (Nat × Bool)} (hx : a.eval x = .slice (some ⟨g, o, none⟩) (n + 1) c) :
    (execOp a.eval ⟨d, .indexAddr 31 x (.const (.int .i64 0)), ty, pos, af, gd⟩).run Tryz.prog w = .ok (.value (.pointer (some ⟨g, o, none⟩))) w := by
  have h0 : a.eval (.const (.int .i64 0)) = .int .i64 0 := rfl
  simp only [execOp, hx, h0]
  refine exec_v ?_
  simp [go_sem]
theorem slice23 (s t : ByteArray) (w : World) : (Instr.buildSlice 23 1 #[(0, .agg #[.string s, .string t])]).run Tryz.prog w = .ok (.slice (some ⟨w.heap.size, 0, none⟩) 1 1) (w.alloc (.cells #[.string s, .string t] 44)) := by kernel_rfl
theorem exec_build44 {a : Act} {s t : ByteArray} {w : World} {d : Option Tmp} {ty : Nat} {pos : String} {af : Array Edge} {g : Option (Nat × Bool)} : (execOp a.eval ⟨d, .build 44 #[(0, .const (.string s)), (1, .const (.string t))], ty, pos, af, g⟩).run Tryz.prog w = .ok (.value (.agg #[.string s, .string t])) w := by kernel_rfl
theorem il_one (w : World) (x : Int) : IL (w.alloc (.cells #[.int .i64 x] 3)) (.slice (some ⟨w.heap.size, 0, none⟩) 1 1) [x] := by
  refine ⟨_, 1, rfl, Nat.le_refl _, .inr ⟨_, 0, rfl, by simp, fun j y hy => ?_⟩⟩
  cases j with
  | zero => simp at hy; subst hy; have h := heap_alloc_new w (.cells #[.int .i64 x] 3); simp only [World.cell?, Nat.zero_add, h]; rfl
  | succ j => simp at hy
theorem anyH_oneG {P : Program} {ops : Array Oper} {Q : Exit → Act → World → Prop} {md : Region.Mode} {S : World → Prop} (i : Nat) (o : Oper) (v : Value) (w' : World) {fuel : Nat} {listed : Array Bool} {a : Act} {w : World} (hr : Region.ready md ops listed = [i]) (hi : ops[i]? = some o) (hw : Region.wanted o (yielded ops a.tmps) = true)
    (hrun : (execOp a.eval o).run P w = .ok (.value v) w') (hS : S w')
    (h : wpAnyH P md ops Q S fuel (listed.setIfInBounds i true) (a.put o.dst v) w') : wpAnyH P md ops Q S (fuel + 1) listed a w := anyH_oneW i o v w' hr hi hw hrun hS h

set_option maxRecDepth 100000 in
set_option maxHeartbeats 8000000 in
theorem alive_any {w : World} (he : Env w) : Calls Tryz.prog 8 #[] w fun e w' => e = .returned (.bool true) ∧ Below w.heap.size w w' := by
  have HK := hid (kind_any sKind w (by decide))
  unfold KindIs at HK
  rw [kind_lit] at HK
  have HS1 := hid (fun W v (h1 : Env W) (h2 : IL W v [1]) => sect_body sMsg h1 (by decide) [1] v h2 (by decide))
  have HS2 := hid (fun W v (h1 : Env W) (h2 : IL W v [2]) => sect_body sMsg h1 (by decide) [2] v h2 (by decide))
  rw [at_one] at HS1
  rw [at_two] at HS2
  have HSt := hid (fun W (h1 : Env W) => struc_any sMul h1 (by decide))
  have HCn := hid mul_cnt
  have HKd := hid mul_kid
  have HE := hid he
  generalize strucM sMul = P at *
  unfold SOut PtOut at *
  clear he
  go_enter Tryz.func8, Tryz.ntmps8
  go_wp2_with fail
  refine HK.out.mono ?_
  rintro e w1 ⟨⟨vP, rfl, hvP, _⟩, hb1⟩
  have HVP := hid hvP
  have HB1 := hid hb1
  have hA1 := below1 w1 (.cells #[.int .i64 1] 3)
  have HC1 := hid (HS1.out _ _ ((HE.out.later hb1).later hA1) (il_one w1 1))
  have HB1a := hid (hb1.trans (hA1.mono hb1.size))
  have HVPa := hid (hvP.later hA1)
  clear hvP hb1 hA1 HK
  go_wp2_with fail
  refine HC1.out.mono ?_
  rintro e w2 ⟨hb2, rfl⟩
  have HB2 := hid (HB1a.out.trans (hb2.mono HB1a.out.size))
  have HVP2 := hid (HVPa.out.later hb2)
  have hA2 := below1 w2 (.cells #[.int .i64 2] 3)
  have HC2 := hid (HS2.out _ _ ((HE.out.below HB2.out HE.out.pos).later hA2) (il_one w2 2))
  have HB2a := hid (HB2.out.trans (hA2.mono HB2.out.size))
  have HVP2a := hid (HVP2.out.later hA2)
  clear hb2 hA2 HC1
  go_wp2_with fail
  refine HC2.out.mono ?_
  rintro e w3 ⟨hb3, rfl⟩
  have HB3 := hid (HB2a.out.trans (hb3.mono HB2a.out.size))
  have HVP3 := hid (HVP2a.out.later hb3)
  have HC3 := hid (HSt.out w3 (HE.out.below HB3.out HE.out.pos))
  clear hb3 HC2
  go_wp2_with fail
  refine HC3.out.mono ?_
  rintro e w4 ⟨⟨qp, qi, qd, qk, rfl, hpt⟩, hb4⟩
  obtain ⟨pa, pn, pc, ia, n1, c1, da, n2, c2, ka, kn, kc, rfl, rfl, rfl, rfl⟩ := hpt.slices
  obtain ⟨k0, hk0⟩ : ∃ k, P.kids[0]? = some k := ⟨P.kids[0]'(by have := HKd.out.1; omega), List.getElem?_eq_getElem _⟩
  obtain ⟨g, o, c, hvk, wp, wi, wd, wk, hcs, hkp⟩ := hpt.kid 0 k0 hk0
  simp only [Value.slice.injEq] at hvk
  obtain ⟨rfl, hkn, rfl⟩ := hvk
  have hkn1 : kn = 1 := by rw [hkn]; exact HKd.out.1
  subst hkn1
  have hkd := HKd.out.2 k0 (by rw [hk0]; rfl)
  simp only [Nat.zero_mul, Nat.add_zero] at hcs
  have hto : w4.cell? ⟨g, o + 8, none⟩ = some (.int .i64 k0.d.to) := hcs 8 _ rfl
  have hfr : w4.cell? ⟨g, o + 7, none⟩ = some (.int .i64 k0.d.fr) := hcs 7 _ rfl
  have hA4 := below1 w4 (.cells (ptC P.d (.slice pa pn pc) (.slice ia n1 c1) (.slice da n2 c2) (.slice (some ⟨g, o, none⟩) 1 kc)) 33)
  have HD5 := hid (d11_new w4 P.d (.slice pa pn pc) (.slice ia n1 c1) (.slice da n2 c2) (.slice (some ⟨g, o, none⟩) 1 kc))
  have HB4 := hid (HB3.out.trans (hb4.mono HB3.out.size))
  have HB5 := hid (HB4.out.trans (hA4.mono HB4.out.size))
  have HVP5 := hid ((HVP3.out.later hb4).later hA4)
  have HPt5 := hid (hpt.later hA4)
  have HTo : Hid ((w4.alloc (.cells (ptC P.d (.slice pa pn pc) (.slice ia n1 c1) (.slice da n2 c2) (.slice (some ⟨g, o, none⟩) 1 kc)) 33)).cell? ⟨g, o + 8, none⟩ = some (.int .i64 k0.d.to)) := (Kept.ofBelow hA4 []).cell hto (by simp)
  have HFr : Hid ((w4.alloc (.cells (ptC P.d (.slice pa pn pc) (.slice ia n1 c1) (.slice da n2 c2) (.slice (some ⟨g, o, none⟩) 1 kc)) 33)).cell? ⟨g, o + 7, none⟩ = some (.int .i64 k0.d.fr)) := (Kept.ofBelow hA4 []).cell hfr (by simp)
  have hwr : IntKind.i64.wrap ((k0.d.to : Int) - k0.d.fr) = 3 := by rw [IntKind.wrap_i64]; omega
  have HSm : Hid (P.kids.length ≤ 1000) := by rw [Hid, HKd.out.1]; omega
  obtain ⟨va, vc, hvv⟩ : ∃ a c, vP = .slice a 1 c := by obtain ⟨_, a, c, h, _⟩ := HVP5.out; exact ⟨a, c, h⟩
  subst hvv
  clear hkn hpt hb4 hcs hkp hk0 hto hfr hA4 hkd HC3 HVP HVPa HVP2 HVP2a HVP3
  unfold ptV ptC at *
  go_wp2_with fail
  generalize (w4.alloc (.cells #[.string (str P.d.ty), .string (str P.d.sub), .slice pa pn pc, .slice ia n1 c1, .slice da n2 c2, .string (str P.d.enc), .int .i64 P.d.hd, .int .i64 P.d.fr, .int .i64 P.d.to, .int .i64 P.d.lns, .slice (some ⟨g, o, none⟩) 1 kc] 33)) = X at *
  generalize w4.heap.size = pb at *
  refine wp_region_held_drew (S := fun Y => Below X.heap.size X Y) (by kernel_rfl) ((Below.refl _ _).drew) ?_
  intro hS
  refine anyH_take 0 ⟨some 25, .move (.tmp 1), _, _, _, none⟩ (.string (str [116, 101, 120, 116])) rfl rfl (by kernel_rfl) (by kernel_rfl) (by kernel_rfl) (fun _ _ _ h => h) (fun _ _ => rfl) hS ?_
  simp only [Act.put, List.setIfInBounds_toArray, List.set_cons_zero, List.set_cons_succ]
  refine anyH_take 1 ⟨some 26, .binOp .eql 9 (.tmp 25) (.const (.string { data := #[116, 101, 120, 116] })) 9, _, _, _, none⟩ (.bool true) rfl rfl (by kernel_rfl) (by kernel_rfl) (by kernel_rfl) (fun _ _ _ h => h) (fun _ _ => exec_eqlStr rfl rfl rfl) hS ?_
  simp only [Act.put, List.setIfInBounds_toArray, List.set_cons_zero, List.set_cons_succ]
  refine anyH_take 2 ⟨some 27, .move (.tmp 26), _, _, _, none⟩ (.bool true) rfl rfl (by kernel_rfl) (by kernel_rfl) (by kernel_rfl) (fun _ _ _ h => h) (fun _ _ => rfl) hS ?_
  simp only [Act.put, List.setIfInBounds_toArray, List.set_cons_zero, List.set_cons_succ]
  refine anyH_takeW 3 ⟨some 28, .move (.tmp 2), _, _, _, some (2, true)⟩ (.string (str [104, 116, 109, 108])) rfl rfl (by kernel_rfl) (by kernel_rfl) (by kernel_rfl) (fun _ _ _ h => h) (fun _ _ => rfl) hS ?_
  simp only [Act.put, List.setIfInBounds_toArray, List.set_cons_zero, List.set_cons_succ]
  refine anyH_takeW 4 ⟨some 29, .binOp .eql 9 (.tmp 28) (.const (.string { data := #[104, 116, 109, 108] })) 9, _, _, _, some (2, true)⟩ (.bool true) rfl rfl (by kernel_rfl) (by kernel_rfl) (by kernel_rfl) (fun _ _ _ h => h) (fun _ _ => exec_eqlStr rfl rfl rfl) hS ?_
  simp only [Act.put, List.setIfInBounds_toArray, List.set_cons_zero, List.set_cons_succ]
  refine anyH_take 5 ⟨some 30, .pick (.tmp 27) (.tmp 29) (.const (.bool false)), _, _, _, none⟩ (.bool true) rfl rfl (by kernel_rfl) (by kernel_rfl) (by kernel_rfl) (fun _ _ _ h => h) (fun _ _ => rfl) hS ?_
  simp only [Act.put, List.setIfInBounds_toArray, List.set_cons_zero, List.set_cons_succ]
  refine anyH_take 6 ⟨some 31, .move (.tmp 30), _, _, _, none⟩ (.bool true) rfl rfl (by kernel_rfl) (by kernel_rfl) (by kernel_rfl) (fun _ _ _ h => h) (fun _ _ => rfl) hS ?_
  simp only [Act.put, List.setIfInBounds_toArray, List.set_cons_zero, List.set_cons_succ]
  refine anyH_takeW 7 ⟨some 32, .move (.tmp 3), _, _, _, some (6, true)⟩ (.slice va 1 vc) rfl rfl (by kernel_rfl) (by kernel_rfl) (by kernel_rfl) (fun _ _ _ h => h) (fun _ _ => rfl) hS ?_
  simp only [Act.put, List.setIfInBounds_toArray, List.set_cons_zero, List.set_cons_succ]
  refine anyH_takeW 8 ⟨some 33, .build 44 #[(0, .const (.string { data := #[99, 104, 97, 114, 115, 101, 116] })), (1, .const (.string { data := #[97, 32, 98] }))], _, _, _, some (6, true)⟩ (.agg #[.string { data := #[99, 104, 97, 114, 115, 101, 116] }, .string { data := #[97, 32, 98] }]) rfl rfl (by kernel_rfl) (by kernel_rfl) (by kernel_rfl) (fun _ _ _ h => h) (fun _ _ => exec_build44) hS ?_
  simp only [Act.put, List.setIfInBounds_toArray, List.set_cons_zero, List.set_cons_succ]
  have hSb : Below X.heap.size X (X.drew.alloc (.cells #[.string { data := #[99, 104, 97, 114, 115, 101, 116] }, .string { data := #[97, 32, 98] }] 44)) := hS.alloc hS.size _
  refine anyH_oneG 9 ⟨some 34, .buildSlice 23 1 #[(0, .tmp 33)], _, _, _, some (6, true)⟩ (.slice (some ⟨X.drew.heap.size, 0, none⟩) 1 1) (X.drew.alloc (.cells #[.string { data := #[99, 104, 97, 114, 115, 101, 116] }, .string { data := #[97, 32, 98] }] 44)) (by kernel_rfl) rfl rfl (exec_buildSlice (X := .agg #[.string { data := #[99, 104, 97, 114, 115, 101, 116] }, .string { data := #[97, 32, 98] }]) rfl (slice23 _ _ _)) hSb ?_
  simp only [Act.put, List.setIfInBounds_toArray, List.set_cons_zero, List.set_cons_succ]
  refine anyH_callW 10 ⟨some 35, .call { callee := .value (.func 11), args := #[.tmp 32, .tmp 34], argTypes := #[23, 23] }, _, _, _, some (6, true)⟩ 11 #[.slice va 1 vc, .slice (some ⟨X.drew.heap.size, 0, none⟩) 1 1] (by kernel_rfl) rfl rfl (by kernel_rfl) ?_
  have hSame := sameP_any (l := [([99, 104, 97, 114, 115, 101, 116], [97, 32, 98])]) (m := [([99, 104, 97, 114, 115, 101, 116], [97, 32, 98])]) (HVP5.out.later hSb) (ra_one X.drew [[99, 104, 97, 114, 115, 101, 116], [97, 32, 98]] 44) (by simp) (by simp)
  rw [show decide ([([99, 104, 97, 114, 115, 101, 116], [97, 32, 98])] = [(([99, 104, 97, 114, 115, 101, 116] : Bs), ([97, 32, 98] : Bs))]) = true by decide] at hSame
  refine hSame.mono ?_
  rintro e Y1 ⟨rfl, hbY⟩
  have hS1 : Below X.heap.size X Y1 := hSb.trans (hbY.mono hSb.size)
  refine ⟨_, rfl, hS1, ?_⟩
  simp only [Act.put, List.setIfInBounds_toArray, List.set_cons_zero, List.set_cons_succ]
  refine anyH_take 11 ⟨some 36, .pick (.tmp 31) (.tmp 35) (.const (.bool false)), _, _, _, none⟩ (.bool true) rfl rfl (by kernel_rfl) (by kernel_rfl) (by kernel_rfl) (fun _ _ _ h => h) (fun _ _ => rfl) hS1 ?_
  simp only [Act.put, List.setIfInBounds_toArray, List.set_cons_zero, List.set_cons_succ]
  refine anyH_take 12 ⟨some 37, .move (.tmp 36), _, _, _, none⟩ (.bool true) rfl rfl (by kernel_rfl) (by kernel_rfl) (by kernel_rfl) (fun _ _ _ h => h) (fun _ _ => rfl) hS1 ?_
  simp only [Act.put, List.setIfInBounds_toArray, List.set_cons_zero, List.set_cons_succ]
  refine anyH_takeW 13 ⟨some 38, .move (.tmp 4), _, _, _, some (12, true)⟩ (.string (str [99])) rfl rfl (by kernel_rfl) (by kernel_rfl) (by kernel_rfl) (fun _ _ _ h => h) (fun _ _ => rfl) hS1 ?_
  simp only [Act.put, List.setIfInBounds_toArray, List.set_cons_zero, List.set_cons_succ]
  refine anyH_takeW 14 ⟨some 39, .binOp .eql 9 (.tmp 38) (.const (.string { data := #[99] })) 9, _, _, _, some (12, true)⟩ (.bool true) rfl rfl (by kernel_rfl) (by kernel_rfl) (by kernel_rfl) (fun _ _ _ h => h) (fun _ _ => exec_eqlStr rfl rfl rfl) hS1 ?_
  simp only [Act.put, List.setIfInBounds_toArray, List.set_cons_zero, List.set_cons_succ]
  refine anyH_take 15 ⟨some 40, .pick (.tmp 37) (.tmp 39) (.const (.bool false)), _, _, _, none⟩ (.bool true) rfl rfl (by kernel_rfl) (by kernel_rfl) (by kernel_rfl) (fun _ _ _ h => h) (fun _ _ => rfl) hS1 ?_
  simp only [Act.put, List.setIfInBounds_toArray, List.set_cons_zero, List.set_cons_succ]
  refine anyH_take 16 ⟨some 41, .move (.tmp 40), _, _, _, none⟩ (.bool true) rfl rfl (by kernel_rfl) (by kernel_rfl) (by kernel_rfl) (fun _ _ _ h => h) (fun _ _ => rfl) hS1 ?_
  simp only [Act.put, List.setIfInBounds_toArray, List.set_cons_zero, List.set_cons_succ]
  refine anyH_takeW 17 ⟨some 42, .move (.tmp 5), _, _, _, some (16, true)⟩ (.bool true) rfl rfl (by kernel_rfl) (by kernel_rfl) (by kernel_rfl) (fun _ _ _ h => h) (fun _ _ => rfl) hS1 ?_
  simp only [Act.put, List.setIfInBounds_toArray, List.set_cons_zero, List.set_cons_succ]
  refine anyH_take 18 ⟨some 43, .pick (.tmp 41) (.tmp 42) (.const (.bool false)), _, _, _, none⟩ (.bool true) rfl rfl (by kernel_rfl) (by kernel_rfl) (by kernel_rfl) (fun _ _ _ h => h) (fun _ _ => rfl) hS1 ?_
  simp only [Act.put, List.setIfInBounds_toArray, List.set_cons_zero, List.set_cons_succ]
  refine anyH_take 19 ⟨some 44, .move (.tmp 43), _, _, _, none⟩ (.bool true) rfl rfl (by kernel_rfl) (by kernel_rfl) (by kernel_rfl) (fun _ _ _ h => h) (fun _ _ => rfl) hS1 ?_
  simp only [Act.put, List.setIfInBounds_toArray, List.set_cons_zero, List.set_cons_succ]
  refine anyH_takeW 20 ⟨some 45, .move (.tmp 7), _, _, _, some (19, true)⟩ (.bool false) rfl rfl (by kernel_rfl) (by kernel_rfl) (by kernel_rfl) (fun _ _ _ h => h) (fun _ _ => rfl) hS1 ?_
  simp only [Act.put, List.setIfInBounds_toArray, List.set_cons_zero, List.set_cons_succ]
  refine anyH_takeW 21 ⟨some 46, .unOp .not 4 (.tmp 45), _, _, _, some (19, true)⟩ (.bool true) rfl rfl (by kernel_rfl) (by kernel_rfl) (by kernel_rfl) (fun _ _ _ h => h) (fun _ _ => rfl) hS1 ?_
  simp only [Act.put, List.setIfInBounds_toArray, List.set_cons_zero, List.set_cons_succ]
  refine anyH_take 22 ⟨some 47, .pick (.tmp 44) (.tmp 46) (.const (.bool false)), _, _, _, none⟩ (.bool true) rfl rfl (by kernel_rfl) (by kernel_rfl) (by kernel_rfl) (fun _ _ _ h => h) (fun _ _ => rfl) hS1 ?_
  simp only [Act.put, List.setIfInBounds_toArray, List.set_cons_zero, List.set_cons_succ]
  refine anyH_take 23 ⟨some 48, .move (.tmp 47), _, _, _, none⟩ (.bool true) rfl rfl (by kernel_rfl) (by kernel_rfl) (by kernel_rfl) (fun _ _ _ h => h) (fun _ _ => rfl) hS1 ?_
  simp only [Act.put, List.setIfInBounds_toArray, List.set_cons_zero, List.set_cons_succ]
  refine anyH_takeW 24 ⟨some 49, .load 33 (.tmp 8), _, _, _, some (23, true)⟩ (ptV P.d (.slice pa pn pc) (.slice ia n1 c1) (.slice da n2 c2) (.slice (some ⟨g, o, none⟩) 1 kc)) rfl rfl (by kernel_rfl) (by kernel_rfl) (by kernel_rfl) (fun _ _ _ h => h) (fun Y hY => exec_v (load33 (HD5.out.later hY))) hS1 ?_
  simp only [Act.put, List.setIfInBounds_toArray, List.set_cons_zero, List.set_cons_succ]
  have hCn := cnt_ok 7 Y1 _ P _ _ _ _ (HPt5.out.later hS1) (by rw [HCn.out]; omega) HSm.out
  rw [HCn.out] at hCn
  refine anyH_callW 25 ⟨some 50, .call { callee := .value (.func 15), args := #[.tmp 49], argTypes := #[33] }, _, _, _, some (23, true)⟩ 15 #[ptV P.d (.slice pa pn pc) (.slice ia n1 c1) (.slice da n2 c2) (.slice (some ⟨g, o, none⟩) 1 kc)] (by kernel_rfl) rfl rfl (by kernel_rfl) ?_
  refine hCn.mono ?_
  rintro e Y2 ⟨rfl, hbY2⟩
  have hS2 : Below X.heap.size X Y2 := hS1.trans (hbY2.mono hS1.size)
  refine ⟨_, rfl, hS2, ?_⟩
  simp only [Act.put, List.setIfInBounds_toArray, List.set_cons_zero, List.set_cons_succ]
  refine anyH_takeW 26 ⟨some 51, .binOp .eql 3 (.tmp 50) (.const (.int .i64 2)) 3, _, _, _, some (23, true)⟩ (.bool true) rfl rfl (by kernel_rfl) (by kernel_rfl) (by kernel_rfl) (fun _ _ _ h => h) (fun _ _ => exec_eql3 rfl rfl rfl) hS2 ?_
  simp only [Act.put, List.setIfInBounds_toArray, List.set_cons_zero, List.set_cons_succ]
  refine anyH_take 27 ⟨some 52, .pick (.tmp 48) (.tmp 51) (.const (.bool false)), _, _, _, none⟩ (.bool true) rfl rfl (by kernel_rfl) (by kernel_rfl) (by kernel_rfl) (fun _ _ _ h => h) (fun _ _ => rfl) hS2 ?_
  simp only [Act.put, List.setIfInBounds_toArray, List.set_cons_zero, List.set_cons_succ]
  refine anyH_take 28 ⟨some 53, .move (.tmp 52), _, _, _, none⟩ (.bool true) rfl rfl (by kernel_rfl) (by kernel_rfl) (by kernel_rfl) (fun _ _ _ h => h) (fun _ _ => rfl) hS2 ?_
  simp only [Act.put, List.setIfInBounds_toArray, List.set_cons_zero, List.set_cons_succ]
  refine anyH_takeW 29 ⟨some 54, .fieldAddr 33 (.tmp 8) 10, _, _, _, some (28, true)⟩ (.pointer (some ⟨pb, 10, none⟩)) rfl rfl (by kernel_rfl) (by kernel_rfl) (by kernel_rfl) (fun _ _ _ h => h) (fun Y _ => exec_v (fieldg33 pb 0 Y 10 (by omega))) hS2 ?_
  simp only [Act.put, List.setIfInBounds_toArray, List.set_cons_zero, List.set_cons_succ]
  refine anyH_takeW 30 ⟨some 55, .load 31 (.tmp 54), _, _, _, some (28, true)⟩ (.slice (some ⟨g, o, none⟩) 1 kc) rfl rfl (by kernel_rfl) (by kernel_rfl) (by kernel_rfl) (fun _ _ _ h => h) (fun Y hY => exec_v (load31 (HD5.out.later hY).cs.2.2.2.2.2.2.2.2.2.2)) hS2 ?_
  simp only [Act.put, List.setIfInBounds_toArray, List.set_cons_zero, List.set_cons_succ]
  refine anyH_takeW 31 ⟨some 56, .call { callee := .builtin .len, args := #[.tmp 55], argTypes := #[31] }, _, _, _, some (28, true)⟩ (.int .i64 ((1 : Nat) : Int)) rfl rfl (by kernel_rfl) (by kernel_rfl) (by kernel_rfl) (fun _ _ _ h => h) (fun Y _ => exec_lenL Tryz.underlying31 rfl) hS2 ?_
  simp only [Act.put, List.setIfInBounds_toArray, List.set_cons_zero, List.set_cons_succ]
  refine anyH_takeW 32 ⟨some 57, .binOp .eql 3 (.tmp 56) (.const (.int .i64 1)) 3, _, _, _, some (28, true)⟩ (.bool true) rfl rfl (by kernel_rfl) (by kernel_rfl) (by kernel_rfl) (fun _ _ _ h => h) (fun _ _ => exec_eql3 rfl rfl rfl) hS2 ?_
  simp only [Act.put, List.setIfInBounds_toArray, List.set_cons_zero, List.set_cons_succ]
  refine anyH_take 33 ⟨some 58, .pick (.tmp 53) (.tmp 57) (.const (.bool false)), _, _, _, none⟩ (.bool true) rfl rfl (by kernel_rfl) (by kernel_rfl) (by kernel_rfl) (fun _ _ _ h => h) (fun _ _ => rfl) hS2 ?_
  simp only [Act.put, List.setIfInBounds_toArray, List.set_cons_zero, List.set_cons_succ]
  refine anyH_take 34 ⟨some 59, .move (.tmp 58), _, _, _, none⟩ (.bool true) rfl rfl (by kernel_rfl) (by kernel_rfl) (by kernel_rfl) (fun _ _ _ h => h) (fun _ _ => rfl) hS2 ?_
  simp only [Act.put, List.setIfInBounds_toArray, List.set_cons_zero, List.set_cons_succ]
  refine anyH_takeW 35 ⟨some 60, .fieldAddr 33 (.tmp 8) 10, _, _, _, some (34, true)⟩ (.pointer (some ⟨pb, 10, none⟩)) rfl rfl (by kernel_rfl) (by kernel_rfl) (by kernel_rfl) (fun _ _ _ h => h) (fun Y _ => exec_v (fieldg33 pb 0 Y 10 (by omega))) hS2 ?_
  simp only [Act.put, List.setIfInBounds_toArray, List.set_cons_zero, List.set_cons_succ]
  refine anyH_takeW 36 ⟨some 61, .load 31 (.tmp 60), _, _, _, some (34, true)⟩ (.slice (some ⟨g, o, none⟩) 1 kc) rfl rfl (by kernel_rfl) (by kernel_rfl) (by kernel_rfl) (fun _ _ _ h => h) (fun Y hY => exec_v (load31 (HD5.out.later hY).cs.2.2.2.2.2.2.2.2.2.2)) hS2 ?_
  simp only [Act.put, List.setIfInBounds_toArray, List.set_cons_zero, List.set_cons_succ]
  refine anyH_takeW 37 ⟨some 62, .indexAddr 31 (.tmp 61) (.const (.int .i64 0)), _, _, _, some (34, true)⟩ (.pointer (some ⟨g, o, none⟩)) rfl rfl (by kernel_rfl) (by kernel_rfl) (by kernel_rfl) (fun _ _ _ h => h) (fun _ _ => exec_idx31 (n := 0) rfl) hS2 ?_
  simp only [Act.put, List.setIfInBounds_toArray, List.set_cons_zero, List.set_cons_succ]
  refine anyH_takeW 38 ⟨some 63, .fieldAddr 33 (.tmp 62) 8, _, _, _, some (34, true)⟩ (.pointer (some ⟨g, o + 8, none⟩)) rfl rfl (by kernel_rfl) (by kernel_rfl) (by kernel_rfl) (fun _ _ _ h => h) (fun Y _ => exec_v (fieldg33 g o Y 8 (by omega))) hS2 ?_
  simp only [Act.put, List.setIfInBounds_toArray, List.set_cons_zero, List.set_cons_succ]
  refine anyH_takeW 39 ⟨some 64, .load 3 (.tmp 63), _, _, _, some (34, true)⟩ (.int .i64 k0.d.to) rfl rfl (by kernel_rfl) (by kernel_rfl) (by kernel_rfl) (fun _ _ _ h => h) (fun Y hY => exec_v (loadk3 ((Kept.ofBelow hY []).cell HTo.out (by simp)))) hS2 ?_
  simp only [Act.put, List.setIfInBounds_toArray, List.set_cons_zero, List.set_cons_succ]
  refine anyH_takeW 40 ⟨some 65, .fieldAddr 33 (.tmp 8) 10, _, _, _, some (34, true)⟩ (.pointer (some ⟨pb, 10, none⟩)) rfl rfl (by kernel_rfl) (by kernel_rfl) (by kernel_rfl) (fun _ _ _ h => h) (fun Y _ => exec_v (fieldg33 pb 0 Y 10 (by omega))) hS2 ?_
  simp only [Act.put, List.setIfInBounds_toArray, List.set_cons_zero, List.set_cons_succ]
  refine anyH_takeW 41 ⟨some 66, .load 31 (.tmp 65), _, _, _, some (34, true)⟩ (.slice (some ⟨g, o, none⟩) 1 kc) rfl rfl (by kernel_rfl) (by kernel_rfl) (by kernel_rfl) (fun _ _ _ h => h) (fun Y hY => exec_v (load31 (HD5.out.later hY).cs.2.2.2.2.2.2.2.2.2.2)) hS2 ?_
  simp only [Act.put, List.setIfInBounds_toArray, List.set_cons_zero, List.set_cons_succ]
  refine anyH_takeW 42 ⟨some 67, .indexAddr 31 (.tmp 66) (.const (.int .i64 0)), _, _, _, some (34, true)⟩ (.pointer (some ⟨g, o, none⟩)) rfl rfl (by kernel_rfl) (by kernel_rfl) (by kernel_rfl) (fun _ _ _ h => h) (fun _ _ => exec_idx31 (n := 0) rfl) hS2 ?_
  simp only [Act.put, List.setIfInBounds_toArray, List.set_cons_zero, List.set_cons_succ]
  refine anyH_takeW 43 ⟨some 68, .fieldAddr 33 (.tmp 67) 7, _, _, _, some (34, true)⟩ (.pointer (some ⟨g, o + 7, none⟩)) rfl rfl (by kernel_rfl) (by kernel_rfl) (by kernel_rfl) (fun _ _ _ h => h) (fun Y _ => exec_v (fieldg33 g o Y 7 (by omega))) hS2 ?_
  simp only [Act.put, List.setIfInBounds_toArray, List.set_cons_zero, List.set_cons_succ]
  refine anyH_takeW 44 ⟨some 69, .load 3 (.tmp 68), _, _, _, some (34, true)⟩ (.int .i64 k0.d.fr) rfl rfl (by kernel_rfl) (by kernel_rfl) (by kernel_rfl) (fun _ _ _ h => h) (fun Y hY => exec_v (loadk3 ((Kept.ofBelow hY []).cell HFr.out (by simp)))) hS2 ?_
  simp only [Act.put, List.setIfInBounds_toArray, List.set_cons_zero, List.set_cons_succ]
  refine anyH_takeW 45 ⟨some 70, .binOp .sub 3 (.tmp 64) (.tmp 69) 3, _, _, _, some (34, true)⟩ (.int .i64 3) rfl rfl (by kernel_rfl) (by kernel_rfl) (by kernel_rfl) (fun _ _ _ h => h) (fun _ _ => exec_sub3 rfl rfl hwr) hS2 ?_
  simp only [Act.put, List.setIfInBounds_toArray, List.set_cons_zero, List.set_cons_succ]
  refine anyH_takeW 46 ⟨some 71, .binOp .eql 3 (.tmp 70) (.const (.int .i64 3)) 3, _, _, _, some (34, true)⟩ (.bool true) rfl rfl (by kernel_rfl) (by kernel_rfl) (by kernel_rfl) (fun _ _ _ h => h) (fun _ _ => exec_eql3 rfl rfl rfl) hS2 ?_
  simp only [Act.put, List.setIfInBounds_toArray, List.set_cons_zero, List.set_cons_succ]
  refine anyH_take 47 ⟨some 72, .pick (.tmp 59) (.tmp 71) (.const (.bool false)), _, _, _, none⟩ (.bool true) rfl rfl (by kernel_rfl) (by kernel_rfl) (by kernel_rfl) (fun _ _ _ h => h) (fun _ _ => rfl) hS2 ?_
  simp only [Act.put, List.setIfInBounds_toArray, List.set_cons_zero, List.set_cons_succ]
  refine anyH_one 48 ⟨some 0, .assign (.tmp 72), _, _, _, none⟩ (.bool true) Y2 (by kernel_rfl) rfl rfl rfl hS2 ?_
  simp only [Act.put, List.setIfInBounds_toArray, List.set_cons_zero, List.set_cons_succ]
  refine wpAnyH_done (by kernel_rfl) ?_ _
  have HBf := hid (HB5.out.trans (hS2.mono HB5.out.size))
  clear hS hS1 hS2 hSb hbY hbY2 hSame hCn
  go_wp2_with fail
  go_ret
  exact ⟨rfl, HBf.out⟩
end Go.Proofs.YtgolcmafbenjbaaGreatDoor
