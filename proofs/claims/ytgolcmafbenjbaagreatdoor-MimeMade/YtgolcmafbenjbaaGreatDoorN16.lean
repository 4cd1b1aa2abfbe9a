/- What this text holds: the kids of a part: the program's call. (Written by gen16.py.) -/
import Derived.Test.YtgolcmafbenjbaaGreatDoorN15
namespace Go.Proofs.YtgolcmafbenjbaaGreatDoor
open Go.RowKit
set_option linter.unusedVariables false
set_option linter.unusedSimpArgs false

/-- What a teller answers of a text. -/
def TellIs (m : Bs) (n b x y : Nat) (dg : Bool) (many : Nat) (w : World) (e : Ending) (w' : World) : Prop :=
  ∃ vp vi vd vk, e = .returned (ptV (tellM m n x y dg many).1.d vp vi vd vk) ∧ PtAt w' (w.heap.size ≤ ·) n (tellM m n x y dg many).1 vp vi vd vk ∧ TeAt w' b m (tellM m n x y dg many).2 ∧ Kept [b] w w'
def TellOk (m : Bs) (n : Nat) : Prop := ∀ (w : World) (b x y : Nat) (dg : Bool) (many : Nat), TeAt w b m many → Env w → b ≠ 0 → x ≤ y → y ≤ m.length → many ≤ 59 →
  Calls Tryz.prog 26 #[.pointer (some ⟨b, 0, none⟩), spV x y, .int .i64 ((8 - n : Nat) : Int), .bool dg] w (TellIs m n b x y dg many w)
def KidsIs (m : Bs) (n b : Nat) (d : Pd) (many : Nat) (w : World) (e : Ending) (w' : World) : Prop :=
  ∃ v, e = .returned v ∧ KsAt w' (w.heap.size ≤ ·) (n + 1) v (kidsF (tellM m n) (isDig d) (textsM m d) many).1 ∧ TeAt w' b m (kidsF (tellM m n) (isDig d) (textsM m d) many).2 ∧ Kept [b] w w'
set_option maxRecDepth 100000 in
theorem full_any {w : World} {b many : Nat} {m : Bs} (h : TeAt w b m many) (hm : many ≤ 1000) : Calls Tryz.prog 55 #[.pointer (some ⟨b, 1, none⟩)] w fun e w' => e = .returned (.bool (decide (60 ≤ many))) ∧ w' = w := by
  have c1 := h.c1
  have HD : Hid (decide ((60 : Int) ≤ many) = decide (60 ≤ many)) := by rw [Hid, Bool.eq_iff_iff]; simp only [decide_eq_true_eq]; omega
  rw [← HD.out]
  clear h HD
  go_enter Tryz.func55, Tryz.ntmps55
  go_wp2_with fail
  go_ret
  exact ⟨by simp, rfl⟩
theorem PtAt.slices {w : World} {N : Nat → Prop} {n : Nat} {p : Pt} {vp vi vd vk : Value} (h : PtAt w N n p vp vi vd vk) : ∃ pa pn pc ia n1 c1 da n2 c2 ka kn kc, vp = .slice pa pn pc ∧ vi = .slice ia n1 c1 ∧ vd = .slice da n2 c2 ∧ vk = .slice ka kn kc := by
  obtain ⟨_, pa, pc, h1, _⟩ := h.d.ps
  obtain ⟨_, ia, ic, h2, _⟩ := h.d.id
  obtain ⟨_, da, dc, h3, _⟩ := h.d.desc
  obtain ⟨ka, kc, h4, _⟩ := KsAt.slice h.k
  exact ⟨pa, _, pc, ia, _, ic, da, _, dc, ka, _, kc, h1, h2, h3, h4⟩
theorem kidsF_full (f : Nat → Nat → Bool → Nat → Pt × Nat) (dg : Bool) (l : List (Nat × Nat)) (k : Nat) (h : 60 ≤ k) : kidsF f dg l k = ([], k) := by
  cases l with
  | nil => rfl
  | cons t l => rw [kidsF, if_pos h]
theorem kidsF_next (f : Nat → Nat → Bool → Nat → Pt × Nat) (dg : Bool) (l : List (Nat × Nat)) (j : Nat) (hj : j < l.length) (k : Nat) (h : ¬ 60 ≤ k) : kidsF f dg (l.drop j) k = ((f l[j].1 l[j].2 dg k).1 :: (kidsF f dg (l.drop (j + 1)) (f l[j].1 l[j].2 dg k).2).1, (kidsF f dg (l.drop (j + 1)) (f l[j].1 l[j].2 dg k).2).2) := by
  rw [List.drop_eq_getElem_cons hj, kidsF, if_neg h]
theorem Env.keptS {S : List Nat} {w w' : World} (h : Env w) (hk : Kept S w w') (h0 : 0 ∉ S) : Env w' := by
  obtain ⟨m, h⟩ := h
  exact ⟨m, hk.cell h h0⟩
theorem SpL.keptb {w w' : World} {v : Value} {l : List (Nat × Nat)} {b : Nat} (h : SpL w v l) (hk : Kept [b] w w') (hn : ∀ (a : Option Addr) (n c g o : Nat), v = .slice (some ⟨g, o, none⟩) n c → l ≠ [] → g ≠ b) : SpL w' v l := by
  obtain ⟨a, c, rfl, hc, h⟩ := h
  refine ⟨a, c, rfl, hc, ?_⟩
  rcases h with h | ⟨g, o, rfl, hg, h⟩
  · exact .inl h
  · by_cases h0 : l = []
    · exact .inl h0
    · have := hn none _ _ g o rfl h0
      exact .inr ⟨g, o, rfl, Nat.lt_of_lt_of_le hg hk.size, fun j t ht => ⟨hk.cell (h j t ht).1 (by simpa using this), hk.cell (h j t ht).2 (by simpa using this)⟩⟩

set_option maxRecDepth 100000 in
set_option maxHeartbeats 8000000 in
theorem kids_any {m : Bs} {n : Nat} (hn7 : n ≤ 6) (hT : TellOk m n) (hm : m.length ≤ 1000000) {w : World} {b many : Nat} (ht : TeAt w b m many) (he : Env w) (hb0 : b ≠ 0) {d : Pd} {vp vi vd : Value} (hp : PdAt w (fun _ => True) d vp vi vd) (hl : d.ps.length ≤ 1000000) (hbl : (boundM d.ps).length ≤ 1000000) (h1 : d.fr ≤ d.to) (h2 : d.to ≤ m.length)
    (hts : ∀ t ∈ textsM m d, t.1 ≤ t.2 ∧ t.2 ≤ m.length) (htl : (textsM m d).length ≤ 1000000) (hmany : many ≤ 60) :
    Calls Tryz.prog 39 #[.pointer (some ⟨b, 0, none⟩), ptV d vp vi vd nilV, .int .i64 ((8 - n : Nat) : Int)] w (KidsIs m n b d many w) := by
  obtain ⟨_, pa, pc, rfl, hpc⟩ := id hp.ps
  obtain ⟨_, ia, ic, rfl, hic⟩ := id hp.id
  obtain ⟨_, da, dc, rfl, hdc⟩ := id hp.desc
  have hW := below1 w (.cells (ptC d (.slice pa (d.ps.map pR).length pc) (.slice ia (d.id.map sR).length ic) (.slice da (d.desc.map sR).length dc) nilV) 33)
  have HD1 := hid (d11_new w d (.slice pa (d.ps.map pR).length pc) (.slice ia (d.id.map sR).length ic) (.slice da (d.desc.map sR).length dc) nilV)
  have HT1 := hid (ht.later hW)
  have HE1 := hid (he.later hW)
  have HP1 := hid (hp.ps.later hW)
  have HB1 := hid hW
  have hbw := ht.lt
  have HTx := hid (fun W (h : RL W (.slice pa (d.ps.map pR).length pc) 2 (d.ps.map pR)) => texts_any m d (.slice pa (d.ps.map pR).length pc) (.slice ia (d.id.map sR).length ic) (.slice da (d.desc.map sR).length dc) nilV W h hl hbl h1 h2 hm)
  have HMu := hid (fun W => multi_any d (.slice pa (d.ps.map pR).length pc) (.slice ia (d.id.map sR).length ic) (.slice da (d.desc.map sR).length dc) nilV W)
  have HTs := hid hts
  have HDg : Hid (isDig d = (isMulti d && decide (d.sub = wDig))) := rfl
  have hq := eqL d.sub wDig
  have HTk := hid hT
  have HZ : Hid (w.heap.size ∉ [b]) := by rw [Hid, List.mem_singleton]; omega
  unfold KidsIs
  generalize textsM m d = TS at *
  generalize (d.ps.map pR).length = pn at *
  generalize (d.id.map sR).length = n1 at *
  generalize (d.desc.map sR).length = n2 at *
  clear ht he hp hW hts hT hpc hic hdc
  unfold ptV ptC nilV at *
  go_enter Tryz.func39, Tryz.ntmps39
  go_wp2_with fail
  generalize (w.alloc (.cells #[.string (str d.ty), .string (str d.sub), .slice pa pn pc, .slice ia n1 ic, .slice da n2 dc, .string (str d.enc), .int .i64 d.hd, .int .i64 d.fr, .int .i64 d.to, .int .i64 d.lns, .slice none 0 0] 33)) = W1 at *
  refine wp_region_held_drew (S := fun X => Below W1.heap.size W1 X) (by kernel_rfl) ((Below.refl _ _).drew) ?_
  intro hS
  refine anyH_take 0 ⟨some 10, .move (.tmp 0), _, _, _, none⟩ (.pointer (some ⟨b, 0, none⟩)) rfl rfl (by kernel_rfl) (by kernel_rfl) (by kernel_rfl) (fun _ _ _ h => h) (fun _ _ => rfl) hS ?_
  simp only [Act.put, List.setIfInBounds_toArray, List.set_cons_zero, List.set_cons_succ]
  refine anyH_take 1 ⟨some 11, .nilCheck (.tmp 10), _, _, _, none⟩ (.pointer (some ⟨b, 0, none⟩)) rfl rfl (by kernel_rfl) (by kernel_rfl) (by kernel_rfl) (fun _ _ _ h => h) (fun _ _ => rfl) hS ?_
  simp only [Act.put, List.setIfInBounds_toArray, List.set_cons_zero, List.set_cons_succ]
  refine anyH_take 2 ⟨some 12, .fieldAddr 59 (.tmp 11) 0, _, _, _, none⟩ (.pointer (some ⟨b, 0, none⟩)) rfl rfl (by kernel_rfl) (by kernel_rfl) (by kernel_rfl) (fun _ _ _ h => h) (fun X _ => exec_v (fieldk59 b 0 X (by omega))) hS ?_
  simp only [Act.put, List.setIfInBounds_toArray, List.set_cons_zero, List.set_cons_succ]
  refine anyH_take 3 ⟨some 13, .load 55 (.tmp 12), _, _, _, none⟩ (msgV m) rfl rfl (by kernel_rfl) (by kernel_rfl) (by kernel_rfl) (fun _ _ _ h => h) (fun X hX => exec_v (load55 (HT1.out.later hX).c0)) hS ?_
  simp only [Act.put, List.setIfInBounds_toArray, List.set_cons_zero, List.set_cons_succ]
  refine anyH_take 4 ⟨some 14, .load 33 (.tmp 4), _, _, _, none⟩ (ptV d (.slice pa pn pc) (.slice ia n1 ic) (.slice da n2 dc) nilV) rfl rfl (by kernel_rfl) (by kernel_rfl) (by kernel_rfl) (fun _ _ _ h => h) (fun X hX => exec_v (load33 (HD1.out.later hX))) hS ?_
  simp only [Act.put, List.setIfInBounds_toArray, List.set_cons_zero, List.set_cons_succ]
  refine anyH_take 7 ⟨some 17, .move (.const (.int .i64 0)), _, _, _, none⟩ (.int .i64 0) rfl rfl (by kernel_rfl) (by kernel_rfl) (by kernel_rfl) (fun _ _ _ h => h) (fun _ _ => rfl) hS ?_
  simp only [Act.put, List.setIfInBounds_toArray, List.set_cons_zero, List.set_cons_succ]
  refine anyH_callW 5 ⟨some 15, .call { callee := .value (.func 54), args := #[.tmp 13, .tmp 14], argTypes := #[55, 33] }, _, _, _, none⟩ 54 #[msgV m, ptV d (.slice pa pn pc) (.slice ia n1 ic) (.slice da n2 dc) nilV] (by kernel_rfl) rfl rfl (by kernel_rfl) ?_
  refine (HTx.out _ (HP1.out.later hS)).mono ?_
  rintro e W2 ⟨⟨vt, rfl, hvt⟩, hb2⟩
  obtain ⟨ta, tc, rfl, htc, hvt2⟩ := id hvt
  have hS2 : Below W1.heap.size W1 W2 := hS.trans hb2
  refine ⟨_, rfl, hS2, ?_⟩
  simp only [Act.put, List.setIfInBounds_toArray, List.set_cons_zero, List.set_cons_succ]
  refine anyH_take 6 ⟨some 16, .call { callee := .builtin .len, args := #[.tmp 15], argTypes := #[90] }, _, _, _, none⟩ (.int .i64 TS.length) rfl rfl (by kernel_rfl) (by kernel_rfl) (by kernel_rfl) (fun _ _ _ h => h) (fun X _ => exec_lenL Tryz.underlying90 rfl) hS2 ?_
  simp only [Act.put, List.setIfInBounds_toArray, List.set_cons_zero, List.set_cons_succ]
  refine wpAnyH_done (by kernel_rfl) ?_ _
  have HD2 := hid (HD1.out.later hS2)
  have HT2 := hid (HT1.out.later hS2)
  have HE2 := hid (HE1.out.later hS2)
  have HB2 := hid (HB1.out.trans (hS2.mono HB1.out.size))
  have HV2 := hid hvt
  have HNb : Hid (∀ (a : Option Addr) (n c g o : Nat), Value.slice ta TS.length tc = .slice (some ⟨g, o, none⟩) n c → TS ≠ [] → g ≠ b) := fun a n c g o hv h0 => hvt.ne (a := a) HT2.out hv h0
  have HPb : Hid (w.heap.size < W2.heap.size) := HD2.out.lt
  have HbW : Hid (b < W2.heap.size) := HT2.out.lt
  clear hvt hvt2 hS hS2 hb2 HT1 HD1 HE1 HP1 HB1 HTx
  have H0 : Hid (kidsF (tellM m n) (isDig d) TS many = (([] : List Rw).map Rw.p ++ (kidsF (tellM m n) (isDig d) (TS.drop 0) many).1, (kidsF (tellM m n) (isDig d) (TS.drop 0) many).2)) := by simp [Hid]
  go_wp2_with fail
  go_loopw [7, 9, 17] (fun v tb i wr => ∃ (j : Nat) (rows : List Rw) (k : Nat), j ≤ TS.length ∧ i = .int .i64 j ∧ KO wr W2.heap.size n v rows ∧ TeAt wr b m k ∧ k ≤ 60 ∧ Kept [b] W2 wr ∧ rows.length ≤ j ∧ kidsF (tellM m n) (isDig d) TS many = (rows.map Rw.p ++ (kidsF (tellM m n) (isDig d) (TS.drop j) k).1, (kidsF (tellM m n) (isDig d) (TS.drop j) k).2)) (fun _ _ i _ => TS.length - (intOf i).toNat)
  case atStart => exact ⟨0, [], many, by omega, rfl, KO.nil _ _ _, HT2.out, hmany, Kept.refl _ _, by simp, H0.out⟩
  case round =>
    obtain ⟨j, rows, k, hj, rfl, hko, hte, hk60, hkp, hrl, hkf⟩ := hrel
    have HKO := hid hko
    have HTe := hid hte
    have HKp := hid hkp
    have HKf := hid hkf
    have HSz := hid hkp.size
    clear hko hte hkp hkf H0
    by_cases hlt : j < TS.length
    · have hlt' : (j : Int) < TS.length := by omega
      obtain ⟨a', c', hva, hca, hcells⟩ := HV2.out.keptb HKp.out HNb.out
      rcases hcells with hcells | ⟨g, o, rfl, hg, hcells⟩
      · rw [hcells] at hlt; simp at hlt
      · simp at hva
        obtain ⟨rfl, rfl⟩ := hva
        have hcc := hcells j TS[j] (List.getElem?_eq_getElem hlt)
        have hc0 : wr.cell? ⟨g, o + j * 2, none⟩ = some (.int .i64 TS[j].1) := hcc.1
        have hc1 : wr.cell? ⟨g, o + j * 2 + 1, none⟩ = some (.int .i64 TS[j].2) := hcc.2
        have HTt := hid (HTs.out TS[j] (List.getElem_mem hlt))
        have HNx := hid (kidsF_next (tellM m n) (isDig d) TS j hlt k)
        have hb1 := below1 wr (.cells #[.int .i64 TS[j].1, .int .i64 TS[j].2] 62)
        have HI3 := hid (i2_new wr TS[j].1 TS[j].2)
        have HT3 := hid (HTe.out.later hb1)
        have HB3 := hid hb1
        have HKO3 := hid (HKO.out.kept (Kept.ofBelow hb1 []) (by simp))
        have HD3 := hid ((HD2.out.kept HKp.out HZ.out).later hb1)
        have HE3 := hid ((HE2.out.keptS HKp.out (by rw [List.mem_singleton]; exact fun e => hb0 e.symm)).later hb1)
        have HK3 := hid (HKp.out.tr (Kept.ofBelow hb1 [b]))
        have HFu := hid (full_any HT3.out (by omega))
        generalize TS[j].1 = x at *
        generalize TS[j].2 = y at *
        clear hcc hcells hg hb1
        by_cases hfu : 60 ≤ k
        · have hdf : decide (60 ≤ k) = true := by simp [hfu]
          rw [hdf] at HFu
          have HFl := hid (kidsF_full (tellM m n) (isDig d) (TS.drop j) k hfu)
          clear hdf hfu
          go_wp2_with fail
          refine HFu.out.mono ?_
          rintro e w9 ⟨rfl, rfl⟩
          go_wp2_with fail
          go_ret
          have e := HKf.out
          rw [HFl.out, List.append_nil] at e
          rw [e]
          refine ⟨_, rfl, KsAt.mono (fun q _ hq => ?_) HKO3.out.ks, HT3.out, ?_⟩
          · have := HB2.out.size; omega
          · exact (Kept.ofBelow HB2.out [b]).tr HK3.out
        · have hdf : decide (60 ≤ k) = false := by simp [hfu]
          rw [hdf] at HFu
          have HNx2 := hid (HNx.out hfu)
          have hk59 : k ≤ 59 := by omega
          have HTM := hid (tell_many m n x y (isDig d) k hk59)
          have HK59 := hid hk59
          clear hdf hfu hk59
          go_wp2_with fail
          refine HFu.out.mono ?_
          rintro e w9 ⟨rfl, rfl⟩
          obtain ⟨va, vcp, hvv⟩ := HKO.out.sliceN (k := rows.length) rfl
          subst hvv
          go_wp2_with fail
          have HVt : Hid (∀ g, (Value.slice va rows.length vcp).ownBlock = some g → g < wr.heap.size) := fun g hg => (World.ownsRow.lt HKO.out.o g hg).2
          generalize (wr.alloc (.cells #[.int .i64 x, .int .i64 y] 62)) = X1 at *
          have HtbB : Hid (W2.heap.size ≤ wr.heap.size) := HSz.out
          have HX1 : Hid (wr.heap.size < X1.heap.size) := HI3.out.lt
          generalize wr.heap.size = tb at *
          cases hmu : isMulti d with
          | false =>
            have HDgv : Hid (isDig d = false) := by rw [Hid, HDg.out, hmu]; simp
            have HMv := hid (HMu.out X1.drew)
            rw [hmu] at HMv
            refine wp_region_held_drew (S := fun X => I2 X tb x y ∧ D11 X w.heap.size d (.slice pa pn pc) (.slice ia n1 ic) (.slice da n2 dc) nilV) (by kernel_rfl) ⟨HI3.out, HD3.out⟩ ?_
            intro hS
            refine anyH_take 0 ⟨some 25, .move (.tmp 7), _, _, _, none⟩ (.slice va rows.length vcp) rfl rfl (by kernel_rfl) (by kernel_rfl) (by kernel_rfl) (fun _ _ _ h => h) (fun _ _ => rfl) hS ?_
            simp only [Act.put, List.setIfInBounds_toArray, List.set_cons_zero, List.set_cons_succ]
            refine anyH_take 1 ⟨some 26, .move (.tmp 0), _, _, _, none⟩ (.pointer (some ⟨b, 0, none⟩)) rfl rfl (by kernel_rfl) (by kernel_rfl) (by kernel_rfl) (fun _ _ _ h => h) (fun _ _ => rfl) hS ?_
            simp only [Act.put, List.setIfInBounds_toArray, List.set_cons_zero, List.set_cons_succ]
            refine anyH_take 2 ⟨some 27, .load 62 (.tmp 9), _, _, _, none⟩ (spV x y) rfl rfl (by kernel_rfl) (by kernel_rfl) (by kernel_rfl) (fun _ _ _ h => h) (fun X hX => exec_v (load62 hX.1.c0 hX.1.c1)) hS ?_
            simp only [Act.put, List.setIfInBounds_toArray, List.set_cons_zero, List.set_cons_succ]
            refine anyH_take 3 ⟨some 28, .move (.tmp 2), _, _, _, none⟩ (.int .i64 ((8 - n : Nat) : Int)) rfl rfl (by kernel_rfl) (by kernel_rfl) (by kernel_rfl) (fun _ _ _ h => h) (fun _ _ => rfl) hS ?_
            simp only [Act.put, List.setIfInBounds_toArray, List.set_cons_zero, List.set_cons_succ]
            refine anyH_take 4 ⟨some 29, .load 33 (.tmp 4), _, _, _, none⟩ (ptV d (.slice pa pn pc) (.slice ia n1 ic) (.slice da n2 dc) nilV) rfl rfl (by kernel_rfl) (by kernel_rfl) (by kernel_rfl) (fun _ _ _ h => h) (fun X hX => exec_v (load33 hX.2)) hS ?_
            simp only [Act.put, List.setIfInBounds_toArray, List.set_cons_zero, List.set_cons_succ]
            refine anyH_callW 5 ⟨some 30, .call { callee := .value (.func 56), args := #[.tmp 29], argTypes := #[33] }, _, _, _, none⟩ 56 #[ptV d (.slice pa pn pc) (.slice ia n1 ic) (.slice da n2 dc) nilV] (by kernel_rfl) rfl rfl (by kernel_rfl) ?_
            refine HMv.out.mono ?_
            rintro e Xm ⟨rfl, hbm⟩
            have hSm : I2 Xm tb x y ∧ D11 Xm w.heap.size d (.slice pa pn pc) (.slice ia n1 ic) (.slice da n2 dc) nilV := ⟨(show I2 X1.drew tb x y from HI3.out).later hbm, (show D11 X1.drew w.heap.size d (.slice pa pn pc) (.slice ia n1 ic) (.slice da n2 dc) nilV from HD3.out).later hbm⟩
            refine ⟨_, rfl, hSm, ?_⟩
            simp only [Act.put, List.setIfInBounds_toArray, List.set_cons_zero, List.set_cons_succ]
            refine anyH_take 6 ⟨some 31, .move (.tmp 30), _, _, _, none⟩ (.bool false) rfl rfl (by kernel_rfl) (by kernel_rfl) (by kernel_rfl) (fun _ _ _ h => h) (fun _ _ => rfl) hSm ?_
            simp only [Act.put, List.setIfInBounds_toArray, List.set_cons_zero, List.set_cons_succ]
            refine anyH_takeU 7 ⟨some 32, .fieldAddr 33 (.tmp 4) 1, _, _, _, some (6, true)⟩ rfl rfl (by kernel_rfl) (by kernel_rfl) (by kernel_rfl) (fun _ _ _ h => h) hSm ?_
            simp only [Act.put, List.setIfInBounds_toArray, List.set_cons_zero, List.set_cons_succ]
            refine anyH_takeU 8 ⟨some 33, .load 9 (.tmp 32), _, _, _, some (6, true)⟩ rfl rfl (by kernel_rfl) (by kernel_rfl) (by kernel_rfl) (fun _ _ _ h => h) hSm ?_
            simp only [Act.put, List.setIfInBounds_toArray, List.set_cons_zero, List.set_cons_succ]
            refine anyH_takeU 9 ⟨some 34, .binOp .eql 9 (.tmp 33) (.const (.string { data := #[100, 105, 103, 101, 115, 116] })) 9, _, _, _, some (6, true)⟩ rfl rfl (by kernel_rfl) (by kernel_rfl) (by kernel_rfl) (fun _ _ _ h => h) hSm ?_
            simp only [Act.put, List.setIfInBounds_toArray, List.set_cons_zero, List.set_cons_succ]
            refine anyH_take 10 ⟨some 35, .pick (.tmp 31) (.tmp 34) (.const (.bool false)), _, _, _, none⟩ (.bool false) rfl rfl (by kernel_rfl) (by kernel_rfl) (by kernel_rfl) (fun _ _ _ h => h) (fun _ _ => rfl) hSm ?_
            simp only [Act.put, List.setIfInBounds_toArray, List.set_cons_zero, List.set_cons_succ]
            refine anyH_callW 11 ⟨some 36, .call { callee := .value (.func 26), args := #[.tmp 26, .tmp 27, .tmp 28, .tmp 35], argTypes := #[75, 62, 3, 4] }, _, _, _, none⟩ 26 #[.pointer (some ⟨b, 0, none⟩), spV x y, .int .i64 ((8 - n : Nat) : Int), .bool false] (by kernel_rfl) rfl rfl (by kernel_rfl) ?_
            have hTm : TeAt Xm b m k := (show TeAt X1.drew b m k from HT3.out).later hbm
            have hEm : Env Xm := (show Env X1.drew from HE3.out).later hbm
            have hCt : Calls Tryz.prog 26 #[.pointer (some ⟨b, 0, none⟩), spV x y, .int .i64 ((8 - n : Nat) : Int), .bool false] Xm (TellIs m n b x y (isDig d) k Xm) := by
              rw [show Value.bool false = Value.bool (isDig d) by rw [HDgv.out]]
              exact HTk.out Xm b x y (isDig d) k hTm hEm hb0 HTt.out.1 HTt.out.2 HK59.out
            refine hCt.mono ?_
            rintro e Xt ⟨qp, qi, qd, qk, rfl, hpt, htt, hkt⟩
            obtain ⟨ppa, ppn, ppc, pia, pin, pic, pda, pdn, pdc, pka, pkn, pkc, rfl, rfl, rfl, rfl⟩ := hpt.slices
            have hbX : X1.drew.heap.size ≤ Xm.heap.size := hbm.size
            have hbX2 : X1.heap.size ≤ Xm.heap.size := hbX
            have hSt : I2 Xt tb x y ∧ D11 Xt w.heap.size d (.slice pa pn pc) (.slice ia n1 ic) (.slice da n2 dc) nilV := ⟨hSm.1.kept hkt (by rw [List.mem_singleton]; have := HtbB.out; have := HbW.out; omega), hSm.2.kept hkt HZ.out⟩
            have hKm : KO Xm W2.heap.size n (.slice va rows.length vcp) rows := HKO3.out.kept (Kept.trans (Kept.drew [] X1) (Kept.ofBelow hbm []) (fun i _ hi => hi)) (by simp)
            have hKt := hKm.kept hkt (by simp; exact HbW.out)
            have hK2 : Kept [b] W2 Xt := (HK3.out.tr (Kept.trans (Kept.drew [b] X1) (Kept.ofBelow hbm [b]) (fun i _ hi => hi))).tr hkt
            have hptN : PtAt Xt (fun q => W2.heap.size ≤ q ∧ (Value.slice va rows.length vcp).ownBlock ≠ some q) n (tellM m n x y (isDig d) k).1 (.slice ppa ppn ppc) (.slice pia pin pic) (.slice pda pdn pdc) (.slice pka pkn pkc) := hpt.mono (fun q _ hq => by
              have h3 := HX1.out
              have h4 := HtbB.out
              refine ⟨by omega, fun e => ?_⟩
              have := (World.ownsRow.lt HKO3.out.o q e).2
              omega)
            obtain ⟨v', X', hrun, hko', hbX', hkv⟩ := hKt.more hK2.size ⟨(tellM m n x y (isDig d) k).1, .slice ppa ppn ppc, .slice pia pin pic, .slice pda pdn pdc, .slice pka pkn pkc⟩ hptN (by simp [Rw.c, ptC, Value.oneCell']) (by omega) Xt.heap.size rfl
            refine ⟨_, rfl, hSt, ?_⟩
            simp only [Act.put, List.setIfInBounds_toArray, List.set_cons_zero, List.set_cons_succ]
            have hSb : I2 (Xt.alloc (.cells (ptC (tellM m n x y (isDig d) k).1.d (.slice ppa ppn ppc) (.slice pia pin pic) (.slice pda pdn pdc) (.slice pka pkn pkc)) 33)) tb x y ∧ D11 (Xt.alloc (.cells (ptC (tellM m n x y (isDig d) k).1.d (.slice ppa ppn ppc) (.slice pia pin pic) (.slice pda pdn pdc) (.slice pka pkn pkc)) 33)) w.heap.size d (.slice pa pn pc) (.slice ia n1 ic) (.slice da n2 dc) nilV := ⟨hSt.1.later (below1 _ _), hSt.2.later (below1 _ _)⟩
            refine anyH_one 12 ⟨some 37, .buildSlice 31 1 #[(0, .tmp 36)], _, _, _, none⟩ (.slice (some ⟨Xt.heap.size, 0, none⟩) 1 1) (Xt.alloc (.cells (ptC (tellM m n x y (isDig d) k).1.d (.slice ppa ppn ppc) (.slice pia pin pic) (.slice pda pdn pdc) (.slice pka pkn pkc)) 33)) (by kernel_rfl) rfl rfl (exec_buildSlice (X := ptV (tellM m n x y (isDig d) k).1.d (.slice ppa ppn ppc) (.slice pia pin pic) (.slice pda pdn pdc) (.slice pka pkn pkc)) rfl (slice31 _ _ _ _ _ _ _ _ _ _ _ _ _ _)) hSb ?_
            simp only [Act.put, List.setIfInBounds_toArray, List.set_cons_zero, List.set_cons_succ]
            have hS' : I2 X' tb x y ∧ D11 X' w.heap.size d (.slice pa pn pc) (.slice ia n1 ic) (.slice da n2 dc) nilV := ⟨hSt.1.kept hkv (fun hm => by rw [Option.mem_toList] at hm; have := HVt.out _ hm; omega), hSt.2.below hbX' HPb.out⟩
            refine anyH_one 13 ⟨some 38, .call { callee := .builtin .append, args := #[.tmp 25, .tmp 37], argTypes := #[31, 31] }, _, _, _, none⟩ v' X' (by kernel_rfl) rfl rfl (exec_append rfl rfl hrun) hS' ?_
            simp only [Act.put, List.setIfInBounds_toArray, List.set_cons_zero, List.set_cons_succ]
            refine anyH_one 14 ⟨some 7, .assign (.tmp 38), _, _, _, none⟩ v' X' (by kernel_rfl) rfl rfl rfl hS' ?_
            simp only [Act.put, List.setIfInBounds_toArray, List.set_cons_zero, List.set_cons_succ]
            refine wpAnyH_done (by kernel_rfl) ?_ _
            have HKOn := hid hko'
            have HTn : Hid (TeAt X' b m (tellM m n x y (isDig d) k).2) := (hbX'.block b HbW.out).trans htt
            have HKn : Hid (Kept [b] W2 X') := kept_low hK2 hbX'
            obtain ⟨va2, vcp2, hvv2⟩ := HKOn.out.sliceN (k := rows.length + 1) (by simp)
            subst hvv2
            clear hrun hko' hbX' hkv hpt htt hkt hptN hKt hKm hK2 hSt hSb hS' hTm hEm hCt hSm hbm hS
            go_wp2_with fail
            go_roundw
            case rel => exact ⟨j + 1, rows ++ [⟨(tellM m n x y (isDig d) k).1, .slice ppa ppn ppc, .slice pia pin pic, .slice pda pdn pdc, .slice pka pkn pkc⟩], (tellM m n x y (isDig d) k).2, by omega, by go_num, HKOn.out, HTn.out, HTM.out.2, HKn.out, by simp; omega, by rw [HKf.out, HNx2.out]; simp⟩
            case measure => simp [intOf]; omega
          | true =>
            have HDgv : Hid (isDig d = ((str d.sub).toList == [100, 105, 103, 101, 115, 116])) := by rw [Hid, HDg.out, hmu]; simp; exact hq.symm
            have HMv := hid (HMu.out X1.drew)
            rw [hmu] at HMv
            refine wp_region_held_drew (S := fun X => I2 X tb x y ∧ D11 X w.heap.size d (.slice pa pn pc) (.slice ia n1 ic) (.slice da n2 dc) nilV) (by kernel_rfl) ⟨HI3.out, HD3.out⟩ ?_
            intro hS
            refine anyH_take 0 ⟨some 25, .move (.tmp 7), _, _, _, none⟩ (.slice va rows.length vcp) rfl rfl (by kernel_rfl) (by kernel_rfl) (by kernel_rfl) (fun _ _ _ h => h) (fun _ _ => rfl) hS ?_
            simp only [Act.put, List.setIfInBounds_toArray, List.set_cons_zero, List.set_cons_succ]
            refine anyH_take 1 ⟨some 26, .move (.tmp 0), _, _, _, none⟩ (.pointer (some ⟨b, 0, none⟩)) rfl rfl (by kernel_rfl) (by kernel_rfl) (by kernel_rfl) (fun _ _ _ h => h) (fun _ _ => rfl) hS ?_
            simp only [Act.put, List.setIfInBounds_toArray, List.set_cons_zero, List.set_cons_succ]
            refine anyH_take 2 ⟨some 27, .load 62 (.tmp 9), _, _, _, none⟩ (spV x y) rfl rfl (by kernel_rfl) (by kernel_rfl) (by kernel_rfl) (fun _ _ _ h => h) (fun X hX => exec_v (load62 hX.1.c0 hX.1.c1)) hS ?_
            simp only [Act.put, List.setIfInBounds_toArray, List.set_cons_zero, List.set_cons_succ]
            refine anyH_take 3 ⟨some 28, .move (.tmp 2), _, _, _, none⟩ (.int .i64 ((8 - n : Nat) : Int)) rfl rfl (by kernel_rfl) (by kernel_rfl) (by kernel_rfl) (fun _ _ _ h => h) (fun _ _ => rfl) hS ?_
            simp only [Act.put, List.setIfInBounds_toArray, List.set_cons_zero, List.set_cons_succ]
            refine anyH_take 4 ⟨some 29, .load 33 (.tmp 4), _, _, _, none⟩ (ptV d (.slice pa pn pc) (.slice ia n1 ic) (.slice da n2 dc) nilV) rfl rfl (by kernel_rfl) (by kernel_rfl) (by kernel_rfl) (fun _ _ _ h => h) (fun X hX => exec_v (load33 hX.2)) hS ?_
            simp only [Act.put, List.setIfInBounds_toArray, List.set_cons_zero, List.set_cons_succ]
            refine anyH_callW 5 ⟨some 30, .call { callee := .value (.func 56), args := #[.tmp 29], argTypes := #[33] }, _, _, _, none⟩ 56 #[ptV d (.slice pa pn pc) (.slice ia n1 ic) (.slice da n2 dc) nilV] (by kernel_rfl) rfl rfl (by kernel_rfl) ?_
            refine HMv.out.mono ?_
            rintro e Xm ⟨rfl, hbm⟩
            have hSm : I2 Xm tb x y ∧ D11 Xm w.heap.size d (.slice pa pn pc) (.slice ia n1 ic) (.slice da n2 dc) nilV := ⟨(show I2 X1.drew tb x y from HI3.out).later hbm, (show D11 X1.drew w.heap.size d (.slice pa pn pc) (.slice ia n1 ic) (.slice da n2 dc) nilV from HD3.out).later hbm⟩
            refine ⟨_, rfl, hSm, ?_⟩
            simp only [Act.put, List.setIfInBounds_toArray, List.set_cons_zero, List.set_cons_succ]
            refine anyH_take 6 ⟨some 31, .move (.tmp 30), _, _, _, none⟩ (.bool true) rfl rfl (by kernel_rfl) (by kernel_rfl) (by kernel_rfl) (fun _ _ _ h => h) (fun _ _ => rfl) hSm ?_
            simp only [Act.put, List.setIfInBounds_toArray, List.set_cons_zero, List.set_cons_succ]
            refine anyH_takeW 7 ⟨some 32, .fieldAddr 33 (.tmp 4) 1, _, _, _, some (6, true)⟩ (.pointer (some ⟨w.heap.size, 1, none⟩)) rfl rfl (by kernel_rfl) (by kernel_rfl) (by kernel_rfl) (fun _ _ _ h => h) (fun X _ => exec_v (fieldk33 w.heap.size X)) hSm ?_
            simp only [Act.put, List.setIfInBounds_toArray, List.set_cons_zero, List.set_cons_succ]
            refine anyH_takeW 8 ⟨some 33, .load 9 (.tmp 32), _, _, _, some (6, true)⟩ (.string (str d.sub)) rfl rfl (by kernel_rfl) (by kernel_rfl) (by kernel_rfl) (fun _ _ _ h => h) (fun X hX => exec_v (loadk9 hX.2.cs.2.1)) hSm ?_
            simp only [Act.put, List.setIfInBounds_toArray, List.set_cons_zero, List.set_cons_succ]
            refine anyH_takeW 9 ⟨some 34, .binOp .eql 9 (.tmp 33) (.const (.string { data := #[100, 105, 103, 101, 115, 116] })) 9, _, _, _, some (6, true)⟩ (.bool ((str d.sub).toList == [100, 105, 103, 101, 115, 116])) rfl rfl (by kernel_rfl) (by kernel_rfl) (by kernel_rfl) (fun _ _ _ h => h) (fun X _ => exec_eqlS (t := [100, 105, 103, 101, 115, 116]) rfl rfl) hSm ?_
            simp only [Act.put, List.setIfInBounds_toArray, List.set_cons_zero, List.set_cons_succ]
            refine anyH_take 10 ⟨some 35, .pick (.tmp 31) (.tmp 34) (.const (.bool false)), _, _, _, none⟩ (.bool ((str d.sub).toList == [100, 105, 103, 101, 115, 116])) rfl rfl (by kernel_rfl) (by kernel_rfl) (by kernel_rfl) (fun _ _ _ h => h) (fun _ _ => rfl) hSm ?_
            simp only [Act.put, List.setIfInBounds_toArray, List.set_cons_zero, List.set_cons_succ]
            refine anyH_callW 11 ⟨some 36, .call { callee := .value (.func 26), args := #[.tmp 26, .tmp 27, .tmp 28, .tmp 35], argTypes := #[75, 62, 3, 4] }, _, _, _, none⟩ 26 #[.pointer (some ⟨b, 0, none⟩), spV x y, .int .i64 ((8 - n : Nat) : Int), .bool ((str d.sub).toList == [100, 105, 103, 101, 115, 116])] (by kernel_rfl) rfl rfl (by kernel_rfl) ?_
            have hTm : TeAt Xm b m k := (show TeAt X1.drew b m k from HT3.out).later hbm
            have hEm : Env Xm := (show Env X1.drew from HE3.out).later hbm
            have hCt : Calls Tryz.prog 26 #[.pointer (some ⟨b, 0, none⟩), spV x y, .int .i64 ((8 - n : Nat) : Int), .bool ((str d.sub).toList == [100, 105, 103, 101, 115, 116])] Xm (TellIs m n b x y (isDig d) k Xm) := by
              rw [show Value.bool ((str d.sub).toList == [100, 105, 103, 101, 115, 116]) = Value.bool (isDig d) by rw [HDgv.out]]
              exact HTk.out Xm b x y (isDig d) k hTm hEm hb0 HTt.out.1 HTt.out.2 HK59.out
            refine hCt.mono ?_
            rintro e Xt ⟨qp, qi, qd, qk, rfl, hpt, htt, hkt⟩
            obtain ⟨ppa, ppn, ppc, pia, pin, pic, pda, pdn, pdc, pka, pkn, pkc, rfl, rfl, rfl, rfl⟩ := hpt.slices
            have hbX : X1.drew.heap.size ≤ Xm.heap.size := hbm.size
            have hbX2 : X1.heap.size ≤ Xm.heap.size := hbX
            have hSt : I2 Xt tb x y ∧ D11 Xt w.heap.size d (.slice pa pn pc) (.slice ia n1 ic) (.slice da n2 dc) nilV := ⟨hSm.1.kept hkt (by rw [List.mem_singleton]; have := HtbB.out; have := HbW.out; omega), hSm.2.kept hkt HZ.out⟩
            have hKm : KO Xm W2.heap.size n (.slice va rows.length vcp) rows := HKO3.out.kept (Kept.trans (Kept.drew [] X1) (Kept.ofBelow hbm []) (fun i _ hi => hi)) (by simp)
            have hKt := hKm.kept hkt (by simp; exact HbW.out)
            have hK2 : Kept [b] W2 Xt := (HK3.out.tr (Kept.trans (Kept.drew [b] X1) (Kept.ofBelow hbm [b]) (fun i _ hi => hi))).tr hkt
            have hptN : PtAt Xt (fun q => W2.heap.size ≤ q ∧ (Value.slice va rows.length vcp).ownBlock ≠ some q) n (tellM m n x y (isDig d) k).1 (.slice ppa ppn ppc) (.slice pia pin pic) (.slice pda pdn pdc) (.slice pka pkn pkc) := hpt.mono (fun q _ hq => by
              have h3 := HX1.out
              have h4 := HtbB.out
              refine ⟨by omega, fun e => ?_⟩
              have := (World.ownsRow.lt HKO3.out.o q e).2
              omega)
            obtain ⟨v', X', hrun, hko', hbX', hkv⟩ := hKt.more hK2.size ⟨(tellM m n x y (isDig d) k).1, .slice ppa ppn ppc, .slice pia pin pic, .slice pda pdn pdc, .slice pka pkn pkc⟩ hptN (by simp [Rw.c, ptC, Value.oneCell']) (by omega) Xt.heap.size rfl
            refine ⟨_, rfl, hSt, ?_⟩
            simp only [Act.put, List.setIfInBounds_toArray, List.set_cons_zero, List.set_cons_succ]
            have hSb : I2 (Xt.alloc (.cells (ptC (tellM m n x y (isDig d) k).1.d (.slice ppa ppn ppc) (.slice pia pin pic) (.slice pda pdn pdc) (.slice pka pkn pkc)) 33)) tb x y ∧ D11 (Xt.alloc (.cells (ptC (tellM m n x y (isDig d) k).1.d (.slice ppa ppn ppc) (.slice pia pin pic) (.slice pda pdn pdc) (.slice pka pkn pkc)) 33)) w.heap.size d (.slice pa pn pc) (.slice ia n1 ic) (.slice da n2 dc) nilV := ⟨hSt.1.later (below1 _ _), hSt.2.later (below1 _ _)⟩
            refine anyH_one 12 ⟨some 37, .buildSlice 31 1 #[(0, .tmp 36)], _, _, _, none⟩ (.slice (some ⟨Xt.heap.size, 0, none⟩) 1 1) (Xt.alloc (.cells (ptC (tellM m n x y (isDig d) k).1.d (.slice ppa ppn ppc) (.slice pia pin pic) (.slice pda pdn pdc) (.slice pka pkn pkc)) 33)) (by kernel_rfl) rfl rfl (exec_buildSlice (X := ptV (tellM m n x y (isDig d) k).1.d (.slice ppa ppn ppc) (.slice pia pin pic) (.slice pda pdn pdc) (.slice pka pkn pkc)) rfl (slice31 _ _ _ _ _ _ _ _ _ _ _ _ _ _)) hSb ?_
            simp only [Act.put, List.setIfInBounds_toArray, List.set_cons_zero, List.set_cons_succ]
            have hS' : I2 X' tb x y ∧ D11 X' w.heap.size d (.slice pa pn pc) (.slice ia n1 ic) (.slice da n2 dc) nilV := ⟨hSt.1.kept hkv (fun hm => by rw [Option.mem_toList] at hm; have := HVt.out _ hm; omega), hSt.2.below hbX' HPb.out⟩
            refine anyH_one 13 ⟨some 38, .call { callee := .builtin .append, args := #[.tmp 25, .tmp 37], argTypes := #[31, 31] }, _, _, _, none⟩ v' X' (by kernel_rfl) rfl rfl (exec_append rfl rfl hrun) hS' ?_
            simp only [Act.put, List.setIfInBounds_toArray, List.set_cons_zero, List.set_cons_succ]
            refine anyH_one 14 ⟨some 7, .assign (.tmp 38), _, _, _, none⟩ v' X' (by kernel_rfl) rfl rfl rfl hS' ?_
            simp only [Act.put, List.setIfInBounds_toArray, List.set_cons_zero, List.set_cons_succ]
            refine wpAnyH_done (by kernel_rfl) ?_ _
            have HKOn := hid hko'
            have HTn : Hid (TeAt X' b m (tellM m n x y (isDig d) k).2) := (hbX'.block b HbW.out).trans htt
            have HKn : Hid (Kept [b] W2 X') := kept_low hK2 hbX'
            obtain ⟨va2, vcp2, hvv2⟩ := HKOn.out.sliceN (k := rows.length + 1) (by simp)
            subst hvv2
            clear hrun hko' hbX' hkv hpt htt hkt hptN hKt hKm hK2 hSt hSb hS' hTm hEm hCt hSm hbm hS
            go_wp2_with fail
            go_roundw
            case rel => exact ⟨j + 1, rows ++ [⟨(tellM m n x y (isDig d) k).1, .slice ppa ppn ppc, .slice pia pin pic, .slice pda pdn pdc, .slice pka pkn pkc⟩], (tellM m n x y (isDig d) k).2, by omega, by go_num, HKOn.out, HTn.out, HTM.out.2, HKn.out, by simp; omega, by rw [HKf.out, HNx2.out]; simp⟩
            case measure => simp [intOf]; omega
    · have hlt' : ¬ (j : Int) < TS.length := by omega
      go_wp2_with fail
      go_ret
      have e := HKf.out
      rw [List.drop_of_length_le (by omega), show kidsF (tellM m n) (isDig d) [] k = ([], k) from rfl, List.append_nil] at e
      rw [e]
      refine ⟨_, rfl, KsAt.mono (fun q _ hq => ?_) HKO.out.ks, HTe.out, ?_⟩
      · have := HB2.out.size; omega
      · exact (Kept.ofBelow HB2.out [b]).tr HKp.out
end Go.Proofs.YtgolcmafbenjbaaGreatDoor
