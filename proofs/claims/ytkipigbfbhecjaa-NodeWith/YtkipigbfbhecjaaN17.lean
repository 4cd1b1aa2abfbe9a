/- What this text holds: Split, of the program: the walk. -/
import Derived.Test.YtkipigbfbhecjaaN16
namespace Go.Proofs.Ytkipigbfbhecjaa
open Go.RowKit
set_option linter.unusedVariables false
set_option linter.unusedSimpArgs false

theorem exec_add3 {a : Act} {x y : Operand} {m n : Int} {w : World} {d : Option Tmp} {ty : Nat} {pos : String} {af : Array Edge} {g : Option (Nat × Bool)} (hx : a.eval x = .int .i64 m) (hy : a.eval y = .int .i64 n) :
    (execOp a.eval ⟨d, .binOp .add 3 x y 3, ty, pos, af, g⟩).run Try.prog w = .ok (.value (.int .i64 (IntKind.i64.wrap (m + n)))) w := by
  simp [execOp, hx, hy, eqGuard, binOp]
  rfl
theorem wpList_store26 {ops : Array Oper} {rest : List Oper} {Q : Exit → Act → World → Prop} {a : Act} {x y : Operand} {R : Nat} {x0 x1 x2 x3 : Value} {l : Bool} {a1 a2 a3 : Option Addr} {n1 n2 n3 c1 c2 c3 : Nat} {w : World} {d : Option Tmp} {ty : Nat} {pos : String} {af : Array Edge} (hx : a.eval x = .pointer (some ⟨R, 0, none⟩)) (hy : a.eval y = .agg #[.bool l, .slice a1 n1 c1, .slice a2 n2 c2, .slice a3 n3 c3])
    (h : w.heap[R]? = some (.cells #[x0, x1, x2, x3] 26 (0, 0))) (hr : wpList Try.prog ops Q rest (a.put d undef) (w.setRow R #[.bool l, .slice a1 n1 c1, .slice a2 n2 c2, .slice a3 n3 c3])) : wpList Try.prog ops Q (⟨d, .store 26 x y, ty, pos, af, none⟩ :: rest) a w := by
  refine wpList_plain rfl fun K hK => ?_
  unfold Oper.wp
  rw [exec_store26 hx hy h]
  exact hK _ _ hr

set_option maxRecDepth 100000 in
set_option maxHeartbeats 4000000 in
theorem split_leaf {w : World} {v : Value} {n : Nd} (h : NAt w v n) (sm : n.small) (hl : n.leaf = true) : Calls Try.prog 24 #[v] w (SplitP w n) := by
  obtain ⟨ka, kp, ia, ep, da, dp, rfl, hkk, hii, hdd, ⟨k1, k2⟩, ⟨i1, i2⟩, ⟨d1, d2⟩⟩ := h.at_
  rw [hl] at h ⊢
  have HL := hid hl
  have HSm := hid sm
  have hk7 := sm.k
  have hi7 := sm.i
  have hd7 := sm.d
  unfold maxLen at k2 i2 d2
  have HB0 := hid (below_box w (.cells #[.bool true, .slice ka n.keys.length kp, .slice ia n.items.length ep, .slice da n.kids.length dp] 26))
  have HBa := hid (below_box (w.alloc (.cells #[.bool true, .slice ka n.keys.length kp, .slice ia n.items.length ep, .slice da n.kids.length dp] 26)) (.cells #[.bool false, .slice none 0 0, .slice none 0 0, .slice none 0 0] 26))
  have HBb := hid (below_box ((w.alloc (.cells #[.bool true, .slice ka n.keys.length kp, .slice ia n.items.length ep, .slice da n.kids.length dp] 26)).alloc (.cells #[.bool false, .slice none 0 0, .slice none 0 0, .slice none 0 0] 26)) (.cells #[.bool false, .slice none 0 0, .slice none 0 0, .slice none 0 0] 26))
  have HBV := hid (HB0.out.trans ((HBa.out.trans (HBb.out.mono (HBa.out.size))).mono HB0.out.size))
  have HN := hid (h.later HBV.out)
  have hsz0 : (w.alloc (.cells #[.bool true, .slice ka n.keys.length kp, .slice ia n.items.length ep, .slice da n.kids.length dp] 26)).heap.size = w.heap.size + 1 := by simp
  have hsz1 : ((w.alloc (.cells #[.bool true, .slice ka n.keys.length kp, .slice ia n.items.length ep, .slice da n.kids.length dp] 26)).alloc (.cells #[.bool false, .slice none 0 0, .slice none 0 0, .slice none 0 0] 26)).heap.size = w.heap.size + 2 := by simp
  have hsz2 : (((w.alloc (.cells #[.bool true, .slice ka n.keys.length kp, .slice ia n.items.length ep, .slice da n.kids.length dp] 26)).alloc (.cells #[.bool false, .slice none 0 0, .slice none 0 0, .slice none 0 0] 26)).alloc (.cells #[.bool false, .slice none 0 0, .slice none 0 0, .slice none 0 0] 26)).heap.size = w.heap.size + 3 := by simp
  have HXB := hid (((HBa.out.trans (HBb.out.mono HBa.out.size)).block w.heap.size (by omega)).trans (heap_alloc_new w (.cells #[.bool true, .slice ka n.keys.length kp, .slice ia n.items.length ep, .slice da n.kids.length dp] 26)))
  have HXR : Hid ((((w.alloc (.cells #[.bool true, .slice ka n.keys.length kp, .slice ia n.items.length ep, .slice da n.kids.length dp] 26)).alloc (.cells #[.bool false, .slice none 0 0, .slice none 0 0, .slice none 0 0] 26)).alloc (.cells #[.bool false, .slice none 0 0, .slice none 0 0, .slice none 0 0] 26)).heap[w.heap.size + 1]? = some (.cells #[.bool false, .slice none 0 0, .slice none 0 0, .slice none 0 0] 26 (0, 0))) := by
    have := (HBb.out.block (w.heap.size + 1) (by omega)).trans (hsz0 ▸ heap_alloc_new (w.alloc (.cells #[.bool true, .slice ka n.keys.length kp, .slice ia n.items.length ep, .slice da n.kids.length dp] 26)) (.cells #[.bool false, .slice none 0 0, .slice none 0 0, .slice none 0 0] 26))
    exact this
  have HXQ : Hid ((((w.alloc (.cells #[.bool true, .slice ka n.keys.length kp, .slice ia n.items.length ep, .slice da n.kids.length dp] 26)).alloc (.cells #[.bool false, .slice none 0 0, .slice none 0 0, .slice none 0 0] 26)).alloc (.cells #[.bool false, .slice none 0 0, .slice none 0 0, .slice none 0 0] 26)).heap[w.heap.size + 1 + 1]? = some (.cells #[.bool false, .slice none 0 0, .slice none 0 0, .slice none 0 0] 26 (0, 0))) := by
    have := hsz1 ▸ heap_alloc_new ((w.alloc (.cells #[.bool true, .slice ka n.keys.length kp, .slice ia n.items.length ep, .slice da n.kids.length dp] 26)).alloc (.cells #[.bool false, .slice none 0 0, .slice none 0 0, .slice none 0 0] 26)) (.cells #[.bool false, .slice none 0 0, .slice none 0 0, .slice none 0 0] 26)
    exact this
  have HKs := hid h.ks
  have HIs := hid h.is_
  have HAk := hid (hkk.later HBV.out)
  have HAi := hid (hii.later HBV.out)
  have HAd := hid (hdd.later HBV.out)
  clear h hkk hii hdd hl HB0 HBa HBb hsz0 hsz1 sm
  unfold nv at HN ⊢
  go_enter Try.func24, Try.ntmps24
  go_wp2_with fail
  generalize ((w.alloc (.cells #[.bool true, .slice ka n.keys.length kp, .slice ia n.items.length ep, .slice da n.kids.length dp] 26)).alloc (.cells #[.bool false, .slice none 0 0, .slice none 0 0, .slice none 0 0] 26)).alloc (.cells #[.bool false, .slice none 0 0, .slice none 0 0, .slice none 0 0] 26) = V at HBV HN HXB HXR HXQ HAk HAi HAd hsz2 ⊢
  generalize hBe : w.heap.size = B at HBV HXB HXR HXQ hsz2 ⊢
  generalize hQe : B + 1 + 1 = Q at HXQ ⊢
  generalize hRe : B + 1 = R at HXR hQe ⊢
  have hVs : B + 3 ≤ V.heap.size := by omega
  have hR1 : B < R := by omega
  have hQ1 : R < Q := by omega
  have hQ2 : Q < V.heap.size := by omega
  clear hsz2 hRe hQe
  refine (right_any HN.out HSm.out).mono ?_
  rintro e w1 ⟨rfl, hb1⟩
  have HB1 := hid hb1
  have hBlt0 : B < V.heap.size := by omega
  have HR1 := hid ((hb1.block R (by omega)).trans HXR.out)
  have HQ1 := hid ((hb1.block Q (by omega)).trans HXQ.out)
  obtain ⟨⟨c0, c1, c2, c3⟩, _⟩ := cells4 ((hb1.block B (by omega)).trans HXB.out)
  clear hb1
  cases hr : rightB n with
  | false =>
    have hRQ : Q ≠ R := by omega
    have hRQ' : R ≠ Q := by omega
    have hQs := (setRow_other w1 R Q #[.bool false, .slice none 0 0, .slice none 0 0, .slice none 0 0] hRQ).trans HQ1.out
    have hRs := (setRow_other (w1.setRow R #[.bool false, .slice none 0 0, .slice none 0 0, .slice none 0 0]) Q R #[.bool false, .slice none 0 0, .slice none 0 0, .slice none 0 0] hRQ').trans (setRow_heap w1 R _ #[.bool false, .slice none 0 0, .slice none 0 0, .slice none 0 0] _ _ HR1.out)
    have hQs2 := setRow_heap (w1.setRow R #[.bool false, .slice none 0 0, .slice none 0 0, .slice none 0 0]) Q _ #[.bool false, .slice none 0 0, .slice none 0 0, .slice none 0 0] _ _ hQs
    have HQs := hid hQs
    have HRs := hid hRs
    have HQs2 := hid hQs2
    have HBs := hid ((below_setRow (w := w1) (R := R) (B := B) (by omega) #[.bool false, .slice none 0 0, .slice none 0 0, .slice none 0 0]).trans (below_setRow (w := w1.setRow R #[.bool false, .slice none 0 0, .slice none 0 0, .slice none 0 0]) (R := Q) (B := B) (by omega) #[.bool false, .slice none 0 0, .slice none 0 0, .slice none 0 0]))
    clear hQs hRs hQs2
    go_wp2_with (first | (refine wpList_store26 (R := R) rfl rfl HR1.out ?_) | (refine wpList_store26 (R := Q) rfl rfl HQs.out ?_))
    refine bodyPost_ret (results4 rfl rfl rfl HRs.out HQs2.out) rfl ?_
    exact .inl ⟨by unfold splitB leastN; rw [HL.out]; simp; simp [hr], ⟨_, _, rfl, nat_zero _, nat_zero _⟩, by rw [hBe]; exact (HBV.out.trans (HB1.out.mono (by omega))).trans HBs.out⟩
  | true =>
    have HRi := hid (ri_of hr)
    have HRb := hid hr
    clear hr
    by_cases hlen : n.keys.length < 2
    · have hlen' : (n.keys.length : Int) < 2 := by omega
      have hRQ : Q ≠ R := by omega
      have hRQ' : R ≠ Q := by omega
      have hQs := (setRow_other w1 R Q #[.bool false, .slice none 0 0, .slice none 0 0, .slice none 0 0] hRQ).trans HQ1.out
      have hRs := (setRow_other (w1.setRow R #[.bool false, .slice none 0 0, .slice none 0 0, .slice none 0 0]) Q R #[.bool false, .slice none 0 0, .slice none 0 0, .slice none 0 0] hRQ').trans (setRow_heap w1 R _ #[.bool false, .slice none 0 0, .slice none 0 0, .slice none 0 0] _ _ HR1.out)
      have hQs2 := setRow_heap (w1.setRow R #[.bool false, .slice none 0 0, .slice none 0 0, .slice none 0 0]) Q _ #[.bool false, .slice none 0 0, .slice none 0 0, .slice none 0 0] _ _ hQs
      have HQs := hid hQs
      have HRs := hid hRs
      have HQs2 := hid hQs2
      have HBs := hid ((below_setRow (w := w1) (R := R) (B := B) (by omega) #[.bool false, .slice none 0 0, .slice none 0 0, .slice none 0 0]).trans (below_setRow (w := w1.setRow R #[.bool false, .slice none 0 0, .slice none 0 0, .slice none 0 0]) (R := Q) (B := B) (by omega) #[.bool false, .slice none 0 0, .slice none 0 0, .slice none 0 0]))
      clear hQs hRs hQs2
      go_wp2_with (first | (refine wpList_store26 (R := R) rfl rfl HR1.out ?_) | (refine wpList_store26 (R := Q) rfl rfl HQs.out ?_))
      refine bodyPost_ret (results4 rfl rfl rfl HRs.out HQs2.out) rfl ?_
      exact .inl ⟨by unfold splitB leastN; rw [HL.out]; simp; omega, ⟨_, _, rfl, nat_zero _, nat_zero _⟩, by rw [hBe]; exact (HBV.out.trans (HB1.out.mono (by omega))).trans HBs.out⟩
    · have hlen' : ¬ (n.keys.length : Int) < 2 := by omega
      have hm : (n.keys.length : Int) - 2 + 1 = ((n.keys.length - 2 + 1 : Nat) : Int) := by omega
      have hhalf := half_any (HN.out.later HB1.out) HSm.out HRi.out (n.keys.length - 2 + 1) (by omega) (by omega)
      rw [← hm] at hhalf
      have HC := hid hhalf
      clear hhalf hm
      have HSp : Hid (splitB n = true) := by unfold splitB leastN; rw [HRb.out, HL.out]; simp [Hid]; omega
      have HLe : Hid (leastN n = 2) := by unfold leastN; rw [HL.out]; rfl
      go_wp2_with fail
      refine HC.out.mono ?_
      rintro e w3 ⟨i, rfl, hhalf, hb3⟩
      have HHalf := hid hhalf
      have hile := hhalf.le
      have hi1 := hhalf.one
      have HB3 := hid (HB1.out.trans (hb3.mono HB1.out.size))
      have hBV3 : V.heap.size ≤ w3.heap.size := HB3.out.size
      clear hhalf hb3 HC c0 c1 c2 c3 HR1 HQ1
      have hik : i < n.keys.length := by omega
      have HS3 := hid ((HB3.out.block B (by omega)).trans HXB.out)
      have HR3 := hid ((HB3.out.block R (by omega)).trans HXR.out)
      have HQ3 := hid ((HB3.out.block Q (by omega)).trans HXQ.out)
      obtain ⟨⟨c0, c1, c2, c3⟩, _⟩ := cells4 HS3.out
      obtain ⟨kb, ko, rfl, hck⟩ := (HAk.out.later HB3.out).key i hik
      rw [← n.key_at i hik] at hck
      have hii : i < n.items.length := by rw [(HRi.out.leaf HL.out).1]; exact hik
      obtain ⟨jb, jo, rfl, _, _, _⟩ := (HAi.out.later HB3.out).item i hii
      have HEk := hid (HRi.out.leaf HL.out).1
      have HCA := hid (leaf_any (w := w3.drew) (kp := kp) (ep := ep) (keys := n.keys.take i) (items := n.items.take i) (kn := i) (en := i) (by rw [kc_take]; exact (HAk.out.later HB3.out).takeC i) (by rw [ic_take]; exact (HAi.out.later HB3.out).takeC (i * 3)) (by rw [List.length_take]; omega) (by rw [List.length_take]; omega) (by omega) (by omega) (fun k hk => HKs.out k (List.mem_of_mem_take hk)) (fun x hx => HIs.out x (List.mem_of_mem_take hx)))
      have HCB := hid (fun w4 (hb4 : Below w3.drew.heap.size w3.drew w4) => leaf_any (w := w4) (kp := kp - i) (ep := ep - i) (ka := some ⟨kb, ko + i * 1, none⟩) (ia := some ⟨jb, jo + i * 3, none⟩) (keys := n.keys.drop i) (items := n.items.drop i) (kn := n.keys.length - i) (en := n.items.length - i) (by rw [kc_drop, Nat.mul_one]; exact ((HAk.out.later HB3.out.drew).dropC i).later hb4) (by rw [ic_drop]; exact ((HAi.out.later HB3.out.drew).dropC (i * 3)).later hb4) (by rw [List.length_drop]) (by rw [List.length_drop]) (by omega) (by omega) (fun k hk => HKs.out k (List.mem_of_mem_drop hk)) (fun x hx => HIs.out x (List.mem_of_mem_drop hx)))
      have hS0 := HS3.out
      have hRz := HR3.out
      have hQz := HQ3.out
      have hBlt : B < w3.heap.size := by omega
      have hRlt : R < w3.heap.size := by omega
      have hQlt : Q < w3.heap.size := by omega
      have hBR : B ≠ R := by omega
      have hBQ : B ≠ Q := by omega
      have hQR : Q ≠ R := by omega
      have hRQ : R ≠ Q := by omega
      have HSx := hid hS0
      have HRx := hid hRz
      have HQx := hid hQz
      clear hS0 hRz hQz
      generalize hkey : n.key i = key at hck
      have HKey := hid hkey
      clear hkey
      have hik' : (i : Int) < n.keys.length := by omega
      go_wp2_with fail
      have hS0 := HSx.out
      have hRz := HRx.out
      have hQz := HQx.out
      clear c0 c1 c2 c3 hck
      refine wp_region_held_drew (S := fun X => X.heap[B]? = some (.cells #[.bool true, .slice (some ⟨kb, ko, none⟩) n.keys.length kp, .slice (some ⟨jb, jo, none⟩) n.items.length ep, .slice da n.kids.length dp] 26 (0, 0))) (by kernel_rfl) hS0 ?_
      intro _
      refine anyH_take 0 ⟨some 38, .fieldAddr 26 (.tmp 1) 1, _, _, _, none⟩ (.pointer (some ⟨B, 1, none⟩)) rfl rfl (by kernel_rfl) (by kernel_rfl) (by kernel_rfl) (fun _ _ _ h => h) (fun w hS => exec_v (field26 B w).1) hS0 ?_
      simp only [Act.put, List.setIfInBounds_toArray, List.set_cons_zero, List.set_cons_succ]
      refine anyH_take 1 ⟨some 39, .load 22 (.tmp 38), _, _, _, none⟩ (.slice (some ⟨kb, ko, none⟩) n.keys.length kp) rfl rfl (by kernel_rfl) (by kernel_rfl) (by kernel_rfl) (fun _ _ _ h => h) (fun w hS => exec_v (load22 (cells4 hS).1.2.1)) hS0 ?_
      simp only [Act.put, List.setIfInBounds_toArray, List.set_cons_zero, List.set_cons_succ]
      refine anyH_take 2 ⟨some 40, .move (.tmp 7), _, _, _, none⟩ (.int .i64 i) rfl rfl (by kernel_rfl) (by kernel_rfl) (by kernel_rfl) (fun _ _ _ h => h) (fun w hS => rfl) hS0 ?_
      simp only [Act.put, List.setIfInBounds_toArray, List.set_cons_zero, List.set_cons_succ]
      refine anyH_take 3 ⟨some 41, .slice 22 (.tmp 39) none (some (.tmp 40)) none, _, _, _, none⟩ (.slice (some ⟨kb, ko, none⟩) i kp) rfl rfl (by kernel_rfl) (by kernel_rfl) (by kernel_rfl) (fun _ _ _ h => h) (fun w hS => exec_v (hi22 kb ko n.keys.length kp i w (by omega))) hS0 ?_
      simp only [Act.put, List.setIfInBounds_toArray, List.set_cons_zero, List.set_cons_succ]
      refine anyH_take 4 ⟨some 42, .fieldAddr 26 (.tmp 1) 2, _, _, _, none⟩ (.pointer (some ⟨B, 2, none⟩)) rfl rfl (by kernel_rfl) (by kernel_rfl) (by kernel_rfl) (fun _ _ _ h => h) (fun w hS => exec_v (field26 B w).2.1) hS0 ?_
      simp only [Act.put, List.setIfInBounds_toArray, List.set_cons_zero, List.set_cons_succ]
      refine anyH_take 5 ⟨some 43, .load 23 (.tmp 42), _, _, _, none⟩ (.slice (some ⟨jb, jo, none⟩) n.items.length ep) rfl rfl (by kernel_rfl) (by kernel_rfl) (by kernel_rfl) (fun _ _ _ h => h) (fun w hS => exec_v (load23 (cells4 hS).1.2.2.1)) hS0 ?_
      simp only [Act.put, List.setIfInBounds_toArray, List.set_cons_zero, List.set_cons_succ]
      refine anyH_take 6 ⟨some 44, .move (.tmp 7), _, _, _, none⟩ (.int .i64 i) rfl rfl (by kernel_rfl) (by kernel_rfl) (by kernel_rfl) (fun _ _ _ h => h) (fun w hS => rfl) hS0 ?_
      simp only [Act.put, List.setIfInBounds_toArray, List.set_cons_zero, List.set_cons_succ]
      refine anyH_take 7 ⟨some 45, .slice 23 (.tmp 43) none (some (.tmp 44)) none, _, _, _, none⟩ (.slice (some ⟨jb, jo, none⟩) i ep) rfl rfl (by kernel_rfl) (by kernel_rfl) (by kernel_rfl) (fun _ _ _ h => h) (fun w hS => exec_v (hi23 jb jo n.items.length ep i w (by omega))) hS0 ?_
      simp only [Act.put, List.setIfInBounds_toArray, List.set_cons_zero, List.set_cons_succ]
      refine anyH_take 9 ⟨some 47, .move (.tmp 8), _, _, _, none⟩ (.string key) rfl rfl (by kernel_rfl) (by kernel_rfl) (by kernel_rfl) (fun _ _ _ h => h) (fun w hS => rfl) hS0 ?_
      simp only [Act.put, List.setIfInBounds_toArray, List.set_cons_zero, List.set_cons_succ]
      refine anyH_take 10 ⟨some 48, .fieldAddr 26 (.tmp 1) 1, _, _, _, none⟩ (.pointer (some ⟨B, 1, none⟩)) rfl rfl (by kernel_rfl) (by kernel_rfl) (by kernel_rfl) (fun _ _ _ h => h) (fun w hS => exec_v (field26 B w).1) hS0 ?_
      simp only [Act.put, List.setIfInBounds_toArray, List.set_cons_zero, List.set_cons_succ]
      refine anyH_take 11 ⟨some 49, .load 22 (.tmp 48), _, _, _, none⟩ (.slice (some ⟨kb, ko, none⟩) n.keys.length kp) rfl rfl (by kernel_rfl) (by kernel_rfl) (by kernel_rfl) (fun _ _ _ h => h) (fun w hS => exec_v (load22 (cells4 hS).1.2.1)) hS0 ?_
      simp only [Act.put, List.setIfInBounds_toArray, List.set_cons_zero, List.set_cons_succ]
      refine anyH_take 12 ⟨some 50, .move (.tmp 7), _, _, _, none⟩ (.int .i64 i) rfl rfl (by kernel_rfl) (by kernel_rfl) (by kernel_rfl) (fun _ _ _ h => h) (fun w hS => rfl) hS0 ?_
      simp only [Act.put, List.setIfInBounds_toArray, List.set_cons_zero, List.set_cons_succ]
      refine anyH_take 13 ⟨some 51, .slice 22 (.tmp 49) (some (.tmp 50)) none none, _, _, _, none⟩ (.slice (some ⟨kb, ko + i * 1, none⟩) (n.keys.length - i) (kp - i)) rfl rfl (by kernel_rfl) (by kernel_rfl) (by kernel_rfl) (fun _ _ _ h => h) (fun w hS => exec_v (lo22 kb ko n.keys.length kp i w (by omega) (by omega))) hS0 ?_
      simp only [Act.put, List.setIfInBounds_toArray, List.set_cons_zero, List.set_cons_succ]
      refine anyH_take 14 ⟨some 52, .fieldAddr 26 (.tmp 1) 2, _, _, _, none⟩ (.pointer (some ⟨B, 2, none⟩)) rfl rfl (by kernel_rfl) (by kernel_rfl) (by kernel_rfl) (fun _ _ _ h => h) (fun w hS => exec_v (field26 B w).2.1) hS0 ?_
      simp only [Act.put, List.setIfInBounds_toArray, List.set_cons_zero, List.set_cons_succ]
      refine anyH_take 15 ⟨some 53, .load 23 (.tmp 52), _, _, _, none⟩ (.slice (some ⟨jb, jo, none⟩) n.items.length ep) rfl rfl (by kernel_rfl) (by kernel_rfl) (by kernel_rfl) (fun _ _ _ h => h) (fun w hS => exec_v (load23 (cells4 hS).1.2.2.1)) hS0 ?_
      simp only [Act.put, List.setIfInBounds_toArray, List.set_cons_zero, List.set_cons_succ]
      refine anyH_take 16 ⟨some 54, .move (.tmp 7), _, _, _, none⟩ (.int .i64 i) rfl rfl (by kernel_rfl) (by kernel_rfl) (by kernel_rfl) (fun _ _ _ h => h) (fun w hS => rfl) hS0 ?_
      simp only [Act.put, List.setIfInBounds_toArray, List.set_cons_zero, List.set_cons_succ]
      refine anyH_take 17 ⟨some 55, .slice 23 (.tmp 53) (some (.tmp 54)) none none, _, _, _, none⟩ (.slice (some ⟨jb, jo + i * 3, none⟩) (n.items.length - i) (ep - i)) rfl rfl (by kernel_rfl) (by kernel_rfl) (by kernel_rfl) (fun _ _ _ h => h) (fun w hS => exec_v (lo23 jb jo n.items.length ep i w (by omega) (by omega))) hS0 ?_
      simp only [Act.put, List.setIfInBounds_toArray, List.set_cons_zero, List.set_cons_succ]
      refine anyH_callW 8 ⟨some 46, .call { callee := .value (.func 45), args := #[.tmp 41, .tmp 45], argTypes := #[22, 23] }, _, _, _, none⟩ 45 _ (by kernel_rfl) rfl rfl (exec_call45 rfl rfl) ?_
      refine HCA.out.mono ?_
      rintro e w4 ⟨va, rfl, hva, hb4⟩
      refine ⟨va, rfl, ?_, ?_⟩
      · exact (hb4.block B (by have := hBlt; simpa using this)).trans hS0
      simp only [Act.put, List.setIfInBounds_toArray, List.set_cons_zero, List.set_cons_succ]
      obtain ⟨a1, p1, a2, p2, a3, p3, rfl, ra⟩ := hva.at_
      unfold nv
      have HCB' := hid (HCB.out w4 hb4)
      refine anyH_callW 18 ⟨some 56, .call { callee := .value (.func 45), args := #[.tmp 51, .tmp 55], argTypes := #[22, 23] }, _, _, _, none⟩ 45 _ (by kernel_rfl) rfl rfl (exec_call45 rfl rfl) ?_
      refine HCB'.out.mono ?_
      rintro e w5 ⟨vb, rfl, hvb, hb5⟩
      have hb45 := hb4.trans (hb5.mono hb4.size)
      refine ⟨vb, rfl, ?_, ?_⟩
      · exact (hb45.block B (by have := hBlt; simpa using this)).trans hS0
      simp only [Act.put, List.setIfInBounds_toArray, List.set_cons_zero, List.set_cons_succ]
      obtain ⟨b1, q1, b2, q2, b3, q3, rfl, rb⟩ := hvb.at_
      unfold nv
      have hR5 := (hb45.block R (by have := hRlt; simpa using this)).trans hRz
      have hQ5 := (hb45.block Q (by have := hQlt; simpa using this)).trans hQz
      have hS5 := (hb45.block B (by have := hBlt; simpa using this)).trans hS0
      have hva5 := hva.later hb5
      refine anyH_oneSkip 19 ⟨none, .store 26 (.tmp 2) (.tmp 46), _, _, _, none⟩ _ (by kernel_rfl) rfl rfl (exec_store26 rfl rfl hR5) ((setRow_other _ R B _ hBR).trans hS5) ?_
      simp only [Act.put, List.setIfInBounds_toArray, List.set_cons_zero, List.set_cons_succ]
      have hY1S := (setRow_other w5 R B #[.bool true, .slice a1 (n.keys.take i).length p1, .slice a2 (n.items.take i).length p2, .slice a3 ([] : List Int).length p3] hBR).trans hS5
      have hY1R := setRow_heap w5 R _ #[.bool true, .slice a1 (n.keys.take i).length p1, .slice a2 (n.items.take i).length p2, .slice a3 ([] : List Int).length p3] _ _ hR5
      have hY1Q := (setRow_other w5 R Q #[.bool true, .slice a1 (n.keys.take i).length p1, .slice a2 (n.items.take i).length p2, .slice a3 ([] : List Int).length p3] hQR).trans hQ5
      have hvaY := hva5.setRow hR5 #[.bool true, .slice a1 (n.keys.take i).length p1, .slice a2 (n.items.take i).length p2, .slice a3 ([] : List Int).length p3]
      have hvbY := hvb.setRow hR5 #[.bool true, .slice a1 (n.keys.take i).length p1, .slice a2 (n.items.take i).length p2, .slice a3 ([] : List Int).length p3]
      have hbY := below_setRow (w := w5) (R := R) (B := B) (by omega) #[.bool true, .slice a1 (n.keys.take i).length p1, .slice a2 (n.items.take i).length p2, .slice a3 ([] : List Int).length p3]
      generalize w5.setRow R #[.bool true, .slice a1 (n.keys.take i).length p1, .slice a2 (n.items.take i).length p2, .slice a3 ([] : List Int).length p3] = Y1 at hY1S hY1R hY1Q hvaY hvbY hbY ⊢
      refine anyH_one 20 ⟨some 3, .assign (.tmp 47), _, _, _, none⟩ (.string key) Y1 (by kernel_rfl) rfl rfl rfl hY1S ?_
      simp only [Act.put, List.setIfInBounds_toArray, List.set_cons_zero, List.set_cons_succ]
      refine anyH_oneSkip 21 ⟨none, .store 26 (.tmp 4) (.tmp 56), _, _, _, none⟩ _ (by kernel_rfl) rfl rfl (exec_store26 rfl rfl hY1Q) ((setRow_other _ Q B _ hBQ).trans hY1S) ?_
      simp only [Act.put, List.setIfInBounds_toArray, List.set_cons_zero, List.set_cons_succ]
      have hZR := (setRow_other Y1 Q R #[.bool true, .slice b1 (n.keys.drop i).length q1, .slice b2 (n.items.drop i).length q2, .slice b3 ([] : List Int).length q3] hRQ).trans hY1R
      have hZQ := setRow_heap Y1 Q _ #[.bool true, .slice b1 (n.keys.drop i).length q1, .slice b2 (n.items.drop i).length q2, .slice b3 ([] : List Int).length q3] _ _ hY1Q
      have hZS := (setRow_other Y1 Q B #[.bool true, .slice b1 (n.keys.drop i).length q1, .slice b2 (n.items.drop i).length q2, .slice b3 ([] : List Int).length q3] hBQ).trans hY1S
      have hvaZ := hvaY.setRow hY1Q #[.bool true, .slice b1 (n.keys.drop i).length q1, .slice b2 (n.items.drop i).length q2, .slice b3 ([] : List Int).length q3]
      have hvbZ := hvbY.setRow hY1Q #[.bool true, .slice b1 (n.keys.drop i).length q1, .slice b2 (n.items.drop i).length q2, .slice b3 ([] : List Int).length q3]
      have hbZ := below_setRow (w := Y1) (R := Q) (B := B) (by omega) #[.bool true, .slice b1 (n.keys.drop i).length q1, .slice b2 (n.items.drop i).length q2, .slice b3 ([] : List Int).length q3]
      generalize Y1.setRow Q #[.bool true, .slice b1 (n.keys.drop i).length q1, .slice b2 (n.items.drop i).length q2, .slice b3 ([] : List Int).length q3] = Z1 at hZR hZQ hZS hvaZ hvbZ hbZ ⊢
      refine anyH_one 22 ⟨some 5, .assign (.const (.int .i64 0)), _, _, _, none⟩ (.int .i64 0) Z1 (by kernel_rfl) rfl rfl rfl hZS ?_
      simp only [Act.put, List.setIfInBounds_toArray, List.set_cons_zero, List.set_cons_succ]
      refine wpAnyH_done (by kernel_rfl) ?_ _
      have HZR := hid hZR
      have HZQ := hid hZQ
      have HvaZ := hid hvaZ
      have HvbZ := hid hvbZ
      have HbZ := hid ((HB3.out.drew.trans (hb45.mono (show V.heap.size ≤ w3.drew.heap.size from hBV3))).mono (show B ≤ V.heap.size by omega) |>.trans (hbY.trans hbZ))
      clear hZR hZQ hZS hvaZ hvbZ hbZ hbY hvaY hvbY hY1S hY1R hY1Q hR5 hQ5 hS5 hva5 hva hvb ra rb hb4 hb5 hb45 HCB' HCA HCB hS0 hRz hQz HSx HRx HQx
      go_wp2_with fail
      refine bodyPost_ret (results4 rfl rfl rfl HZR.out HZQ.out) rfl ?_
      refine .inr ⟨HSp.out, i, _, _, (by rw [HLe.out]; exact HHalf.out), (by rw [HKey.out]; rfl), ?_, ?_, (by rw [hBe]; exact HBV.out.trans HbZ.out)⟩
      · unfold cutA; rw [HL.out]; exact HvaZ.out
      · unfold cutB; rw [HL.out]; exact HvbZ.out

set_option maxRecDepth 100000 in
set_option maxHeartbeats 4000000 in
theorem split_other {w : World} {v : Value} {n : Nd} (h : NAt w v n) (sm : n.small) (hl : n.leaf = false) : Calls Try.prog 24 #[v] w (SplitP w n) := by
  obtain ⟨ka, kp, ia, ep, da, dp, rfl, hkk, hii, hdd, ⟨k1, k2⟩, ⟨i1, i2⟩, ⟨d1, d2⟩⟩ := h.at_
  rw [hl] at h ⊢
  have HL := hid hl
  have HSm := hid sm
  have hk7 := sm.k
  have hi7 := sm.i
  have hd7 := sm.d
  unfold maxLen at k2 i2 d2
  have HB0 := hid (below_box w (.cells #[.bool false, .slice ka n.keys.length kp, .slice ia n.items.length ep, .slice da n.kids.length dp] 26))
  have HBa := hid (below_box (w.alloc (.cells #[.bool false, .slice ka n.keys.length kp, .slice ia n.items.length ep, .slice da n.kids.length dp] 26)) (.cells #[.bool false, .slice none 0 0, .slice none 0 0, .slice none 0 0] 26))
  have HBb := hid (below_box ((w.alloc (.cells #[.bool false, .slice ka n.keys.length kp, .slice ia n.items.length ep, .slice da n.kids.length dp] 26)).alloc (.cells #[.bool false, .slice none 0 0, .slice none 0 0, .slice none 0 0] 26)) (.cells #[.bool false, .slice none 0 0, .slice none 0 0, .slice none 0 0] 26))
  have HBV := hid (HB0.out.trans ((HBa.out.trans (HBb.out.mono (HBa.out.size))).mono HB0.out.size))
  have HN := hid (h.later HBV.out)
  have hsz0 : (w.alloc (.cells #[.bool false, .slice ka n.keys.length kp, .slice ia n.items.length ep, .slice da n.kids.length dp] 26)).heap.size = w.heap.size + 1 := by simp
  have hsz1 : ((w.alloc (.cells #[.bool false, .slice ka n.keys.length kp, .slice ia n.items.length ep, .slice da n.kids.length dp] 26)).alloc (.cells #[.bool false, .slice none 0 0, .slice none 0 0, .slice none 0 0] 26)).heap.size = w.heap.size + 2 := by simp
  have hsz2 : (((w.alloc (.cells #[.bool false, .slice ka n.keys.length kp, .slice ia n.items.length ep, .slice da n.kids.length dp] 26)).alloc (.cells #[.bool false, .slice none 0 0, .slice none 0 0, .slice none 0 0] 26)).alloc (.cells #[.bool false, .slice none 0 0, .slice none 0 0, .slice none 0 0] 26)).heap.size = w.heap.size + 3 := by simp
  have HXB := hid (((HBa.out.trans (HBb.out.mono HBa.out.size)).block w.heap.size (by omega)).trans (heap_alloc_new w (.cells #[.bool false, .slice ka n.keys.length kp, .slice ia n.items.length ep, .slice da n.kids.length dp] 26)))
  have HXR : Hid ((((w.alloc (.cells #[.bool false, .slice ka n.keys.length kp, .slice ia n.items.length ep, .slice da n.kids.length dp] 26)).alloc (.cells #[.bool false, .slice none 0 0, .slice none 0 0, .slice none 0 0] 26)).alloc (.cells #[.bool false, .slice none 0 0, .slice none 0 0, .slice none 0 0] 26)).heap[w.heap.size + 1]? = some (.cells #[.bool false, .slice none 0 0, .slice none 0 0, .slice none 0 0] 26 (0, 0))) := by
    have := (HBb.out.block (w.heap.size + 1) (by omega)).trans (hsz0 ▸ heap_alloc_new (w.alloc (.cells #[.bool false, .slice ka n.keys.length kp, .slice ia n.items.length ep, .slice da n.kids.length dp] 26)) (.cells #[.bool false, .slice none 0 0, .slice none 0 0, .slice none 0 0] 26))
    exact this
  have HXQ : Hid ((((w.alloc (.cells #[.bool false, .slice ka n.keys.length kp, .slice ia n.items.length ep, .slice da n.kids.length dp] 26)).alloc (.cells #[.bool false, .slice none 0 0, .slice none 0 0, .slice none 0 0] 26)).alloc (.cells #[.bool false, .slice none 0 0, .slice none 0 0, .slice none 0 0] 26)).heap[w.heap.size + 1 + 1]? = some (.cells #[.bool false, .slice none 0 0, .slice none 0 0, .slice none 0 0] 26 (0, 0))) := by
    have := hsz1 ▸ heap_alloc_new ((w.alloc (.cells #[.bool false, .slice ka n.keys.length kp, .slice ia n.items.length ep, .slice da n.kids.length dp] 26)).alloc (.cells #[.bool false, .slice none 0 0, .slice none 0 0, .slice none 0 0] 26)) (.cells #[.bool false, .slice none 0 0, .slice none 0 0, .slice none 0 0] 26)
    exact this
  have HKs := hid h.ks
  have HIs := hid h.is_
  have HAk := hid (hkk.later HBV.out)
  have HAi := hid (hii.later HBV.out)
  have HAd := hid (hdd.later HBV.out)
  clear h hkk hii hdd hl HB0 HBa HBb hsz0 hsz1 sm
  unfold nv at HN ⊢
  go_enter Try.func24, Try.ntmps24
  go_wp2_with fail
  generalize ((w.alloc (.cells #[.bool false, .slice ka n.keys.length kp, .slice ia n.items.length ep, .slice da n.kids.length dp] 26)).alloc (.cells #[.bool false, .slice none 0 0, .slice none 0 0, .slice none 0 0] 26)).alloc (.cells #[.bool false, .slice none 0 0, .slice none 0 0, .slice none 0 0] 26) = V at HBV HN HXB HXR HXQ HAk HAi HAd hsz2 ⊢
  generalize hBe : w.heap.size = B at HBV HXB HXR HXQ hsz2 ⊢
  generalize hQe : B + 1 + 1 = Q at HXQ ⊢
  generalize hRe : B + 1 = R at HXR hQe ⊢
  have hVs : B + 3 ≤ V.heap.size := by omega
  have hR1 : B < R := by omega
  have hQ1 : R < Q := by omega
  have hQ2 : Q < V.heap.size := by omega
  clear hsz2 hRe hQe
  refine (right_any HN.out HSm.out).mono ?_
  rintro e w1 ⟨rfl, hb1⟩
  have HB1 := hid hb1
  have hBlt0 : B < V.heap.size := by omega
  have HR1 := hid ((hb1.block R (by omega)).trans HXR.out)
  have HQ1 := hid ((hb1.block Q (by omega)).trans HXQ.out)
  obtain ⟨⟨c0, c1, c2, c3⟩, _⟩ := cells4 ((hb1.block B (by omega)).trans HXB.out)
  clear hb1
  cases hr : rightB n with
  | false =>
    have hRQ : Q ≠ R := by omega
    have hRQ' : R ≠ Q := by omega
    have hQs := (setRow_other w1 R Q #[.bool false, .slice none 0 0, .slice none 0 0, .slice none 0 0] hRQ).trans HQ1.out
    have hRs := (setRow_other (w1.setRow R #[.bool false, .slice none 0 0, .slice none 0 0, .slice none 0 0]) Q R #[.bool false, .slice none 0 0, .slice none 0 0, .slice none 0 0] hRQ').trans (setRow_heap w1 R _ #[.bool false, .slice none 0 0, .slice none 0 0, .slice none 0 0] _ _ HR1.out)
    have hQs2 := setRow_heap (w1.setRow R #[.bool false, .slice none 0 0, .slice none 0 0, .slice none 0 0]) Q _ #[.bool false, .slice none 0 0, .slice none 0 0, .slice none 0 0] _ _ hQs
    have HQs := hid hQs
    have HRs := hid hRs
    have HQs2 := hid hQs2
    have HBs := hid ((below_setRow (w := w1) (R := R) (B := B) (by omega) #[.bool false, .slice none 0 0, .slice none 0 0, .slice none 0 0]).trans (below_setRow (w := w1.setRow R #[.bool false, .slice none 0 0, .slice none 0 0, .slice none 0 0]) (R := Q) (B := B) (by omega) #[.bool false, .slice none 0 0, .slice none 0 0, .slice none 0 0]))
    clear hQs hRs hQs2
    go_wp2_with (first | (refine wpList_store26 (R := R) rfl rfl HR1.out ?_) | (refine wpList_store26 (R := Q) rfl rfl HQs.out ?_))
    refine bodyPost_ret (results4 rfl rfl rfl HRs.out HQs2.out) rfl ?_
    exact .inl ⟨by unfold splitB leastN; rw [HL.out]; simp; simp [hr], ⟨_, _, rfl, nat_zero _, nat_zero _⟩, by rw [hBe]; exact (HBV.out.trans (HB1.out.mono (by omega))).trans HBs.out⟩
  | true =>
    have HRi := hid (ri_of hr)
    have HRb := hid hr
    clear hr
    by_cases hlen : n.keys.length < 3
    · have hlen' : (n.keys.length : Int) < 3 := by omega
      have hRQ : Q ≠ R := by omega
      have hRQ' : R ≠ Q := by omega
      have hQs := (setRow_other w1 R Q #[.bool false, .slice none 0 0, .slice none 0 0, .slice none 0 0] hRQ).trans HQ1.out
      have hRs := (setRow_other (w1.setRow R #[.bool false, .slice none 0 0, .slice none 0 0, .slice none 0 0]) Q R #[.bool false, .slice none 0 0, .slice none 0 0, .slice none 0 0] hRQ').trans (setRow_heap w1 R _ #[.bool false, .slice none 0 0, .slice none 0 0, .slice none 0 0] _ _ HR1.out)
      have hQs2 := setRow_heap (w1.setRow R #[.bool false, .slice none 0 0, .slice none 0 0, .slice none 0 0]) Q _ #[.bool false, .slice none 0 0, .slice none 0 0, .slice none 0 0] _ _ hQs
      have HQs := hid hQs
      have HRs := hid hRs
      have HQs2 := hid hQs2
      have HBs := hid ((below_setRow (w := w1) (R := R) (B := B) (by omega) #[.bool false, .slice none 0 0, .slice none 0 0, .slice none 0 0]).trans (below_setRow (w := w1.setRow R #[.bool false, .slice none 0 0, .slice none 0 0, .slice none 0 0]) (R := Q) (B := B) (by omega) #[.bool false, .slice none 0 0, .slice none 0 0, .slice none 0 0]))
      clear hQs hRs hQs2
      go_wp2_with (first | (refine wpList_store26 (R := R) rfl rfl HR1.out ?_) | (refine wpList_store26 (R := Q) rfl rfl HQs.out ?_))
      refine bodyPost_ret (results4 rfl rfl rfl HRs.out HQs2.out) rfl ?_
      exact .inl ⟨by unfold splitB leastN; rw [HL.out]; simp; omega, ⟨_, _, rfl, nat_zero _, nat_zero _⟩, by rw [hBe]; exact (HBV.out.trans (HB1.out.mono (by omega))).trans HBs.out⟩
    · have hlen' : ¬ (n.keys.length : Int) < 3 := by omega
      have hm : (n.keys.length : Int) - 3 + 1 = ((n.keys.length - 3 + 1 : Nat) : Int) := by omega
      have hhalf := half_any (HN.out.later HB1.out) HSm.out HRi.out (n.keys.length - 3 + 1) (by omega) (by omega)
      rw [← hm] at hhalf
      have HC := hid hhalf
      clear hhalf hm
      have HSp : Hid (splitB n = true) := by unfold splitB leastN; rw [HRb.out, HL.out]; simp [Hid]; omega
      have HLe : Hid (leastN n = 3) := by unfold leastN; rw [HL.out]; rfl
      go_wp2_with fail
      refine HC.out.mono ?_
      rintro e w3 ⟨i, rfl, hhalf, hb3⟩
      have HHalf := hid hhalf
      have hile := hhalf.le
      have hi1 := hhalf.one
      have HB3 := hid (HB1.out.trans (hb3.mono HB1.out.size))
      have hBV3 : V.heap.size ≤ w3.heap.size := HB3.out.size
      clear hhalf hb3 HC c0 c1 c2 c3 HR1 HQ1
      have hik : i < n.keys.length := by omega
      have HS3 := hid ((HB3.out.block B (by omega)).trans HXB.out)
      have HR3 := hid ((HB3.out.block R (by omega)).trans HXR.out)
      have HQ3 := hid ((HB3.out.block Q (by omega)).trans HXQ.out)
      obtain ⟨⟨c0, c1, c2, c3⟩, _⟩ := cells4 HS3.out
      obtain ⟨kb, ko, rfl, hck⟩ := (HAk.out.later HB3.out).key i hik
      rw [← n.key_at i hik] at hck
      obtain ⟨o0, o1, o2, _⟩ := HRi.out.other HL.out
      have hdi : i + 1 < n.kids.length := by omega
      obtain ⟨jb, jo, rfl, _⟩ := (HAd.out.later HB3.out).kid (i + 1) hdi
      have ei : IntKind.i64.wrap ((i : Int) + 1) = ((i + 1 : Nat) : Int) := by rw [wrap_i64 _ (by omega) (by omega)]; omega
      have HCA := hid (other_any (w := w3.drew) (kp := kp) (ep := dp) (keys := n.keys.take i) (items := n.kids.take (i + 1)) (kn := i) (en := i + 1) (by rw [kc_take]; exact (HAk.out.later HB3.out).takeC i) (by rw [dc_take]; exact (HAd.out.later HB3.out).takeC (i + 1)) (by rw [List.length_take]; omega) (by rw [List.length_take]; omega) (by omega) (by omega) (fun k hk => HKs.out k (List.mem_of_mem_take hk)))
      have HCB := hid (fun w4 (hb4 : Below w3.drew.heap.size w3.drew w4) => other_any (w := w4) (kp := kp - (i + 1)) (ep := dp - (i + 1)) (ka := some ⟨kb, ko + (i + 1) * 1, none⟩) (ia := some ⟨jb, jo + (i + 1) * 1, none⟩) (keys := n.keys.drop (i + 1)) (items := n.kids.drop (i + 1)) (kn := n.keys.length - (i + 1)) (en := n.kids.length - (i + 1)) (by rw [kc_drop, Nat.mul_one]; exact ((HAk.out.later HB3.out.drew).dropC (i + 1)).later hb4) (by rw [dc_drop, Nat.mul_one]; exact ((HAd.out.later HB3.out.drew).dropC (i + 1)).later hb4) (by rw [List.length_drop]) (by rw [List.length_drop]) (by omega) (by omega) (fun k hk => HKs.out k (List.mem_of_mem_drop hk)))
      have hS0 := HS3.out
      have hRz := HR3.out
      have hQz := HQ3.out
      have hBlt : B < w3.heap.size := by omega
      have hRlt : R < w3.heap.size := by omega
      have hQlt : Q < w3.heap.size := by omega
      have hBR : B ≠ R := by omega
      have hBQ : B ≠ Q := by omega
      have hQR : Q ≠ R := by omega
      have hRQ : R ≠ Q := by omega
      have HSx := hid hS0
      have HRx := hid hRz
      have HQx := hid hQz
      clear hS0 hRz hQz
      generalize hkey : n.key i = key at hck
      have HKey := hid hkey
      clear hkey
      have hik' : (i : Int) < n.keys.length := by omega
      go_wp2_with fail
      have hS0 := HSx.out
      have hRz := HRx.out
      have hQz := HQx.out
      clear c0 c1 c2 c3 hck
      refine wp_region_held_drew (S := fun X => X.heap[B]? = some (.cells #[.bool false, .slice (some ⟨kb, ko, none⟩) n.keys.length kp, .slice ia n.items.length ep, .slice (some ⟨jb, jo, none⟩) n.kids.length dp] 26 (0, 0))) (by kernel_rfl) hS0 ?_
      intro _
      refine anyH_take 0 ⟨some 57, .fieldAddr 26 (.tmp 1) 1, _, _, _, none⟩ (.pointer (some ⟨B, 1, none⟩)) rfl rfl (by kernel_rfl) (by kernel_rfl) (by kernel_rfl) (fun _ _ _ h => h) (fun w hS => exec_v (field26 B w).1) hS0 ?_
      simp only [Act.put, List.setIfInBounds_toArray, List.set_cons_zero, List.set_cons_succ]
      refine anyH_take 1 ⟨some 58, .load 22 (.tmp 57), _, _, _, none⟩ (.slice (some ⟨kb, ko, none⟩) n.keys.length kp) rfl rfl (by kernel_rfl) (by kernel_rfl) (by kernel_rfl) (fun _ _ _ h => h) (fun w hS => exec_v (load22 (cells4 hS).1.2.1)) hS0 ?_
      simp only [Act.put, List.setIfInBounds_toArray, List.set_cons_zero, List.set_cons_succ]
      refine anyH_take 2 ⟨some 59, .move (.tmp 7), _, _, _, none⟩ (.int .i64 i) rfl rfl (by kernel_rfl) (by kernel_rfl) (by kernel_rfl) (fun _ _ _ h => h) (fun w hS => rfl) hS0 ?_
      simp only [Act.put, List.setIfInBounds_toArray, List.set_cons_zero, List.set_cons_succ]
      refine anyH_take 3 ⟨some 60, .slice 22 (.tmp 58) none (some (.tmp 59)) none, _, _, _, none⟩ (.slice (some ⟨kb, ko, none⟩) i kp) rfl rfl (by kernel_rfl) (by kernel_rfl) (by kernel_rfl) (fun _ _ _ h => h) (fun w hS => exec_v (hi22 kb ko n.keys.length kp i w (by omega))) hS0 ?_
      simp only [Act.put, List.setIfInBounds_toArray, List.set_cons_zero, List.set_cons_succ]
      refine anyH_take 4 ⟨some 61, .fieldAddr 26 (.tmp 1) 3, _, _, _, none⟩ (.pointer (some ⟨B, 3, none⟩)) rfl rfl (by kernel_rfl) (by kernel_rfl) (by kernel_rfl) (fun _ _ _ h => h) (fun w hS => exec_v (field26 B w).2.2) hS0 ?_
      simp only [Act.put, List.setIfInBounds_toArray, List.set_cons_zero, List.set_cons_succ]
      refine anyH_take 5 ⟨some 62, .load 24 (.tmp 61), _, _, _, none⟩ (.slice (some ⟨jb, jo, none⟩) n.kids.length dp) rfl rfl (by kernel_rfl) (by kernel_rfl) (by kernel_rfl) (fun _ _ _ h => h) (fun w hS => exec_v (load24 (cells4 hS).1.2.2.2)) hS0 ?_
      simp only [Act.put, List.setIfInBounds_toArray, List.set_cons_zero, List.set_cons_succ]
      refine anyH_take 6 ⟨some 63, .move (.tmp 7), _, _, _, none⟩ (.int .i64 i) rfl rfl (by kernel_rfl) (by kernel_rfl) (by kernel_rfl) (fun _ _ _ h => h) (fun w hS => rfl) hS0 ?_
      simp only [Act.put, List.setIfInBounds_toArray, List.set_cons_zero, List.set_cons_succ]
      refine anyH_take 7 ⟨some 64, .binOp .add 3 (.tmp 63) (.const (.int .i64 1)) 3, _, _, _, none⟩ (.int .i64 ((i + 1 : Nat) : Int)) rfl rfl (by kernel_rfl) (by kernel_rfl) (by kernel_rfl) (fun _ _ _ h => h) (fun w hS => by rw [exec_add3 (m := (i : Int)) (n := 1) rfl rfl, ei]) hS0 ?_
      simp only [Act.put, List.setIfInBounds_toArray, List.set_cons_zero, List.set_cons_succ]
      refine anyH_take 8 ⟨some 65, .slice 24 (.tmp 62) none (some (.tmp 64)) none, _, _, _, none⟩ (.slice (some ⟨jb, jo, none⟩) (i + 1) dp) rfl rfl (by kernel_rfl) (by kernel_rfl) (by kernel_rfl) (fun _ _ _ h => h) (fun w hS => exec_v (hi24 jb jo n.kids.length dp (i + 1) w (by omega))) hS0 ?_
      simp only [Act.put, List.setIfInBounds_toArray, List.set_cons_zero, List.set_cons_succ]
      refine anyH_take 10 ⟨some 67, .move (.tmp 8), _, _, _, none⟩ (.string key) rfl rfl (by kernel_rfl) (by kernel_rfl) (by kernel_rfl) (fun _ _ _ h => h) (fun w hS => rfl) hS0 ?_
      simp only [Act.put, List.setIfInBounds_toArray, List.set_cons_zero, List.set_cons_succ]
      refine anyH_take 11 ⟨some 68, .fieldAddr 26 (.tmp 1) 1, _, _, _, none⟩ (.pointer (some ⟨B, 1, none⟩)) rfl rfl (by kernel_rfl) (by kernel_rfl) (by kernel_rfl) (fun _ _ _ h => h) (fun w hS => exec_v (field26 B w).1) hS0 ?_
      simp only [Act.put, List.setIfInBounds_toArray, List.set_cons_zero, List.set_cons_succ]
      refine anyH_take 12 ⟨some 69, .load 22 (.tmp 68), _, _, _, none⟩ (.slice (some ⟨kb, ko, none⟩) n.keys.length kp) rfl rfl (by kernel_rfl) (by kernel_rfl) (by kernel_rfl) (fun _ _ _ h => h) (fun w hS => exec_v (load22 (cells4 hS).1.2.1)) hS0 ?_
      simp only [Act.put, List.setIfInBounds_toArray, List.set_cons_zero, List.set_cons_succ]
      refine anyH_take 13 ⟨some 70, .move (.tmp 7), _, _, _, none⟩ (.int .i64 i) rfl rfl (by kernel_rfl) (by kernel_rfl) (by kernel_rfl) (fun _ _ _ h => h) (fun w hS => rfl) hS0 ?_
      simp only [Act.put, List.setIfInBounds_toArray, List.set_cons_zero, List.set_cons_succ]
      refine anyH_take 14 ⟨some 71, .binOp .add 3 (.tmp 70) (.const (.int .i64 1)) 3, _, _, _, none⟩ (.int .i64 ((i + 1 : Nat) : Int)) rfl rfl (by kernel_rfl) (by kernel_rfl) (by kernel_rfl) (fun _ _ _ h => h) (fun w hS => by rw [exec_add3 (m := (i : Int)) (n := 1) rfl rfl, ei]) hS0 ?_
      simp only [Act.put, List.setIfInBounds_toArray, List.set_cons_zero, List.set_cons_succ]
      refine anyH_take 15 ⟨some 72, .slice 22 (.tmp 69) (some (.tmp 71)) none none, _, _, _, none⟩ (.slice (some ⟨kb, ko + (i + 1) * 1, none⟩) (n.keys.length - (i + 1)) (kp - (i + 1))) rfl rfl (by kernel_rfl) (by kernel_rfl) (by kernel_rfl) (fun _ _ _ h => h) (fun w hS => exec_v (lo22 kb ko n.keys.length kp (i + 1) w (by omega) (by omega))) hS0 ?_
      simp only [Act.put, List.setIfInBounds_toArray, List.set_cons_zero, List.set_cons_succ]
      refine anyH_take 16 ⟨some 73, .fieldAddr 26 (.tmp 1) 3, _, _, _, none⟩ (.pointer (some ⟨B, 3, none⟩)) rfl rfl (by kernel_rfl) (by kernel_rfl) (by kernel_rfl) (fun _ _ _ h => h) (fun w hS => exec_v (field26 B w).2.2) hS0 ?_
      simp only [Act.put, List.setIfInBounds_toArray, List.set_cons_zero, List.set_cons_succ]
      refine anyH_take 17 ⟨some 74, .load 24 (.tmp 73), _, _, _, none⟩ (.slice (some ⟨jb, jo, none⟩) n.kids.length dp) rfl rfl (by kernel_rfl) (by kernel_rfl) (by kernel_rfl) (fun _ _ _ h => h) (fun w hS => exec_v (load24 (cells4 hS).1.2.2.2)) hS0 ?_
      simp only [Act.put, List.setIfInBounds_toArray, List.set_cons_zero, List.set_cons_succ]
      refine anyH_take 18 ⟨some 75, .move (.tmp 7), _, _, _, none⟩ (.int .i64 i) rfl rfl (by kernel_rfl) (by kernel_rfl) (by kernel_rfl) (fun _ _ _ h => h) (fun w hS => rfl) hS0 ?_
      simp only [Act.put, List.setIfInBounds_toArray, List.set_cons_zero, List.set_cons_succ]
      refine anyH_take 19 ⟨some 76, .binOp .add 3 (.tmp 75) (.const (.int .i64 1)) 3, _, _, _, none⟩ (.int .i64 ((i + 1 : Nat) : Int)) rfl rfl (by kernel_rfl) (by kernel_rfl) (by kernel_rfl) (fun _ _ _ h => h) (fun w hS => by rw [exec_add3 (m := (i : Int)) (n := 1) rfl rfl, ei]) hS0 ?_
      simp only [Act.put, List.setIfInBounds_toArray, List.set_cons_zero, List.set_cons_succ]
      refine anyH_take 20 ⟨some 77, .slice 24 (.tmp 74) (some (.tmp 76)) none none, _, _, _, none⟩ (.slice (some ⟨jb, jo + (i + 1) * 1, none⟩) (n.kids.length - (i + 1)) (dp - (i + 1))) rfl rfl (by kernel_rfl) (by kernel_rfl) (by kernel_rfl) (fun _ _ _ h => h) (fun w hS => exec_v (lo24 jb jo n.kids.length dp (i + 1) w (by omega) (by omega))) hS0 ?_
      simp only [Act.put, List.setIfInBounds_toArray, List.set_cons_zero, List.set_cons_succ]
      refine anyH_callW 9 ⟨some 66, .call { callee := .value (.func 46), args := #[.tmp 60, .tmp 65], argTypes := #[22, 24] }, _, _, _, none⟩ 46 _ (by kernel_rfl) rfl rfl (exec_call46 rfl rfl) ?_
      refine HCA.out.mono ?_
      rintro e w4 ⟨va, rfl, hva, hb4⟩
      refine ⟨va, rfl, ?_, ?_⟩
      · exact (hb4.block B (by have := hBlt; simpa using this)).trans hS0
      simp only [Act.put, List.setIfInBounds_toArray, List.set_cons_zero, List.set_cons_succ]
      obtain ⟨a1, p1, a2, p2, a3, p3, rfl, ra⟩ := hva.at_
      unfold nv
      have HCB' := hid (HCB.out w4 hb4)
      refine anyH_callW 21 ⟨some 78, .call { callee := .value (.func 46), args := #[.tmp 72, .tmp 77], argTypes := #[22, 24] }, _, _, _, none⟩ 46 _ (by kernel_rfl) rfl rfl (exec_call46 rfl rfl) ?_
      refine HCB'.out.mono ?_
      rintro e w5 ⟨vb, rfl, hvb, hb5⟩
      have hb45 := hb4.trans (hb5.mono hb4.size)
      refine ⟨vb, rfl, ?_, ?_⟩
      · exact (hb45.block B (by have := hBlt; simpa using this)).trans hS0
      simp only [Act.put, List.setIfInBounds_toArray, List.set_cons_zero, List.set_cons_succ]
      obtain ⟨b1, q1, b2, q2, b3, q3, rfl, rb⟩ := hvb.at_
      unfold nv
      have hR5 := (hb45.block R (by have := hRlt; simpa using this)).trans hRz
      have hQ5 := (hb45.block Q (by have := hQlt; simpa using this)).trans hQz
      have hS5 := (hb45.block B (by have := hBlt; simpa using this)).trans hS0
      have hva5 := hva.later hb5
      refine anyH_oneSkip 22 ⟨none, .store 26 (.tmp 2) (.tmp 66), _, _, _, none⟩ _ (by kernel_rfl) rfl rfl (exec_store26 rfl rfl hR5) ((setRow_other _ R B _ hBR).trans hS5) ?_
      simp only [Act.put, List.setIfInBounds_toArray, List.set_cons_zero, List.set_cons_succ]
      have hY1S := (setRow_other w5 R B #[.bool false, .slice a1 (n.keys.take i).length p1, .slice a2 ([] : List It).length p2, .slice a3 (n.kids.take (i + 1)).length p3] hBR).trans hS5
      have hY1R := setRow_heap w5 R _ #[.bool false, .slice a1 (n.keys.take i).length p1, .slice a2 ([] : List It).length p2, .slice a3 (n.kids.take (i + 1)).length p3] _ _ hR5
      have hY1Q := (setRow_other w5 R Q #[.bool false, .slice a1 (n.keys.take i).length p1, .slice a2 ([] : List It).length p2, .slice a3 (n.kids.take (i + 1)).length p3] hQR).trans hQ5
      have hvaY := hva5.setRow hR5 #[.bool false, .slice a1 (n.keys.take i).length p1, .slice a2 ([] : List It).length p2, .slice a3 (n.kids.take (i + 1)).length p3]
      have hvbY := hvb.setRow hR5 #[.bool false, .slice a1 (n.keys.take i).length p1, .slice a2 ([] : List It).length p2, .slice a3 (n.kids.take (i + 1)).length p3]
      have hbY := below_setRow (w := w5) (R := R) (B := B) (by omega) #[.bool false, .slice a1 (n.keys.take i).length p1, .slice a2 ([] : List It).length p2, .slice a3 (n.kids.take (i + 1)).length p3]
      generalize w5.setRow R #[.bool false, .slice a1 (n.keys.take i).length p1, .slice a2 ([] : List It).length p2, .slice a3 (n.kids.take (i + 1)).length p3] = Y1 at hY1S hY1R hY1Q hvaY hvbY hbY ⊢
      refine anyH_one 23 ⟨some 3, .assign (.tmp 67), _, _, _, none⟩ (.string key) Y1 (by kernel_rfl) rfl rfl rfl hY1S ?_
      simp only [Act.put, List.setIfInBounds_toArray, List.set_cons_zero, List.set_cons_succ]
      refine anyH_oneSkip 24 ⟨none, .store 26 (.tmp 4) (.tmp 78), _, _, _, none⟩ _ (by kernel_rfl) rfl rfl (exec_store26 rfl rfl hY1Q) ((setRow_other _ Q B _ hBQ).trans hY1S) ?_
      simp only [Act.put, List.setIfInBounds_toArray, List.set_cons_zero, List.set_cons_succ]
      have hZR := (setRow_other Y1 Q R #[.bool false, .slice b1 (n.keys.drop (i + 1)).length q1, .slice b2 ([] : List It).length q2, .slice b3 (n.kids.drop (i + 1)).length q3] hRQ).trans hY1R
      have hZQ := setRow_heap Y1 Q _ #[.bool false, .slice b1 (n.keys.drop (i + 1)).length q1, .slice b2 ([] : List It).length q2, .slice b3 (n.kids.drop (i + 1)).length q3] _ _ hY1Q
      have hZS := (setRow_other Y1 Q B #[.bool false, .slice b1 (n.keys.drop (i + 1)).length q1, .slice b2 ([] : List It).length q2, .slice b3 (n.kids.drop (i + 1)).length q3] hBQ).trans hY1S
      have hvaZ := hvaY.setRow hY1Q #[.bool false, .slice b1 (n.keys.drop (i + 1)).length q1, .slice b2 ([] : List It).length q2, .slice b3 (n.kids.drop (i + 1)).length q3]
      have hvbZ := hvbY.setRow hY1Q #[.bool false, .slice b1 (n.keys.drop (i + 1)).length q1, .slice b2 ([] : List It).length q2, .slice b3 (n.kids.drop (i + 1)).length q3]
      have hbZ := below_setRow (w := Y1) (R := Q) (B := B) (by omega) #[.bool false, .slice b1 (n.keys.drop (i + 1)).length q1, .slice b2 ([] : List It).length q2, .slice b3 (n.kids.drop (i + 1)).length q3]
      generalize Y1.setRow Q #[.bool false, .slice b1 (n.keys.drop (i + 1)).length q1, .slice b2 ([] : List It).length q2, .slice b3 (n.kids.drop (i + 1)).length q3] = Z1 at hZR hZQ hZS hvaZ hvbZ hbZ ⊢
      refine anyH_one 25 ⟨some 5, .assign (.const (.int .i64 0)), _, _, _, none⟩ (.int .i64 0) Z1 (by kernel_rfl) rfl rfl rfl hZS ?_
      simp only [Act.put, List.setIfInBounds_toArray, List.set_cons_zero, List.set_cons_succ]
      refine wpAnyH_done (by kernel_rfl) ?_ _
      have HZR := hid hZR
      have HZQ := hid hZQ
      have HvaZ := hid hvaZ
      have HvbZ := hid hvbZ
      have HbZ := hid ((HB3.out.drew.trans (hb45.mono (show V.heap.size ≤ w3.drew.heap.size from hBV3))).mono (show B ≤ V.heap.size by omega) |>.trans (hbY.trans hbZ))
      clear hZR hZQ hZS hvaZ hvbZ hbZ hbY hvaY hvbY hY1S hY1R hY1Q hR5 hQ5 hS5 hva5 hva hvb ra rb hb4 hb5 hb45 HCB' HCA HCB hS0 hRz hQz HSx HRx HQx
      go_wp2_with fail
      refine bodyPost_ret (results4 rfl rfl rfl HZR.out HZQ.out) rfl ?_
      refine .inr ⟨HSp.out, i, _, _, (by rw [HLe.out]; exact HHalf.out), (by rw [HKey.out]; rfl), ?_, ?_, (by rw [hBe]; exact HBV.out.trans HbZ.out)⟩
      · unfold cutA; rw [HL.out]; exact HvaZ.out
      · unfold cutB; rw [HL.out]; exact HvbZ.out

theorem split_any {w : World} {v : Value} {n : Nd} (h : NAt w v n) (sm : n.small) : Calls Try.prog 24 #[v] w (SplitP w n) := by
  cases hl : n.leaf with
  | true => exact split_leaf h sm hl
  | false => exact split_other h sm hl
end Go.Proofs.Ytkipigbfbhecjaa
