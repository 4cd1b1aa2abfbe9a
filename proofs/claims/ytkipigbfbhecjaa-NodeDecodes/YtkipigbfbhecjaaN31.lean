/- What this text holds: Decode, as the document has it. -/
import Derived.Test.YtkipigbfbhecjaaN29
namespace Go.Proofs.Ytkipigbfbhecjaa
open Go.RowKit
set_option linter.unusedVariables false
set_option linter.unusedSimpArgs false

/-- How far the document's reading is. -/
structure RInv2 (w wr : World) (B b6 N k : Nat) (leaf : Bool) (c : ByteArray) (r : Rs) (n : Nd) : Prop where
  lf : n.leaf = leaf
  kl : n.keys.length = k
  il : n.items.length = if leaf then k else 0
  dl : n.kids.length = if leaf then 0 else k + 1
  rs : r.s.size ≤ 20000
  sh : r.short = false
  ks : ∀ x ∈ n.keys, x.size ≤ 20000
  is_ : ∀ x ∈ n.items, x.val.size ≤ 20000
  run : runR (N - k) (r, n) = runR N (begR leaf c)
  bel : Below B w wr
  rd : ∃ vk vi vd, Rd2 wr B B b6 vk vi vd n
theorem RInv2.no {w wr : World} {B b6 N k : Nat} {leaf : Bool} {c : ByteArray} {r : Rs} {n : Nd} (h : RInv2 w wr B b6 N k leaf c r n) (hk : k < N) (hN : N = ((Rs.of c).num 2).toNat) (hs : (stepR (r, n)).1.short = true) : decB leaf c = false := by
  apply dec_no
  rw [← hN, ← h.run, show N - k = (N - (k + 1)) + 1 by omega, runR_succ _ _ h.sh, runR_short _ _ hs]
  exact hs
theorem step_no1 {x : Rs × Nd} (h : (x.1.after 1).short = true) : (stepR x).1.short = true := by
  cases hh : (stepR x).1.short with
  | true => rfl
  | false => rw [(step_short hh).1] at h; cases h
theorem step_no2 {x : Rs × Nd} (h : x.1.afterKey.short = true) : (stepR x).1.short = true := by
  cases hh : (stepR x).1.short with
  | true => rfl
  | false => rw [(step_short hh).2] at h; cases h
theorem rs_of {r : Rs} (h : r.short = false) : Rs.of r.s = r := (after_off h).symm
theorem box1 {w w' : World} {T : Nat} {x0 x1 x2 : Value} {t : TypeId} (h : w.heap[T]? = some (.cells #[x0, x1, x2] t (0, 0))) : True := trivial

set_option maxRecDepth 100000 in
set_option maxHeartbeats 8000000 in
theorem rdec_leaf (w : World) (s : ByteArray) (hs : s.size ≤ 20000) : Calls Try.prog 20 #[.int .i64 1, .string s] w (DecP w 1 s) := by
  have hX0 : Rd2 ((w.alloc (.cells #[.bool false, .slice none 0 0, .slice none 0 0, .slice none 0 0] 26)).alloc (.cells #[.bool true, .slice none 0 0, .slice none 0 0, .slice none 0 0] 26)) w.heap.size w.heap.size (w.heap.size + 1) (.slice none 0 0) (.slice none 0 0) (.slice none 0 0) ⟨true, [], [], []⟩ := by
    have e0 : (w.alloc (.cells #[.bool false, .slice none 0 0, .slice none 0 0, .slice none 0 0] 26)).heap.size = w.heap.size + 1 := by simp
    refine ⟨?_, World.ownsRow_nil _ _ _ _, World.ownsRow_nil _ _ _ _, World.ownsRow_nil _ _ _ _, ?_, by omega, Nat.le_refl _, by omega⟩
    · have := heap_alloc_new (w.alloc (.cells #[.bool false, .slice none 0 0, .slice none 0 0, .slice none 0 0] 26)) (.cells #[.bool true, .slice none 0 0, .slice none 0 0, .slice none 0 0] 26)
      rw [e0] at this
      exact this
    · exact (Below.heap_alloc _ _ _ (by rw [e0]; omega)).trans (heap_alloc_new w _)
  have HX := hid hX0
  have HB0 := hid (below_two w (.cells #[.bool false, .slice none 0 0, .slice none 0 0, .slice none 0 0] 26) (.cells #[.bool true, .slice none 0 0, .slice none 0 0, .slice none 0 0] 26))
  clear hX0
  go_enter Try.func20, Try.ntmps20
  go_wp2_with fail
  generalize (w.alloc (.cells #[.bool false, .slice none 0 0, .slice none 0 0, .slice none 0 0] 26)).alloc (.cells #[.bool true, .slice none 0 0, .slice none 0 0, .slice none 0 0] 26) = W at HX HB0 ⊢
  have hB : w.heap.size ≤ W.heap.size := HB0.out.size
  generalize hBe : w.heap.size = B at HX HB0 hB ⊢
  generalize hB6 : B + 1 = b6 at HX ⊢
  clear hB6
  refine (rtake_any s hs 2 (by omega) _).mono ?_
  rintro e w1 ⟨rfl, hb1⟩
  have HRD := hid (HX.out.later hb1)
  have HB1 := hid (HB0.out.trans (hb1.mono hB))
  have hB1 : B ≤ w1.heap.size := Nat.le_trans hB hb1.size
  clear hb1 HX HB0
  cases hsh : ((Rs.of s).after 2).short with
  | true =>
    have HD2 := hid (dec_no2 (leaf := true) hsh)
    generalize (Rs.of s).after 2 = A at *
    generalize (Rs.of s).cut 2 = C at *
    obtain ⟨⟨q0, q1, q2, q3⟩, hfq⟩ := cells4 HRD.out.z
    have fq0 := hfq 0
    have fq1 := hfq 1
    have fq2 := hfq 2
    have fq3 := hfq 3
    clear hfq
    have HZq := hid HRD.out.z
    have HNo : Hid (decB true s = false) := HD2.out
    have HBq := hid (HB1.out)
    go_wp2_with fail
    refine bodyPost_ret (results2c rfl rfl (set4 HZq.out _ _ _ _)) rfl ?_
    exact .inr ⟨(fun l hl => by cases l <;> simp at hl <;> exact HNo.out), _, rfl, nat_zero _, hBe ▸ (HBq.out.trans (below_set4 (Nat.le_refl _) _ _ _ _))⟩
  | false =>
    have hcz := cut_size (Rs.of s) 2
    have hA0 := after_size (Rs.of s) 2
    have hAs : ((Rs.of s).after 2).s.size ≤ 20000 := Nat.le_trans hA0 hs
    have hn0 := num_nonneg (Rs.of s) 2
    have hn1 := num_lt (Rs.of s) 2 (by omega)
    obtain ⟨N, hN⟩ : ∃ N : Nat, N = ((Rs.of s).num 2).toNat := ⟨_, rfl⟩
    have hNc : val (bOf ((Rs.of s).cut 2)) = (N : Int) := by show (Rs.of s).num 2 = _; omega
    have hN5 : N ≤ 65535 := by omega
    have HN := hid hN
    have HRr := hid (rread_any ((Rs.of s).cut 2) (by omega))
    rw [hNc] at HRr
    clear hN hNc hn0 hn1 hA0
    generalize (Rs.of s).cut 2 = C at *
    have HSh := hid hsh
    have HI0 : Hid (RInv2 w w1 B b6 N 0 true s ((Rs.of s).after 2) ⟨true, [], [], []⟩) := ⟨rfl, rfl, rfl, rfl, hAs, hsh, (fun x hx => by cases hx), (fun x hx => by cases hx), rfl, HB1.out, ⟨_, _, _, HRD.out⟩⟩
    generalize hAe : (Rs.of s).after 2 = A at *
    clear hAe
    go_wp2_with fail
    refine (HRr.out _).mono ?_
    rintro e w2 ⟨rfl, rfl⟩
    clear HRD HB1 HRr hsh HSh
    go_wp2_with fail
    go_loopw [8, 11] (fun rs i wr => ∃ k : Nat, k ≤ N ∧ i = .int .i64 k ∧ ∃ r n, rs = .string r.s ∧ RInv2 w wr B b6 N k true s r n) (fun _ i _ => N - (intOf i).toNat)
    case atStart => exact ⟨0, by omega, rfl, _, _, rfl, HI0.out⟩
    case round =>
      clear HI0
      obtain ⟨k, hk, rfl, r, n, rfl, hinv⟩ := hrel
      obtain ⟨vk, vi, vd, hrd⟩ := hinv.rd
      have HInv := hid hinv
      have hkl := hinv.kl
      have hil := hinv.il
      have hdl := hinv.dl
      have hrs := hinv.rs
      have hro := rs_of hinv.sh
      have hBr : B ≤ wr.heap.size := Nat.le_trans (hBe ▸ Nat.le_refl _) hinv.bel.size
      have HRd := hid hrd
      clear hinv hrd
      by_cases hlt : k < N
      · have hlt' : (k : Int) < N := by omega
        have hT1 := rtake_any r.s hrs 1 (by omega)
        rw [hro] at hT1
        have HT1 := hid hT1
        clear hT1
        have HNo1 : Hid ((stepR (r, n)).1.short = true → decB true s = false) := fun h => HInv.out.no hlt HN.out h
        go_wp2_with fail
        refine (HT1.out _).mono ?_
        rintro e w3 ⟨rfl, hb3⟩
        have HR3 := hid (HRd.out.later hb3)
        have HB3 := hid (HInv.out.bel.trans (hb3.mono hBr))
        have hB3 : B ≤ w3.heap.size := Nat.le_trans hBr hb3.size
        clear hb3 HT1
        cases hs1 : (r.after 1).short with
        | true =>
          have HF := hid (HNo1.out (step_no1 hs1))
          generalize r.after 1 = A1 at *
          generalize r.cut 1 = C1 at *
          obtain ⟨⟨q0, q1, q2, q3⟩, hfq⟩ := cells4 HR3.out.z
          have fq0 := hfq 0
          have fq1 := hfq 1
          have fq2 := hfq 2
          have fq3 := hfq 3
          clear hfq
          have HZq := hid HR3.out.z
          have HNo : Hid (decB true s = false) := HF.out
          have HBq := hid (HB3.out)
          go_wp2_with fail
          refine bodyPost_ret (results2c rfl rfl (set4 HZq.out _ _ _ _)) rfl ?_
          exact .inr ⟨(fun l hl => by cases l <;> simp at hl <;> exact HNo.out), _, rfl, nat_zero _, hBe ▸ (HBq.out.trans (below_set4 (Nat.le_refl _) _ _ _ _))⟩
        | false =>
          have hro1 := rs_of hs1
          have hcz1 := cut_size r 1
          have hn0 := num_nonneg r 1
          have hn1 := num_lt r 1 (by omega)
          have hrs1 : (r.after 1).s.size ≤ 20000 := Nat.le_trans (after_size r 1) hrs
          have hcast : ((r.num 1).toNat : Int) = r.num 1 := by omega
          have hT2 := rtake_any (r.after 1).s hrs1 (r.num 1).toNat (by omega)
          rw [hro1, hcast] at hT2
          have HT2 := hid (show ∀ w, Calls Try.prog 40 #[.string (r.after 1).s, .int .i64 (val (bOf (r.cut 1)))] w (fun e w' => e = .returned (.tuple #[.string r.keyR, .string r.afterKey.s, .bool (!r.afterKey.short)]) ∧ Below w.heap.size w w') from hT2)
          have HRr1 := hid (rread_any (r.cut 1) (by omega))
          have hkr := keyR_le r
          have hak := afterKey_le r
          clear hT2 hcast hn0 hn1
          have HE1 := hid (show stepR (r, n) = stepR (r, n) from rfl)
          go_wp2_with fail
          refine (HRr1.out _).mono ?_
          rintro e w4 ⟨rfl, rfl⟩
          go_wp2_with fail
          refine (HT2.out _).mono ?_
          rintro e w5 ⟨rfl, hb5⟩
          have HR5 := hid (HR3.out.later hb5)
          have HB5 := hid (HB3.out.trans (hb5.mono hB3))
          have hB5 : B ≤ w5.heap.size := Nat.le_trans hB3 hb5.size
          clear hb5 HR3 HB3 HT2 HRr1
          cases hs2 : r.afterKey.short with
          | true =>
            have HF := hid (HNo1.out (step_no2 hs2))
            generalize r.afterKey = A2 at *
            generalize r.keyR = C2 at *
            obtain ⟨⟨q0, q1, q2, q3⟩, hfq⟩ := cells4 HR5.out.z
            have fq0 := hfq 0
            have fq1 := hfq 1
            have fq2 := hfq 2
            have fq3 := hfq 3
            clear hfq
            have HZq := hid HR5.out.z
            have HNo : Hid (decB true s = false) := HF.out
            have HBq := hid (HB5.out)
            go_wp2_with fail
            refine bodyPost_ret (results2c rfl rfl (set4 HZq.out _ _ _ _)) rfl ?_
            exact .inr ⟨(fun l hl => by cases l <;> simp at hl <;> exact HNo.out), _, rfl, nat_zero _, hBe ▸ (HBq.out.trans (below_set4 (Nat.le_refl _) _ _ _ _))⟩
          | false =>
            obtain ⟨v', w', hc, hc2, hrun, ⟨sa, sn, sc, rfl⟩, hc3, hf3, hrd6, hb6'⟩ := rd2_push1 HR5.out hB5 r.keyR (by omega)
            have HRun := hid hrun
            have HR6 := hid hrd6
            have HB6 := hid (HB5.out.trans hb6')
            have hB6 : B ≤ (w'.setCell ⟨b6, 1, none⟩ (.slice sa sn sc)).heap.size := Nat.le_trans hB5 hb6'.size
            have hro2 := rs_of hs2
            have hrs2 : r.afterKey.s.size ≤ 20000 := Nat.le_trans hak hrs
            clear hrun hrd6 hb6'
            have HNi : Hid (({ n with keys := n.keys ++ [r.keyR] } : Nd).items.length = n.items.length ∧ ({ n with keys := n.keys ++ [r.keyR] } : Nd).kids.length = n.kids.length) := ⟨rfl, rfl⟩
            go_wp2_with (at_builtin; refine wpList_append_run rfl rfl HRun.out ?_)
            clear HRun hc hc2 hc3 hf3
            have hsz : (w'.setCell ⟨b6, 1, none⟩ (.slice sa sn sc)).heap.size = w'.heap.size := by simp
            generalize w'.setCell ⟨b6, 1, none⟩ (.slice sa sn sc) = W6 at HR6 HB6 hB6 hsz ⊢
            have HX7 := hid (heap_alloc_new W6 (.cells #[.string ⟨#[]⟩, .int .i64 0, .int .i64 0] 51))
            have HB7 := hid (below_box W6 (.cells #[.string ⟨#[]⟩, .int .i64 0, .int .i64 0] 51))
            have hS7 : w'.heap.size < (W6.alloc (.cells #[.string ⟨#[]⟩, .int .i64 0, .int .i64 0] 51)).heap.size := by simp; omega
            rw [hsz] at HX7 HB7
            generalize W6.alloc (.cells #[.string ⟨#[]⟩, .int .i64 0, .int .i64 0] 51) = W7 at HX7 HB7 hS7 ⊢
            generalize w'.heap.size = T at HX7 HB7 hS7 hsz ⊢
            have hTI := titem_any r.afterKey.s hrs2 W7
            refine hTI.mono ?_
            clear hTI
            rintro e w8 ⟨hcase, hb8⟩
            rw [hro2] at hcase
            have HX8 := hid ((hb8.block T hS7).trans HX7.out)
            have HB8 := hid (HB7.out.trans (hb8.mono (Nat.le_of_lt hS7)))
            clear hb8 HX7 HB7
            obtain ⟨⟨t0, t1, t2⟩, hft⟩ := cells3of HX8.out
            have ft0 := hft 0
            have ft1 := hft 1
            have ft2 := hft 2
            clear hft
            have HL : ∀ x : It, Hid (Rd2 (((w8.setCell ⟨T, 0, none⟩ (.string x.val)).setCell ⟨T, 1, none⟩ (.int .i64 x.page)).setCell ⟨T, 2, none⟩ (.int .i64 x.size)) B B b6 (.slice sa sn sc) vi vd { n with keys := n.keys ++ [r.keyR] } ∧ Below B w (((w8.setCell ⟨T, 0, none⟩ (.string x.val)).setCell ⟨T, 1, none⟩ (.int .i64 x.page)).setCell ⟨T, 2, none⟩ (.int .i64 x.size))) := fun x => by
              have hb : Below T W6 (((w8.setCell ⟨T, 0, none⟩ (.string x.val)).setCell ⟨T, 1, none⟩ (.int .i64 x.page)).setCell ⟨T, 2, none⟩ (.int .i64 x.size)) := HB8.out.trans (below_set3 (Nat.le_refl _) _ _ _)
              exact ⟨HR6.out.later (hsz ▸ hb), HB6.out.trans (hb.mono (hsz ▸ hB6))⟩
            have hli : n.items.length ≤ 69999 := by rw [hil]; split <;> omega
            rcases hcase with ⟨hsi, rfl⟩ | ⟨hsi, x, t, rfl⟩
            · generalize hit : r.afterKey.item = x at *
              have HIt := hid hit
              have HL1 := HL x
              clear HL hit
              have hz9 : (((w8.setCell ⟨T, 0, none⟩ (.string x.val)).setCell ⟨T, 1, none⟩ (.int .i64 x.page)).setCell ⟨T, 2, none⟩ (.int .i64 x.size)).heap.size = w8.heap.size := by simp
              obtain ⟨v', w9, hc, hc2, hrun, ⟨ta, tn, tc, rfl⟩, hc3, hf3, hrd9, hb9⟩ := rd2_push2 HL1.out.1 (hBe ▸ HL1.out.2.size) x hli
              rw [hz9] at hrun
              have HRun := hid hrun
              have HR9 := hid hrd9
              have HB9 := hid (HL1.out.2.trans hb9)
              clear hrun hrd9 hb9 HL1 hz9 hc2
              unfold itv
              go_wp2_with (at_builtin; refine wpList_append_run rfl rfl HRun.out ?_)
              refine ⟨⟨k + 1, by omega, rfl, r.afterKey.afterItem, { n with keys := n.keys ++ [r.keyR], items := n.items ++ [x] }, rfl, ?_⟩, by show N - ((k : Int) + 1).toNat < N - (k : Int).toNat; omega⟩
              have hlf := HInv.out.lf
              have hst : stepR (r, n) = (r.afterKey.afterItem, { n with keys := n.keys ++ [r.keyR], items := n.items ++ [x] }) := by
                unfold stepR
                rw [if_pos (show (r, n).2.leaf = true from hlf)]
                show (r.afterKey.afterItem, _) = _
                rw [← HIt.out]
              have hxi : x.val.size ≤ 20000 := HIt.out ▸ Nat.le_trans (item_le _) hrs2
              refine { lf := hlf, kl := by simp; omega, il := by simp [hil], dl := hdl, rs := Nat.le_trans (afterItem_le _) hrs2, sh := hsi, ks := ?_, is_ := ?_, run := ?_, bel := HB9.out, rd := ⟨_, _, _, HR9.out⟩ }
              · intro y hy
                rcases List.mem_append.1 hy with h | h
                · exact HInv.out.ks y h
                · rw [List.mem_singleton.1 h]; omega
              · intro y hy
                rcases List.mem_append.1 hy with h | h
                · exact HInv.out.is_ y h
                · rw [List.mem_singleton.1 h]; exact hxi
              · rw [← HInv.out.run, show N - k = (N - (k + 1)) + 1 by omega, runR_succ _ _ HInv.out.sh, hst]
            · have HF := hid (HNo1.out (by unfold stepR; rw [if_pos (show (r, n).2.leaf = true from HInv.out.lf)]; exact hsi))
              have HL1 := HL x
              clear HL
              have hz9 : (((w8.setCell ⟨T, 0, none⟩ (.string x.val)).setCell ⟨T, 1, none⟩ (.int .i64 x.page)).setCell ⟨T, 2, none⟩ (.int .i64 x.size)).heap.size = w8.heap.size := by simp
              obtain ⟨v', w9, hc, hc2, hrun, ⟨ta, tn, tc, rfl⟩, hc3, hf3, hrd9, hb9⟩ := rd2_push2 HL1.out.1 (hBe ▸ HL1.out.2.size) x hli
              rw [hz9] at hrun
              have HRun := hid hrun
              have HR9 := hid hrd9
              have HB9 := hid (HL1.out.2.trans hb9)
              clear hrun hrd9 hb9 HL1 hz9 hc2
              unfold itv
              obtain ⟨⟨q0, q1, q2, q3⟩, hfq⟩ := cells4 HR9.out.z
              have fq0 := hfq 0
              have fq1 := hfq 1
              have fq2 := hfq 2
              have fq3 := hfq 3
              clear hfq
              have HZq := hid HR9.out.z
              have HNo : Hid (decB true s = false) := HF.out
              have HBq := hid (HB9.out)
              go_wp2_with (at_builtin; refine wpList_append_run rfl rfl HRun.out ?_)
              refine bodyPost_ret (results2c rfl rfl (set4 HZq.out _ _ _ _)) rfl ?_
              exact .inr ⟨(fun l hl => by cases l <;> simp at hl <;> exact HNo.out), _, rfl, nat_zero _, hBe ▸ (HBq.out.trans (below_set4 (Nat.le_refl _) _ _ _ _))⟩
      · have hlt' : ¬ (k : Int) < N := by omega
        obtain rfl : k = N := by omega
        have hF : runR ((Rs.of s).num 2).toNat (begR true s) = (r, n) := by rw [← HN.out, ← HInv.out.run, Nat.sub_self]; rfl
        obtain ⟨hrn, hre, hdd⟩ := dec_end hF
        have HRn := hid hrn
        have HDd := hid hdd
        have Hlf := hid HInv.out.lf
        have HNA : Hid (NAt wr (.agg #[.bool n.leaf, vk, vi, vd]) n) := by
          obtain ⟨ak, ck, rfl, hatk, hck1, hck2⟩ := at_of_own HRd.out.ok
          obtain ⟨ai, ci, rfl, hati, hci1, hci2⟩ := at_of_own HRd.out.oi
          obtain ⟨ad, cd, rfl, hatd, hcd1, hcd2⟩ := at_of_own HRd.out.od
          exact ⟨⟨_, _, _, _, _, _, rfl, hatk, hati, hatd, ⟨hck1, hck2⟩, ⟨hci1, hci2⟩, ⟨hcd1, hcd2⟩⟩, (fun x hx => by have := HInv.out.ks x hx; unfold maxLen; omega), (fun x hx => by have := HInv.out.is_ x hx; unfold maxLen; omega)⟩
        have HSm : Hid n.small := ⟨by omega, by rw [hil]; split <;> omega, by rw [hdl]; split <;> omega⟩
        have HNd := hid HRd.out.nd
        clear hrn hdd hF hkl hil hdl hro hrs
        by_cases hemp : r.s.toList = []
        · have hemp' : (r.s.toList == []) = true := by rw [hemp]; rfl
          clear hre hemp
          obtain ⟨⟨n0, n1, n2, n3⟩, nf⟩ := cells4 HNd.out
          clear nf
          go_wp2_with fail
          refine (rright_any HNA.out HSm.out).mono ?_
          rintro e wX ⟨rfl, hbX⟩
          have HRX := hid (HRd.out.later hbX)
          have HNX := hid (HNA.out.later hbX)
          have HBX := hid (HInv.out.bel.trans (hbX.mono hBr))
          have hBX : B ≤ wX.heap.size := Nat.le_trans hBr hbX.size
          clear hbX n0 n1 n2 n3
          cases hrt : rightB n with
          | false =>
            have HDf : Hid (decB true s = false) := by rw [HDd.out, hrt]; rfl
            clear hrt
            obtain ⟨⟨q0, q1, q2, q3⟩, hfq⟩ := cells4 HRX.out.z
            have fq0 := hfq 0
            have fq1 := hfq 1
            have fq2 := hfq 2
            have fq3 := hfq 3
            clear hfq
            have HZq := hid HRX.out.z
            have HNo : Hid (decB true s = false) := HDf.out
            have HBq := hid (HBX.out)
            go_wp2_with fail
            refine bodyPost_ret (results2c rfl rfl (set4 HZq.out _ _ _ _)) rfl ?_
            exact .inr ⟨(fun l hl => by cases l <;> simp at hl <;> exact HNo.out), _, rfl, nat_zero _, hBe ▸ (HBq.out.trans (below_set4 (Nat.le_refl _) _ _ _ _))⟩
          | true =>
            have HDd2 : Hid (decB true s = ((strOf (contentL n)).toList == s.toList)) := by rw [HDd.out, hrt]; rfl
            have HC := hid (rcontent_any HNX.out HSm.out (ri_of hrt))
            obtain ⟨⟨n0, n1, n2, n3⟩, nf⟩ := cells4 HRX.out.nd
            clear hrt nf HDd
            generalize strOf (contentL n) = S at *
            go_wp2_with fail
            refine HC.out.mono ?_
            rintro e wY ⟨rfl, hbY⟩
            have HRY := hid (HRX.out.later hbY)
            have HNY := hid (HNX.out.later hbY)
            have HBY := hid (HBX.out.trans (hbY.mono hBX))
            clear hbY n0 n1 n2 n3 HC
            cases heq : (S.toList == s.toList) with
            | false =>
              have HDf : Hid (decB true s = false) := hid (HDd2.out.trans heq)
              obtain ⟨⟨q0, q1, q2, q3⟩, hfq⟩ := cells4 HRY.out.z
              have fq0 := hfq 0
              have fq1 := hfq 1
              have fq2 := hfq 2
              have fq3 := hfq 3
              clear hfq
              have HZq := hid HRY.out.z
              have HNo : Hid (decB true s = false) := HDf.out
              have HBq := hid (HBY.out)
              go_wp2_with fail
              refine bodyPost_ret (results2c rfl rfl (set4 HZq.out _ _ _ _)) rfl ?_
              exact .inr ⟨(fun l hl => by cases l <;> simp at hl <;> exact HNo.out), _, rfl, nat_zero _, hBe ▸ (HBq.out.trans (below_set4 (Nat.le_refl _) _ _ _ _))⟩
            | true =>
              have HDt : Hid (decB true s = true) := hid (HDd2.out.trans heq)
              obtain ⟨ak, ck, rfl, ex1, ex2, ex3⟩ := at_of_own HRY.out.ok
              obtain ⟨ai, ci, rfl, ex4, ex5, ex6⟩ := at_of_own HRY.out.oi
              obtain ⟨ad, cd, rfl, ex7, ex8, ex9⟩ := at_of_own HRY.out.od
              clear ex1 ex2 ex3 ex4 ex5 ex6 ex7 ex8 ex9
              obtain ⟨⟨n0, n1, n2, n3⟩, nf⟩ := cells4 HRY.out.nd
              clear nf
              obtain ⟨⟨q0, q1, q2, q3⟩, hfq⟩ := cells4 HRY.out.z
              have fq0 := hfq 0
              have fq1 := hfq 1
              have fq2 := hfq 2
              have fq3 := hfq 3
              clear hfq
              go_wp2_with fail
              refine bodyPost_ret (results2c rfl rfl (set4 HRY.out.z _ _ _ _)) rfl ?_
              refine .inl ⟨true, rfl, HDt.out, (by rw [HRn.out]; exact HSm.out), (by rw [HRn.out]; exact Hlf.out), _, rfl, ?_, hBe ▸ (HBY.out.trans (below_set4 (Nat.le_refl _) _ _ _ _))⟩
              rw [HRn.out]
              exact HNY.out.other HRY.out.z (other_set4 _ _ _ _ _ _)
        · have hemp' : (r.s.toList == []) = false := beq_eq_false_iff_ne.2 hemp
          have HF := hid (hre hemp)
          clear hre hemp
          obtain ⟨⟨q0, q1, q2, q3⟩, hfq⟩ := cells4 HRd.out.z
          have fq0 := hfq 0
          have fq1 := hfq 1
          have fq2 := hfq 2
          have fq3 := hfq 3
          clear hfq
          have HZq := hid HRd.out.z
          have HNo : Hid (decB true s = false) := HF.out
          have HBq := hid (HInv.out.bel)
          go_wp2_with fail
          refine bodyPost_ret (results2c rfl rfl (set4 HZq.out _ _ _ _)) rfl ?_
          exact .inr ⟨(fun l hl => by cases l <;> simp at hl <;> exact HNo.out), _, rfl, nat_zero _, hBe ▸ (HBq.out.trans (below_set4 (Nat.le_refl _) _ _ _ _))⟩
end Go.Proofs.Ytkipigbfbhecjaa
