/- What this text holds: Decode of a node that is no leaf, as the document has it. -/
import Derived.Test.YtkipigbfbhecjaaN31
namespace Go.Proofs.Ytkipigbfbhecjaa
open Go.RowKit
set_option linter.unusedVariables false
set_option linter.unusedSimpArgs false

theorem exec_move {a : Act} {x : Operand} {X : Value} {w : World} {d : Option Tmp} {ty : Nat} {pos : String} {af : Array Edge} {g : Option (Nat × Bool)} (hx : a.eval x = X) :
    (execOp a.eval ⟨d, .move x, ty, pos, af, g⟩).run Try.prog w = .ok (.value X) w := by
  simp only [execOp, hx]
  rfl
theorem exec_call41 {a : Act} {x : Operand} {X : Value} {w : World} {d : Option Tmp} {ty : Nat} {ts : Array Nat} {pos : String} {af : Array Edge} {g : Option (Nat × Bool)} (hx : a.eval x = X) :
    (execOp a.eval ⟨d, .call { callee := .value (.func 41), args := #[x], argTypes := ts }, ty, pos, af, g⟩).run Try.prog w = .ok (.enter 41 #[X]) w := by
  simp only [execOp, resolve, List.map_toArray, List.map_cons, List.map_nil, hx]
  kernel_rfl
theorem rd2_first {w : World} {B r4 b6 : Nat} {vk vi vd : Value} {n : Nd} (h : Rd2 w B r4 b6 vk vi vd n) (hBw : B ≤ w.heap.size) (x : Int) :
    (w.alloc (.cells #[.int .i64 x] 3)).cell? ⟨b6, 3, none⟩ = some vd ∧ (w.alloc (.cells #[.int .i64 x] 3)).frozen? ⟨b6, 3, none⟩ = false ∧
      Rd2 ((w.alloc (.cells #[.int .i64 x] 3)).setCell ⟨b6, 3, none⟩ (.slice (some ⟨w.heap.size, 0, none⟩) 1 1)) B r4 b6 vk vi (.slice (some ⟨w.heap.size, 0, none⟩) 1 1) { n with kids := [x] } ∧
      Below B w ((w.alloc (.cells #[.int .i64 x] 3)).setCell ⟨b6, 3, none⟩ (.slice (some ⟨w.heap.size, 0, none⟩) 1 1)) := by
  have hlt : ∀ (w : World) k o, w.heap[k]? = some o → k < w.heap.size := fun w k o hh => by
    rw [Array.getElem?_eq_some_iff] at hh
    exact hh.1
  have hal : (w.alloc (.cells #[.int .i64 x] 3)).heap[w.heap.size]? = some (.cells #[.int .i64 x] 3 (0, 0)) := heap_alloc_new _ _
  have hA : Rd2 (w.alloc (.cells #[.int .i64 x] 3)) B r4 b6 vk vi vd n :=
    { nd := (Below.heap_alloc _ _ _ (hlt _ _ _ h.nd)).trans h.nd, ok := World.ownsRow.alloc h.ok _, oi := World.ownsRow.alloc h.oi _, od := World.ownsRow.alloc h.od _, z := (Below.heap_alloc _ _ _ (hlt _ _ _ h.z)).trans h.z, ne := h.ne, h4 := h.h4, h6 := h.h6 }
  obtain ⟨⟨c0, c1, c2, c3⟩, hf⟩ := cells4 hA.nd
  refine ⟨c3, hf _, ?_, ((Below.refl B w).alloc hBw _).setCell h.h6 _⟩
  have hk := Kept.setCell [b6] (w.alloc (.cells #[.int .i64 x] 3)) ⟨b6, 3, none⟩ (.slice (some ⟨w.heap.size, 0, none⟩) 1 1) (by simp)
  have hS : ∀ k ∈ [b6], ∀ cs t m, (w.alloc (.cells #[.int .i64 x] 3)).heap[k]? = some (.cells cs t m) → t = 26 := fun k hk cs t m hh => by
    simp only [List.mem_singleton] at hk
    subst hk
    rw [hA.nd] at hh
    simp at hh
    exact hh.2.1.symm
  have ho : (w.alloc (.cells #[.int .i64 x] 3)).ownsRow B 3 1 (.slice (some ⟨w.heap.size, 0, none⟩) 1 1) 1 (dc [x]) := ⟨rfl, .inr ⟨w.heap.size, 1, _, rfl, hBw, hal, by omega, by unfold maxLen; omega, rfl, rfl⟩⟩
  refine { nd := ?_, ok := ?_, oi := ?_, od := ?_, z := ?_, ne := h.ne, h4 := h.h4, h6 := h.h6 }
  · rw [heap_setCell_same _ _ _ _ _ _ hA.nd]; rfl
  · exact own_kept hk hA.ok (fun k hm cs t m hh => by rw [hS k hm cs t m hh]; decide)
  · exact own_kept hk hA.oi (fun k hm cs t m hh => by rw [hS k hm cs t m hh]; decide)
  · exact own_kept hk ho (fun k hm cs t m hh => by rw [hS k hm cs t m hh]; decide)
  · exact (hk.block r4 (hlt _ _ _ hA.z) (by simpa using h.ne.symm)).trans hA.z

set_option maxRecDepth 100000 in
set_option maxHeartbeats 8000000 in
theorem rdec_other (w : World) (s : ByteArray) (hs : s.size ≤ 20000) : Calls Try.prog 20 #[.int .i64 2, .string s] w (DecP w 2 s) := by
  have hX0 : Rd2 ((w.alloc (.cells #[.bool false, .slice none 0 0, .slice none 0 0, .slice none 0 0] 26)).alloc (.cells #[.bool false, .slice none 0 0, .slice none 0 0, .slice none 0 0] 26)) w.heap.size w.heap.size (w.heap.size + 1) (.slice none 0 0) (.slice none 0 0) (.slice none 0 0) ⟨false, [], [], []⟩ := by
    have e0 : (w.alloc (.cells #[.bool false, .slice none 0 0, .slice none 0 0, .slice none 0 0] 26)).heap.size = w.heap.size + 1 := by simp
    refine ⟨?_, World.ownsRow_nil _ _ _ _, World.ownsRow_nil _ _ _ _, World.ownsRow_nil _ _ _ _, ?_, by omega, Nat.le_refl _, by omega⟩
    · have := heap_alloc_new (w.alloc (.cells #[.bool false, .slice none 0 0, .slice none 0 0, .slice none 0 0] 26)) (.cells #[.bool false, .slice none 0 0, .slice none 0 0, .slice none 0 0] 26)
      rw [e0] at this
      exact this
    · exact (Below.heap_alloc _ _ _ (by rw [e0]; omega)).trans (heap_alloc_new w _)
  have HX := hid hX0
  have HB0 := hid (below_two w (.cells #[.bool false, .slice none 0 0, .slice none 0 0, .slice none 0 0] 26) (.cells #[.bool false, .slice none 0 0, .slice none 0 0, .slice none 0 0] 26))
  clear hX0
  go_enter Try.func20, Try.ntmps20
  go_wp2_with fail
  generalize (w.alloc (.cells #[.bool false, .slice none 0 0, .slice none 0 0, .slice none 0 0] 26)).alloc (.cells #[.bool false, .slice none 0 0, .slice none 0 0, .slice none 0 0] 26) = W at HX HB0 ⊢
  have hB : w.heap.size ≤ W.heap.size := HB0.out.size
  generalize hBe : w.heap.size = B at HX HB0 hB ⊢
  generalize hB6 : B + 1 = b6 at HX ⊢
  clear hB6
  refine (rtake_any s hs 2 (by omega) _).mono ?_
  rintro e w1 ⟨rfl, hb1⟩
  have HRD := hid (HX.out.later hb1)
  have HB1 := hid (HB0.out.trans (hb1.mono hB))
  have hB1 : B ≤ w1.heap.size := Nat.le_trans hB hb1.size
  clear hb1 HX HB0
  cases hsh : ((Rs.of s).after 2).short with
  | true =>
    have HD2 := hid (dec_no2 (leaf := false) hsh)
    generalize (Rs.of s).after 2 = A at *
    generalize (Rs.of s).cut 2 = C at *
    obtain ⟨⟨q0, q1, q2, q3⟩, hfq⟩ := cells4 HRD.out.z
    have fq0 := hfq 0
    have fq1 := hfq 1
    have fq2 := hfq 2
    have fq3 := hfq 3
    clear hfq
    have HZq := hid HRD.out.z
    have HNo : Hid (decB false s = false) := HD2.out
    have HBq := hid (HB1.out)
    go_wp2_with fail
    refine bodyPost_ret (results2c rfl rfl (set4 HZq.out _ _ _ _)) rfl ?_
    exact .inr ⟨(fun l hl => by cases l <;> simp at hl <;> exact HNo.out), _, rfl, nat_zero _, hBe ▸ (HBq.out.trans (below_set4 (Nat.le_refl _) _ _ _ _))⟩
  | false =>
    have hcz := cut_size (Rs.of s) 2
    have hA0 := after_size (Rs.of s) 2
    have hAs : ((Rs.of s).after 2).s.size ≤ 20000 := Nat.le_trans hA0 hs
    have hn0 := num_nonneg (Rs.of s) 2
    have hn1 := num_lt (Rs.of s) 2 (by omega)
    obtain ⟨N, hN⟩ : ∃ N : Nat, N = ((Rs.of s).num 2).toNat := ⟨_, rfl⟩
    have hNc : val (bOf ((Rs.of s).cut 2)) = (N : Int) := by show (Rs.of s).num 2 = _; omega
    have hN5 : N ≤ 65535 := by omega
    have HN := hid hN
    have HRr := hid (rread_any ((Rs.of s).cut 2) (by omega))
    rw [hNc] at HRr
    clear hN hNc hn0 hn1 hA0
    generalize (Rs.of s).cut 2 = C at *
    have HSh := hid hsh
    have hT4 := rtake_any ((Rs.of s).after 2).s hAs 4 (by omega)
    rw [rs_of hsh] at hT4
    have HT4 := hid hT4
    have hA4 : (((Rs.of s).after 2).after 4).s.size ≤ 20000 := Nat.le_trans (after_size ((Rs.of s).after 2) 4) hAs
    have hc4 := cut_size ((Rs.of s).after 2) 4
    have HD4 : Hid ((((Rs.of s).after 2).after 4).short = true → decB false s = false) := fun h => dec_no4 h
    have HBg : Hid (begR false s = (((Rs.of s).after 2).after 4, ⟨false, [], [], [val (bOf (((Rs.of s).after 2).cut 4))]⟩)) := hid rfl
    clear hT4 hsh HSh
    generalize ((Rs.of s).after 2).cut 4 = C4 at *
    generalize ((Rs.of s).after 2).after 4 = A4 at *
    generalize (Rs.of s).after 2 = A at *
    go_wp2_with fail
    refine (HRr.out _).mono ?_
    rintro e w2 ⟨rfl, rfl⟩
    clear HRr
    go_wp2_with fail
    refine (HT4.out _).mono ?_
    rintro e w3 ⟨rfl, hb3⟩
    have HR3 := hid (HRD.out.later hb3)
    have HB3 := hid (HB1.out.trans (hb3.mono hB1))
    have hB3 : B ≤ w3.heap.size := Nat.le_trans hB1 hb3.size
    clear hb3 HT4 HRD HB1
    cases hs4 : A4.short with
    | true =>
      have HF := hid (HD4.out hs4)
      obtain ⟨⟨q0, q1, q2, q3⟩, hfq⟩ := cells4 HR3.out.z
      have fq0 := hfq 0
      have fq1 := hfq 1
      have fq2 := hfq 2
      have fq3 := hfq 3
      clear hfq
      have HZq := hid HR3.out.z
      have HNo : Hid (decB false s = false) := HF.out
      have HBq := hid (HB3.out)
      go_wp2_with fail
      refine bodyPost_ret (results2c rfl rfl (set4 HZq.out _ _ _ _)) rfl ?_
      exact .inr ⟨(fun l hl => by cases l <;> simp at hl <;> exact HNo.out), _, rfl, nat_zero _, hBe ▸ (HBq.out.trans (below_set4 (Nat.le_refl _) _ _ _ _))⟩
    | false =>
      have HRr4 := hid (rread_any C4 hc4)
      have HS4 := hid hs4
      obtain ⟨hc, hf, hrd5, hb5⟩ := rd2_first HR3.out hB3 (val (bOf C4))
      have HI0 : Hid (RInv2 w ((w3.alloc (.cells #[.int .i64 (val (bOf C4))] 3)).setCell ⟨b6, 3, none⟩ (.slice (some ⟨w3.heap.size, 0, none⟩) 1 1)) B b6 N 0 false s A4 ⟨false, [], [], [val (bOf C4)]⟩) := ⟨rfl, rfl, rfl, rfl, hA4, hs4, (fun x hx => by cases hx), (fun x hx => by cases hx), (by rw [HBg.out, Nat.sub_zero]), HB3.out.trans hb5, ⟨_, _, _, hrd5⟩⟩
      clear hrd5 hb5
      go_wp2_with fail
      refine (HRr4.out _).mono ?_
      rintro e w4 ⟨rfl, rfl⟩
      generalize val (bOf C4) = q4 at *
      go_wp2_with fail
      generalize (w4.alloc (.cells #[.int .i64 q4] 3)).setCell ⟨b6, 3, none⟩ (.slice (some ⟨w4.heap.size, 0, none⟩) 1 1) = w5 at HI0 ⊢
      clear HRr4 HS4 hc hf HR3 HB3 hs4 HBg HD4
      go_loopw [8, 11] (fun rs i wr => ∃ k : Nat, k ≤ N ∧ i = .int .i64 k ∧ ∃ r n, rs = .string r.s ∧ RInv2 w wr B b6 N k false s r n) (fun _ i _ => N - (intOf i).toNat)
      case atStart => exact ⟨0, by omega, rfl, _, _, rfl, HI0.out⟩
      case round =>
        clear HI0
        obtain ⟨k, hk, rfl, r, n, rfl, hinv⟩ := hrel
        obtain ⟨vk, vi, vd, hrd⟩ := hinv.rd
        have HInv := hid hinv
        have hkl := hinv.kl
        have hil := hinv.il
        have hdl := hinv.dl
        have hrs := hinv.rs
        have hro := rs_of hinv.sh
        have hBr : B ≤ wr.heap.size := Nat.le_trans (hBe ▸ Nat.le_refl _) hinv.bel.size
        have HRd := hid hrd
        clear hinv hrd
        by_cases hlt : k < N
        · have hlt' : (k : Int) < N := by omega
          have hT1 := rtake_any r.s hrs 1 (by omega)
          rw [hro] at hT1
          have HT1 := hid hT1
          clear hT1
          have HNo1 : Hid ((stepR (r, n)).1.short = true → decB false s = false) := fun h => HInv.out.no hlt HN.out h
          go_wp2_with fail
          refine (HT1.out _).mono ?_
          rintro e w3 ⟨rfl, hb3⟩
          have HR3 := hid (HRd.out.later hb3)
          have HB3 := hid (HInv.out.bel.trans (hb3.mono hBr))
          have hB3 : B ≤ w3.heap.size := Nat.le_trans hBr hb3.size
          clear hb3 HT1
          cases hs1 : (r.after 1).short with
          | true =>
            have HF := hid (HNo1.out (step_no1 hs1))
            generalize r.after 1 = A1 at *
            generalize r.cut 1 = C1 at *
            obtain ⟨⟨q0, q1, q2, q3⟩, hfq⟩ := cells4 HR3.out.z
            have fq0 := hfq 0
            have fq1 := hfq 1
            have fq2 := hfq 2
            have fq3 := hfq 3
            clear hfq
            have HZq := hid HR3.out.z
            have HNo : Hid (decB false s = false) := HF.out
            have HBq := hid (HB3.out)
            go_wp2_with fail
            refine bodyPost_ret (results2c rfl rfl (set4 HZq.out _ _ _ _)) rfl ?_
            exact .inr ⟨(fun l hl => by cases l <;> simp at hl <;> exact HNo.out), _, rfl, nat_zero _, hBe ▸ (HBq.out.trans (below_set4 (Nat.le_refl _) _ _ _ _))⟩
          | false =>
            have hro1 := rs_of hs1
            have hcz1 := cut_size r 1
            have hn0 := num_nonneg r 1
            have hn1 := num_lt r 1 (by omega)
            have hrs1 : (r.after 1).s.size ≤ 20000 := Nat.le_trans (after_size r 1) hrs
            have hcast : ((r.num 1).toNat : Int) = r.num 1 := by omega
            have hT2 := rtake_any (r.after 1).s hrs1 (r.num 1).toNat (by omega)
            rw [hro1, hcast] at hT2
            have HT2 := hid (show ∀ w, Calls Try.prog 40 #[.string (r.after 1).s, .int .i64 (val (bOf (r.cut 1)))] w (fun e w' => e = .returned (.tuple #[.string r.keyR, .string r.afterKey.s, .bool (!r.afterKey.short)]) ∧ Below w.heap.size w w') from hT2)
            have HRr1 := hid (rread_any (r.cut 1) (by omega))
            have hkr := keyR_le r
            have hak := afterKey_le r
            clear hT2 hcast hn0 hn1
            have HE1 := hid (show stepR (r, n) = stepR (r, n) from rfl)
            go_wp2_with fail
            refine (HRr1.out _).mono ?_
            rintro e w4 ⟨rfl, rfl⟩
            go_wp2_with fail
            refine (HT2.out _).mono ?_
            rintro e w5 ⟨rfl, hb5⟩
            have HR5 := hid (HR3.out.later hb5)
            have HB5 := hid (HB3.out.trans (hb5.mono hB3))
            have hB5 : B ≤ w5.heap.size := Nat.le_trans hB3 hb5.size
            clear hb5 HR3 HB3 HT2 HRr1
            cases hs2 : r.afterKey.short with
            | true =>
              have HF := hid (HNo1.out (step_no2 hs2))
              generalize r.afterKey = A2 at *
              generalize r.keyR = C2 at *
              obtain ⟨⟨q0, q1, q2, q3⟩, hfq⟩ := cells4 HR5.out.z
              have fq0 := hfq 0
              have fq1 := hfq 1
              have fq2 := hfq 2
              have fq3 := hfq 3
              clear hfq
              have HZq := hid HR5.out.z
              have HNo : Hid (decB false s = false) := HF.out
              have HBq := hid (HB5.out)
              go_wp2_with fail
              refine bodyPost_ret (results2c rfl rfl (set4 HZq.out _ _ _ _)) rfl ?_
              exact .inr ⟨(fun l hl => by cases l <;> simp at hl <;> exact HNo.out), _, rfl, nat_zero _, hBe ▸ (HBq.out.trans (below_set4 (Nat.le_refl _) _ _ _ _))⟩
            | false =>
              obtain ⟨v', w', hc, hc2, hrun, ⟨sa, sn, sc, rfl⟩, hc3, hf3, hrd6, hb6'⟩ := rd2_push1 HR5.out hB5 r.keyR (by omega)
              have HRun := hid hrun
              have HR6 := hid hrd6
              have HB6 := hid (HB5.out.trans hb6')
              have hB6 : B ≤ (w'.setCell ⟨b6, 1, none⟩ (.slice sa sn sc)).heap.size := Nat.le_trans hB5 hb6'.size
              have hro2 := rs_of hs2
              have hrs2 : r.afterKey.s.size ≤ 20000 := Nat.le_trans hak hrs
              clear hrun hrd6 hb6'
              have HNi : Hid (({ n with keys := n.keys ++ [r.keyR] } : Nd).items.length = n.items.length ∧ ({ n with keys := n.keys ++ [r.keyR] } : Nd).kids.length = n.kids.length) := ⟨rfl, rfl⟩
              have HT4 : Hid (∀ w, Calls Try.prog 40 #[.string r.afterKey.s, .int .i64 4] w (fun e w' => e = .returned (.tuple #[.string (r.afterKey.cut 4), .string (r.afterKey.after 4).s, .bool (!(r.afterKey.after 4).short)]) ∧ Below w.heap.size w w')) := by
                have h := rtake_any r.afterKey.s hrs2 4 (by omega)
                rw [hro2] at h
                exact h
              have hcz4 := cut_size r.afterKey 4
              have hrs4 : (r.afterKey.after 4).s.size ≤ 20000 := Nat.le_trans (after_size r.afterKey 4) hrs2
              have HSt : Hid (stepR (r, n) = (r.afterKey.after 4, { n with keys := n.keys ++ [r.keyR], kids := n.kids ++ [val (bOf (r.afterKey.cut 4))] })) := by
                unfold stepR Hid
                rw [if_neg (show ¬ (r, n).2.leaf = true by rw [show (r, n).2.leaf = false from HInv.out.lf]; decide)]
                rfl
              generalize r.afterKey.cut 4 = C4 at *
              generalize r.afterKey.after 4 = A4 at *
              go_wp2_with (at_builtin; refine wpList_append_run rfl rfl HRun.out ?_)
              clear HRun hc hc2 hc3 hf3
              generalize w'.setCell ⟨b6, 1, none⟩ (.slice sa sn sc) = W6 at HR6 HB6 hB6 ⊢
              refine (HT4.out _).mono ?_
              rintro e w7 ⟨rfl, hb7⟩
              have HR7 := hid (HR6.out.later hb7)
              have HB7 := hid (HB6.out.trans (hb7.mono hB6))
              have hB7 : B ≤ w7.heap.size := Nat.le_trans hB6 hb7.size
              clear hb7 HT4 HR6 HB6
              have hl4 : ({ n with keys := n.keys ++ [r.keyR] } : Nd).kids.length ≤ 69999 := by show n.kids.length ≤ _; rw [hdl]; simp; omega
              go_wp2_with fail
              apply wp_once (fun w' => ∃ vk vi vd, Rd2 w' B B b6 vk vi vd { n with keys := n.keys ++ [r.keyR], kids := n.kids ++ [val (bOf C4)] } ∧ Below B w7 w')
              apply Exists.intro
              apply And.intro
              · have hrd := HR7.out
                have hrd0 : Rd2 w7.drew B B b6 (.slice sa sn sc) vi vd { n with keys := n.keys ++ [r.keyR] } := ⟨hrd.nd, hrd.ok, hrd.oi, hrd.od, hrd.z, hrd.ne, hrd.h4, hrd.h6⟩
                have hload0 := (cells4 hrd0.nd).1.2.2.2
                have hload1 := hload0
                have hbb0 : Below B w7 w7.drew := (Below.refl B w7).drew
                refine wp_region_held_drew (S := fun _ => True) (by kernel_rfl) trivial ?_
                intro _
                refine anyH_take 0 ⟨some 87, .fieldAddr 26 (.tmp 6) 3, _, _, _, none⟩ (.pointer (some ⟨b6, 3, none⟩)) rfl rfl (by kernel_rfl) (by kernel_rfl) (by kernel_rfl) (fun _ _ _ h => absurd h.1 (by simp)) (fun w _ => exec_v (field26 b6 w).2.2) trivial ?_
                simp only [Act.put, List.setIfInBounds_toArray, List.set_cons_zero, List.set_cons_succ]
                refine anyH_take 2 ⟨some 89, .move (.tmp 7), _, _, _, none⟩ (.string C4) rfl rfl (by kernel_rfl) (by kernel_rfl) (by kernel_rfl) (fun _ _ _ h => absurd h.1 (by simp)) (fun w _ => exec_move rfl) trivial ?_
                simp only [Act.put, List.setIfInBounds_toArray, List.set_cons_zero, List.set_cons_succ]
                refine anyH_two 1 3 (by kernel_rfl) ?_ ?_
                · refine wpOp_run (o := ⟨some 88, .load 24 (.tmp 87), _, _, _, none⟩) rfl rfl (exec_v (load24 hload0)) ⟨trivial, ?_⟩
                  simp only [Act.put, List.setIfInBounds_toArray, List.set_cons_zero, List.set_cons_succ]
                  refine anyH_callW 3 ⟨some 90, .call { callee := .value (.func 41), args := #[.tmp 89], argTypes := #[9] }, _, _, _, none⟩ 41 _ (by kernel_rfl) rfl rfl (exec_call41 rfl) ?_
                  refine (rread_any C4 hcz4 _).mono ?_
                  rintro e w1 ⟨rfl, rfl⟩
                  refine ⟨_, rfl, trivial, ?_⟩
                  simp only [Act.put, List.setIfInBounds_toArray, List.set_cons_zero, List.set_cons_succ]
                  obtain ⟨v', w', hc, hc2, hrun, hsl, hc3, hf3, hrd3, hb3⟩ := rd2_push3 hrd0 hB7 (val (bOf C4)) hl4
                  have hbel := hbb0.trans hb3
                  have hbuild := bs24 (val (bOf C4)) w7.drew
                  generalize hgz : w7.drew.heap.size = gz at hrun hbuild
                  refine anyH_one 4 ⟨some 91, .buildSlice 24 1 #[(0, .tmp 90)], _, _, _, none⟩ (.slice (some ⟨gz, 0, none⟩) 1 1) _ (by kernel_rfl) rfl rfl (exec_bs rfl hbuild) trivial ?_
                  simp only [Act.put, List.setIfInBounds_toArray, List.set_cons_zero, List.set_cons_succ]
                  refine anyH_one 5 ⟨some 92, .call { callee := .builtin .append, args := #[.tmp 88, .tmp 91], argTypes := #[24, 24] }, _, _, _, none⟩ v' w' (by kernel_rfl) rfl rfl (exec_append (u := vd) (s := .slice (some ⟨gz, 0, none⟩) 1 1) rfl rfl hrun) trivial ?_
                  simp only [Act.put, List.setIfInBounds_toArray, List.set_cons_zero, List.set_cons_succ]
                  refine anyH_one 6 ⟨some 93, .fieldAddr 26 (.tmp 6) 3, _, _, _, none⟩ (.pointer (some ⟨b6, 3, none⟩)) w' (by kernel_rfl) rfl rfl (exec_v (field26 b6 _).2.2) trivial ?_
                  simp only [Act.put, List.setIfInBounds_toArray, List.set_cons_zero, List.set_cons_succ]
                  refine anyH_oneSkip 7 ⟨none, .store 24 (.tmp 93) (.tmp 92), _, _, _, none⟩ (w'.setCell ⟨b6, 3, none⟩ v') (by kernel_rfl) rfl rfl (exec_store24 rfl rfl hsl hc3 hf3) trivial ?_
                  simp only [Act.put, List.setIfInBounds_toArray, List.set_cons_zero, List.set_cons_succ]
                  refine wpAnyH_done (by kernel_rfl) ?_ _
                  exact ⟨rfl, ⟨gz, v', rfl⟩, ⟨_, _, _, hrd3, hbel⟩⟩
                · refine wpOp_callW (o := ⟨some 90, .call { callee := .value (.func 41), args := #[.tmp 89], argTypes := #[9] }, _, _, _, none⟩) rfl rfl (exec_call41 rfl) ?_
                  refine (rread_any C4 hcz4 _).mono ?_
                  rintro e w1 ⟨rfl, rfl⟩
                  refine ⟨_, rfl, trivial, ?_⟩
                  simp only [Act.put, List.setIfInBounds_toArray, List.set_cons_zero, List.set_cons_succ]
                  obtain ⟨v', w', hc, hc2, hrun, hsl, hc3, hf3, hrd3, hb3⟩ := rd2_push3 hrd0 hB7 (val (bOf C4)) hl4
                  have hbel := hbb0.trans hb3
                  have hbuild := bs24 (val (bOf C4)) w7.drew
                  generalize hgz : w7.drew.heap.size = gz at hrun hbuild
                  refine anyH_two 1 4 (by kernel_rfl) ?_ ?_
                  · refine wpOp_run (o := ⟨some 88, .load 24 (.tmp 87), _, _, _, none⟩) rfl rfl (exec_v (load24 hc)) ⟨trivial, ?_⟩
                    simp only [Act.put, List.setIfInBounds_toArray, List.set_cons_zero, List.set_cons_succ]
                    refine anyH_one 4 ⟨some 91, .buildSlice 24 1 #[(0, .tmp 90)], _, _, _, none⟩ (.slice (some ⟨gz, 0, none⟩) 1 1) _ (by kernel_rfl) rfl rfl (exec_bs rfl hbuild) trivial ?_
                    simp only [Act.put, List.setIfInBounds_toArray, List.set_cons_zero, List.set_cons_succ]
                    refine anyH_one 5 ⟨some 92, .call { callee := .builtin .append, args := #[.tmp 88, .tmp 91], argTypes := #[24, 24] }, _, _, _, none⟩ v' w' (by kernel_rfl) rfl rfl (exec_append (u := vd) (s := .slice (some ⟨gz, 0, none⟩) 1 1) rfl rfl hrun) trivial ?_
                    simp only [Act.put, List.setIfInBounds_toArray, List.set_cons_zero, List.set_cons_succ]
                    refine anyH_one 6 ⟨some 93, .fieldAddr 26 (.tmp 6) 3, _, _, _, none⟩ (.pointer (some ⟨b6, 3, none⟩)) w' (by kernel_rfl) rfl rfl (exec_v (field26 b6 _).2.2) trivial ?_
                    simp only [Act.put, List.setIfInBounds_toArray, List.set_cons_zero, List.set_cons_succ]
                    refine anyH_oneSkip 7 ⟨none, .store 24 (.tmp 93) (.tmp 92), _, _, _, none⟩ (w'.setCell ⟨b6, 3, none⟩ v') (by kernel_rfl) rfl rfl (exec_store24 rfl rfl hsl hc3 hf3) trivial ?_
                    simp only [Act.put, List.setIfInBounds_toArray, List.set_cons_zero, List.set_cons_succ]
                    refine wpAnyH_done (by kernel_rfl) ?_ _
                    exact ⟨rfl, ⟨gz, v', rfl⟩, ⟨_, _, _, hrd3, hbel⟩⟩
                  · refine wpOp_run (o := ⟨some 91, .buildSlice 24 1 #[(0, .tmp 90)], _, _, _, none⟩) rfl rfl (exec_bs rfl hbuild) ⟨trivial, ?_⟩
                    simp only [Act.put, List.setIfInBounds_toArray, List.set_cons_zero, List.set_cons_succ]
                    refine anyH_one 1 ⟨some 88, .load 24 (.tmp 87), _, _, _, none⟩ vd _ (by kernel_rfl) rfl rfl (exec_v (load24 hc2)) trivial ?_
                    simp only [Act.put, List.setIfInBounds_toArray, List.set_cons_zero, List.set_cons_succ]
                    refine anyH_one 5 ⟨some 92, .call { callee := .builtin .append, args := #[.tmp 88, .tmp 91], argTypes := #[24, 24] }, _, _, _, none⟩ v' w' (by kernel_rfl) rfl rfl (exec_append (u := vd) (s := .slice (some ⟨gz, 0, none⟩) 1 1) rfl rfl hrun) trivial ?_
                    simp only [Act.put, List.setIfInBounds_toArray, List.set_cons_zero, List.set_cons_succ]
                    refine anyH_one 6 ⟨some 93, .fieldAddr 26 (.tmp 6) 3, _, _, _, none⟩ (.pointer (some ⟨b6, 3, none⟩)) w' (by kernel_rfl) rfl rfl (exec_v (field26 b6 _).2.2) trivial ?_
                    simp only [Act.put, List.setIfInBounds_toArray, List.set_cons_zero, List.set_cons_succ]
                    refine anyH_oneSkip 7 ⟨none, .store 24 (.tmp 93) (.tmp 92), _, _, _, none⟩ (w'.setCell ⟨b6, 3, none⟩ v') (by kernel_rfl) rfl rfl (exec_store24 rfl rfl hsl hc3 hf3) trivial ?_
                    simp only [Act.put, List.setIfInBounds_toArray, List.set_cons_zero, List.set_cons_succ]
                    refine wpAnyH_done (by kernel_rfl) ?_ _
                    exact ⟨rfl, ⟨gz, v', rfl⟩, ⟨_, _, _, hrd3, hbel⟩⟩
              rintro w8 g8 v8 ⟨vk8, vi8, vd8, hrd8, hbel8⟩
              have HR8 := hid hrd8
              have HB8 := hid (HB7.out.trans hbel8)
              clear hrd8 hbel8 HR7 HB7
              generalize hq4 : val (bOf C4) = q4 at *
              clear hq4
              cases hs4 : A4.short with
              | true =>
                have HF := hid (HNo1.out (by rw [HSt.out]; exact hs4))
                obtain ⟨⟨q0, q1, q2, q3⟩, hfq⟩ := cells4 HR8.out.z
                have fq0 := hfq 0
                have fq1 := hfq 1
                have fq2 := hfq 2
                have fq3 := hfq 3
                clear hfq
                have HZq := hid HR8.out.z
                have HNo : Hid (decB false s = false) := HF.out
                have HBq := hid (HB8.out)
                go_wp2_with fail
                refine bodyPost_ret (results2c rfl rfl (set4 HZq.out _ _ _ _)) rfl ?_
                exact .inr ⟨(fun l hl => by cases l <;> simp at hl <;> exact HNo.out), _, rfl, nat_zero _, hBe ▸ (HBq.out.trans (below_set4 (Nat.le_refl _) _ _ _ _))⟩
              | false =>
                have HS4 := hid hs4
                go_wp2_with fail
                refine ⟨⟨k + 1, by omega, rfl, A4, { n with keys := n.keys ++ [r.keyR], kids := n.kids ++ [q4] }, rfl, ?_⟩, by show N - ((k : Int) + 1).toNat < N - (k : Int).toNat; omega⟩
                refine { lf := HInv.out.lf, kl := by simp; omega, il := by simpa using hil, dl := by simp [hdl], rs := hrs4, sh := HS4.out, ks := ?_, is_ := HInv.out.is_, run := ?_, bel := HB8.out, rd := ⟨_, _, _, HR8.out⟩ }
                · intro y hy
                  rcases List.mem_append.1 hy with h | h
                  · exact HInv.out.ks y h
                  · rw [List.mem_singleton.1 h]; omega
                · rw [← HInv.out.run, show N - k = (N - (k + 1)) + 1 by omega, runR_succ _ _ HInv.out.sh, HSt.out]
        · have hlt' : ¬ (k : Int) < N := by omega
          obtain rfl : k = N := by omega
          have hF : runR ((Rs.of s).num 2).toNat (begR false s) = (r, n) := by rw [← HN.out, ← HInv.out.run, Nat.sub_self]; rfl
          obtain ⟨hrn, hre, hdd⟩ := dec_end hF
          have HRn := hid hrn
          have HDd := hid hdd
          have Hlf := hid HInv.out.lf
          have HNA : Hid (NAt wr (.agg #[.bool n.leaf, vk, vi, vd]) n) := by
            obtain ⟨ak, ck, rfl, hatk, hck1, hck2⟩ := at_of_own HRd.out.ok
            obtain ⟨ai, ci, rfl, hati, hci1, hci2⟩ := at_of_own HRd.out.oi
            obtain ⟨ad, cd, rfl, hatd, hcd1, hcd2⟩ := at_of_own HRd.out.od
            exact ⟨⟨_, _, _, _, _, _, rfl, hatk, hati, hatd, ⟨hck1, hck2⟩, ⟨hci1, hci2⟩, ⟨hcd1, hcd2⟩⟩, (fun x hx => by have := HInv.out.ks x hx; unfold maxLen; omega), (fun x hx => by have := HInv.out.is_ x hx; unfold maxLen; omega)⟩
          have HSm : Hid n.small := ⟨by omega, by rw [hil]; split <;> omega, by rw [hdl]; split <;> omega⟩
          have HNd := hid HRd.out.nd
          clear hrn hdd hF hkl hil hdl hro hrs
          by_cases hemp : r.s.toList = []
          · have hemp' : (r.s.toList == []) = true := by rw [hemp]; rfl
            clear hre hemp
            obtain ⟨⟨n0, n1, n2, n3⟩, nf⟩ := cells4 HNd.out
            clear nf
            go_wp2_with fail
            refine (rright_any HNA.out HSm.out).mono ?_
            rintro e wX ⟨rfl, hbX⟩
            have HRX := hid (HRd.out.later hbX)
            have HNX := hid (HNA.out.later hbX)
            have HBX := hid (HInv.out.bel.trans (hbX.mono hBr))
            have hBX : B ≤ wX.heap.size := Nat.le_trans hBr hbX.size
            clear hbX n0 n1 n2 n3
            cases hrt : rightB n with
            | false =>
              have HDf : Hid (decB false s = false) := by rw [HDd.out, hrt]; rfl
              clear hrt
              obtain ⟨⟨q0, q1, q2, q3⟩, hfq⟩ := cells4 HRX.out.z
              have fq0 := hfq 0
              have fq1 := hfq 1
              have fq2 := hfq 2
              have fq3 := hfq 3
              clear hfq
              have HZq := hid HRX.out.z
              have HNo : Hid (decB false s = false) := HDf.out
              have HBq := hid (HBX.out)
              go_wp2_with fail
              refine bodyPost_ret (results2c rfl rfl (set4 HZq.out _ _ _ _)) rfl ?_
              exact .inr ⟨(fun l hl => by cases l <;> simp at hl <;> exact HNo.out), _, rfl, nat_zero _, hBe ▸ (HBq.out.trans (below_set4 (Nat.le_refl _) _ _ _ _))⟩
            | true =>
              have HDd2 : Hid (decB false s = ((strOf (contentL n)).toList == s.toList)) := by rw [HDd.out, hrt]; rfl
              have HC := hid (rcontent_any HNX.out HSm.out (ri_of hrt))
              obtain ⟨⟨n0, n1, n2, n3⟩, nf⟩ := cells4 HRX.out.nd
              clear hrt nf HDd
              generalize strOf (contentL n) = S at *
              go_wp2_with fail
              refine HC.out.mono ?_
              rintro e wY ⟨rfl, hbY⟩
              have HRY := hid (HRX.out.later hbY)
              have HNY := hid (HNX.out.later hbY)
              have HBY := hid (HBX.out.trans (hbY.mono hBX))
              clear hbY n0 n1 n2 n3 HC
              cases heq : (S.toList == s.toList) with
              | false =>
                have HDf : Hid (decB false s = false) := hid (HDd2.out.trans heq)
                obtain ⟨⟨q0, q1, q2, q3⟩, hfq⟩ := cells4 HRY.out.z
                have fq0 := hfq 0
                have fq1 := hfq 1
                have fq2 := hfq 2
                have fq3 := hfq 3
                clear hfq
                have HZq := hid HRY.out.z
                have HNo : Hid (decB false s = false) := HDf.out
                have HBq := hid (HBY.out)
                go_wp2_with fail
                refine bodyPost_ret (results2c rfl rfl (set4 HZq.out _ _ _ _)) rfl ?_
                exact .inr ⟨(fun l hl => by cases l <;> simp at hl <;> exact HNo.out), _, rfl, nat_zero _, hBe ▸ (HBq.out.trans (below_set4 (Nat.le_refl _) _ _ _ _))⟩
              | true =>
                have HDt : Hid (decB false s = true) := hid (HDd2.out.trans heq)
                obtain ⟨ak, ck, rfl, ex1, ex2, ex3⟩ := at_of_own HRY.out.ok
                obtain ⟨ai, ci, rfl, ex4, ex5, ex6⟩ := at_of_own HRY.out.oi
                obtain ⟨ad, cd, rfl, ex7, ex8, ex9⟩ := at_of_own HRY.out.od
                clear ex1 ex2 ex3 ex4 ex5 ex6 ex7 ex8 ex9
                obtain ⟨⟨n0, n1, n2, n3⟩, nf⟩ := cells4 HRY.out.nd
                clear nf
                obtain ⟨⟨q0, q1, q2, q3⟩, hfq⟩ := cells4 HRY.out.z
                have fq0 := hfq 0
                have fq1 := hfq 1
                have fq2 := hfq 2
                have fq3 := hfq 3
                clear hfq
                go_wp2_with fail
                refine bodyPost_ret (results2c rfl rfl (set4 HRY.out.z _ _ _ _)) rfl ?_
                refine .inl ⟨false, rfl, HDt.out, (by rw [HRn.out]; exact HSm.out), (by rw [HRn.out]; exact Hlf.out), _, rfl, ?_, hBe ▸ (HBY.out.trans (below_set4 (Nat.le_refl _) _ _ _ _))⟩
                rw [HRn.out]
                exact HNY.out.other HRY.out.z (other_set4 _ _ _ _ _ _)
          · have hemp' : (r.s.toList == []) = false := beq_eq_false_iff_ne.2 hemp
            have HF := hid (hre hemp)
            clear hre hemp
            obtain ⟨⟨q0, q1, q2, q3⟩, hfq⟩ := cells4 HRd.out.z
            have fq0 := hfq 0
            have fq1 := hfq 1
            have fq2 := hfq 2
            have fq3 := hfq 3
            clear hfq
            have HZq := hid HRd.out.z
            have HNo : Hid (decB false s = false) := HF.out
            have HBq := hid (HInv.out.bel)
            go_wp2_with fail
            refine bodyPost_ret (results2c rfl rfl (set4 HZq.out _ _ _ _)) rfl ?_
            exact .inr ⟨(fun l hl => by cases l <;> simp at hl <;> exact HNo.out), _, rfl, nat_zero _, hBe ▸ (HBq.out.trans (below_set4 (Nat.le_refl _) _ _ _ _))⟩
end Go.Proofs.Ytkipigbfbhecjaa
