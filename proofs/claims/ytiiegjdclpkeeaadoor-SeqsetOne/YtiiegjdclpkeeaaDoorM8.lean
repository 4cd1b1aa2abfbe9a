/- What this text holds: reaches are sorted and joined. -/
import Derived.Test.YtiiegjdclpkeeaaDoorM3
import Derived.Test.YtiiegjdclpkeeaaDoorM7
namespace Go.Proofs.YtiiegjdclpkeeaaDoor
open Go.RowKit
set_option linter.unusedVariables false
set_option linter.unusedSimpArgs false

theorem rchs_hi (l : List Sp) (most : Int) (hm : most ≤ mi) (h : ∀ s ∈ l, s.1 ≤ mi ∧ s.2 ≤ mi) : ∀ s ∈ rchs l most, s.2 ≤ mi := by
  intro s hs
  simp only [rchs, List.mem_map, List.mem_filter] at hs
  obtain ⟨x, ⟨hx, _⟩, rfl⟩ := hs
  have := h x hx
  unfold rchA kn
  simp only
  split <;> split <;> omega
theorem perm_mem {l m : List Sp} (h : l.Perm m) (n : Int) : memS l n ↔ memS m n := by
  unfold memS
  constructor
  · rintro ⟨s, hs, r⟩; exact ⟨s, h.mem_iff.1 hs, r⟩
  · rintro ⟨s, hs, r⟩; exact ⟨s, h.mem_iff.2 hs, r⟩
theorem last_set {acc : List Sp} {a : Sp} {x : Int} : (acc ++ [a]).set acc.length (((acc ++ [a])[acc.length]'(by simp)).1, x) = acc ++ [(a.1, x)] := by
  simp
theorem sorted_before {L : List Sp} (h : L.Pairwise fun a b => a.1 ≤ b.1) (k : Nat) (hk : k < L.length) : ∀ d ∈ L.take k, d.1 ≤ L[k].1 := by
  intro d hd
  obtain ⟨j, hj, rfl⟩ := List.getElem_of_mem hd
  simp at hj
  rw [List.getElem_take]
  rw [List.pairwise_iff_getElem] at h
  exact h j k (by omega) hk (by omega)
/-- What joined answers. -/
def JoinIs (w : World) (B : Nat) (l : List Sp) (e : Ending) (w' : World) : Prop := (∃ v' acc, e = .returned v' ∧ GO eSp w' w.heap.size v' acc ∧ Rise acc ∧ (∀ n, memS acc n ↔ memS l n) ∧ acc.length ≤ l.length) ∧ Below B w w'
set_option maxRecDepth 100000 in
set_option maxHeartbeats 8000000 in
theorem joined_loop {w : World} {B g n c : Nat} {l : List Sp} (h : GO eSp w B (.slice (some ⟨g, 0, none⟩) n c) l) (hn : l.length = n) (hl : l.length ≤ 1000000) (hB : B ≤ w.heap.size) (hok : ∀ s ∈ l, 1 ≤ s.1 ∧ s.1 ≤ s.2 ∧ s.2 ≤ mi) :
    Calls Tryd.prog 14 #[.slice (some ⟨g, 0, none⟩) n c] w (JoinIs w B l) := by
  have C := sort_any h hn hl hB
  have hsz := (go_holds h hn).2.1
  have HOK := hid hok
  have hnl : n ≤ 1000000 := by omega
  clear hok
  go_enter Tryd.func14, Tryd.ntmps14
  go_wp2_with fail
  refine C.mono ?_
  clear C
  rintro e w1 ⟨rfl, L, hp, hs, ho, hb⟩
  have HP := hid hp
  have HS := hid hs
  have HB0 := hid hb
  have hLn : L.length = n := by rw [hp.length_eq]; exact hn
  have HLn := hid hLn
  have hg1 := (go_holds ho hLn).2.1
  obtain ⟨a1, c1, hv1, hcc, hga⟩ := ho.gl
  have HGA : Hid (GA eSp w1 g 0 L) := by
    rcases hga with hga | ⟨g', o', e, hga, _⟩
    · subst hga; exact fun j i x v h => by simp at h
    · simp only [Value.slice.injEq] at hv1
      rw [e] at hv1
      obtain ⟨e2, _⟩ := hv1
      simp only [Option.some.injEq, Addr.mk.injEq, and_true] at e2
      obtain ⟨rfl, rfl⟩ := e2
      exact hga
  clear hp hs hb ho h hn hLn hv1 hga hcc
  go_wp2_with fail
  go_loopw [3, 11] (fun v i wr => ∃ (k : Nat) (acc : List Sp), k ≤ n ∧ i = .int .i64 k ∧ GO eSp wr w1.heap.size v acc ∧ JInv (L.take k) acc ∧ acc.length ≤ k ∧ Below w1.heap.size w1 wr) (fun _ i _ => n - (intOf i).toNat)
  case atStart => exact ⟨0, [], by omega, rfl, GO.nil _ _ _, jinv_nil, by simp, Below.refl _ _⟩
  case round =>
    obtain ⟨k, acc, hk, rfl, ho, hj, ha, hb⟩ := hrel
    have HO := hid ho
    have HJ := hid hj
    have HB := hid hb
    clear ho hj hb
    by_cases hlt : k < n
    · have hlt' : (k : Int) < n := by omega
      have hlL : k < L.length := by rw [HLn.out]; exact hlt
      obtain ⟨hc0, hc1⟩ := (HGA.out.later HB.out).sp k L[k] (List.getElem?_eq_getElem hlL)
      have hk2 := HOK.out L[k] (HP.out.mem_iff.1 (List.getElem_mem hlL))
      have HD := hid (sorted_before HS.out k hlL)
      have HT := hid (List.take_succ_eq_append_getElem hlL)
      generalize L[k] = s at *
      obtain ⟨x, y⟩ := s
      simp only [Nat.zero_add] at hc0 hc1 hk2 HD
      obtain ⟨hx1, hxy, hy⟩ := hk2
      unfold mi at hy
      have hx2 : x ≤ 9223372036854775807 := by omega
      have hba : Below wr.heap.size wr (wr.alloc (.cells #[.int .i64 x, .int .i64 y] 26)) := (Below.refl _ _).alloc (Nat.le_refl _) _
      have HBa := hid hba
      clear hba
      have HOa := hid (HO.out.later HBa.out)
      have HBb := hid (HB.out.trans (HBa.out.mono HB.out.size))
      rcases List.eq_nil_or_concat acc with hz | ⟨acc', a, hz⟩
      · subst hz
        obtain ⟨a0, c0, hv0⟩ := HO.out.slice (n := 0) rfl
        subst hv0
        have d0 : decide ((0 : Int) ≤ 0 - 1) = false := by decide
        go_wp2_with fail
        go_quiet (fail)
        generalize hW : (wr.alloc (.cells #[.int .i64 x, .int .i64 y] 26)).drewN nq = W at *
        have HBW : Hid (Below wr.heap.size wr W) := by rw [← hW]; exact HBa.out.trans (drewN_below _ _ _)
        have hWz : W.heap.size = wr.heap.size + 1 := by rw [← hW]; simp [World.drewN]
        have hcx : W.cell? ⟨wr.heap.size, 0, none⟩ = some (.int .i64 x) := by rw [← hW]; simp
        have hcy : W.cell? ⟨wr.heap.size, 1, none⟩ = some (.int .i64 y) := by rw [← hW]; simp
        clear hW
        obtain ⟨v', w', hr', ho', hb', _⟩ := go_one eSp (HO.out.later HBW.out) (Nat.le_trans HB.out.size HBW.out.size) (by simp) (x, y) (wr.heap.size + 1) hWz
        have HR' := hid hr'
        have HO' := hid ho'
        have HB' := hid ((HB.out.trans (HBW.out.mono HB.out.size)).trans hb')
        clear hr' ho' hb'
        obtain ⟨a5, c5, hv5⟩ := HO'.out.slice (n := 1) (by simp)
        subst hv5
        have HJ' : Hid (JInv (L.take (k + 1)) ([] ++ [(x, y)])) := by rw [Hid, HT.out]; exact jinv_new HJ.out (x, y) ⟨hx1, hxy⟩ (fun t ht => by simp at ht)
        go_wp2_with (at_builtin; refine wpList_append_run rfl rfl HR'.out ?_)
        go_roundw
        case rel => exact ⟨k + 1, _, by omega, by go_num, HO'.out, HJ'.out, by simp, HB'.out⟩
        case measure => simp [intOf]; omega
      · rw [List.concat_eq_append] at hz
        subst hz
        rw [List.length_append, List.length_singleton] at ha
        obtain ⟨a0, c0, hv0⟩ := HO.out.slice (n := acc'.length + 1) (by simp)
        subst hv0
        obtain ⟨ga, c9, e9, _⟩ := ownsRow_some HO.out (by simp)
        have e8 : a0 = some ⟨ga, 0, none⟩ := by injection e9
        subst e8
        clear e9
        have hgaz : ga < wr.heap.size := (go_holds HO.out (by simp)).2.1
        have hq1 : wr.cell? ⟨ga, acc'.length * 2 + 1, none⟩ = some (.int .i64 a.2) := by
          obtain ⟨a1, c1, hv1, hcc, hga⟩ := HO.out.gl
          rcases hga with hga | ⟨g', o', e, hga, _⟩
          · simp at hga
          · simp only [Value.slice.injEq] at hv1
            rw [e] at hv1
            obtain ⟨e2, _⟩ := hv1
            simp only [Option.some.injEq, Addr.mk.injEq, and_true] at e2
            obtain ⟨rfl, rfl⟩ := e2
            have := (hga.sp acc'.length a (by simp)).2
            simpa using this
        have hqa : (wr.alloc (.cells #[.int .i64 x, .int .i64 y] 26)).cell? ⟨ga, acc'.length * 2 + 1, none⟩ = some (.int .i64 a.2) := (World.cell?_of_block (HBa.out.block ga hgaz)).trans hq1
        have hsub : ((acc'.length + 1 : Nat) : Int) - 1 = acc'.length := by omega
        have d0 : decide ((0 : Int) ≤ acc'.length) = true := by simp
        have hl0 : (0 : Int) ≤ acc'.length := by omega
        have hl1 : acc'.length ≤ 1000000 := by omega
        by_cases hcm : x - 1 ≤ a.2
        · have d1 : decide (x - 1 ≤ a.2) = true := by simpa using hcm
          go_wp2_with fail
          go_quiet (fail)
          generalize hW : (wr.alloc (.cells #[.int .i64 x, .int .i64 y] 26)).drewN nq = W at *
          have HBW : Hid (Below wr.heap.size wr W) := by rw [← hW]; exact HBa.out.trans (drewN_below _ _ _)
          have hWz : W.heap.size = wr.heap.size + 1 := by rw [← hW]; simp [World.drewN]
          have hcx : W.cell? ⟨wr.heap.size, 0, none⟩ = some (.int .i64 x) := by rw [← hW]; simp
          have hcy : W.cell? ⟨wr.heap.size, 1, none⟩ = some (.int .i64 y) := by rw [← hW]; simp
          clear hW
          have hfz := (sp_set (HO.out.later HBW.out) (by simp) acc'.length (by simp) (max a.2 y)).1
          have HS2 : Hid (GO eSp (W.setCell ⟨ga, acc'.length * 2 + 1, none⟩ (.int .i64 (max a.2 y))) w1.heap.size (.slice (some ⟨ga, 0, none⟩) (acc'.length + 1) c0) (acc' ++ [(a.1, max a.2 y)]) ∧ w1.heap.size ≤ ga) := by
            have := (sp_set (HO.out.later HBW.out) (by simp) acc'.length (by simp) (max a.2 y)).2
            rw [last_set] at this
            exact this
          have hlc : (acc'.length : Int) < ((acc'.length + 1 : Nat) : Int) := by omega
          have hca : W.cell? ⟨ga, acc'.length * 2 + 1, none⟩ = some (.int .i64 a.2) := (World.cell?_of_block (HBW.out.block ga hgaz)).trans hq1
          have HB' : Hid (Below w1.heap.size w1 (W.setCell ⟨ga, acc'.length * 2 + 1, none⟩ (.int .i64 (max a.2 y)))) := (HB.out.trans (HBW.out.mono HB.out.size)).setCell HS2.out.2 _
          have HJ' : Hid (JInv (L.take (k + 1)) (acc' ++ [(a.1, max a.2 y)])) := by rw [Hid, HT.out]; exact jinv_old HJ.out (x, y) hxy HD.out (by simp only; omega)
          go_wp2_with fail
          go_region
          all_goals
            go_wp2_with fail
            go_roundw
            case rel => exact ⟨k + 1, _, by omega, by go_num, HS2.out.1.later (drewN_below _ 1 _), HJ'.out, by simp; omega, HB'.out.trans (drewN_below _ 1 _)⟩
            case measure => simp [intOf]; omega
        · have d1 : decide (x - 1 ≤ a.2) = false := by simpa using hcm
          go_wp2_with fail
          go_quiet (fail)
          generalize hW : (wr.alloc (.cells #[.int .i64 x, .int .i64 y] 26)).drewN nq = W at *
          have HBW : Hid (Below wr.heap.size wr W) := by rw [← hW]; exact HBa.out.trans (drewN_below _ _ _)
          have hWz : W.heap.size = wr.heap.size + 1 := by rw [← hW]; simp [World.drewN]
          have hcx : W.cell? ⟨wr.heap.size, 0, none⟩ = some (.int .i64 x) := by rw [← hW]; simp
          have hcy : W.cell? ⟨wr.heap.size, 1, none⟩ = some (.int .i64 y) := by rw [← hW]; simp
          clear hW
          obtain ⟨v', w', hr', ho', hb', _⟩ := go_one eSp (HO.out.later HBW.out) (Nat.le_trans HB.out.size HBW.out.size) (by simp; omega) (x, y) (wr.heap.size + 1) hWz
          have HR' := hid hr'
          have HO' := hid ho'
          have HB' := hid ((HB.out.trans (HBW.out.mono HB.out.size)).trans hb')
          clear hr' ho' hb'
          obtain ⟨a5, c5, hv5⟩ := HO'.out.slice (n := acc'.length + 1 + 1) (by simp)
          subst hv5
          have HJ' : Hid (JInv (L.take (k + 1)) (acc' ++ [a] ++ [(x, y)])) := by rw [Hid, HT.out]; exact jinv_new HJ.out (x, y) ⟨hx1, hxy⟩ (rise_gap HJ.out.1 (by simp only; omega))
          go_wp2_with (at_builtin; refine wpList_append_run rfl rfl HR'.out ?_)
          go_roundw
          case rel => exact ⟨k + 1, _, by omega, by go_num, HO'.out, HJ'.out, by simp; omega, HB'.out⟩
          case measure => simp [intOf]; omega
    · have hlt' : ¬ (k : Int) < n := by omega
      have e : L.take k = L := List.take_of_length_le (by rw [HLn.out]; omega)
      rw [e] at HJ
      have HM : Hid (∀ n, memS acc n ↔ memS l n) := fun n => (HJ.out.2.1 n).trans (perm_mem HP.out n)
      have HL : Hid (acc.length ≤ l.length) := by rw [Hid, ← HP.out.length_eq, HLn.out]; omega
      go_wp2_with fail
      go_ret
      exact ⟨⟨_, acc, rfl, HO.out.base HB0.out.size, HJ.out.1, HM.out, HL.out⟩, HB0.out.trans (HB.out.mono (Nat.le_trans hB HB0.out.size))⟩
end Go.Proofs.YtiiegjdclpkeeaaDoor
