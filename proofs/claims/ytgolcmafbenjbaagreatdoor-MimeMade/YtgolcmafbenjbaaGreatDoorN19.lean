/- What this text holds: how many parts a part is; a part's header and content: the program's calls. -/
import Derived.Test.YtgolcmafbenjbaaGreatDoorN18
namespace Go.Proofs.YtgolcmafbenjbaaGreatDoor
open Go.RowKit
set_option linter.unusedVariables false
set_option linter.unusedSimpArgs false

/-- How many parts a part is, n within one another. -/
def cntD : Nat → Pt → Nat
  | 0, p => 1
  | n + 1, p => 1 + (p.kids.map (cntD n)).sum
theorem sum_take_le (l : List Nat) (j : Nat) : (l.take j).sum ≤ l.sum := by
  conv => rhs; rw [← List.take_append_drop j l]
  rw [List.sum_append]
  omega
theorem sum_take_next (l : List Nat) (j : Nat) (hj : j < l.length) : (l.take (j + 1)).sum = (l.take j).sum + l[j] := by
  rw [List.take_succ_eq_append_getElem hj, List.sum_append]
  simp
/-- A kid's cells, from a place on. -/
theorem kid_cells {w : World} {g b : Nat} {d : Pd} {vp vi vd vk : Value} (h : ∀ i x, (ptC d vp vi vd vk)[i]? = some x → w.cell? ⟨g, b + i, none⟩ = some x) :
    w.cell? ⟨g, b, none⟩ = some (.string (str d.ty)) ∧ w.cell? ⟨g, b + 1, none⟩ = some (.string (str d.sub)) ∧ w.cell? ⟨g, b + 2, none⟩ = some vp ∧ w.cell? ⟨g, b + 3, none⟩ = some vi ∧ w.cell? ⟨g, b + 4, none⟩ = some vd ∧ w.cell? ⟨g, b + 5, none⟩ = some (.string (str d.enc)) ∧
    w.cell? ⟨g, b + 6, none⟩ = some (.int .i64 d.hd) ∧ w.cell? ⟨g, b + 7, none⟩ = some (.int .i64 d.fr) ∧ w.cell? ⟨g, b + 8, none⟩ = some (.int .i64 d.to) ∧ w.cell? ⟨g, b + 9, none⟩ = some (.int .i64 d.lns) ∧ w.cell? ⟨g, b + 10, none⟩ = some vk :=
  ⟨h 0 _ rfl, h 1 _ rfl, h 2 _ rfl, h 3 _ rfl, h 4 _ rfl, h 5 _ rfl, h 6 _ rfl, h 7 _ rfl, h 8 _ rfl, h 9 _ rfl, h 10 _ rfl⟩
def CntOk (n : Nat) : Prop := ∀ (w : World) (N : Nat → Prop) (p : Pt) (vp vi vd vk : Value), PtAt w N n p vp vi vd vk → cntD n p ≤ 1000 → p.kids.length ≤ 1000 → Calls Tryz.prog 15 #[ptV p.d vp vi vd vk] w fun e w' => e = .returned (.int .i64 (cntD n p)) ∧ Below w.heap.size w w'
set_option maxRecDepth 100000 in
set_option maxHeartbeats 4000000 in
theorem cnt_nil (d : Pd) (vp vi vd : Value) (ka : Option Addr) (kc : Nat) (w : World) : Calls Tryz.prog 15 #[ptV d vp vi vd (.slice ka 0 kc)] w fun e w' => e = .returned (.int .i64 1) ∧ Below w.heap.size w w' := by
  have HB := hid (below1 w (.cells (ptC d vp vi vd (.slice ka 0 kc)) 33))
  unfold ptV ptC at *
  go_enter Tryz.func15, Tryz.ntmps15
  go_wp2_with fail
  generalize (w.alloc (.cells #[.string (str d.ty), .string (str d.sub), vp, vi, vd, .string (str d.enc), .int .i64 d.hd, .int .i64 d.fr, .int .i64 d.to, .int .i64 d.lns, .slice ka 0 kc] 33)) = W at *
  go_loopw [3, 9] (fun c i wr => c = .int .i64 1 ∧ i = .int .i64 0 ∧ wr = W) (fun _ _ _ => 0)
  case atStart => exact ⟨rfl, rfl, rfl⟩
  case round =>
    obtain ⟨rfl, rfl, hw⟩ := hrel
    subst hw
    go_wp2_with fail
    go_ret
    exact ⟨rfl, HB.out⟩
theorem kid_le (n : Nat) (p : Pt) (k : Pt) (j : Nat) (hj : p.kids[j]? = some k) (h : cntD (n + 1) p ≤ 1000) : cntD n k ≤ 1000 := by
  have h1 : cntD n k ∈ p.kids.map (cntD n) := List.mem_map.2 ⟨k, List.mem_of_getElem? hj, rfl⟩
  have : ∀ (l : List Nat) (x : Nat), x ∈ l → x ≤ l.sum := by
    intro l
    induction l with
    | nil => intro x hx; simp at hx
    | cons a l ih =>
      intro x hx
      rcases List.mem_cons.1 hx with rfl | hx
      · simp
      · have := ih x hx; simp; omega
  have := this _ _ h1
  simp only [cntD] at h
  omega
theorem cnt_pos (n : Nat) (p : Pt) : 1 ≤ cntD n p := by cases n <;> simp [cntD]
theorem kids_le (n : Nat) (p : Pt) (h : cntD (n + 1) p ≤ 1000) : p.kids.length ≤ 1000 := by
  have : ∀ (l : List Pt), l.length ≤ (l.map (cntD n)).sum := by
    intro l
    induction l with
    | nil => simp
    | cons a l ih => have := cnt_pos n a; simp; omega
  have := this p.kids
  simp only [cntD] at h
  omega
set_option maxRecDepth 100000 in
set_option maxHeartbeats 8000000 in
theorem cnt_ok : ∀ n, CntOk n := by
  intro n
  induction n with
  | zero =>
    intro w N p vp vi vd vk hp hc hkl
    obtain ⟨h1, rfl⟩ := hp.k
    exact cnt_nil p.d vp vi vd none 0 w
  | succ n ih =>
    intro w N p vp vi vd vk hp hc hkl
    have hb0 := below1 w (.cells (ptC p.d vp vi vd vk) 33)
    have hk1 := KsAt.kept (Kept.ofBelow hb0 []) (by simp) hp.k
    obtain ⟨ka, kc, rfl, hkc, hks⟩ := hk1
    rcases hks with hks | ⟨g, o, rfl, hg, hN, hks⟩
    · rw [show cntD (n + 1) p = 1 by simp [cntD, hks], show p.kids.length = 0 by simp [hks]]
      exact cnt_nil p.d vp vi vd ka kc w
    · have HE : Hid (cntD (n + 1) p = 1 + (p.kids.map (cntD n)).sum) := rfl
      have HKl := hid (kid_le n p)
      have HB := hid hb0
      have HKs := hid hks
      have HIH := hid ih
      have HC := hid hc
      have HHy : Hid (∀ j : Nat, ((p.kids.map (cntD n)).take j).sum ≤ 999) := fun j => by have := sum_take_le (p.kids.map (cntD n)) j; have := HE.out; have := HC.out; omega
      have HNx := hid (sum_take_next (p.kids.map (cntD n)))
      generalize cntD (n + 1) p = C at *
      clear hb0 hks ih hp hc
      unfold ptV ptC at *
      go_enter Tryz.func15, Tryz.ntmps15
      go_wp2_with fail
      generalize (w.alloc (.cells #[.string (str p.d.ty), .string (str p.d.sub), vp, vi, vd, .string (str p.d.enc), .int .i64 p.d.hd, .int .i64 p.d.fr, .int .i64 p.d.to, .int .i64 p.d.lns, .slice (some ⟨g, o, none⟩) p.kids.length kc] 33)) = W at *
      go_loopw [3, 5, 9] (fun c q i wr => ∃ j : Nat, j ≤ p.kids.length ∧ i = .int .i64 j ∧ c = .int .i64 ((1 + ((p.kids.map (cntD n)).take j).sum : Nat) : Int) ∧ Below W.heap.size W wr) (fun _ _ i _ => p.kids.length - (intOf i).toNat)
      case atStart => exact ⟨0, by omega, rfl, rfl, Below.refl _ _⟩
      case round =>
        obtain ⟨j, hj, rfl, rfl, hbj⟩ := hrel
        have HBj := hid hbj
        clear hbj
        by_cases hlt : j < p.kids.length
        · have hlt' : (j : Int) < p.kids.length := by omega
          obtain ⟨wp, wi, wd, wk, hcs, hpd, hkk⟩ := HKs.out j p.kids[j] (List.getElem?_eq_getElem hlt)
          have hbk : Kept [] W wr := Kept.ofBelow HBj.out []
          obtain ⟨c0, c1, c2, c3, c4, c5, c6, c7, c8, c9, c10⟩ := kid_cells (w := wr) (g := g) (b := o + j * 11) (fun i x hx => hbk.cell (hcs i x hx) (by simp))
          have hpk : PtAt wr N n p.kids[j] wp wi wd wk := ⟨hpd.kept hbk (by simp), KsAt.kept hbk (by simp) hkk⟩
          obtain ⟨pa, pn, pc, ia, n1, cc1, da, n2, cc2, qa, qn, qc, rfl, rfl, rfl, rfl⟩ := hpk.slices
          have hck := HKl.out p.kids[j] j (List.getElem?_eq_getElem hlt) HC.out
          have hkkl : p.kids[j].kids.length ≤ 1000 := by
            cases n with
            | zero => obtain ⟨h1, _⟩ := hkk; rw [h1]; simp
            | succ n => exact kids_le n _ hck
          have hA := below1 wr (.cells (ptC p.kids[j].d (.slice pa pn pc) (.slice ia n1 cc1) (.slice da n2 cc2) (.slice qa qn qc)) 33)
          have HCa := hid (HIH.out _ N p.kids[j] _ _ _ _ (hpk.later hA) hck hkkl)
          have HBA := hid (HBj.out.trans (hA.mono HBj.out.size))
          have hs1 := HHy.out (j + 1)
          have HNj := hid (HNx.out j (by simpa using hlt))
          rw [List.getElem_map] at HNj
          have hs2 := HNj.out
          generalize hkd : cntD n p.kids[j] = ck at *
          generalize p.kids[j].d = kd at *
          generalize ((p.kids.map (cntD n)).take j).sum = sj at *
          have hw1 : (((1 + sj : Nat)) : Int) + (ck : Int) = ((1 + (sj + ck) : Nat) : Int) := by omega
          have hw2 : (((1 + sj : Nat)) : Int) + (ck : Int) ≤ 2000 := by omega
          have hw3 : (0 : Int) ≤ ((1 + sj : Nat) : Int) := by omega
          have hw4 : (0 : Int) ≤ (ck : Int) := by omega
          generalize ((1 + sj : Nat) : Int) = cj at *
          clear hcs hpd hkk hbk hpk hck hkkl hA hs1 hs2 hkd
          unfold ptV ptC at *
          go_wp2_with fail
          refine HCa.out.mono ?_
          rintro e w3 ⟨rfl, hb3⟩
          have HB3 := hid (HBA.out.trans (hb3.mono HBA.out.size))
          clear hb3 HCa
          go_wp2_with fail
          go_roundw
          case rel => exact ⟨j + 1, by omega, by go_num, by rw [HNj.out]; first | rfl | (congr 1; omega), HB3.out⟩
          case measure => simp [intOf]; omega
        · have hlt' : ¬ (j : Int) < p.kids.length := by omega
          go_wp2_with fail
          go_ret
          rw [HE.out, List.take_of_length_le (by simp; omega)]
          exact ⟨rfl, HB.out.trans (HBj.out.mono HB.out.size)⟩
end Go.Proofs.YtgolcmafbenjbaaGreatDoor
