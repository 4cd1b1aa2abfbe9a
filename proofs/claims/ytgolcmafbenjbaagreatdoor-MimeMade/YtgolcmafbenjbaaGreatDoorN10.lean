/- What this text holds: a part as a value; which kind it is, its boundary, the first value of a name: the program's calls. -/
import Derived.Test.YtgolcmafbenjbaaGreatDoorN9
namespace Go.Proofs.YtgolcmafbenjbaaGreatDoor
open Go.RowKit
set_option linter.unusedVariables false
set_option linter.unusedSimpArgs false

/-- A part's cells: what is told of it, and its four lists. -/
def ptC (d : Pd) (vp vi vd vk : Value) : Array Value := #[.string (str d.ty), .string (str d.sub), vp, vi, vd, .string (str d.enc), .int .i64 d.hd, .int .i64 d.fr, .int .i64 d.to, .int .i64 d.lns, vk]
def ptV (d : Pd) (vp vi vd vk : Value) : Value := .agg (ptC d vp vi vd vk)
/-- A part in a block. -/
def D11 (w : World) (A : Nat) (d : Pd) (vp vi vd vk : Value) : Prop := w.heap[A]? = some (.cells (ptC d vp vi vd vk) 33 (0, 0))
theorem D11.cs {w : World} {A : Nat} {d : Pd} {vp vi vd vk : Value} (h : D11 w A d vp vi vd vk) :
    w.cell? ⟨A, 0, none⟩ = some (.string (str d.ty)) ∧ w.cell? ⟨A, 1, none⟩ = some (.string (str d.sub)) ∧ w.cell? ⟨A, 2, none⟩ = some vp ∧ w.cell? ⟨A, 3, none⟩ = some vi ∧ w.cell? ⟨A, 4, none⟩ = some vd ∧ w.cell? ⟨A, 5, none⟩ = some (.string (str d.enc)) ∧
    w.cell? ⟨A, 6, none⟩ = some (.int .i64 d.hd) ∧ w.cell? ⟨A, 7, none⟩ = some (.int .i64 d.fr) ∧ w.cell? ⟨A, 8, none⟩ = some (.int .i64 d.to) ∧ w.cell? ⟨A, 9, none⟩ = some (.int .i64 d.lns) ∧ w.cell? ⟨A, 10, none⟩ = some vk := by
  have e : w.heap[A]? = _ := h
  refine ⟨?_, ?_, ?_, ?_, ?_, ?_, ?_, ?_, ?_, ?_, ?_⟩ <;> simp [World.cell?, e, ptC]
theorem D11.fz {w : World} {A : Nat} {d : Pd} {vp vi vd vk : Value} (h : D11 w A d vp vi vd vk) : ∀ k, w.frozen? ⟨A, k, none⟩ = false := fun k => by simp [World.frozen?, show w.heap[A]? = _ from h]
theorem D11.lt {w : World} {A : Nat} {d : Pd} {vp vi vd vk : Value} (h : D11 w A d vp vi vd vk) : A < w.heap.size := lt_of_some h
theorem D11.kept {S : List Nat} {w w' : World} {A : Nat} {d : Pd} {vp vi vd vk : Value} (h : D11 w A d vp vi vd vk) (k : Kept S w w') (hn : A ∉ S) : D11 w' A d vp vi vd vk := (k.block A (lt_of_some h) hn).trans h
theorem D11.later {w w' : World} {A : Nat} {d : Pd} {vp vi vd vk : Value} (h : D11 w A d vp vi vd vk) (hb : Below w.heap.size w w') : D11 w' A d vp vi vd vk := (hb.block A (lt_of_some h)).trans h
theorem d11_new (w : World) (d : Pd) (vp vi vd vk : Value) : D11 (w.alloc (.cells (ptC d vp vi vd vk) 33)) w.heap.size d vp vi vd vk := heap_alloc_new _ _
theorem below1 (w : World) (o : Obj) : Below w.heap.size w (w.alloc o) := (Below.refl _ _).alloc (Nat.le_refl _) _

set_option maxRecDepth 100000 in
set_option maxHeartbeats 1000000 in
theorem multi_any (d : Pd) (vp vi vd vk : Value) (w : World) : Calls Tryz.prog 56 #[ptV d vp vi vd vk] w fun e w' => e = .returned (.bool (isMulti d)) ∧ Below w.heap.size w w' := by
  have hq := eqL d.ty wMulti
  have HB := hid (below1 w (.cells (ptC d vp vi vd vk) 33))
  have HE : Hid (isMulti d = decide (d.ty = wMulti)) := rfl
  rw [HE.out, ← hq]
  unfold ptV ptC wMulti at *
  clear hq HE
  go_enter Tryz.func56, Tryz.ntmps56
  go_wp2_with fail
  go_ret
  exact ⟨rfl, HB.out⟩
set_option maxRecDepth 100000 in
set_option maxHeartbeats 1000000 in
theorem letter_any (d : Pd) (vp vi vd vk : Value) (w : World) : Calls Tryz.prog 58 #[ptV d vp vi vd vk] w fun e w' => e = .returned (.bool (isLetter d)) ∧ Below w.heap.size w w' := by
  have hq := eqL d.ty wMess
  have hq2 := eqL d.sub wRfc
  have HB := hid (below1 w (.cells (ptC d vp vi vd vk) 33))
  have HE : Hid (isLetter d = (decide (d.ty = wMess) && decide (d.sub = wRfc))) := rfl
  rw [HE.out, ← hq, ← hq2]
  unfold ptV ptC wMess wRfc at *
  clear HE
  by_cases h1 : d.ty = [109, 101, 115, 115, 97, 103, 101]
  · have h1' : ((str d.ty).toList == [109, 101, 115, 115, 97, 103, 101]) = true := by rw [hq]; simp [h1]
    rw [h1']
    clear hq hq2 h1
    go_enter Tryz.func58, Tryz.ntmps58
    go_wp2_with fail
    go_ret
    exact ⟨by simp, HB.out⟩
  · have h1' : ((str d.ty).toList == [109, 101, 115, 115, 97, 103, 101]) = false := by rw [hq]; simp [h1]
    rw [h1']
    clear hq hq2 h1
    go_enter Tryz.func58, Tryz.ntmps58
    go_wp2_with fail
    go_ret
    exact ⟨by simp, HB.out⟩

theorem bound_skip (l : List (Bs × Bs)) (k : Nat) (hk : k < l.length) (h : ¬ (l[k].1 = nBound ∧ l[k].2 ≠ [])) : boundM (l.drop k) = boundM (l.drop (k + 1)) := by
  rw [List.drop_eq_getElem_cons hk, boundM, if_neg h]
theorem bound_take (l : List (Bs × Bs)) (k : Nat) (hk : k < l.length) (h : l[k].1 = nBound ∧ l[k].2 ≠ []) : boundM (l.drop k) = l[k].2 := by
  rw [List.drop_eq_getElem_cons hk, boundM, if_pos h]
set_option maxRecDepth 100000 in
set_option maxHeartbeats 4000000 in
theorem bound_any (d : Pd) (vp vi vd vk : Value) (w : World) (hp : RL w vp 2 (d.ps.map pR)) (hl : d.ps.length ≤ 1000000) : Calls Tryz.prog 72 #[ptV d vp vi vd vk] w fun e w' => e = .returned (.string (str (boundM d.ps))) ∧ Below w.heap.size w w' := by
  have hb0 := below1 w (.cells (ptC d vp vi vd vk) 33)
  have hp1 := hp.later hb0
  have HD0 : Hid (boundM d.ps = boundM (d.ps.drop 0)) := by simp [Hid]
  obtain ⟨hw, a, c, rfl, hc, hr⟩ := hp1
  rw [List.length_map] at *
  have HB0 := hid hb0
  unfold ptV ptC at *
  generalize hps : d.ps = l at *
  clear hb0 hp hps
  rcases hr with hr | ⟨g, o, rfl, hr, hg⟩
  · have : l = [] := by simpa using hr
    subst this
    go_enter Tryz.func72, Tryz.ntmps72
    go_wp2_with fail
    go_loopw [8] (fun i wr => i = .int .i64 0 ∧ wr = w.alloc (.cells #[.string (str d.ty), .string (str d.sub), .slice a 0 c, vi, vd, .string (str d.enc), .int .i64 d.hd, .int .i64 d.fr, .int .i64 d.to, .int .i64 d.lns, vk] 33)) (fun _ _ => 0)
    case atStart => exact ⟨rfl, rfl⟩
    case round =>
      obtain ⟨rfl, rfl⟩ := hrel
      go_wp2_with fail
      go_ret
      exact ⟨rfl, HB0.out⟩
  · have HR := hid hr
    clear hr
    go_enter Tryz.func72, Tryz.ntmps72
    go_wp2_with fail
    generalize hW0 : (w.alloc (.cells #[.string (str d.ty), .string (str d.sub), .slice (some ⟨g, o, none⟩) l.length c, vi, vd, .string (str d.enc), .int .i64 d.hd, .int .i64 d.fr, .int .i64 d.to, .int .i64 d.lns, vk] 33)) = W0 at *
    clear hW0
    go_loopw [8] (fun i wr => ∃ k : Nat, k ≤ l.length ∧ i = .int .i64 k ∧ Below W0.heap.size W0 wr ∧ boundM l = boundM (l.drop k)) (fun i _ => l.length - (intOf i).toNat)
    case atStart => exact ⟨0, by omega, rfl, Below.refl _ _, by simp⟩
    case round =>
      obtain ⟨k, hk, rfl, hbk, hbe⟩ := hrel
      have HBk := hid hbk
      have HBe := hid hbe
      clear hbk hbe
      by_cases hlt : k < l.length
      · have hlt' : (k : Int) < l.length := by omega
        have HR2 := hid (HR.out.later HBk.out)
        have hrec : (l.map pR)[k]? = some (pR l[k]) := by rw [List.getElem?_map, List.getElem?_eq_getElem hlt]; rfl
        have hc0 : wr.cell? ⟨g, o + k * 2, none⟩ = some (.string (str l[k].1)) := HR2.out.rec k _ hrec 0 _ rfl
        have hc1 : wr.cell? ⟨g, o + k * 2 + 1, none⟩ = some (.string (str l[k].2)) := HR2.out.rec k _ hrec 1 _ rfl
        have HSk := hid (bound_skip l k hlt)
        have HTk := hid (bound_take l k hlt)
        have q1 := eqL l[k].1 nBound
        have q2 := eqL l[k].2 []
        have HB5 := hid (HBk.out.alloc HBk.out.size (.cells #[.string (str l[k].1), .string (str l[k].2)] 44))
        generalize l[k].1 = x at *
        generalize l[k].2 = y at *
        unfold nBound at q1
        by_cases h1 : x = nBound
        · have e1 : ((str x).toList == [98, 111, 117, 110, 100, 97, 114, 121]) = true := by rw [q1]; simp; exact h1
          by_cases h2 : y = []
          · have e2 : ((str y).toList == []) = true := by rw [q2]; simp [h2]
            have e3 : ((str y).toList != []) = false := by simp [bne, e2]
            have HS2 : Hid (boundM (l.drop k) = boundM (l.drop (k + 1))) := HSk.out (fun h => h.2 h2)
            clear h1 h2 q1 q2 hrec
            go_wp2_with fail
            go_roundw
            case rel => exact ⟨k + 1, by omega, by go_num, HB5.out, by rw [HBe.out, HS2.out]⟩
            case measure => simp [intOf]; omega
          · have e2 : ((str y).toList == []) = false := by rw [q2]; simp [h2]
            have e3 : ((str y).toList != []) = true := by simp [bne, e2]
            have HS2 : Hid (boundM (l.drop k) = y) := HTk.out ⟨h1, h2⟩
            clear h1 h2 q1 q2 hrec
            go_wp2_with fail
            go_ret
            rw [HBe.out, HS2.out]
            exact ⟨rfl, HB0.out.trans (HB5.out.mono HB0.out.size)⟩
        · have e1 : ((str x).toList == [98, 111, 117, 110, 100, 97, 114, 121]) = false := by rw [q1]; simp; exact h1
          have HS2 : Hid (boundM (l.drop k) = boundM (l.drop (k + 1))) := HSk.out (fun h => h1 h.1)
          clear h1 q1 q2 hrec
          go_wp2_with fail
          go_roundw
          case rel => exact ⟨k + 1, by omega, by go_num, HB5.out, by rw [HBe.out, HS2.out]⟩
          case measure => simp [intOf]; omega
      · have hlt' : ¬ (k : Int) < l.length := by omega
        go_wp2_with fail
        go_ret
        rw [HBe.out, List.drop_of_length_le (by omega)]
        exact ⟨rfl, HB0.out.trans (HBk.out.mono HB0.out.size)⟩
end Go.Proofs.YtgolcmafbenjbaaGreatDoor
