/- What this text holds: whether lines are few, as the program counts them. -/
import Derived.Test.YtpjcpdnolcehcaaGreatDoorM36
import Derived.Test.YtpjcpdnolcehcaaGreatDoorM33
import Derived.Deep.CutRange
import Derived.Deep.CutBlock
namespace Go.Proofs.YtpjcpdnolcehcaaGreatDoor
open Go.RowKit
set_option linter.unusedVariables false
set_option linter.unusedSimpArgs false

theorem exec_call19 {a : Act} {x y : Operand} {v u : Value} {w : World} {d : Option Tmp} {ty : Nat} {ts : Array Nat} {pos : String} {af : Array Edge} {g : Option (Nat × Bool)} (hx : a.eval x = v) (hy : a.eval y = u) :
    (execOp a.eval ⟨d, .call { callee := .value (.func 19), args := #[x, y], argTypes := ts }, ty, pos, af, g⟩).run Tryz.prog w = .ok (.enter 19 #[v, u]) w := by
  simp only [execOp, resolve, List.map_toArray, List.map_cons, List.map_nil, hx, hy]
  kernel_rfl
theorem exec_min {a : Act} {x y : Operand} {n m q : Int} {w : World} {d : Option Tmp} {ty : Nat} {ts : Array Nat} {pos : String} {af : Array Edge} {g : Option (Nat × Bool)} (hx : a.eval x = .int .i64 n) (hy : a.eval y = .int .i64 m) (hq : min n m = q) :
    (execOp a.eval ⟨d, .call { callee := .builtin .min, args := #[x, y], argTypes := ts }, ty, pos, af, g⟩).run Tryz.prog w = .ok (.value (.int .i64 q)) w := by
  subst hq
  simp only [execOp, resolve, List.map_toArray, List.map_cons, List.map_nil, hx, hy]
  simp [go_sem]
theorem exec_addI {a : Act} {x y : Operand} {n m : Int} {w : World} {d : Option Tmp} {T ty T2 : Nat} {pos : String} {af : Array Edge} {g : Option (Nat × Bool)} (hx : a.eval x = .int .i64 n) (hy : a.eval y = .int .i64 m) (h1 : -9223372036854775808 ≤ n + m) (h2 : n + m ≤ 9223372036854775807) :
    (execOp a.eval ⟨d, .binOp .add T x y T2, ty, pos, af, g⟩).run Tryz.prog w = .ok (.value (.int .i64 (n + m))) w := by
  simp [execOp, hx, hy, eqGuard, binOp, Op.intArith, IntWalk.i64_in (n + m) ⟨h1, h2⟩]
set_option maxRecDepth 100000 in
set_option maxHeartbeats 4000000 in
theorem few_any (w : World) (N : Nat → Prop) (u : Value) (ls : List Ln) (hu : LsAt w N u ls) (hf : ∀ l ∈ ls, FitN l) (hl : ls.length ≤ maxLen) : Calls Tryz.prog 9 #[u] w (Bo (fewB ls) w) := by
  obtain ⟨rows, hv, rfl, hrow⟩ := hu
  obtain ⟨a, c, rfl, hc⟩ := hv.slice
  simp only [List.length_map] at hc hl ⊢
  have hmin : ∀ (k : Nat) (w : World) (ts : Array TypeId) (t : TypeId), (Builtin.min_ ts t #[.int .i64 k, .int .i64 10000]).run Tryz.prog w = .ok (.int .i64 ((min k 10000 : Nat) : Int)) w := by
    intro k w ts t
    rw [run_min_int2]
    congr 2
    split <;> omega
  have HV := hid hv
  have HR := hid hrow
  have HF := hid hf
  clear hf hv hrow
  go_enter Tryz.func9, Tryz.ntmps9
  go_wp2_with fail
  go_loopw [3, 4] (fun n i wr => ∃ k : Nat, k ≤ rows.length ∧ k ≤ 41 ∧ i = .int .i64 k ∧ n = .int .i64 (((rows.map (·.2)).take k).foldl fwS 0 : Nat) ∧ Below w.heap.size w wr) (fun _ i _ => 42 - (intOf i).toNat)
  case atStart => exact ⟨0, by omega, by omega, rfl, by simp, by repeat (first | exact Below.refl _ _ | exact drewN_below _ _ _ | apply Below.drew)⟩
  case round =>
    obtain ⟨k, hk2, hk41, rfl, rfl, h2⟩ := hrel
    have H2 := hid h2
    clear h2
    have hb := fw_le ((rows.map (·.2)).take k) 0
    have hkl : ((rows.map (·.2)).take k).length ≤ 41 := by rw [List.length_take, List.length_map]; omega
    by_cases hlt : k < rows.length ∧ k ≤ 40
    · obtain ⟨hlt, hk40⟩ := hlt
      have hlt' : (k : Int) < rows.length := by omega
      have hk40' : (k : Int) ≤ 40 := by omega
      obtain ⟨p, hp⟩ : ∃ p, rows[k] = p := ⟨_, rfl⟩
      have hpm : p ∈ rows := hp ▸ List.getElem_mem hlt
      have e1 : rows[k]? = some p := by rw [List.getElem?_eq_getElem hlt, hp]
      have hne : rows.map (·.1) ≠ [] := by intro e; have := congrArg List.length e; simp at this; subst this; simp at hlt
      obtain ⟨g, o, c1, he, hc1, hga, _, hg⟩ := (HV.out.kept (Kept.ofBelow H2.out []) (by simp)).at_ hne
      simp only [Value.slice.injEq] at he
      obtain ⟨rfl, hlen, rfl⟩ := he
      have hc5 := hga.l k p.1 (by rw [List.getElem?_map, e1]; rfl)
      have hpv := (HR.out p hpm).later H2.out
      have hfx := HF.out p.2 (List.mem_map_of_mem hpm)
      have hnext : ((rows.map (·.2)).take (k + 1)).foldl fwS 0 = fwS (((rows.map (·.2)).take k).foldl fwS 0) p.2 := by
        rw [List.take_add_one, List.foldl_append, List.getElem?_map, e1]; rfl
      obtain ⟨m, hm⟩ : ∃ m, ((rows.map (·.2)).take k).foldl fwS 0 = m := ⟨_, rfl⟩
      rw [hm] at hnext hb ⊢
      have HNext := hid hnext
      have hmb : (m : Int) ≤ 10000000 := by omega
      obtain ⟨⟨rt, ⟨va, vb, vc⟩, rs, ⟨ca, cb, cc⟩, rx⟩, x⟩ := p
      obtain ⟨et, es, ex, hvs, hcs⟩ := hpv
      simp only at et es ex
      subst et es ex
      obtain ⟨_, _, he, _⟩ := hvs.slice
      simp only [Sl.v, Value.slice.injEq] at he
      obtain ⟨rfl, rfl, rfl⟩ := he
      obtain ⟨_, _, he, _⟩ := hcs.slice
      simp only [Sl.v, Value.slice.injEq] at he
      obtain ⟨rfl, rfl, rfl⟩ := he
      obtain ⟨c0, c1', c2, c3, c4⟩ := hc5
      simp only [Sl.v] at c1' c3
      have hs1 := str_size x.tag
      have hs2 := str_size x.st
      have hs3 := str_size x.x
      obtain ⟨q1, hq1⟩ : ∃ q, min x.tag.length 10000 = q := ⟨_, rfl⟩
      obtain ⟨q2, hq2⟩ : ∃ q, min x.x.length 10000 = q := ⟨_, rfl⟩
      obtain ⟨q3, hq3⟩ : ∃ q, min x.st.length 10000 = q := ⟨_, rfl⟩
      have hm1 : min (x.tag.length : Int) 10000 = q1 := by omega
      have hm2 : min (x.x.length : Int) 10000 = q2 := by omega
      have hm3 : min (x.st.length : Int) 10000 = q3 := by omega
      have hq1' : (q1 : Int) ≤ 10000 := by omega
      have hq2' : (q2 : Int) ≤ 10000 := by omega
      have hq3' : (q3 : Int) ≤ 10000 := by omega
      obtain ⟨f1, f2, f3, f4, f5, f6, f7⟩ := hfx
      have hw1 := wtL_le 41 x.vals
      have hw2 := wtL_le 41 x.code
      have CV := hid (fun (w' : World) (hW : Below wr.heap.size wr w') => wt_all 41 w' N _ x.vals 0 (hvs.later hW) f1 f6 rfl)
      have CC := hid (fun (w' : World) (hW : Below wr.heap.size wr w') => wt_all 41 w' N _ x.code 0 (hcs.later hW) f2 f7 rfl)
      rw [show ((0 : Nat) : Int) = 0 from rfl] at CV CC
      simp only [Sl.v] at CV CC
      have HM : Hid (fwS m x = m + q1 + q2 + q3 + wtL 41 x.vals + wtL 41 x.code) := by unfold Hid fwS; rw [hq1, hq2, hq3]
      generalize wtL 41 x.vals = y1 at *
      generalize wtL 41 x.code = y2 at *
      have hw1' : (y1 : Int) ≤ 100000 := by omega
      have hw2' : (y2 : Int) ≤ 100000 := by omega
      have hgz : g < wr.heap.size := hg
      clear hvs hcs f1 f2 f3 f4 f5 f6 f7 hga hpm hp e1 hb hkl hnext hm hlen hc1 hmin hq1 hq2 hq3 hw1 hw2
      have hl0 := fldL0
      have hl1 := fldL1
      have hl2 := fldL2
      have hl3 := fldL3
      have hl4 := fldL4
      have HD0 : Hid (Below wr.heap.size wr wr.drew) := (Below.refl _ _).drew
      --REGION
      go_wp2_with fail
      refine wp_region_held_drew (S := (fun w' => w'.cell? ⟨g, o + k * 5, none⟩ = some (.string (str x.tag)) ∧ w'.cell? ⟨g, o + k * 5 + 1, none⟩ = some (.slice va x.vals.length vc) ∧ w'.cell? ⟨g, o + k * 5 + 2, none⟩ = some (.string (str x.st)) ∧ w'.cell? ⟨g, o + k * 5 + 3, none⟩ = some (.slice ca x.code.length cc) ∧ w'.cell? ⟨g, o + k * 5 + 4, none⟩ = some (.string (str x.x)))) (by kernel_rfl) ⟨c0, c1', c2, c3, c4⟩ ?_
      intro hS
      refine anyH_takeW 0 ⟨some 15, _, _, _, _, none⟩ (.int .i64 m) rfl (by kernel_rfl) (by kernel_rfl) (by kernel_rfl) (by kernel_rfl) (fun _ _ _ h => h) (fun _ _ => rfl) hS ?_
      simp only [Act.put, List.setIfInBounds_toArray, List.set_cons_zero, List.set_cons_succ]
      refine anyH_takeW 1 ⟨some 16, _, _, _, _, none⟩ (.slice (some ⟨g, o, none⟩) rows.length c) rfl (by kernel_rfl) (by kernel_rfl) (by kernel_rfl) (by kernel_rfl) (fun _ _ _ h => h) (fun _ _ => rfl) hS ?_
      simp only [Act.put, List.setIfInBounds_toArray, List.set_cons_zero, List.set_cons_succ]
      refine anyH_takeW 2 ⟨some 17, _, _, _, _, none⟩ (.int .i64 k) rfl (by kernel_rfl) (by kernel_rfl) (by kernel_rfl) (by kernel_rfl) (fun _ _ _ h => h) (fun _ _ => rfl) hS ?_
      simp only [Act.put, List.setIfInBounds_toArray, List.set_cons_zero, List.set_cons_succ]
      refine anyH_takeW 3 ⟨some 18, _, _, _, _, none⟩ (.pointer (some ⟨g, o + k * 5, none⟩)) rfl (by kernel_rfl) (by kernel_rfl) (by kernel_rfl) (by kernel_rfl) (fun _ _ _ h => h) (fun w' h => by (try dsimp only at h); obtain ⟨s0, s1, s2, s3, s4⟩ := h; go_simp) hS ?_
      simp only [Act.put, List.setIfInBounds_toArray, List.set_cons_zero, List.set_cons_succ]
      refine anyH_takeW 4 ⟨some 19, _, _, _, _, none⟩ (.pointer (some ⟨g, o + k * 5, none⟩)) rfl (by kernel_rfl) (by kernel_rfl) (by kernel_rfl) (by kernel_rfl) (fun _ _ _ h => h) (fun w' h => by (try dsimp only at h); obtain ⟨s0, s1, s2, s3, s4⟩ := h; go_simp) hS ?_
      simp only [Act.put, List.setIfInBounds_toArray, List.set_cons_zero, List.set_cons_succ]
      refine anyH_takeW 5 ⟨some 20, _, _, _, _, none⟩ (.string (str x.tag)) rfl (by kernel_rfl) (by kernel_rfl) (by kernel_rfl) (by kernel_rfl) (fun _ _ _ h => h) (fun w' h => by (try dsimp only at h); obtain ⟨s0, s1, s2, s3, s4⟩ := h; go_simp) hS ?_
      simp only [Act.put, List.setIfInBounds_toArray, List.set_cons_zero, List.set_cons_succ]
      refine anyH_takeW 6 ⟨some 21, _, _, _, _, none⟩ (.int .i64 x.tag.length) rfl (by kernel_rfl) (by kernel_rfl) (by kernel_rfl) (by kernel_rfl) (fun _ _ _ h => h) (fun w' h => by (try dsimp only at h); obtain ⟨s0, s1, s2, s3, s4⟩ := h; go_simp) hS ?_
      simp only [Act.put, List.setIfInBounds_toArray, List.set_cons_zero, List.set_cons_succ]
      refine anyH_takeW 7 ⟨some 22, _, _, _, _, none⟩ (.int .i64 q1) rfl (by kernel_rfl) (by kernel_rfl) (by kernel_rfl) (by kernel_rfl) (fun _ _ _ h => h) (fun w' h => exec_min (n := x.tag.length) (m := 10000) (by kernel_rfl) (by kernel_rfl) hm1) hS ?_
      simp only [Act.put, List.setIfInBounds_toArray, List.set_cons_zero, List.set_cons_succ]
      refine anyH_takeW 8 ⟨some 23, _, _, _, _, none⟩ (.int .i64 ((m : Int) + q1)) rfl (by kernel_rfl) (by kernel_rfl) (by kernel_rfl) (by kernel_rfl) (fun _ _ _ h => h) (fun w' h => exec_addI (n := m) (m := q1) (by kernel_rfl) (by kernel_rfl) (by omega) (by omega)) hS ?_
      simp only [Act.put, List.setIfInBounds_toArray, List.set_cons_zero, List.set_cons_succ]
      refine anyH_takeW 9 ⟨some 24, _, _, _, _, none⟩ (.slice (some ⟨g, o, none⟩) rows.length c) rfl (by kernel_rfl) (by kernel_rfl) (by kernel_rfl) (by kernel_rfl) (fun _ _ _ h => h) (fun _ _ => rfl) hS ?_
      simp only [Act.put, List.setIfInBounds_toArray, List.set_cons_zero, List.set_cons_succ]
      refine anyH_takeW 10 ⟨some 25, _, _, _, _, none⟩ (.int .i64 k) rfl (by kernel_rfl) (by kernel_rfl) (by kernel_rfl) (by kernel_rfl) (fun _ _ _ h => h) (fun _ _ => rfl) hS ?_
      simp only [Act.put, List.setIfInBounds_toArray, List.set_cons_zero, List.set_cons_succ]
      refine anyH_takeW 11 ⟨some 26, _, _, _, _, none⟩ (.pointer (some ⟨g, o + k * 5, none⟩)) rfl (by kernel_rfl) (by kernel_rfl) (by kernel_rfl) (by kernel_rfl) (fun _ _ _ h => h) (fun w' h => by (try dsimp only at h); obtain ⟨s0, s1, s2, s3, s4⟩ := h; go_simp) hS ?_
      simp only [Act.put, List.setIfInBounds_toArray, List.set_cons_zero, List.set_cons_succ]
      refine anyH_takeW 12 ⟨some 27, _, _, _, _, none⟩ (.pointer (some ⟨g, o + k * 5 + 4, none⟩)) rfl (by kernel_rfl) (by kernel_rfl) (by kernel_rfl) (by kernel_rfl) (fun _ _ _ h => h) (fun w' h => by (try dsimp only at h); obtain ⟨s0, s1, s2, s3, s4⟩ := h; go_simp) hS ?_
      simp only [Act.put, List.setIfInBounds_toArray, List.set_cons_zero, List.set_cons_succ]
      refine anyH_takeW 13 ⟨some 28, _, _, _, _, none⟩ (.string (str x.x)) rfl (by kernel_rfl) (by kernel_rfl) (by kernel_rfl) (by kernel_rfl) (fun _ _ _ h => h) (fun w' h => by (try dsimp only at h); obtain ⟨s0, s1, s2, s3, s4⟩ := h; go_simp) hS ?_
      simp only [Act.put, List.setIfInBounds_toArray, List.set_cons_zero, List.set_cons_succ]
      refine anyH_takeW 14 ⟨some 29, _, _, _, _, none⟩ (.int .i64 x.x.length) rfl (by kernel_rfl) (by kernel_rfl) (by kernel_rfl) (by kernel_rfl) (fun _ _ _ h => h) (fun w' h => by (try dsimp only at h); obtain ⟨s0, s1, s2, s3, s4⟩ := h; go_simp) hS ?_
      simp only [Act.put, List.setIfInBounds_toArray, List.set_cons_zero, List.set_cons_succ]
      refine anyH_takeW 15 ⟨some 30, _, _, _, _, none⟩ (.int .i64 q2) rfl (by kernel_rfl) (by kernel_rfl) (by kernel_rfl) (by kernel_rfl) (fun _ _ _ h => h) (fun w' h => exec_min (n := x.x.length) (m := 10000) (by kernel_rfl) (by kernel_rfl) hm2) hS ?_
      simp only [Act.put, List.setIfInBounds_toArray, List.set_cons_zero, List.set_cons_succ]
      refine anyH_takeW 16 ⟨some 31, _, _, _, _, none⟩ (.int .i64 ((m : Int) + q1 + q2)) rfl (by kernel_rfl) (by kernel_rfl) (by kernel_rfl) (by kernel_rfl) (fun _ _ _ h => h) (fun w' h => exec_addI (n := (m : Int) + q1) (m := q2) (by kernel_rfl) (by kernel_rfl) (by omega) (by omega)) hS ?_
      simp only [Act.put, List.setIfInBounds_toArray, List.set_cons_zero, List.set_cons_succ]
      refine anyH_takeW 17 ⟨some 32, _, _, _, _, none⟩ (.slice (some ⟨g, o, none⟩) rows.length c) rfl (by kernel_rfl) (by kernel_rfl) (by kernel_rfl) (by kernel_rfl) (fun _ _ _ h => h) (fun _ _ => rfl) hS ?_
      simp only [Act.put, List.setIfInBounds_toArray, List.set_cons_zero, List.set_cons_succ]
      refine anyH_takeW 18 ⟨some 33, _, _, _, _, none⟩ (.int .i64 k) rfl (by kernel_rfl) (by kernel_rfl) (by kernel_rfl) (by kernel_rfl) (fun _ _ _ h => h) (fun _ _ => rfl) hS ?_
      simp only [Act.put, List.setIfInBounds_toArray, List.set_cons_zero, List.set_cons_succ]
      refine anyH_takeW 19 ⟨some 34, _, _, _, _, none⟩ (.pointer (some ⟨g, o + k * 5, none⟩)) rfl (by kernel_rfl) (by kernel_rfl) (by kernel_rfl) (by kernel_rfl) (fun _ _ _ h => h) (fun w' h => by (try dsimp only at h); obtain ⟨s0, s1, s2, s3, s4⟩ := h; go_simp) hS ?_
      simp only [Act.put, List.setIfInBounds_toArray, List.set_cons_zero, List.set_cons_succ]
      refine anyH_takeW 20 ⟨some 35, _, _, _, _, none⟩ (.pointer (some ⟨g, o + k * 5 + 2, none⟩)) rfl (by kernel_rfl) (by kernel_rfl) (by kernel_rfl) (by kernel_rfl) (fun _ _ _ h => h) (fun w' h => by (try dsimp only at h); obtain ⟨s0, s1, s2, s3, s4⟩ := h; go_simp) hS ?_
      simp only [Act.put, List.setIfInBounds_toArray, List.set_cons_zero, List.set_cons_succ]
      refine anyH_takeW 21 ⟨some 36, _, _, _, _, none⟩ (.string (str x.st)) rfl (by kernel_rfl) (by kernel_rfl) (by kernel_rfl) (by kernel_rfl) (fun _ _ _ h => h) (fun w' h => by (try dsimp only at h); obtain ⟨s0, s1, s2, s3, s4⟩ := h; go_simp) hS ?_
      simp only [Act.put, List.setIfInBounds_toArray, List.set_cons_zero, List.set_cons_succ]
      refine anyH_takeW 22 ⟨some 37, _, _, _, _, none⟩ (.int .i64 x.st.length) rfl (by kernel_rfl) (by kernel_rfl) (by kernel_rfl) (by kernel_rfl) (fun _ _ _ h => h) (fun w' h => by (try dsimp only at h); obtain ⟨s0, s1, s2, s3, s4⟩ := h; go_simp) hS ?_
      simp only [Act.put, List.setIfInBounds_toArray, List.set_cons_zero, List.set_cons_succ]
      refine anyH_takeW 23 ⟨some 38, _, _, _, _, none⟩ (.int .i64 q3) rfl (by kernel_rfl) (by kernel_rfl) (by kernel_rfl) (by kernel_rfl) (fun _ _ _ h => h) (fun w' h => exec_min (n := x.st.length) (m := 10000) (by kernel_rfl) (by kernel_rfl) hm3) hS ?_
      simp only [Act.put, List.setIfInBounds_toArray, List.set_cons_zero, List.set_cons_succ]
      refine anyH_takeW 24 ⟨some 39, _, _, _, _, none⟩ (.int .i64 ((m : Int) + q1 + q2 + q3)) rfl (by kernel_rfl) (by kernel_rfl) (by kernel_rfl) (by kernel_rfl) (fun _ _ _ h => h) (fun w' h => exec_addI (n := (m : Int) + q1 + q2) (m := q3) (by kernel_rfl) (by kernel_rfl) (by omega) (by omega)) hS ?_
      simp only [Act.put, List.setIfInBounds_toArray, List.set_cons_zero, List.set_cons_succ]
      refine anyH_takeW 25 ⟨some 40, _, _, _, _, none⟩ (.slice (some ⟨g, o, none⟩) rows.length c) rfl (by kernel_rfl) (by kernel_rfl) (by kernel_rfl) (by kernel_rfl) (fun _ _ _ h => h) (fun _ _ => rfl) hS ?_
      simp only [Act.put, List.setIfInBounds_toArray, List.set_cons_zero, List.set_cons_succ]
      refine anyH_takeW 26 ⟨some 41, _, _, _, _, none⟩ (.int .i64 k) rfl (by kernel_rfl) (by kernel_rfl) (by kernel_rfl) (by kernel_rfl) (fun _ _ _ h => h) (fun _ _ => rfl) hS ?_
      simp only [Act.put, List.setIfInBounds_toArray, List.set_cons_zero, List.set_cons_succ]
      refine anyH_takeW 27 ⟨some 42, _, _, _, _, none⟩ (.pointer (some ⟨g, o + k * 5, none⟩)) rfl (by kernel_rfl) (by kernel_rfl) (by kernel_rfl) (by kernel_rfl) (fun _ _ _ h => h) (fun w' h => by (try dsimp only at h); obtain ⟨s0, s1, s2, s3, s4⟩ := h; go_simp) hS ?_
      simp only [Act.put, List.setIfInBounds_toArray, List.set_cons_zero, List.set_cons_succ]
      refine anyH_takeW 28 ⟨some 43, _, _, _, _, none⟩ (.pointer (some ⟨g, o + k * 5 + 1, none⟩)) rfl (by kernel_rfl) (by kernel_rfl) (by kernel_rfl) (by kernel_rfl) (fun _ _ _ h => h) (fun w' h => by (try dsimp only at h); obtain ⟨s0, s1, s2, s3, s4⟩ := h; go_simp) hS ?_
      simp only [Act.put, List.setIfInBounds_toArray, List.set_cons_zero, List.set_cons_succ]
      refine anyH_takeW 29 ⟨some 44, _, _, _, _, none⟩ (.slice va x.vals.length vc) rfl (by kernel_rfl) (by kernel_rfl) (by kernel_rfl) (by kernel_rfl) (fun _ _ _ h => h) (fun w' h => by (try dsimp only at h); obtain ⟨s0, s1, s2, s3, s4⟩ := h; go_simp) hS ?_
      simp only [Act.put, List.setIfInBounds_toArray, List.set_cons_zero, List.set_cons_succ]
      refine anyH_takeW 32 ⟨some 47, _, _, _, _, none⟩ (.slice (some ⟨g, o, none⟩) rows.length c) rfl (by kernel_rfl) (by kernel_rfl) (by kernel_rfl) (by kernel_rfl) (fun _ _ _ h => h) (fun _ _ => rfl) hS ?_
      simp only [Act.put, List.setIfInBounds_toArray, List.set_cons_zero, List.set_cons_succ]
      refine anyH_takeW 33 ⟨some 48, _, _, _, _, none⟩ (.int .i64 k) rfl (by kernel_rfl) (by kernel_rfl) (by kernel_rfl) (by kernel_rfl) (fun _ _ _ h => h) (fun _ _ => rfl) hS ?_
      simp only [Act.put, List.setIfInBounds_toArray, List.set_cons_zero, List.set_cons_succ]
      refine anyH_takeW 34 ⟨some 49, _, _, _, _, none⟩ (.pointer (some ⟨g, o + k * 5, none⟩)) rfl (by kernel_rfl) (by kernel_rfl) (by kernel_rfl) (by kernel_rfl) (fun _ _ _ h => h) (fun w' h => by (try dsimp only at h); obtain ⟨s0, s1, s2, s3, s4⟩ := h; go_simp) hS ?_
      simp only [Act.put, List.setIfInBounds_toArray, List.set_cons_zero, List.set_cons_succ]
      refine anyH_takeW 35 ⟨some 50, _, _, _, _, none⟩ (.pointer (some ⟨g, o + k * 5 + 3, none⟩)) rfl (by kernel_rfl) (by kernel_rfl) (by kernel_rfl) (by kernel_rfl) (fun _ _ _ h => h) (fun w' h => by (try dsimp only at h); obtain ⟨s0, s1, s2, s3, s4⟩ := h; go_simp) hS ?_
      simp only [Act.put, List.setIfInBounds_toArray, List.set_cons_zero, List.set_cons_succ]
      refine anyH_takeW 36 ⟨some 51, _, _, _, _, none⟩ (.slice ca x.code.length cc) rfl (by kernel_rfl) (by kernel_rfl) (by kernel_rfl) (by kernel_rfl) (fun _ _ _ h => h) (fun w' h => by (try dsimp only at h); obtain ⟨s0, s1, s2, s3, s4⟩ := h; go_simp) hS ?_
      simp only [Act.put, List.setIfInBounds_toArray, List.set_cons_zero, List.set_cons_succ]
      refine anyH_callW 30 ⟨some 45, _, _, _, _, none⟩ 19 #[.slice va x.vals.length vc, .int .i64 0] (by kernel_rfl) rfl (by kernel_rfl) (exec_call19 (by kernel_rfl) (by kernel_rfl)) ?_
      refine (CV.out _ HD0.out).mono ?_
      rintro e w1 ⟨rfl, hb⟩
      have HB1 := hid (HD0.out.trans (hb.mono HD0.out.size))
      clear hS
      have hS : w1.cell? ⟨g, o + k * 5, none⟩ = some (.string (str x.tag)) ∧ w1.cell? ⟨g, o + k * 5 + 1, none⟩ = some (.slice va x.vals.length vc) ∧ w1.cell? ⟨g, o + k * 5 + 2, none⟩ = some (.string (str x.st)) ∧ w1.cell? ⟨g, o + k * 5 + 3, none⟩ = some (.slice ca x.code.length cc) ∧ w1.cell? ⟨g, o + k * 5 + 4, none⟩ = some (.string (str x.x)) := ⟨(HB1.out.cell hgz).trans c0, (HB1.out.cell hgz).trans c1', (HB1.out.cell hgz).trans c2, (HB1.out.cell hgz).trans c3, (HB1.out.cell hgz).trans c4⟩
      clear hb
      refine ⟨_, rfl, hS, ?_⟩
      simp only [Act.put, List.setIfInBounds_toArray, List.set_cons_zero, List.set_cons_succ]
      refine anyH_takeW 31 ⟨some 46, _, _, _, _, none⟩ (.int .i64 ((m : Int) + q1 + q2 + q3 + y1)) rfl (by kernel_rfl) (by kernel_rfl) (by kernel_rfl) (by kernel_rfl) (fun _ _ _ h => h) (fun w' h => exec_addI (n := (m : Int) + q1 + q2 + q3) (m := y1) (by kernel_rfl) (by kernel_rfl) (by omega) (by omega)) hS ?_
      simp only [Act.put, List.setIfInBounds_toArray, List.set_cons_zero, List.set_cons_succ]
      refine anyH_callW 37 ⟨some 52, _, _, _, _, none⟩ 19 #[.slice ca x.code.length cc, .int .i64 0] (by kernel_rfl) rfl (by kernel_rfl) (exec_call19 (by kernel_rfl) (by kernel_rfl)) ?_
      refine (CC.out _ HB1.out).mono ?_
      rintro e w2 ⟨rfl, hb⟩
      have HB2 := hid (HB1.out.trans (hb.mono HB1.out.size))
      clear hS
      have hS : w2.cell? ⟨g, o + k * 5, none⟩ = some (.string (str x.tag)) ∧ w2.cell? ⟨g, o + k * 5 + 1, none⟩ = some (.slice va x.vals.length vc) ∧ w2.cell? ⟨g, o + k * 5 + 2, none⟩ = some (.string (str x.st)) ∧ w2.cell? ⟨g, o + k * 5 + 3, none⟩ = some (.slice ca x.code.length cc) ∧ w2.cell? ⟨g, o + k * 5 + 4, none⟩ = some (.string (str x.x)) := ⟨(HB2.out.cell hgz).trans c0, (HB2.out.cell hgz).trans c1', (HB2.out.cell hgz).trans c2, (HB2.out.cell hgz).trans c3, (HB2.out.cell hgz).trans c4⟩
      clear hb
      refine ⟨_, rfl, hS, ?_⟩
      simp only [Act.put, List.setIfInBounds_toArray, List.set_cons_zero, List.set_cons_succ]
      refine anyH_takeW 38 ⟨some 53, _, _, _, _, none⟩ (.int .i64 ((m : Int) + q1 + q2 + q3 + y1 + y2)) rfl (by kernel_rfl) (by kernel_rfl) (by kernel_rfl) (by kernel_rfl) (fun _ _ _ h => h) (fun w' h => exec_addI (n := (m : Int) + q1 + q2 + q3 + y1) (m := y2) (by kernel_rfl) (by kernel_rfl) (by omega) (by omega)) hS ?_
      simp only [Act.put, List.setIfInBounds_toArray, List.set_cons_zero, List.set_cons_succ]
      refine anyH_takeW 39 ⟨some 3, _, _, _, _, none⟩ (.int .i64 ((m : Int) + q1 + q2 + q3 + y1 + y2)) rfl (by kernel_rfl) (by kernel_rfl) (by kernel_rfl) (by kernel_rfl) (fun _ _ _ h => h) (fun _ _ => rfl) hS ?_
      simp only [Act.put, List.setIfInBounds_toArray, List.set_cons_zero, List.set_cons_succ]
      refine wpAnyH_done (by kernel_rfl) ?_ _
      go_wp2_with fail
      go_round
      case rel => exact ⟨k + 1, by omega, by omega, by go_num, by rw [HNext.out, HM.out]; exact congrArg (Value.int .i64) (by omega), H2.out.trans (HB2.out.mono H2.out.size)⟩
      case measure => simp [intOf]; omega
    · have HT : Hid (((rows.map (·.2)).take k) = (rows.map (·.2)).take 41) := by
        unfold Hid
        by_cases h : k < 41
        · rw [List.take_of_length_le (by rw [List.length_map]; omega), List.take_of_length_le (by rw [List.length_map]; omega)]
        · rw [show k = 41 by omega]
      have hmb := fw_le ((rows.map (·.2)).take k) 0
      have HFe : Hid (fewB (rows.map (·.2)) = (decide (rows.length ≤ 40) && decide (((rows.map (·.2)).take k).foldl fwS 0 ≤ 5000))) := by
        unfold Hid fewB
        rw [HT.out, List.length_map]
      obtain ⟨m, hm⟩ : ∃ m, ((rows.map (·.2)).take k).foldl fwS 0 = m := ⟨_, rfl⟩
      rw [hm] at HFe hmb ⊢
      have hm' : (m : Int) ≤ 10000000 := by omega
      have key : ∀ W : World, Below w.heap.size w W → ∀ (q : Bool), q = fewB (rows.map (·.2)) → Bo (fewB (rows.map (·.2))) w (.returned (.bool q)) W := fun W hW q hq => ⟨by rw [hq], hW⟩
      have KEY := hid key
      clear hmb hkl hb key hm hmin HT
      by_cases h40 : rows.length ≤ 40
      · have h40' : (rows.length : Int) ≤ 40 := by omega
        have hke : k = rows.length := by omega
        have hlt' : ¬ (k : Int) < rows.length := by omega
        by_cases h5 : m ≤ 5000
        · have h5' : (m : Int) ≤ 5000 := by omega
          clear hlt
          go_wp2_with fail
          go_ret
          exact KEY.out _ H2.out _ (by rw [HFe.out]; simp; omega)
        · have h5' : ¬ (m : Int) ≤ 5000 := by omega
          clear hlt
          go_wp2_with fail
          go_ret
          exact KEY.out _ H2.out _ (by rw [HFe.out]; simp; omega)
      · have h40' : ¬ (rows.length : Int) ≤ 40 := by omega
        by_cases hlt2 : k < rows.length
        · have hlt' : (k : Int) < rows.length := by omega
          have hk40' : ¬ (k : Int) ≤ 40 := by omega
          clear hlt
          go_wp2_with fail
          go_ret
          exact KEY.out _ H2.out _ (by rw [HFe.out]; simp; omega)
        · have hlt' : ¬ (k : Int) < rows.length := by omega
          clear hlt
          go_wp2_with fail
          go_ret
          exact KEY.out _ H2.out _ (by rw [HFe.out]; simp; omega)
end Go.Proofs.YtpjcpdnolcehcaaGreatDoor
