/- What this text holds: the document's telling of a value. · What this text holds: the document's telling of lines. -/
import Derived.Test.YtpjcpdnolcehcaaGreatDoorZ2
import Derived.Test.YtpjcpdnolcehcaaGreatDoorM37
namespace Go.Proofs.YtpjcpdnolcehcaaGreatDoor
open Go.RowKit
set_option linter.unusedVariables false
set_option linter.unusedSimpArgs false

def St (s : Bs) (w : World) (e : Ending) (w' : World) : Prop := e = .returned (.string (str s)) ∧ Below w.heap.size w w'
def TOk (sz : Nat) : Prop := ∀ (w : World) (N : Nat → Prop) (d : Nat) (r : Rw) (v : Vl), VAt w N r v → rightB d v = true → NumV v → szV v ≤ sz → (told v).length ≤ 1000000000 → Calls Tryz.prog 58 #[vV r] w (St (told v) w)
def TsOk (sz : Nat) : Prop := ∀ (w : World) (N : Nat → Prop) (d : Nat) (u : Value) (ks : List Vl), VsAt w N u ks → rightsB d ks = true → NumL ks → szL ks ≤ sz → (toldL ks).length ≤ 1000000000 → ks.length ≤ 1000000000 → Calls Tryz.prog 40 #[u] w (St (toldL ks) w)
theorem st_fin {s : Bs} {z : ByteArray} {w w' : World} (h : z = str s) (hb : Below w.heap.size w w') : St s w (.returned (.string z)) w' := ⟨by rw [h], hb⟩
theorem app4 {x y d : Bs} (h : x = y) : str y ++ (⟨#[60]⟩ : ByteArray) ++ str d ++ (⟨#[62]⟩ : ByteArray) = str (x ++ ([60] ++ d ++ [62])) := by
  subst h
  rw [show (⟨#[60]⟩ : ByteArray) = str [60] from rfl, show (⟨#[62]⟩ : ByteArray) = str [62] from rfl]
  simp only [app_str, List.append_assoc]
theorem exec_addL {a : Act} {x y : Operand} {l m : Bs} {w : World} {d : Option Tmp} {T ty T2 : Nat} {pos : String} {af : Array Edge} {g : Option (Nat × Bool)} (hx : a.eval x = .string (str l)) (hy : a.eval y = .string (str m)) (hl : l.length + m.length ≤ 1000000000) :
    (execOp a.eval ⟨d, .binOp .add T x y T2, ty, pos, af, g⟩).run Tryz.prog w = .ok (.value (.string (str (l ++ m)))) w := by
  rw [← app_str]
  exact exec_addStr hx hy (by rw [str_size, str_size]; exact hl)
theorem exec_call77 {a : Act} {x : Operand} {v : Value} {w : World} {d : Option Tmp} {ty : Nat} {ts : Array Nat} {pos : String} {af : Array Edge} {g : Option (Nat × Bool)} (hx : a.eval x = v) :
    (execOp a.eval ⟨d, .call { callee := .value (.func 77), args := #[x], argTypes := ts }, ty, pos, af, g⟩).run Tryz.prog w = .ok (.enter 77 #[v]) w := by
  simp only [execOp, resolve, List.map_toArray, List.map_cons, List.map_nil, hx]
  kernel_rfl
theorem exec_call40 {a : Act} {x : Operand} {v : Value} {w : World} {d : Option Tmp} {ty : Nat} {ts : Array Nat} {pos : String} {af : Array Edge} {g : Option (Nat × Bool)} (hx : a.eval x = v) :
    (execOp a.eval ⟨d, .call { callee := .value (.func 40), args := #[x], argTypes := ts }, ty, pos, af, g⟩).run Tryz.prog w = .ok (.enter 40 #[v]) w := by
  simp only [execOp, resolve, List.map_toArray, List.map_cons, List.map_nil, hx]
  kernel_rfl
theorem lit_str (l : Bs) : (⟨l.toArray⟩ : ByteArray) = str l := by rfl
set_option maxRecDepth 100000 in
set_option maxHeartbeats 8000000 in
theorem told_r {sz : Nat} (hV : TsOk sz) : TOk (sz + 1) := by
  intro w N d r v hr hrt hn hs hl
  have hT0 := @told_0 v
  have hT1 := @told_1 v
  have hT2 := @told_2 v
  have hT3 := @told_3 v
  have hT4 := @told_4 v
  have hT5 := @told_5 v
  obtain ⟨_, hkind⟩ := right_kind hrt
  obtain ⟨rk, rx, rn, ⟨ra, rb, rc⟩, ⟨rd, re, rf⟩⟩ := r
  obtain ⟨⟨ek, ex, en, hf⟩, hk⟩ := hr
  obtain ⟨k, x, n, kids, frm⟩ := v
  simp only [Vl.k, Vl.x, Vl.n, Vl.kids, Vl.frm, Sl.v] at ek ex en hf hk hT0 hT1 hT2 hT3 hT4 hT5 hkind
  subst ek ex en
  obtain ⟨_, _, he, _⟩ := hf.slice
  simp only [Value.slice.injEq] at he
  obtain ⟨rfl, rfl, rfl⟩ := he
  obtain ⟨_, _, he, _⟩ := hk.slice
  simp only [Value.slice.injEq] at he
  obtain ⟨rfl, rfl, rfl⟩ := he
  obtain ⟨hn1, hn2, hn3, hn4, hn5, hn6⟩ := hn
  have hszk : szL kids ≤ sz := by simp only [szV] at hs; omega
  rw [vV_mk]
  have hA : Below w.heap.size w (w.alloc (.cells #[.int .i64 rk, .string (str rx), .int .i64 rn, .slice ra kids.length rc, .slice rd frm.length rf] 43)) := al _ _
  have HA := hid hA
  have v1 : V5 (w.alloc (.cells #[.int .i64 rk, .string (str rx), .int .i64 rn, .slice ra kids.length rc, .slice rd frm.length rf] 43)) w.heap.size ⟨rk, rx, rn, (ra, kids.length, rc), (rd, frm.length, rf)⟩ := V5.new w ⟨rk, rx, rn, (ra, kids.length, rc), (rd, frm.length, rf)⟩
  obtain ⟨x0, x1, x2, x3, x4⟩ := v1.cs
  simp only [Sl.v] at x3 x4
  have CV := hid (fun (hr2 : rightsB (d + 1) kids = true) (hl2 : (toldL kids).length ≤ 1000000000) (w' : World) (hW : Below w.heap.size w w') => hV w' N (d + 1) _ kids (hk.later hW) hr2 hn4 hszk hl2 (by omega))
  have HF : Hid (frm.length = 1 → ∃ (g o : Nat) (n0 : Int), frm = [n0] ∧ I64 n0 ∧ rd = some ⟨g, o, none⟩ ∧ g < w.heap.size + 1 ∧ (w.alloc (.cells #[.int .i64 rk, .string (str rx), .int .i64 rn, .slice ra kids.length rc, .slice rd frm.length rf] 43)).cell? ⟨g, o, none⟩ = some (.int .i64 n0)) := by
    intro h1
    match frm, h1 with
    | [n0], _ =>
      obtain ⟨g, o, c, e, _, h, _, hg⟩ := (hf.kept (Kept.ofBelow hA []) (by simp)).at_ (by simp)
      simp only [Value.slice.injEq] at e
      exact ⟨g, o, n0, rfl, hn3 n0 (by simp), e.1, by simpa using hg, by have := h.i 0 n0 rfl; simpa using this⟩
  have HSz : Hid ((w.alloc (.cells #[.int .i64 rk, .string (str rx), .int .i64 rn, .slice ra kids.length rc, .slice rd frm.length rf] 43)).heap.size = w.heap.size + 1) := by simp [Hid]
  have hf0 := fun A => fld43k A 0 (by omega)
  have hf1 := fld43
  have hf2 := fun A => fld43k A 1 (by omega)
  have hf3 := fun A => fld43k A 2 (by omega)
  have hf4 := fun A => fld43k A 3 (by omega)
  have hsx := str_size rx
  have HL := hid hl
  have HN1 := hid hn1
  have HN2 := hid hn2
  clear hV hf hk hn1 hn2 hn3 hn4 hn5 hn6 hszk hs v1 hA hl hrt
  rcases hkind with rfl | ⟨rfl, h0n⟩ | ⟨rfl, _⟩ | rfl | ⟨rfl, _, hrk⟩ | ⟨rfl, _, hfr, _, hrk⟩
  · have HT := hid (hT0 rfl)
    clear hT0 hT1 hT2 hT3 hT4 hT5
    go_enter Tryz.func58, Tryz.ntmps58
    go_wp2_with fail
    go_ret
    rw [HT.out]
    exact ⟨rfl, HA.out⟩
  · have HT := hid (hT1 rfl)
    obtain ⟨m, rfl⟩ := Int.eq_ofNat_of_zero_le h0n
    have C := dec_r m (w.alloc (.cells #[.int .i64 1, .string (str rx), .int .i64 (m : Int), .slice ra kids.length rc, .slice rd frm.length rf] 43)) HN1.out.2
    clear hT0 hT1 hT2 hT3 hT4 hT5 h0n
    go_enter Tryz.func58, Tryz.ntmps58
    go_wp2_with fail
    refine C.mono ?_
    rintro e w2 ⟨rfl, b2⟩
    have B2 := hid (HA.out.trans (b2.mono HA.out.size))
    clear b2
    go_wp2_with fail
    go_ret
    rw [HT.out]
    exact ⟨rfl, B2.out⟩
  · have HT := hid (hT2 rfl)
    clear hT0 hT1 hT2 hT3 hT4 hT5
    go_enter Tryz.func58, Tryz.ntmps58
    go_wp2_with fail
    go_ret
    rw [HT.out]
    exact ⟨rfl, HA.out⟩
  · have HT := hid (hT3 rfl)
    clear hT0 hT1 hT2 hT3 hT4 hT5 CV HF
    have CG := graphic_r rx (w.alloc (.cells #[.int .i64 3, .string (str rx), .int .i64 rn, .slice ra kids.length rc, .slice rd frm.length rf] 43)) HN2.out
    have hx9 : (rx.length : Int) ≤ 1000000000 := by have := HN2.out; omega
    have CD := hid (fun (w' : World) => dec_r rx.length w' (by omega))
    have HTL := hid (fun (w' : World) (h : quoB rx = false) => show strP rx = [123] ++ decP rx.length ++ [125, 13, 10] ++ rx from by unfold strP; rw [if_neg (by rw [h]; decide)])
    obtain ⟨D, hD⟩ : ∃ D, decP (rx.length : Int) = D := ⟨_, rfl⟩
    have hDl : D.length ≤ 20 := by rw [← hD]; exact decP_len (by omega) (by omega)
    have hDz := str_size D
    rw [hD] at CD HTL
    clear hD
    by_cases hq : (100 : Int) < rx.length
    · have HQ : Hid (quoB rx = false) := by unfold Hid quoB; rw [decide_eq_false (by omega)]; rfl
      have HAd : Hid (Below w.heap.size w (w.alloc (.cells #[.int .i64 3, .string (str rx), .int .i64 rn, .slice ra kids.length rc, .slice rd frm.length rf] 43)).drew) := HA.out.drew
      have CDd := hid (CD.out (w.alloc (.cells #[.int .i64 3, .string (str rx), .int .i64 rn, .slice ra kids.length rc, .slice rd frm.length rf] 43)).drew)
      have hlt : w.heap.size < (w.alloc (.cells #[.int .i64 3, .string (str rx), .int .i64 rn, .slice ra kids.length rc, .slice rd frm.length rf] 43)).drew.heap.size := by show w.heap.size < (w.alloc (.cells #[.int .i64 3, .string (str rx), .int .i64 rn, .slice ra kids.length rc, .slice rd frm.length rf] 43)).heap.size; simp
      have HTT := hid (HTL.out w HQ.out)
      have hbd : ([123] ++ D ++ [125, 13, 10] ++ rx).length ≤ 1000000000 := by rw [← HTT.out, ← HT.out]; exact HL.out
      simp only [List.length_append, List.length_cons, List.length_nil] at hbd
      clear CD HTL HQ
      go_enter Tryz.func58, Tryz.ntmps58
      go_wp2_with fail
      refine wp_region_held_drew (S := fun w' => w'.cell? ⟨w.heap.size, 1, none⟩ = some (.string (str rx))) (by kernel_rfl) x1 ?_
      intro hS
      refine anyH_takeW 0 ⟨some 60, _, _, _, _, none⟩ (.pointer (some ⟨w.heap.size, 1, none⟩)) rfl (by kernel_rfl) (by kernel_rfl) (by kernel_rfl) (by kernel_rfl) (fun _ _ _ h => h) (fun w' h => by (try dsimp only at h); go_simp) hS ?_
      simp only [Act.put, List.setIfInBounds_toArray, List.set_cons_zero, List.set_cons_succ]
      refine anyH_takeW 1 ⟨some 61, _, _, _, _, none⟩ (.string (str rx)) rfl (by kernel_rfl) (by kernel_rfl) (by kernel_rfl) (by kernel_rfl) (fun _ _ _ h => h) (fun w' h => by (try dsimp only at h); go_simp) hS ?_
      simp only [Act.put, List.setIfInBounds_toArray, List.set_cons_zero, List.set_cons_succ]
      refine anyH_takeW 2 ⟨some 62, _, _, _, _, none⟩ (.int .i64 rx.length) rfl (by kernel_rfl) (by kernel_rfl) (by kernel_rfl) (by kernel_rfl) (fun _ _ _ h => h) (fun w' h => by (try dsimp only at h); go_simp) hS ?_
      simp only [Act.put, List.setIfInBounds_toArray, List.set_cons_zero, List.set_cons_succ]
      refine anyH_takeW 6 ⟨some 66, _, _, _, _, none⟩ (.pointer (some ⟨w.heap.size, 1, none⟩)) rfl (by kernel_rfl) (by kernel_rfl) (by kernel_rfl) (by kernel_rfl) (fun _ _ _ h => h) (fun w' h => by (try dsimp only at h); go_simp) hS ?_
      simp only [Act.put, List.setIfInBounds_toArray, List.set_cons_zero, List.set_cons_succ]
      refine anyH_takeW 7 ⟨some 67, _, _, _, _, none⟩ (.string (str rx)) rfl (by kernel_rfl) (by kernel_rfl) (by kernel_rfl) (by kernel_rfl) (fun _ _ _ h => h) (fun w' h => by (try dsimp only at h); go_simp) hS ?_
      simp only [Act.put, List.setIfInBounds_toArray, List.set_cons_zero, List.set_cons_succ]
      refine anyH_callW 3 ⟨some 63, _, _, _, _, none⟩ 77 #[.int .i64 rx.length] (by kernel_rfl) rfl (by kernel_rfl) (exec_call77 (by kernel_rfl)) ?_
      refine CDd.out.mono ?_
      rintro e w2 ⟨rfl, hb⟩
      have B2 := hid (HAd.out.trans (hb.mono HAd.out.size))
      clear hS
      have hS : w2.cell? ⟨w.heap.size, 1, none⟩ = some (.string (str rx)) := (hb.cell hlt).trans x1
      clear hb
      refine ⟨_, rfl, hS, ?_⟩
      simp only [Act.put, List.setIfInBounds_toArray, List.set_cons_zero, List.set_cons_succ]
      refine anyH_takeW 4 ⟨some 64, _, _, _, _, none⟩ (.string (str ([123] ++ D))) rfl (by kernel_rfl) (by kernel_rfl) (by kernel_rfl) (by kernel_rfl) (fun _ _ _ h => h) (fun w' h => exec_addL (l := [123]) (m := D) (by kernel_rfl) (by kernel_rfl) (by simp only [List.length_append, List.length_cons, List.length_nil]; omega)) hS ?_
      simp only [Act.put, List.setIfInBounds_toArray, List.set_cons_zero, List.set_cons_succ]
      refine anyH_takeW 5 ⟨some 65, _, _, _, _, none⟩ (.string (str ([123] ++ D ++ [125, 13, 10]))) rfl (by kernel_rfl) (by kernel_rfl) (by kernel_rfl) (by kernel_rfl) (fun _ _ _ h => h) (fun w' h => exec_addL (l := [123] ++ D) (m := [125, 13, 10]) (by kernel_rfl) (by kernel_rfl) (by simp only [List.length_append, List.length_cons, List.length_nil]; omega)) hS ?_
      simp only [Act.put, List.setIfInBounds_toArray, List.set_cons_zero, List.set_cons_succ]
      refine anyH_takeW 8 ⟨some 68, _, _, _, _, none⟩ (.string (str ([123] ++ D ++ [125, 13, 10] ++ rx))) rfl (by kernel_rfl) (by kernel_rfl) (by kernel_rfl) (by kernel_rfl) (fun _ _ _ h => h) (fun w' h => exec_addL (l := [123] ++ D ++ [125, 13, 10]) (m := rx) (by kernel_rfl) (by kernel_rfl) (by simp only [List.length_append, List.length_cons, List.length_nil]; omega)) hS ?_
      simp only [Act.put, List.setIfInBounds_toArray, List.set_cons_zero, List.set_cons_succ]
      refine anyH_takeW 9 ⟨some 2, _, _, _, _, none⟩ (.string (str ([123] ++ D ++ [125, 13, 10] ++ rx))) rfl (by kernel_rfl) (by kernel_rfl) (by kernel_rfl) (by kernel_rfl) (fun _ _ _ h => h) (fun _ _ => rfl) hS ?_
      simp only [Act.put, List.setIfInBounds_toArray, List.set_cons_zero, List.set_cons_succ]
      refine wpAnyH_done (by kernel_rfl) ?_ _
      go_wp2_with fail
      go_ret
      rw [HT.out, HTT.out]
      exact ⟨rfl, B2.out⟩
    · obtain ⟨G, hG⟩ : ∃ G, rx.all plB = G := ⟨_, rfl⟩
      have HG := hid hG
      rw [hG] at CG
      clear hG
      cases G
      · have HQ : Hid (quoB rx = false) := by unfold Hid quoB; rw [HG.out]; simp
        have HAd : Hid (Below w.heap.size w (w.alloc (.cells #[.int .i64 3, .string (str rx), .int .i64 rn, .slice ra kids.length rc, .slice rd frm.length rf] 43)).drew) := HA.out.drew
        have CDd := hid (CD.out (w.alloc (.cells #[.int .i64 3, .string (str rx), .int .i64 rn, .slice ra kids.length rc, .slice rd frm.length rf] 43)).drew)
        have hlt : w.heap.size < (w.alloc (.cells #[.int .i64 3, .string (str rx), .int .i64 rn, .slice ra kids.length rc, .slice rd frm.length rf] 43)).drew.heap.size := by show w.heap.size < (w.alloc (.cells #[.int .i64 3, .string (str rx), .int .i64 rn, .slice ra kids.length rc, .slice rd frm.length rf] 43)).heap.size; simp
        have HTT := hid (HTL.out w HQ.out)
        have hbd : ([123] ++ D ++ [125, 13, 10] ++ rx).length ≤ 1000000000 := by rw [← HTT.out, ← HT.out]; exact HL.out
        simp only [List.length_append, List.length_cons, List.length_nil] at hbd
        clear CD HTL HQ
        go_enter Tryz.func58, Tryz.ntmps58
        go_wp2_with fail
        refine CG.mono ?_
        rintro e w2 ⟨rfl, rfl⟩
        go_wp2_with fail
        refine wp_region_held_drew (S := fun w' => w'.cell? ⟨w.heap.size, 1, none⟩ = some (.string (str rx))) (by kernel_rfl) x1 ?_
        intro hS
        refine anyH_takeW 0 ⟨some 60, _, _, _, _, none⟩ (.pointer (some ⟨w.heap.size, 1, none⟩)) rfl (by kernel_rfl) (by kernel_rfl) (by kernel_rfl) (by kernel_rfl) (fun _ _ _ h => h) (fun w' h => by (try dsimp only at h); go_simp) hS ?_
        simp only [Act.put, List.setIfInBounds_toArray, List.set_cons_zero, List.set_cons_succ]
        refine anyH_takeW 1 ⟨some 61, _, _, _, _, none⟩ (.string (str rx)) rfl (by kernel_rfl) (by kernel_rfl) (by kernel_rfl) (by kernel_rfl) (fun _ _ _ h => h) (fun w' h => by (try dsimp only at h); go_simp) hS ?_
        simp only [Act.put, List.setIfInBounds_toArray, List.set_cons_zero, List.set_cons_succ]
        refine anyH_takeW 2 ⟨some 62, _, _, _, _, none⟩ (.int .i64 rx.length) rfl (by kernel_rfl) (by kernel_rfl) (by kernel_rfl) (by kernel_rfl) (fun _ _ _ h => h) (fun w' h => by (try dsimp only at h); go_simp) hS ?_
        simp only [Act.put, List.setIfInBounds_toArray, List.set_cons_zero, List.set_cons_succ]
        refine anyH_takeW 6 ⟨some 66, _, _, _, _, none⟩ (.pointer (some ⟨w.heap.size, 1, none⟩)) rfl (by kernel_rfl) (by kernel_rfl) (by kernel_rfl) (by kernel_rfl) (fun _ _ _ h => h) (fun w' h => by (try dsimp only at h); go_simp) hS ?_
        simp only [Act.put, List.setIfInBounds_toArray, List.set_cons_zero, List.set_cons_succ]
        refine anyH_takeW 7 ⟨some 67, _, _, _, _, none⟩ (.string (str rx)) rfl (by kernel_rfl) (by kernel_rfl) (by kernel_rfl) (by kernel_rfl) (fun _ _ _ h => h) (fun w' h => by (try dsimp only at h); go_simp) hS ?_
        simp only [Act.put, List.setIfInBounds_toArray, List.set_cons_zero, List.set_cons_succ]
        refine anyH_callW 3 ⟨some 63, _, _, _, _, none⟩ 77 #[.int .i64 rx.length] (by kernel_rfl) rfl (by kernel_rfl) (exec_call77 (by kernel_rfl)) ?_
        refine CDd.out.mono ?_
        rintro e w2 ⟨rfl, hb⟩
        have B2 := hid (HAd.out.trans (hb.mono HAd.out.size))
        clear hS
        have hS : w2.cell? ⟨w.heap.size, 1, none⟩ = some (.string (str rx)) := (hb.cell hlt).trans x1
        clear hb
        refine ⟨_, rfl, hS, ?_⟩
        simp only [Act.put, List.setIfInBounds_toArray, List.set_cons_zero, List.set_cons_succ]
        refine anyH_takeW 4 ⟨some 64, _, _, _, _, none⟩ (.string (str ([123] ++ D))) rfl (by kernel_rfl) (by kernel_rfl) (by kernel_rfl) (by kernel_rfl) (fun _ _ _ h => h) (fun w' h => exec_addL (l := [123]) (m := D) (by kernel_rfl) (by kernel_rfl) (by simp only [List.length_append, List.length_cons, List.length_nil]; omega)) hS ?_
        simp only [Act.put, List.setIfInBounds_toArray, List.set_cons_zero, List.set_cons_succ]
        refine anyH_takeW 5 ⟨some 65, _, _, _, _, none⟩ (.string (str ([123] ++ D ++ [125, 13, 10]))) rfl (by kernel_rfl) (by kernel_rfl) (by kernel_rfl) (by kernel_rfl) (fun _ _ _ h => h) (fun w' h => exec_addL (l := [123] ++ D) (m := [125, 13, 10]) (by kernel_rfl) (by kernel_rfl) (by simp only [List.length_append, List.length_cons, List.length_nil]; omega)) hS ?_
        simp only [Act.put, List.setIfInBounds_toArray, List.set_cons_zero, List.set_cons_succ]
        refine anyH_takeW 8 ⟨some 68, _, _, _, _, none⟩ (.string (str ([123] ++ D ++ [125, 13, 10] ++ rx))) rfl (by kernel_rfl) (by kernel_rfl) (by kernel_rfl) (by kernel_rfl) (fun _ _ _ h => h) (fun w' h => exec_addL (l := [123] ++ D ++ [125, 13, 10]) (m := rx) (by kernel_rfl) (by kernel_rfl) (by simp only [List.length_append, List.length_cons, List.length_nil]; omega)) hS ?_
        simp only [Act.put, List.setIfInBounds_toArray, List.set_cons_zero, List.set_cons_succ]
        refine anyH_takeW 9 ⟨some 2, _, _, _, _, none⟩ (.string (str ([123] ++ D ++ [125, 13, 10] ++ rx))) rfl (by kernel_rfl) (by kernel_rfl) (by kernel_rfl) (by kernel_rfl) (fun _ _ _ h => h) (fun _ _ => rfl) hS ?_
        simp only [Act.put, List.setIfInBounds_toArray, List.set_cons_zero, List.set_cons_succ]
        refine wpAnyH_done (by kernel_rfl) ?_ _
        go_wp2_with fail
        go_ret
        rw [HT.out, HTT.out]
        exact ⟨rfl, B2.out⟩
      · have HQ : Hid (strP rx = [34] ++ escP rx ++ [34]) := by
          unfold Hid strP quoB
          rw [HG.out, decide_eq_true (by omega)]
          rfl
        have hel := esc_len rx
        clear CD HTL
        go_enter Tryz.func58, Tryz.ntmps58
        go_wp2_with fail
        refine CG.mono ?_
        rintro e w2 ⟨rfl, rfl⟩
        go_wp2_with fail
        go_loop [4, 5] (fun s i => ∃ k : Nat, k ≤ rx.length ∧ i = .int .i64 k ∧ s = .string (str ([34] ++ escP (rx.take k)))) (fun _ i => rx.length - (intOf i).toNat)
        case atStart => exact ⟨0, by omega, rfl, rfl⟩
        case round =>
          obtain ⟨k, hk, rfl, rfl⟩ := hrel
          have hel2 := esc_len (rx.take k)
          rw [List.length_take] at hel2
          obtain ⟨Q, hQ⟩ : ∃ Q, [34] ++ escP (rx.take k) = Q := ⟨_, rfl⟩
          have hQl : (Q.length : Int) ≤ 1000 := by rw [← hQ]; simp only [List.length_append, List.length_cons, List.length_nil]; omega
          have hps := str_size Q
          have HQd := hid hQ
          rw [hQ]
          clear hQ
          by_cases hlt : k < rx.length
          · have hlt' : (k : Int) < rx.length := by omega
            have hlts : k < (str rx).size := by omega
            obtain ⟨c, hc⟩ : ∃ c, c = rx[k] := ⟨_, rfl⟩
            have g : ((str rx)[k]'hlts) = c := hc.symm
            have HMid : Hid ((str rx).extract k (k + 1) = str [c]) := by
              rw [Hid, mid_str, show k + 1 - k = 1 by omega, hc, List.drop_eq_getElem_cons hlt]
              rfl
            have HNx : Hid ([34] ++ escP (rx.take (k + 1)) = Q ++ (if escB c then [92, c] else [c])) := by
              have := esc_next rx k hlt
              rw [Hid, this, ← HQd.out, List.append_assoc, hc]
              rfl
            have hms : ((str rx).extract k (k + 1)).size = 1 := by rw [HMid.out, str_size]; rfl
            clear hc
            by_cases e1 : c = 34
            · have f1 : (c.toNat : Int) = 34 := by rw [e1]; rfl
              have HX : Hid (str Q ++ (⟨#[92]⟩ : ByteArray) ++ (str rx).extract k (k + 1) = str ([34] ++ escP (rx.take (k + 1)))) := by
                rw [Hid, HMid.out, HNx.out, show (⟨#[92]⟩ : ByteArray) = str [92] from rfl, app_str, app_str, if_pos (by rw [e1]; rfl), List.append_assoc]
                rfl
              clear e1
              go_wp2_with fail
              go_round
              case rel => exact ⟨k + 1, by omega, by go_num, congrArg Value.string HX.out⟩
              case measure => simp [intOf]; omega
            · have f1 : ¬ (c.toNat : Int) = 34 := fun h => e1 (UInt8.toNat_inj.1 (by have : (34 : UInt8).toNat = 34 := rfl; omega))
              by_cases e2 : c = 92
              · have f2 : (c.toNat : Int) = 92 := by rw [e2]; rfl
                have HX : Hid (str Q ++ (⟨#[92]⟩ : ByteArray) ++ (str rx).extract k (k + 1) = str ([34] ++ escP (rx.take (k + 1)))) := by
                  rw [Hid, HMid.out, HNx.out, show (⟨#[92]⟩ : ByteArray) = str [92] from rfl, app_str, app_str, if_pos (by rw [e2]; rfl), List.append_assoc]
                  rfl
                clear e1 e2
                go_wp2_with fail
                go_round
                case rel => exact ⟨k + 1, by omega, by go_num, congrArg Value.string HX.out⟩
                case measure => simp [intOf]; omega
              · have f2 : ¬ (c.toNat : Int) = 92 := fun h => e2 (UInt8.toNat_inj.1 (by have : (92 : UInt8).toNat = 92 := rfl; omega))
                have f1b : ((c.toNat : Int) == 34) = false := by simpa using f1
                have f2b : ((c.toNat : Int) == 92) = false := by simpa using f2
                have HX : Hid (str Q ++ (str rx).extract k (k + 1) = str ([34] ++ escP (rx.take (k + 1)))) := by
                  rw [Hid, HMid.out, HNx.out, app_str, if_neg (by simp [escB, e1, e2])]
                clear e1 e2
                go_wp2_with fail
                go_round
                case rel => exact ⟨k + 1, by omega, by go_num, congrArg Value.string HX.out⟩
                case measure => simp [intOf]; omega
          · have hlt' : ¬ (k : Int) < rx.length := by omega
            have HX : Hid (str Q ++ (⟨#[34]⟩ : ByteArray) = str (strP rx)) := by
              rw [Hid, HQ.out, ← HQd.out, List.take_of_length_le (by omega), show (⟨#[34]⟩ : ByteArray) = str [34] from rfl, app_str]
            go_wp2_with fail
            go_ret
            rw [HT.out]
            exact st_fin HX.out HA.out
  · have HT := hid (hT4 rfl)
    have hlT : (toldL kids).length ≤ 1000000000 := by have := HL.out; rw [HT.out] at this; simp at this; omega
    have C := CV.out hrk hlT _ HA.out
    have hTz := str_size (toldL kids)
    clear hT0 hT1 hT2 hT3 hT4 hT5 CV HF HL
    generalize toldL kids = T at *
    go_enter Tryz.func58, Tryz.ntmps58
    go_wp2_with fail
    refine C.mono ?_
    rintro e w2 ⟨rfl, b2⟩
    have B2 := hid (HA.out.trans (b2.mono HA.out.size))
    clear b2
    go_wp2_with fail
    go_ret
    rw [HT.out]
    exact st_fin (z := ⟨#[40]⟩ ++ str T ++ ⟨#[41]⟩) (by rw [show (⟨#[40]⟩ : ByteArray) = str [40] from rfl, show (⟨#[41]⟩ : ByteArray) = str [41] from rfl, app_str, app_str]) B2.out
  · have HT := hid (hT5 rfl)
    have hlT : (toldL kids).length ≤ 1000000000 := by have := HL.out; rw [HT.out] at this; simp at this; omega
    have CT := hid (CV.out hrk hlT)
    have hTz := str_size (toldL kids)
    have hx9 : (rx.length : Int) ≤ 1000000000 := by have := HN2.out; omega
    have hfc : frm.length = 0 ∧ fromP frm = [] ∨ ∃ (g o m : Nat), frm.length = 1 ∧ fromP frm = [60] ++ decP m ++ [62] ∧ (m : Int) ≤ 9223372036854775807 ∧ rd = some ⟨g, o, none⟩ ∧ g < w.heap.size + 1 ∧ (w.alloc (.cells #[.int .i64 5, .string (str rx), .int .i64 rn, .slice ra kids.length rc, .slice rd frm.length rf] 43)).cell? ⟨g, o, none⟩ = some (.int .i64 m) := by
      unfold frB at hfr
      simp only [Bool.or_eq_true, Bool.and_eq_true, decide_eq_true_eq, List.isEmpty_iff] at hfr
      rcases hfr with h | ⟨h1, h2⟩
      · exact .inl ⟨by rw [h]; rfl, by rw [h]; rfl⟩
      · right
        obtain ⟨g, o, n0, e1, e2, e3, e4, e5⟩ := HF.out h1
        rw [e1] at h2
        obtain ⟨m, rfl⟩ := Int.eq_ofNat_of_zero_le (a := n0) h2
        exact ⟨g, o, m, h1, by rw [e1]; simp [fromP], e2.2, e3, e4, e5⟩
    have hbd := HL.out
    rw [HT.out] at hbd
    simp only [List.length_append, List.length_cons, List.length_nil] at hbd
    clear hT0 hT1 hT2 hT3 hT4 hT5 CV HF HL hfr hrk HSz HN1 HN2
    generalize frm.length = F at *
    generalize fromP frm = FP at *
    generalize toldL kids = T at *
    have HAd : Hid (Below w.heap.size w (w.alloc (.cells #[.int .i64 5, .string (str rx), .int .i64 rn, .slice ra kids.length rc, .slice rd F rf] 43)).drew) := HA.out.drew
    have CTd := hid (CT.out (w.alloc (.cells #[.int .i64 5, .string (str rx), .int .i64 rn, .slice ra kids.length rc, .slice rd F rf] 43)).drew HAd.out)
    have hlt : w.heap.size < (w.alloc (.cells #[.int .i64 5, .string (str rx), .int .i64 rn, .slice ra kids.length rc, .slice rd F rf] 43)).drew.heap.size := by show w.heap.size < (w.alloc (.cells #[.int .i64 5, .string (str rx), .int .i64 rn, .slice ra kids.length rc, .slice rd F rf] 43)).heap.size; simp
    have hltg : ∀ g, g < w.heap.size + 1 → g < (w.alloc (.cells #[.int .i64 5, .string (str rx), .int .i64 rn, .slice ra kids.length rc, .slice rd F rf] 43)).drew.heap.size := by intro g hg; show g < (w.alloc (.cells #[.int .i64 5, .string (str rx), .int .i64 rn, .slice ra kids.length rc, .slice rd F rf] 43)).heap.size; simpa using hg
    clear CT
    rcases hfc with ⟨rfl, rfl⟩ | ⟨g, o, m, rfl, rfl, hm, rfl, hg, hc0⟩
    · go_enter Tryz.func58, Tryz.ntmps58
      go_wp2_with fail
      refine wp_region_held_drew (S := fun w' => w'.cell? ⟨w.heap.size, 1, none⟩ = some (.string (str rx)) ∧ w'.cell? ⟨w.heap.size, 3, none⟩ = some (.slice ra kids.length rc) ∧ w'.cell? ⟨w.heap.size, 4, none⟩ = some (.slice rd 0 rf)) (by kernel_rfl) ⟨x1, x3, x4⟩ ?_
      intro hS
      refine anyH_takeW 0 ⟨some 28, _, _, _, _, none⟩ (.pointer (some ⟨w.heap.size, 1, none⟩)) rfl (by kernel_rfl) (by kernel_rfl) (by kernel_rfl) (by kernel_rfl) (fun _ _ _ h => h) (fun w' h => by (try dsimp only at h); obtain ⟨s0, s1, s2⟩ := h; go_simp) hS ?_
      simp only [Act.put, List.setIfInBounds_toArray, List.set_cons_zero, List.set_cons_succ]
      refine anyH_takeW 1 ⟨some 29, _, _, _, _, none⟩ (.string (str rx)) rfl (by kernel_rfl) (by kernel_rfl) (by kernel_rfl) (by kernel_rfl) (fun _ _ _ h => h) (fun w' h => by (try dsimp only at h); obtain ⟨s0, s1, s2⟩ := h; go_simp) hS ?_
      simp only [Act.put, List.setIfInBounds_toArray, List.set_cons_zero, List.set_cons_succ]
      refine anyH_takeW 2 ⟨some 30, _, _, _, _, none⟩ (.string (str (rx ++ [91]))) rfl (by kernel_rfl) (by kernel_rfl) (by kernel_rfl) (by kernel_rfl) (fun _ _ _ h => h) (fun w' h => exec_addL (l := rx) (m := [91]) (by kernel_rfl) (by kernel_rfl) (by simp only [List.length_append, List.length_cons, List.length_nil]; omega)) hS ?_
      simp only [Act.put, List.setIfInBounds_toArray, List.set_cons_zero, List.set_cons_succ]
      refine anyH_takeW 3 ⟨some 31, _, _, _, _, none⟩ (.pointer (some ⟨w.heap.size, 3, none⟩)) rfl (by kernel_rfl) (by kernel_rfl) (by kernel_rfl) (by kernel_rfl) (fun _ _ _ h => h) (fun w' h => by (try dsimp only at h); obtain ⟨s0, s1, s2⟩ := h; go_simp) hS ?_
      simp only [Act.put, List.setIfInBounds_toArray, List.set_cons_zero, List.set_cons_succ]
      refine anyH_takeW 4 ⟨some 32, _, _, _, _, none⟩ (.slice ra kids.length rc) rfl (by kernel_rfl) (by kernel_rfl) (by kernel_rfl) (by kernel_rfl) (fun _ _ _ h => h) (fun w' h => by (try dsimp only at h); obtain ⟨s0, s1, s2⟩ := h; go_simp) hS ?_
      simp only [Act.put, List.setIfInBounds_toArray, List.set_cons_zero, List.set_cons_succ]
      refine anyH_callW 5 ⟨some 33, _, _, _, _, none⟩ 40 #[.slice ra kids.length rc] (by kernel_rfl) rfl (by kernel_rfl) (exec_call40 (by kernel_rfl)) ?_
      refine CTd.out.mono ?_
      rintro e w2 ⟨rfl, hb⟩
      have B2 := hid (HAd.out.trans (hb.mono HAd.out.size))
      clear hS
      have hS : w2.cell? ⟨w.heap.size, 1, none⟩ = some (.string (str rx)) ∧ w2.cell? ⟨w.heap.size, 3, none⟩ = some (.slice ra kids.length rc) ∧ w2.cell? ⟨w.heap.size, 4, none⟩ = some (.slice rd 0 rf) := ⟨(hb.cell hlt).trans x1, (hb.cell (p := ⟨w.heap.size, 3, none⟩) hlt).trans x3, (hb.cell (p := ⟨w.heap.size, 4, none⟩) hlt).trans x4⟩
      clear hb
      refine ⟨_, rfl, hS, ?_⟩
      simp only [Act.put, List.setIfInBounds_toArray, List.set_cons_zero, List.set_cons_succ]
      refine anyH_takeW 6 ⟨some 34, _, _, _, _, none⟩ (.string (str (rx ++ [91] ++ T))) rfl (by kernel_rfl) (by kernel_rfl) (by kernel_rfl) (by kernel_rfl) (fun _ _ _ h => h) (fun w' h => exec_addL (l := rx ++ [91]) (m := T) (by kernel_rfl) (by kernel_rfl) (by simp only [List.length_append, List.length_cons, List.length_nil]; omega)) hS ?_
      simp only [Act.put, List.setIfInBounds_toArray, List.set_cons_zero, List.set_cons_succ]
      refine anyH_takeW 7 ⟨some 35, _, _, _, _, none⟩ (.string (str (rx ++ [91] ++ T ++ [93]))) rfl (by kernel_rfl) (by kernel_rfl) (by kernel_rfl) (by kernel_rfl) (fun _ _ _ h => h) (fun w' h => exec_addL (l := rx ++ [91] ++ T) (m := [93]) (by kernel_rfl) (by kernel_rfl) (by simp only [List.length_append, List.length_cons, List.length_nil]; omega)) hS ?_
      simp only [Act.put, List.setIfInBounds_toArray, List.set_cons_zero, List.set_cons_succ]
      refine anyH_takeW 8 ⟨some 3, _, _, _, _, none⟩ (.string (str (rx ++ [91] ++ T ++ [93]))) rfl (by kernel_rfl) (by kernel_rfl) (by kernel_rfl) (by kernel_rfl) (fun _ _ _ h => h) (fun _ _ => rfl) hS ?_
      simp only [Act.put, List.setIfInBounds_toArray, List.set_cons_zero, List.set_cons_succ]
      refine wpAnyH_done (by kernel_rfl) ?_ _
      obtain ⟨q0, q1, q2⟩ := hS
      go_wp2_with fail
      go_ret
      rw [HT.out, List.append_nil]
      exact ⟨rfl, B2.out⟩
    · have CD := hid (fun (w' : World) => dec_r m w' hm)
      obtain ⟨D, hD⟩ : ∃ D, decP (m : Int) = D := ⟨_, rfl⟩
      have hDl : D.length ≤ 20 := by rw [← hD]; exact decP_len (by omega) (by omega)
      have hDz := str_size D
      rw [hD] at CD HT
      have hgd := hltg g hg
      clear hD hltg hg
      go_enter Tryz.func58, Tryz.ntmps58
      go_wp2_with fail
      refine wp_region_held_drew (S := fun w' => w'.cell? ⟨w.heap.size, 1, none⟩ = some (.string (str rx)) ∧ w'.cell? ⟨w.heap.size, 3, none⟩ = some (.slice ra kids.length rc) ∧ w'.cell? ⟨w.heap.size, 4, none⟩ = some (.slice (some ⟨g, o, none⟩) 1 rf) ∧ w'.cell? ⟨g, o, none⟩ = some (.int .i64 m)) (by kernel_rfl) ⟨x1, x3, x4, hc0⟩ ?_
      intro hS
      refine anyH_takeW 0 ⟨some 28, _, _, _, _, none⟩ (.pointer (some ⟨w.heap.size, 1, none⟩)) rfl (by kernel_rfl) (by kernel_rfl) (by kernel_rfl) (by kernel_rfl) (fun _ _ _ h => h) (fun w' h => by (try dsimp only at h); obtain ⟨s0, s1, s2, s3⟩ := h; go_simp) hS ?_
      simp only [Act.put, List.setIfInBounds_toArray, List.set_cons_zero, List.set_cons_succ]
      refine anyH_takeW 1 ⟨some 29, _, _, _, _, none⟩ (.string (str rx)) rfl (by kernel_rfl) (by kernel_rfl) (by kernel_rfl) (by kernel_rfl) (fun _ _ _ h => h) (fun w' h => by (try dsimp only at h); obtain ⟨s0, s1, s2, s3⟩ := h; go_simp) hS ?_
      simp only [Act.put, List.setIfInBounds_toArray, List.set_cons_zero, List.set_cons_succ]
      refine anyH_takeW 2 ⟨some 30, _, _, _, _, none⟩ (.string (str (rx ++ [91]))) rfl (by kernel_rfl) (by kernel_rfl) (by kernel_rfl) (by kernel_rfl) (fun _ _ _ h => h) (fun w' h => exec_addL (l := rx) (m := [91]) (by kernel_rfl) (by kernel_rfl) (by simp only [List.length_append, List.length_cons, List.length_nil]; omega)) hS ?_
      simp only [Act.put, List.setIfInBounds_toArray, List.set_cons_zero, List.set_cons_succ]
      refine anyH_takeW 3 ⟨some 31, _, _, _, _, none⟩ (.pointer (some ⟨w.heap.size, 3, none⟩)) rfl (by kernel_rfl) (by kernel_rfl) (by kernel_rfl) (by kernel_rfl) (fun _ _ _ h => h) (fun w' h => by (try dsimp only at h); obtain ⟨s0, s1, s2, s3⟩ := h; go_simp) hS ?_
      simp only [Act.put, List.setIfInBounds_toArray, List.set_cons_zero, List.set_cons_succ]
      refine anyH_takeW 4 ⟨some 32, _, _, _, _, none⟩ (.slice ra kids.length rc) rfl (by kernel_rfl) (by kernel_rfl) (by kernel_rfl) (by kernel_rfl) (fun _ _ _ h => h) (fun w' h => by (try dsimp only at h); obtain ⟨s0, s1, s2, s3⟩ := h; go_simp) hS ?_
      simp only [Act.put, List.setIfInBounds_toArray, List.set_cons_zero, List.set_cons_succ]
      refine anyH_callW 5 ⟨some 33, _, _, _, _, none⟩ 40 #[.slice ra kids.length rc] (by kernel_rfl) rfl (by kernel_rfl) (exec_call40 (by kernel_rfl)) ?_
      refine CTd.out.mono ?_
      rintro e w2 ⟨rfl, hb⟩
      have B2 := hid (HAd.out.trans (hb.mono HAd.out.size))
      clear hS
      have hS : w2.cell? ⟨w.heap.size, 1, none⟩ = some (.string (str rx)) ∧ w2.cell? ⟨w.heap.size, 3, none⟩ = some (.slice ra kids.length rc) ∧ w2.cell? ⟨w.heap.size, 4, none⟩ = some (.slice (some ⟨g, o, none⟩) 1 rf) ∧ w2.cell? ⟨g, o, none⟩ = some (.int .i64 m) := ⟨(hb.cell hlt).trans x1, (hb.cell (p := ⟨w.heap.size, 3, none⟩) hlt).trans x3, (hb.cell (p := ⟨w.heap.size, 4, none⟩) hlt).trans x4, (hb.cell (p := ⟨g, o, none⟩) hgd).trans hc0⟩
      clear hb
      refine ⟨_, rfl, hS, ?_⟩
      simp only [Act.put, List.setIfInBounds_toArray, List.set_cons_zero, List.set_cons_succ]
      refine anyH_takeW 6 ⟨some 34, _, _, _, _, none⟩ (.string (str (rx ++ [91] ++ T))) rfl (by kernel_rfl) (by kernel_rfl) (by kernel_rfl) (by kernel_rfl) (fun _ _ _ h => h) (fun w' h => exec_addL (l := rx ++ [91]) (m := T) (by kernel_rfl) (by kernel_rfl) (by simp only [List.length_append, List.length_cons, List.length_nil]; omega)) hS ?_
      simp only [Act.put, List.setIfInBounds_toArray, List.set_cons_zero, List.set_cons_succ]
      refine anyH_takeW 7 ⟨some 35, _, _, _, _, none⟩ (.string (str (rx ++ [91] ++ T ++ [93]))) rfl (by kernel_rfl) (by kernel_rfl) (by kernel_rfl) (by kernel_rfl) (fun _ _ _ h => h) (fun w' h => exec_addL (l := rx ++ [91] ++ T) (m := [93]) (by kernel_rfl) (by kernel_rfl) (by simp only [List.length_append, List.length_cons, List.length_nil]; omega)) hS ?_
      simp only [Act.put, List.setIfInBounds_toArray, List.set_cons_zero, List.set_cons_succ]
      refine anyH_takeW 8 ⟨some 3, _, _, _, _, none⟩ (.string (str (rx ++ [91] ++ T ++ [93]))) rfl (by kernel_rfl) (by kernel_rfl) (by kernel_rfl) (by kernel_rfl) (fun _ _ _ h => h) (fun _ _ => rfl) hS ?_
      simp only [Act.put, List.setIfInBounds_toArray, List.set_cons_zero, List.set_cons_succ]
      refine wpAnyH_done (by kernel_rfl) ?_ _
      obtain ⟨q0, q1, q2, q3⟩ := hS
      obtain ⟨Y, hY⟩ : ∃ Y, rx ++ [91] ++ T ++ [93] = Y := ⟨_, rfl⟩
      have hYz := str_size Y
      have hYl : (Y.length : Int) ≤ 1000000000 := by rw [← hY]; simp only [List.length_append, List.length_cons, List.length_nil]; omega
      rw [hY]
      have HYd := hid hY
      clear hY
      go_wp2_with fail
      refine (CD.out _).mono ?_
      rintro e w3 ⟨rfl, hb3⟩
      have B3 := hid (B2.out.trans (hb3.mono B2.out.size))
      clear hb3
      go_wp2_with fail
      go_ret
      rw [HT.out]
      exact st_fin (app4 HYd.out) B3.out
set_option maxRecDepth 100000 in
set_option maxHeartbeats 4000000 in
theorem tolds_r {sz : Nat} (hV : TOk sz) : TsOk sz := by
  intro w N d u ks hu hr hnum hsz hl hkl
  obtain ⟨rows, hv, rfl, hrow⟩ := hu.open_
  obtain ⟨a, c, rfl, hc⟩ := hv.slice
  have HVs := hid hv
  have HRow := hid hrow
  have HNu := hid hnum
  have HSz := hid hsz
  have HR := hid hr
  have HL := hid hl
  clear hv hrow hu hnum hsz hr hl
  simp only [List.length_map] at hc hkl ⊢
  go_enter Tryz.func40, Tryz.ntmps40
  go_wp2_with fail
  go_loopw [3, 4] (fun s i wr => ∃ k : Nat, k ≤ rows.length ∧ i = .int .i64 k ∧ s = .string (str (toldL ((rows.map (·.2)).take k))) ∧ Below w.heap.size w wr) (fun _ i _ => rows.length - (intOf i).toNat)
  case atStart => exact ⟨0, by omega, rfl, rfl, Below.refl _ _⟩
  case round =>
    obtain ⟨k, hk, rfl, rfl, h2⟩ := hrel
    have H2 := hid h2
    clear h2
    by_cases hlt : k < rows.length
    · have hlt' : (k : Int) < rows.length := by omega
      have hne : rows.map (·.1) ≠ [] := by intro e; have := congrArg List.length e; simp at this; subst this; simp at hlt
      have hvs := HVs.out.kept (Kept.ofBelow H2.out []) (by simp)
      obtain ⟨g, o, c', he, hc', hga, hN, hg⟩ := hvs.at_ hne
      simp only [Value.slice.injEq] at he
      obtain ⟨rfl, _, rfl⟩ := he
      obtain ⟨p, hpk⟩ : ∃ p, rows[k] = p := ⟨_, rfl⟩
      have hp := HRow.out rows[k] (List.getElem_mem hlt)
      have hc5 := hga.v k rows[k].1 (by rw [List.getElem?_map, List.getElem?_eq_getElem hlt]; rfl)
      rw [hpk] at hp hc5
      have hxm : p.2 ∈ rows.map (·.2) := by rw [← hpk]; exact List.mem_map_of_mem (List.getElem_mem hlt)
      have hmk : (rows.map (·.2))[k]'(by simpa using hlt) = p.2 := by simp [hpk]
      have hnx := told_next (rows.map (·.2)) k (by simpa using hlt)
      rw [hmk] at hnx
      have hle := told_le (rows.map (·.2)) (k + 1)
      rw [hnx, List.length_append, List.length_append] at hle
      obtain ⟨⟨rk, rx, rn, ⟨ra, rb, rc⟩, ⟨rd, re, rf⟩⟩, x⟩ := p
      obtain ⟨c0, c1, c2, c3, c4⟩ := hc5
      simp only [Sl.v] at c3 c4 hxm hnx hle
      have D := hV wr N d ⟨rk, rx, rn, (ra, rb, rc), (rd, re, rf)⟩ x (hp.later H2.out) (rights_mem HR.out x hxm) (HNu.out.mem x hxm) (Nat.le_trans (sz_mem hxm) HSz.out) (by have := HL.out; omega)
      rw [vV_mk] at D
      have HNx := hid hnx
      have hs1 := str_size (toldL ((rows.map (·.2)).take k))
      have hs2 := str_size (told x)
      have hb1 : ((toldL ((rows.map (·.2)).take k)).length : Int) ≤ 1000000000 := by have := HL.out; omega
      have hb2 : ((told x).length : Int) ≤ 1000000000 := by have := HL.out; omega
      clear hga hp hxm hpk hvs hc' hmk hnx hle
      obtain ⟨P, hP⟩ : ∃ P, toldL ((rows.map (·.2)).take k) = P := ⟨_, rfl⟩
      rw [hP] at HNx hs1 hb1 ⊢
      obtain ⟨T, hT⟩ : ∃ T, told x = T := ⟨_, rfl⟩
      rw [hT] at HNx hs2 hb2 D
      clear hP hT
      by_cases hk0 : k = 0
      · have hk0' : ¬ (0 : Int) < k := by omega
        have HX : Hid (str P ++ str T = str (toldL ((rows.map (·.2)).take (k + 1)))) := by rw [Hid, HNx.out, if_pos hk0, app_str]; rfl
        clear hk0
        go_wp2_with fail
        refine D.mono ?_
        rintro e w2 ⟨rfl, b2⟩
        have B2 := hid (H2.out.trans (b2.mono H2.out.size))
        clear b2 D
        go_wp2_with fail
        go_round
        case rel => exact ⟨k + 1, by omega, by go_num, congrArg Value.string HX.out, B2.out⟩
        case measure => simp [intOf]; omega
      · have hk0' : (0 : Int) < k := by omega
        have HX : Hid (str P ++ (⟨#[32]⟩ : ByteArray) ++ str T = str (toldL ((rows.map (·.2)).take (k + 1)))) := by
          rw [Hid, HNx.out, if_neg hk0, show (⟨#[32]⟩ : ByteArray) = str [32] from rfl, app_str, app_str, List.append_assoc]
        clear hk0
        go_wp2_with fail
        refine D.mono ?_
        rintro e w2 ⟨rfl, b2⟩
        have B2 := hid (H2.out.trans (b2.mono H2.out.size))
        clear b2 D
        go_wp2_with fail
        go_round
        case rel => exact ⟨k + 1, by omega, by go_num, congrArg Value.string HX.out, B2.out⟩
        case measure => simp [intOf]; omega
    · have hlt' : ¬ (k : Int) < rows.length := by omega
      have HX : Hid (toldL ((rows.map (·.2)).take k) = toldL (rows.map (·.2))) := by rw [Hid, List.take_of_length_le (by simp; omega)]
      go_wp2_with fail
      go_ret
      rw [← HX.out]
      exact ⟨rfl, H2.out⟩
theorem t_zero : TOk 0 := by
  intro w N d r v hr hrt hn hs hl
  have := sz_kids v
  omega
theorem t_all : ∀ n, TOk n
  | 0 => t_zero
  | n + 1 => told_r (tolds_r (t_all n))
theorem ts_all (n : Nat) : TsOk n := tolds_r (t_all n)
end Go.Proofs.YtpjcpdnolcehcaaGreatDoor
namespace Go.Proofs.YtpjcpdnolcehcaaGreatDoor
open Go.RowKit
set_option linter.unusedVariables false
set_option linter.unusedSimpArgs false

theorem line_ref {l : Ln} (h : lineB l = true) : lineT l = l.tag ++ [32] ++ (if l.st = [] then [] else l.st ++ [32]) ++ codeP l.code ++ l.x ++ toldL l.vals ++ [13, 10] ∧ rightsB 0 l.code = true ∧ rightsB 0 l.vals = true := by
  obtain ⟨tag, vals, st, code, x⟩ := l
  unfold lineB at h
  simp only [Bool.and_eq_true] at h
  obtain ⟨_, h3⟩ := h
  unfold lineT
  simp only
  split at h3
  · rename_i ht
    simp only [Bool.and_eq_true, beq_iff_eq, List.isEmpty_iff] at h3
    obtain ⟨⟨rfl, rfl⟩, rfl⟩ := h3
    rw [if_pos ht]
    exact ⟨by simp [codeP, toldL, toldS], rfl, rfl⟩
  · rename_i ht
    rw [if_neg ht]
    split at h3
    · rename_i hs
      simp only [Bool.and_eq_true, List.isEmpty_iff] at h3
      obtain ⟨⟨_, rfl⟩, hr⟩ := h3
      rw [if_pos hs, if_neg hs]
      exact ⟨by simp [toldL, toldS], hr, rfl⟩
    · rename_i hs
      have hs0 : st = [] := by simpa using hs
      subst hs0
      simp only [Bool.and_eq_true, List.isEmpty_iff, beq_iff_eq] at h3
      obtain ⟨⟨rfl, rfl⟩, hr⟩ := h3
      rw [if_neg (by simp), if_pos rfl]
      refine ⟨by simp [codeP], rfl, ?_⟩
      cases vals with
      | nil => rfl
      | cons v vs =>
        unfold someB at hr
        simp only [Bool.and_eq_true] at hr
        exact hr.2
set_option maxRecDepth 100000 in
set_option maxHeartbeats 8000000 in
theorem print_r (w : World) (N : Nat → Prop) (u : Value) (ls : List Ln) (hu : LsAt w N u ls) (hn : ∀ l ∈ ls, NumN l) (hkl : ls.length ≤ 1000000000) (hl : (ls.flatMap lineT).length ≤ 1000000000) : Calls Tryz.prog 14 #[u] w (St (printP ls) w) := by
  obtain ⟨rows, hv, rfl, hrow⟩ := hu
  obtain ⟨a, c, rfl, hc⟩ := hv.slice
  have HVs := hid hv
  have HRow := hid hrow
  have HN := hid hn
  have HL := hid hl
  clear hv hrow hn hl
  simp only [List.length_map] at hc hkl ⊢
  have hl0 := fldL0
  have hl1 := fldL1
  have hl2 := fldL2
  have hl3 := fldL3
  have hl4 := fldL4
  go_enter Tryz.func14, Tryz.ntmps14
  go_wp2_with fail
  go_loopw [3, 4] (fun s i wr => ∃ k : Nat, k ≤ rows.length ∧ i = .int .i64 k ∧ s = .string (str (((rows.map (·.2)).take k).flatMap lineT)) ∧ Below w.heap.size w wr ∧ (∀ p ∈ rows.take k, lineB p.2 = true)) (fun _ i _ => rows.length - (intOf i).toNat)
  case atStart => exact ⟨0, by omega, rfl, rfl, Below.refl _ _, by simp⟩
  case round =>
    obtain ⟨k, hk, rfl, rfl, h2, h3⟩ := hrel
    have H2 := hid h2
    have H3 := hid h3
    clear h2 h3
    by_cases hlt : k < rows.length
    · have hlt' : (k : Int) < rows.length := by omega
      have hne : rows.map (·.1) ≠ [] := by intro e; have := congrArg List.length e; simp at this; subst this; simp at hlt
      obtain ⟨g, o, c', he, hc', hga, hN, hg⟩ := (HVs.out.kept (Kept.ofBelow H2.out []) (by simp)).at_ hne
      simp only [Value.slice.injEq] at he
      obtain ⟨rfl, hlen, rfl⟩ := he
      obtain ⟨p, hpk⟩ : ∃ p, rows[k] = p := ⟨_, rfl⟩
      have hp := HRow.out rows[k] (List.getElem_mem hlt)
      have hc5 := hga.l k rows[k].1 (by rw [List.getElem?_map, List.getElem?_eq_getElem hlt]; rfl)
      rw [hpk] at hp hc5
      have hxm : p.2 ∈ rows.map (·.2) := by rw [← hpk]; exact List.mem_map_of_mem (List.getElem_mem hlt)
      have hmk : (rows.map (·.2))[k]'(by simpa using hlt) = p.2 := by simp [hpk]
      have hnx := flatT_next (rows.map (·.2)) k (by simpa using hlt)
      rw [hmk] at hnx
      have hle := flatT_le (rows.map (·.2)) (k + 1)
      rw [hnx, List.length_append] at hle
      have hyes : lineB p.2 = true → ∀ q ∈ rows.take (k + 1), lineB q.2 = true := by
        intro hh q hq
        rw [List.take_succ_eq_append_getElem hlt, List.mem_append] at hq
        rcases hq with hq | hq
        · exact H3.out q hq
        · simp at hq; rw [hq, hpk]; exact hh
      obtain ⟨⟨rt, ⟨va, vb, vc⟩, rs, ⟨ca, cb, cc⟩, rx⟩, x⟩ := p
      have hpr := hp.later H2.out
      obtain ⟨et, es, ex, hvs, hcs⟩ := id hpr
      simp only [Sl.v] at et es ex hvs hcs
      subst et es ex
      obtain ⟨_, _, he, _⟩ := hvs.slice
      simp only [Value.slice.injEq] at he
      obtain ⟨rfl, rfl, rfl⟩ := he
      obtain ⟨_, _, he, _⟩ := hcs.slice
      simp only [Value.slice.injEq] at he
      obtain ⟨rfl, rfl, rfl⟩ := he
      obtain ⟨c0, c1, c2, c3, c4⟩ := hc5
      simp only [Sl.v] at c1 c3 hxm hnx hle hyes
      have CR := right_r wr N ⟨x.tag, (va, x.vals.length, vc), x.st, (ca, x.code.length, cc), x.x⟩ x hpr (HN.out x hxm)
      rw [lV_mk] at CR
      have HXm := hid hxm
      have HY := hid hyes
      obtain ⟨n1, n2, n3, n4, n5, n6, n7⟩ := HN.out x hxm
      have HRef := hid (fun h : lineB x = true => line_ref (l := x) h)
      have CC := hid (fun (hr : rightsB 0 x.code = true) (hl2 : (toldL x.code).length ≤ 1000000000) (w' : World) (hW : Below wr.heap.size wr w') => ts_all (szL x.code) w' N 0 _ x.code (hcs.later hW) hr n2 (Nat.le_refl _) hl2 n7)
      have CV := hid (fun (hr : rightsB 0 x.vals = true) (hl2 : (toldL x.vals).length ≤ 1000000000) (w' : World) (hW : Below wr.heap.size wr w') => ts_all (szL x.vals) w' N 0 _ x.vals (hvs.later hW) hr n1 (Nat.le_refl _) hl2 n6)
      have HLe := hid hle
      have HNx := hid hnx
      have HCE : Hid (codeP x.code = if x.code.length = 0 then [] else [91] ++ toldL x.code ++ [93, 32]) := by
        unfold Hid codeP
        cases x.code <;> rfl
      have hgz : g < wr.heap.size := hg
      clear hga hp hpr hxm hpk hmk hnx hle hyes hvs hcs hlen hc' n1 n2 n3 n4 n5 n6 n7
      rcases hb : lineB x with _ | _
      · rw [hb] at CR
        have hX := hid (print_no HXm.out hb)
        clear hb
        go_wp2_with fail
        refine CR.mono ?_
        rintro e w2 ⟨rfl, b2⟩
        have B2 := hid (H2.out.trans (b2.mono H2.out.size))
        clear b2 CR
        go_wp2_with fail
        go_ret
        rw [hX.out]
        exact ⟨rfl, B2.out⟩
      · rw [hb] at CR
        obtain ⟨hT, hrc, hrv⟩ := HRef.out hb
        have hY := hid (HY.out hb)
        have hTl : (lineT x).length ≤ 1000000000 := by have := HLe.out; have := HL.out; omega
        rw [hT] at hTl
        have HT := hid hT
        have HBd := hid (show (((rows.map (·.2)).take k).flatMap lineT).length + (lineT x).length ≤ 1000000000 from by have := HLe.out; have := HL.out; omega)
        have hTl2 := hTl
        simp only [List.length_append, List.length_cons, List.length_nil] at hTl2
        have hcl : (toldL x.code).length ≤ 1000000000 := by
          by_cases h0 : x.code.length = 0
          · rw [List.eq_nil_of_length_eq_zero h0]; simp [toldL, toldS]
          · have h9 := HCE.out
            rw [if_neg h0] at h9
            rw [h9] at hTl2
            simp only [List.length_append, List.length_cons, List.length_nil] at hTl2
            omega
        have CC2 := hid (CC.out hrc hcl)
        have CV2 := hid (CV.out hrv (by omega))
        have hz1 := str_size x.tag
        have hz2 := str_size x.st
        have hz3 := str_size x.x
        have hz4 := str_size (toldL x.code)
        have hz5 := str_size (toldL x.vals)
        have hz6 := str_size (((rows.map (·.2)).take k).flatMap lineT)
        have y1 : (x.tag.length : Int) ≤ 1000000000 := by omega
        have y2 : (x.x.length : Int) ≤ 1000000000 := by omega
        have y3 : ((toldL x.vals).length : Int) ≤ 1000000000 := by omega
        have y4 : ((toldL x.code).length : Int) ≤ 1000000000 := by omega
        have y5 : ((((rows.map (·.2)).take k).flatMap lineT).length : Int) ≤ 1000000000 := by have := HLe.out; have := HL.out; omega
        have y6 : x.st = [] ∨ (x.st.length : Int) ≤ 1000000000 := by
          by_cases h : x.st = []
          · exact .inl h
          · right; rw [if_neg h] at hTl2; simp only [List.length_append, List.length_cons, List.length_nil] at hTl2; omega
        clear hT hTl hTl2 hrc hrv hcl CC CV HRef HY HXm hb
        obtain ⟨P, hP⟩ : ∃ P, ((rows.map (·.2)).take k).flatMap lineT = P := ⟨_, rfl⟩
        rw [hP] at HNx hz6 y5 HBd ⊢
        obtain ⟨TV, hTV⟩ : ∃ TV, toldL x.vals = TV := ⟨_, rfl⟩
        rw [hTV] at CV2 HT hz5 y3
        obtain ⟨TC, hTC⟩ : ∃ TC, toldL x.code = TC := ⟨_, rfl⟩
        rw [hTC] at CC2 HCE hz4 y4
        clear hP hTV hTC
        obtain ⟨tag, vals, st, code, tx⟩ := x
        simp only at CR CC2 CV2 HT HCE c0 c1 c2 c3 c4 hz1 hz2 hz3 y1 y2 y6
        generalize vals.length = V at *
        generalize code.length = K at *
        have b16 : (⟨#[32]⟩ : ByteArray) = str [32] := rfl
        have HFin : ∀ z : ByteArray, z = str (P ++ lineT ⟨tag, vals, st, code, tx⟩) → Value.string z = .string (str (((rows.map (·.2)).take (k + 1)).flatMap lineT)) := fun z hz => by rw [hz, HNx.out]
        have HFinH := hid HFin
        clear HFin b16 HN HL HLe HNx HRow
        go_wp2_with fail
        refine CR.mono ?_
        rintro e w2 ⟨rfl, b2⟩
        have B2w := hid b2
        have B2 := hid (H2.out.trans (b2.mono H2.out.size))
        have d0 := (b2.cell hgz).trans c0
        have d1 := (b2.cell hgz).trans c1
        have d2 := (b2.cell hgz).trans c2
        have d3 := (b2.cell hgz).trans c3
        have d4 := (b2.cell hgz).trans c4
        have hg2 : g < w2.heap.size := Nat.lt_of_lt_of_le hgz b2.size
        clear b2 CR c0 c1 c2 c3 c4
        by_cases hst : st = []
        · subst hst
          have s1 : (str ([] : Bs)).toList = ([] : Bs) := by rw [toL]
          have s2 : (str ([] : Bs)).toList.isEmpty = true := by rw [toL]; rfl
          clear y6
          by_cases hK : K = 0
          · subst hK
            go_wp2_with fail
            have hz : str P ++ str tag ++ (⟨#[32]⟩ : ByteArray) = str (P ++ tag ++ [32]) := by rw [show (⟨#[32]⟩ : ByteArray) = str [32] from rfl]; simp only [app_str]
            rw [hz]
            clear hz
            obtain ⟨Z, hZ⟩ : ∃ Z, P ++ tag ++ [32] = Z := ⟨_, rfl⟩
            rw [hZ]
            have HZ := hid hZ
            have hZl : Z.length + tx.length + TV.length + 2 ≤ 1000000000 := by
              have hh := HBd.out
              rw [← hZ]
              simp only [List.length_append, List.length_cons, List.length_nil]
              rw [HT.out, HCE.out] at hh
              simp [*] at hh
              omega
            clear hZ
            have HDr : Hid (Below w.heap.size w w2.drew) := B2.out.drew
            have CVd := hid (CV2.out w2.drew (B2w.out.drew))
            have hgd : g < w2.drew.heap.size := hg2
            clear CV2
            refine wp_region_held_drew (S := fun w' => w'.cell? ⟨g, o + k * 5 + 4, none⟩ = some (.string (str tx)) ∧ w'.cell? ⟨g, o + k * 5 + 1, none⟩ = some (.slice va V vc)) (by kernel_rfl) ⟨d4, d1⟩ ?_
            intro hS
            refine anyH_takeW 0 ⟨some 56, _, _, _, _, none⟩ (.string (str Z)) rfl (by kernel_rfl) (by kernel_rfl) (by kernel_rfl) (by kernel_rfl) (fun _ _ _ h => h) (fun _ _ => rfl) hS ?_
            simp only [Act.put, List.setIfInBounds_toArray, List.set_cons_zero, List.set_cons_succ]
            refine anyH_takeW 1 ⟨some 57, _, _, _, _, none⟩ (.slice (some ⟨g, o, none⟩) rows.length c) rfl (by kernel_rfl) (by kernel_rfl) (by kernel_rfl) (by kernel_rfl) (fun _ _ _ h => h) (fun _ _ => rfl) hS ?_
            simp only [Act.put, List.setIfInBounds_toArray, List.set_cons_zero, List.set_cons_succ]
            refine anyH_takeW 2 ⟨some 58, _, _, _, _, none⟩ (.int .i64 k) rfl (by kernel_rfl) (by kernel_rfl) (by kernel_rfl) (by kernel_rfl) (fun _ _ _ h => h) (fun _ _ => rfl) hS ?_
            simp only [Act.put, List.setIfInBounds_toArray, List.set_cons_zero, List.set_cons_succ]
            refine anyH_takeW 3 ⟨some 59, _, _, _, _, none⟩ (.pointer (some ⟨g, o + k * 5, none⟩)) rfl (by kernel_rfl) (by kernel_rfl) (by kernel_rfl) (by kernel_rfl) (fun _ _ _ h => h) (fun w' h => by (try dsimp only at h); obtain ⟨s0, s1⟩ := h; go_simp) hS ?_
            simp only [Act.put, List.setIfInBounds_toArray, List.set_cons_zero, List.set_cons_succ]
            refine anyH_takeW 4 ⟨some 60, _, _, _, _, none⟩ (.pointer (some ⟨g, o + k * 5 + 4, none⟩)) rfl (by kernel_rfl) (by kernel_rfl) (by kernel_rfl) (by kernel_rfl) (fun _ _ _ h => h) (fun w' h => by (try dsimp only at h); obtain ⟨s0, s1⟩ := h; go_simp) hS ?_
            simp only [Act.put, List.setIfInBounds_toArray, List.set_cons_zero, List.set_cons_succ]
            refine anyH_takeW 5 ⟨some 61, _, _, _, _, none⟩ (.string (str tx)) rfl (by kernel_rfl) (by kernel_rfl) (by kernel_rfl) (by kernel_rfl) (fun _ _ _ h => h) (fun w' h => by (try dsimp only at h); obtain ⟨s0, s1⟩ := h; go_simp) hS ?_
            simp only [Act.put, List.setIfInBounds_toArray, List.set_cons_zero, List.set_cons_succ]
            refine anyH_takeW 6 ⟨some 62, _, _, _, _, none⟩ (.string (str (Z ++ tx))) rfl (by kernel_rfl) (by kernel_rfl) (by kernel_rfl) (by kernel_rfl) (fun _ _ _ h => h) (fun w' h => exec_addL (l := Z) (m := tx) (by kernel_rfl) (by kernel_rfl) (by omega)) hS ?_
            simp only [Act.put, List.setIfInBounds_toArray, List.set_cons_zero, List.set_cons_succ]
            refine anyH_takeW 7 ⟨some 63, _, _, _, _, none⟩ (.slice (some ⟨g, o, none⟩) rows.length c) rfl (by kernel_rfl) (by kernel_rfl) (by kernel_rfl) (by kernel_rfl) (fun _ _ _ h => h) (fun _ _ => rfl) hS ?_
            simp only [Act.put, List.setIfInBounds_toArray, List.set_cons_zero, List.set_cons_succ]
            refine anyH_takeW 8 ⟨some 64, _, _, _, _, none⟩ (.int .i64 k) rfl (by kernel_rfl) (by kernel_rfl) (by kernel_rfl) (by kernel_rfl) (fun _ _ _ h => h) (fun _ _ => rfl) hS ?_
            simp only [Act.put, List.setIfInBounds_toArray, List.set_cons_zero, List.set_cons_succ]
            refine anyH_takeW 9 ⟨some 65, _, _, _, _, none⟩ (.pointer (some ⟨g, o + k * 5, none⟩)) rfl (by kernel_rfl) (by kernel_rfl) (by kernel_rfl) (by kernel_rfl) (fun _ _ _ h => h) (fun w' h => by (try dsimp only at h); obtain ⟨s0, s1⟩ := h; go_simp) hS ?_
            simp only [Act.put, List.setIfInBounds_toArray, List.set_cons_zero, List.set_cons_succ]
            refine anyH_takeW 10 ⟨some 66, _, _, _, _, none⟩ (.pointer (some ⟨g, o + k * 5 + 1, none⟩)) rfl (by kernel_rfl) (by kernel_rfl) (by kernel_rfl) (by kernel_rfl) (fun _ _ _ h => h) (fun w' h => by (try dsimp only at h); obtain ⟨s0, s1⟩ := h; go_simp) hS ?_
            simp only [Act.put, List.setIfInBounds_toArray, List.set_cons_zero, List.set_cons_succ]
            refine anyH_takeW 11 ⟨some 67, _, _, _, _, none⟩ (.slice va V vc) rfl (by kernel_rfl) (by kernel_rfl) (by kernel_rfl) (by kernel_rfl) (fun _ _ _ h => h) (fun w' h => by (try dsimp only at h); obtain ⟨s0, s1⟩ := h; go_simp) hS ?_
            simp only [Act.put, List.setIfInBounds_toArray, List.set_cons_zero, List.set_cons_succ]
            refine anyH_callW 12 ⟨some 68, _, _, _, _, none⟩ 40 #[.slice va V vc] (by kernel_rfl) rfl (by kernel_rfl) (exec_call40 (by kernel_rfl)) ?_
            refine CVd.out.mono ?_
            rintro e w9 ⟨rfl, hb9⟩
            have B9 := hid (HDr.out.trans (hb9.mono HDr.out.size))
            clear hS
            have hS : w9.cell? ⟨g, o + k * 5 + 4, none⟩ = some (.string (str tx)) ∧ w9.cell? ⟨g, o + k * 5 + 1, none⟩ = some (.slice va V vc) := ⟨(hb9.cell hgd).trans d4, (hb9.cell hgd).trans d1⟩
            clear hb9
            refine ⟨_, rfl, hS, ?_⟩
            simp only [Act.put, List.setIfInBounds_toArray, List.set_cons_zero, List.set_cons_succ]
            refine anyH_takeW 13 ⟨some 69, _, _, _, _, none⟩ (.string (str (Z ++ tx ++ TV))) rfl (by kernel_rfl) (by kernel_rfl) (by kernel_rfl) (by kernel_rfl) (fun _ _ _ h => h) (fun w' h => exec_addL (l := Z ++ tx) (m := TV) (by kernel_rfl) (by kernel_rfl) (by simp only [List.length_append, List.length_cons, List.length_nil]; omega)) hS ?_
            simp only [Act.put, List.setIfInBounds_toArray, List.set_cons_zero, List.set_cons_succ]
            refine anyH_takeW 14 ⟨some 70, _, _, _, _, none⟩ (.string (str (Z ++ tx ++ TV ++ [13, 10]))) rfl (by kernel_rfl) (by kernel_rfl) (by kernel_rfl) (by kernel_rfl) (fun _ _ _ h => h) (fun w' h => exec_addL (l := Z ++ tx ++ TV) (m := [13, 10]) (by kernel_rfl) (by kernel_rfl) (by simp only [List.length_append, List.length_cons, List.length_nil]; omega)) hS ?_
            simp only [Act.put, List.setIfInBounds_toArray, List.set_cons_zero, List.set_cons_succ]
            refine anyH_takeW 15 ⟨some 3, _, _, _, _, none⟩ (.string (str (Z ++ tx ++ TV ++ [13, 10]))) rfl (by kernel_rfl) (by kernel_rfl) (by kernel_rfl) (by kernel_rfl) (fun _ _ _ h => h) (fun _ _ => rfl) hS ?_
            simp only [Act.put, List.setIfInBounds_toArray, List.set_cons_zero, List.set_cons_succ]
            refine wpAnyH_done (by kernel_rfl) ?_ _
            go_wp2_with fail
            go_round
            case rel =>
              refine ⟨k + 1, by omega, by go_num, HFinH.out _ ?_, B9.out, hY.out⟩
              rw [HT.out, HCE.out, ← HZ.out]
              simp [*]
            case measure => simp [intOf]; omega
          · have hK1 : (0 : Int) < K := by omega
            have hK2 : 0 < K := by omega
            have CC3 := CC2.out w2 B2w.out
            clear CC2
            go_wp2_with fail
            refine CC3.mono ?_
            rintro e w3 ⟨rfl, b3⟩
            have B3w := hid (B2w.out.trans (b3.mono B2w.out.size))
            have B3 := hid (B2.out.trans (b3.mono B2.out.size))
            have f0 := (b3.cell hg2).trans d0
            have f1 := (b3.cell hg2).trans d1
            have f2 := (b3.cell hg2).trans d2
            have f3 := (b3.cell hg2).trans d3
            have f4 := (b3.cell hg2).trans d4
            have hg3 : g < w3.heap.size := Nat.lt_of_lt_of_le hg2 b3.size
            clear b3 CC3 d0 d1 d2 d3 d4
            go_wp2_with fail
            have hz : str P ++ str tag ++ (⟨#[32]⟩ : ByteArray) ++ (⟨#[91]⟩ : ByteArray) ++ str TC ++ (⟨#[93, 32]⟩ : ByteArray) = str (P ++ tag ++ [32] ++ [91] ++ TC ++ [93, 32]) := by rw [show (⟨#[32]⟩ : ByteArray) = str [32] from rfl, show (⟨#[91]⟩ : ByteArray) = str [91] from rfl, show (⟨#[93, 32]⟩ : ByteArray) = str [93, 32] from rfl]; simp only [app_str]
            rw [hz]
            clear hz
            obtain ⟨Z, hZ⟩ : ∃ Z, P ++ tag ++ [32] ++ [91] ++ TC ++ [93, 32] = Z := ⟨_, rfl⟩
            rw [hZ]
            have HZ := hid hZ
            have hZl : Z.length + tx.length + TV.length + 2 ≤ 1000000000 := by
              have hh := HBd.out
              rw [← hZ]
              simp only [List.length_append, List.length_cons, List.length_nil]
              rw [HT.out, HCE.out] at hh
              simp [*] at hh
              omega
            clear hZ
            have HDr : Hid (Below w.heap.size w w3.drew) := B3.out.drew
            have CVd := hid (CV2.out w3.drew (B3w.out.drew))
            have hgd : g < w3.drew.heap.size := hg3
            clear CV2
            refine wp_region_held_drew (S := fun w' => w'.cell? ⟨g, o + k * 5 + 4, none⟩ = some (.string (str tx)) ∧ w'.cell? ⟨g, o + k * 5 + 1, none⟩ = some (.slice va V vc)) (by kernel_rfl) ⟨f4, f1⟩ ?_
            intro hS
            refine anyH_takeW 0 ⟨some 56, _, _, _, _, none⟩ (.string (str Z)) rfl (by kernel_rfl) (by kernel_rfl) (by kernel_rfl) (by kernel_rfl) (fun _ _ _ h => h) (fun _ _ => rfl) hS ?_
            simp only [Act.put, List.setIfInBounds_toArray, List.set_cons_zero, List.set_cons_succ]
            refine anyH_takeW 1 ⟨some 57, _, _, _, _, none⟩ (.slice (some ⟨g, o, none⟩) rows.length c) rfl (by kernel_rfl) (by kernel_rfl) (by kernel_rfl) (by kernel_rfl) (fun _ _ _ h => h) (fun _ _ => rfl) hS ?_
            simp only [Act.put, List.setIfInBounds_toArray, List.set_cons_zero, List.set_cons_succ]
            refine anyH_takeW 2 ⟨some 58, _, _, _, _, none⟩ (.int .i64 k) rfl (by kernel_rfl) (by kernel_rfl) (by kernel_rfl) (by kernel_rfl) (fun _ _ _ h => h) (fun _ _ => rfl) hS ?_
            simp only [Act.put, List.setIfInBounds_toArray, List.set_cons_zero, List.set_cons_succ]
            refine anyH_takeW 3 ⟨some 59, _, _, _, _, none⟩ (.pointer (some ⟨g, o + k * 5, none⟩)) rfl (by kernel_rfl) (by kernel_rfl) (by kernel_rfl) (by kernel_rfl) (fun _ _ _ h => h) (fun w' h => by (try dsimp only at h); obtain ⟨s0, s1⟩ := h; go_simp) hS ?_
            simp only [Act.put, List.setIfInBounds_toArray, List.set_cons_zero, List.set_cons_succ]
            refine anyH_takeW 4 ⟨some 60, _, _, _, _, none⟩ (.pointer (some ⟨g, o + k * 5 + 4, none⟩)) rfl (by kernel_rfl) (by kernel_rfl) (by kernel_rfl) (by kernel_rfl) (fun _ _ _ h => h) (fun w' h => by (try dsimp only at h); obtain ⟨s0, s1⟩ := h; go_simp) hS ?_
            simp only [Act.put, List.setIfInBounds_toArray, List.set_cons_zero, List.set_cons_succ]
            refine anyH_takeW 5 ⟨some 61, _, _, _, _, none⟩ (.string (str tx)) rfl (by kernel_rfl) (by kernel_rfl) (by kernel_rfl) (by kernel_rfl) (fun _ _ _ h => h) (fun w' h => by (try dsimp only at h); obtain ⟨s0, s1⟩ := h; go_simp) hS ?_
            simp only [Act.put, List.setIfInBounds_toArray, List.set_cons_zero, List.set_cons_succ]
            refine anyH_takeW 6 ⟨some 62, _, _, _, _, none⟩ (.string (str (Z ++ tx))) rfl (by kernel_rfl) (by kernel_rfl) (by kernel_rfl) (by kernel_rfl) (fun _ _ _ h => h) (fun w' h => exec_addL (l := Z) (m := tx) (by kernel_rfl) (by kernel_rfl) (by omega)) hS ?_
            simp only [Act.put, List.setIfInBounds_toArray, List.set_cons_zero, List.set_cons_succ]
            refine anyH_takeW 7 ⟨some 63, _, _, _, _, none⟩ (.slice (some ⟨g, o, none⟩) rows.length c) rfl (by kernel_rfl) (by kernel_rfl) (by kernel_rfl) (by kernel_rfl) (fun _ _ _ h => h) (fun _ _ => rfl) hS ?_
            simp only [Act.put, List.setIfInBounds_toArray, List.set_cons_zero, List.set_cons_succ]
            refine anyH_takeW 8 ⟨some 64, _, _, _, _, none⟩ (.int .i64 k) rfl (by kernel_rfl) (by kernel_rfl) (by kernel_rfl) (by kernel_rfl) (fun _ _ _ h => h) (fun _ _ => rfl) hS ?_
            simp only [Act.put, List.setIfInBounds_toArray, List.set_cons_zero, List.set_cons_succ]
            refine anyH_takeW 9 ⟨some 65, _, _, _, _, none⟩ (.pointer (some ⟨g, o + k * 5, none⟩)) rfl (by kernel_rfl) (by kernel_rfl) (by kernel_rfl) (by kernel_rfl) (fun _ _ _ h => h) (fun w' h => by (try dsimp only at h); obtain ⟨s0, s1⟩ := h; go_simp) hS ?_
            simp only [Act.put, List.setIfInBounds_toArray, List.set_cons_zero, List.set_cons_succ]
            refine anyH_takeW 10 ⟨some 66, _, _, _, _, none⟩ (.pointer (some ⟨g, o + k * 5 + 1, none⟩)) rfl (by kernel_rfl) (by kernel_rfl) (by kernel_rfl) (by kernel_rfl) (fun _ _ _ h => h) (fun w' h => by (try dsimp only at h); obtain ⟨s0, s1⟩ := h; go_simp) hS ?_
            simp only [Act.put, List.setIfInBounds_toArray, List.set_cons_zero, List.set_cons_succ]
            refine anyH_takeW 11 ⟨some 67, _, _, _, _, none⟩ (.slice va V vc) rfl (by kernel_rfl) (by kernel_rfl) (by kernel_rfl) (by kernel_rfl) (fun _ _ _ h => h) (fun w' h => by (try dsimp only at h); obtain ⟨s0, s1⟩ := h; go_simp) hS ?_
            simp only [Act.put, List.setIfInBounds_toArray, List.set_cons_zero, List.set_cons_succ]
            refine anyH_callW 12 ⟨some 68, _, _, _, _, none⟩ 40 #[.slice va V vc] (by kernel_rfl) rfl (by kernel_rfl) (exec_call40 (by kernel_rfl)) ?_
            refine CVd.out.mono ?_
            rintro e w9 ⟨rfl, hb9⟩
            have B9 := hid (HDr.out.trans (hb9.mono HDr.out.size))
            clear hS
            have hS : w9.cell? ⟨g, o + k * 5 + 4, none⟩ = some (.string (str tx)) ∧ w9.cell? ⟨g, o + k * 5 + 1, none⟩ = some (.slice va V vc) := ⟨(hb9.cell hgd).trans f4, (hb9.cell hgd).trans f1⟩
            clear hb9
            refine ⟨_, rfl, hS, ?_⟩
            simp only [Act.put, List.setIfInBounds_toArray, List.set_cons_zero, List.set_cons_succ]
            refine anyH_takeW 13 ⟨some 69, _, _, _, _, none⟩ (.string (str (Z ++ tx ++ TV))) rfl (by kernel_rfl) (by kernel_rfl) (by kernel_rfl) (by kernel_rfl) (fun _ _ _ h => h) (fun w' h => exec_addL (l := Z ++ tx) (m := TV) (by kernel_rfl) (by kernel_rfl) (by simp only [List.length_append, List.length_cons, List.length_nil]; omega)) hS ?_
            simp only [Act.put, List.setIfInBounds_toArray, List.set_cons_zero, List.set_cons_succ]
            refine anyH_takeW 14 ⟨some 70, _, _, _, _, none⟩ (.string (str (Z ++ tx ++ TV ++ [13, 10]))) rfl (by kernel_rfl) (by kernel_rfl) (by kernel_rfl) (by kernel_rfl) (fun _ _ _ h => h) (fun w' h => exec_addL (l := Z ++ tx ++ TV) (m := [13, 10]) (by kernel_rfl) (by kernel_rfl) (by simp only [List.length_append, List.length_cons, List.length_nil]; omega)) hS ?_
            simp only [Act.put, List.setIfInBounds_toArray, List.set_cons_zero, List.set_cons_succ]
            refine anyH_takeW 15 ⟨some 3, _, _, _, _, none⟩ (.string (str (Z ++ tx ++ TV ++ [13, 10]))) rfl (by kernel_rfl) (by kernel_rfl) (by kernel_rfl) (by kernel_rfl) (fun _ _ _ h => h) (fun _ _ => rfl) hS ?_
            simp only [Act.put, List.setIfInBounds_toArray, List.set_cons_zero, List.set_cons_succ]
            refine wpAnyH_done (by kernel_rfl) ?_ _
            go_wp2_with fail
            go_round
            case rel =>
              refine ⟨k + 1, by omega, by go_num, HFinH.out _ ?_, B9.out, hY.out⟩
              rw [HT.out, HCE.out, ← HZ.out]
              simp [*]
            case measure => simp [intOf]; omega
        · have s1 : ((str st).toList == ([] : Bs)) = false := by rw [toL, beq_eq_false_iff_ne]; exact hst
          have s2 : (str st).toList.isEmpty = false := by rw [toL]; simpa using hst
          have s3 : ¬ (str st).toList = ([] : Bs) := by rw [toL]; exact hst
          have y7 : (st.length : Int) ≤ 1000000000 := y6.resolve_left hst
          clear y6
          by_cases hK : K = 0
          · subst hK
            go_wp2_with fail
            have hz : str P ++ str tag ++ (⟨#[32]⟩ : ByteArray) ++ str st ++ (⟨#[32]⟩ : ByteArray) = str (P ++ tag ++ [32] ++ st ++ [32]) := by rw [show (⟨#[32]⟩ : ByteArray) = str [32] from rfl]; simp only [app_str]
            rw [hz]
            clear hz
            obtain ⟨Z, hZ⟩ : ∃ Z, P ++ tag ++ [32] ++ st ++ [32] = Z := ⟨_, rfl⟩
            rw [hZ]
            have HZ := hid hZ
            have hZl : Z.length + tx.length + TV.length + 2 ≤ 1000000000 := by
              have hh := HBd.out
              rw [← hZ]
              simp only [List.length_append, List.length_cons, List.length_nil]
              rw [HT.out, HCE.out] at hh
              simp [*] at hh
              omega
            clear hZ
            have HDr : Hid (Below w.heap.size w w2.drew) := B2.out.drew
            have CVd := hid (CV2.out w2.drew (B2w.out.drew))
            have hgd : g < w2.drew.heap.size := hg2
            clear CV2
            refine wp_region_held_drew (S := fun w' => w'.cell? ⟨g, o + k * 5 + 4, none⟩ = some (.string (str tx)) ∧ w'.cell? ⟨g, o + k * 5 + 1, none⟩ = some (.slice va V vc)) (by kernel_rfl) ⟨d4, d1⟩ ?_
            intro hS
            refine anyH_takeW 0 ⟨some 56, _, _, _, _, none⟩ (.string (str Z)) rfl (by kernel_rfl) (by kernel_rfl) (by kernel_rfl) (by kernel_rfl) (fun _ _ _ h => h) (fun _ _ => rfl) hS ?_
            simp only [Act.put, List.setIfInBounds_toArray, List.set_cons_zero, List.set_cons_succ]
            refine anyH_takeW 1 ⟨some 57, _, _, _, _, none⟩ (.slice (some ⟨g, o, none⟩) rows.length c) rfl (by kernel_rfl) (by kernel_rfl) (by kernel_rfl) (by kernel_rfl) (fun _ _ _ h => h) (fun _ _ => rfl) hS ?_
            simp only [Act.put, List.setIfInBounds_toArray, List.set_cons_zero, List.set_cons_succ]
            refine anyH_takeW 2 ⟨some 58, _, _, _, _, none⟩ (.int .i64 k) rfl (by kernel_rfl) (by kernel_rfl) (by kernel_rfl) (by kernel_rfl) (fun _ _ _ h => h) (fun _ _ => rfl) hS ?_
            simp only [Act.put, List.setIfInBounds_toArray, List.set_cons_zero, List.set_cons_succ]
            refine anyH_takeW 3 ⟨some 59, _, _, _, _, none⟩ (.pointer (some ⟨g, o + k * 5, none⟩)) rfl (by kernel_rfl) (by kernel_rfl) (by kernel_rfl) (by kernel_rfl) (fun _ _ _ h => h) (fun w' h => by (try dsimp only at h); obtain ⟨s0, s1⟩ := h; go_simp) hS ?_
            simp only [Act.put, List.setIfInBounds_toArray, List.set_cons_zero, List.set_cons_succ]
            refine anyH_takeW 4 ⟨some 60, _, _, _, _, none⟩ (.pointer (some ⟨g, o + k * 5 + 4, none⟩)) rfl (by kernel_rfl) (by kernel_rfl) (by kernel_rfl) (by kernel_rfl) (fun _ _ _ h => h) (fun w' h => by (try dsimp only at h); obtain ⟨s0, s1⟩ := h; go_simp) hS ?_
            simp only [Act.put, List.setIfInBounds_toArray, List.set_cons_zero, List.set_cons_succ]
            refine anyH_takeW 5 ⟨some 61, _, _, _, _, none⟩ (.string (str tx)) rfl (by kernel_rfl) (by kernel_rfl) (by kernel_rfl) (by kernel_rfl) (fun _ _ _ h => h) (fun w' h => by (try dsimp only at h); obtain ⟨s0, s1⟩ := h; go_simp) hS ?_
            simp only [Act.put, List.setIfInBounds_toArray, List.set_cons_zero, List.set_cons_succ]
            refine anyH_takeW 6 ⟨some 62, _, _, _, _, none⟩ (.string (str (Z ++ tx))) rfl (by kernel_rfl) (by kernel_rfl) (by kernel_rfl) (by kernel_rfl) (fun _ _ _ h => h) (fun w' h => exec_addL (l := Z) (m := tx) (by kernel_rfl) (by kernel_rfl) (by omega)) hS ?_
            simp only [Act.put, List.setIfInBounds_toArray, List.set_cons_zero, List.set_cons_succ]
            refine anyH_takeW 7 ⟨some 63, _, _, _, _, none⟩ (.slice (some ⟨g, o, none⟩) rows.length c) rfl (by kernel_rfl) (by kernel_rfl) (by kernel_rfl) (by kernel_rfl) (fun _ _ _ h => h) (fun _ _ => rfl) hS ?_
            simp only [Act.put, List.setIfInBounds_toArray, List.set_cons_zero, List.set_cons_succ]
            refine anyH_takeW 8 ⟨some 64, _, _, _, _, none⟩ (.int .i64 k) rfl (by kernel_rfl) (by kernel_rfl) (by kernel_rfl) (by kernel_rfl) (fun _ _ _ h => h) (fun _ _ => rfl) hS ?_
            simp only [Act.put, List.setIfInBounds_toArray, List.set_cons_zero, List.set_cons_succ]
            refine anyH_takeW 9 ⟨some 65, _, _, _, _, none⟩ (.pointer (some ⟨g, o + k * 5, none⟩)) rfl (by kernel_rfl) (by kernel_rfl) (by kernel_rfl) (by kernel_rfl) (fun _ _ _ h => h) (fun w' h => by (try dsimp only at h); obtain ⟨s0, s1⟩ := h; go_simp) hS ?_
            simp only [Act.put, List.setIfInBounds_toArray, List.set_cons_zero, List.set_cons_succ]
            refine anyH_takeW 10 ⟨some 66, _, _, _, _, none⟩ (.pointer (some ⟨g, o + k * 5 + 1, none⟩)) rfl (by kernel_rfl) (by kernel_rfl) (by kernel_rfl) (by kernel_rfl) (fun _ _ _ h => h) (fun w' h => by (try dsimp only at h); obtain ⟨s0, s1⟩ := h; go_simp) hS ?_
            simp only [Act.put, List.setIfInBounds_toArray, List.set_cons_zero, List.set_cons_succ]
            refine anyH_takeW 11 ⟨some 67, _, _, _, _, none⟩ (.slice va V vc) rfl (by kernel_rfl) (by kernel_rfl) (by kernel_rfl) (by kernel_rfl) (fun _ _ _ h => h) (fun w' h => by (try dsimp only at h); obtain ⟨s0, s1⟩ := h; go_simp) hS ?_
            simp only [Act.put, List.setIfInBounds_toArray, List.set_cons_zero, List.set_cons_succ]
            refine anyH_callW 12 ⟨some 68, _, _, _, _, none⟩ 40 #[.slice va V vc] (by kernel_rfl) rfl (by kernel_rfl) (exec_call40 (by kernel_rfl)) ?_
            refine CVd.out.mono ?_
            rintro e w9 ⟨rfl, hb9⟩
            have B9 := hid (HDr.out.trans (hb9.mono HDr.out.size))
            clear hS
            have hS : w9.cell? ⟨g, o + k * 5 + 4, none⟩ = some (.string (str tx)) ∧ w9.cell? ⟨g, o + k * 5 + 1, none⟩ = some (.slice va V vc) := ⟨(hb9.cell hgd).trans d4, (hb9.cell hgd).trans d1⟩
            clear hb9
            refine ⟨_, rfl, hS, ?_⟩
            simp only [Act.put, List.setIfInBounds_toArray, List.set_cons_zero, List.set_cons_succ]
            refine anyH_takeW 13 ⟨some 69, _, _, _, _, none⟩ (.string (str (Z ++ tx ++ TV))) rfl (by kernel_rfl) (by kernel_rfl) (by kernel_rfl) (by kernel_rfl) (fun _ _ _ h => h) (fun w' h => exec_addL (l := Z ++ tx) (m := TV) (by kernel_rfl) (by kernel_rfl) (by simp only [List.length_append, List.length_cons, List.length_nil]; omega)) hS ?_
            simp only [Act.put, List.setIfInBounds_toArray, List.set_cons_zero, List.set_cons_succ]
            refine anyH_takeW 14 ⟨some 70, _, _, _, _, none⟩ (.string (str (Z ++ tx ++ TV ++ [13, 10]))) rfl (by kernel_rfl) (by kernel_rfl) (by kernel_rfl) (by kernel_rfl) (fun _ _ _ h => h) (fun w' h => exec_addL (l := Z ++ tx ++ TV) (m := [13, 10]) (by kernel_rfl) (by kernel_rfl) (by simp only [List.length_append, List.length_cons, List.length_nil]; omega)) hS ?_
            simp only [Act.put, List.setIfInBounds_toArray, List.set_cons_zero, List.set_cons_succ]
            refine anyH_takeW 15 ⟨some 3, _, _, _, _, none⟩ (.string (str (Z ++ tx ++ TV ++ [13, 10]))) rfl (by kernel_rfl) (by kernel_rfl) (by kernel_rfl) (by kernel_rfl) (fun _ _ _ h => h) (fun _ _ => rfl) hS ?_
            simp only [Act.put, List.setIfInBounds_toArray, List.set_cons_zero, List.set_cons_succ]
            refine wpAnyH_done (by kernel_rfl) ?_ _
            go_wp2_with fail
            go_round
            case rel =>
              refine ⟨k + 1, by omega, by go_num, HFinH.out _ ?_, B9.out, hY.out⟩
              rw [HT.out, HCE.out, ← HZ.out]
              simp [*]
            case measure => simp [intOf]; omega
          · have hK1 : (0 : Int) < K := by omega
            have hK2 : 0 < K := by omega
            have CC3 := CC2.out w2 B2w.out
            clear CC2
            go_wp2_with fail
            refine CC3.mono ?_
            rintro e w3 ⟨rfl, b3⟩
            have B3w := hid (B2w.out.trans (b3.mono B2w.out.size))
            have B3 := hid (B2.out.trans (b3.mono B2.out.size))
            have f0 := (b3.cell hg2).trans d0
            have f1 := (b3.cell hg2).trans d1
            have f2 := (b3.cell hg2).trans d2
            have f3 := (b3.cell hg2).trans d3
            have f4 := (b3.cell hg2).trans d4
            have hg3 : g < w3.heap.size := Nat.lt_of_lt_of_le hg2 b3.size
            clear b3 CC3 d0 d1 d2 d3 d4
            go_wp2_with fail
            have hz : str P ++ str tag ++ (⟨#[32]⟩ : ByteArray) ++ str st ++ (⟨#[32]⟩ : ByteArray) ++ (⟨#[91]⟩ : ByteArray) ++ str TC ++ (⟨#[93, 32]⟩ : ByteArray) = str (P ++ tag ++ [32] ++ st ++ [32] ++ [91] ++ TC ++ [93, 32]) := by rw [show (⟨#[32]⟩ : ByteArray) = str [32] from rfl, show (⟨#[91]⟩ : ByteArray) = str [91] from rfl, show (⟨#[93, 32]⟩ : ByteArray) = str [93, 32] from rfl]; simp only [app_str]
            rw [hz]
            clear hz
            obtain ⟨Z, hZ⟩ : ∃ Z, P ++ tag ++ [32] ++ st ++ [32] ++ [91] ++ TC ++ [93, 32] = Z := ⟨_, rfl⟩
            rw [hZ]
            have HZ := hid hZ
            have hZl : Z.length + tx.length + TV.length + 2 ≤ 1000000000 := by
              have hh := HBd.out
              rw [← hZ]
              simp only [List.length_append, List.length_cons, List.length_nil]
              rw [HT.out, HCE.out] at hh
              simp [*] at hh
              omega
            clear hZ
            have HDr : Hid (Below w.heap.size w w3.drew) := B3.out.drew
            have CVd := hid (CV2.out w3.drew (B3w.out.drew))
            have hgd : g < w3.drew.heap.size := hg3
            clear CV2
            refine wp_region_held_drew (S := fun w' => w'.cell? ⟨g, o + k * 5 + 4, none⟩ = some (.string (str tx)) ∧ w'.cell? ⟨g, o + k * 5 + 1, none⟩ = some (.slice va V vc)) (by kernel_rfl) ⟨f4, f1⟩ ?_
            intro hS
            refine anyH_takeW 0 ⟨some 56, _, _, _, _, none⟩ (.string (str Z)) rfl (by kernel_rfl) (by kernel_rfl) (by kernel_rfl) (by kernel_rfl) (fun _ _ _ h => h) (fun _ _ => rfl) hS ?_
            simp only [Act.put, List.setIfInBounds_toArray, List.set_cons_zero, List.set_cons_succ]
            refine anyH_takeW 1 ⟨some 57, _, _, _, _, none⟩ (.slice (some ⟨g, o, none⟩) rows.length c) rfl (by kernel_rfl) (by kernel_rfl) (by kernel_rfl) (by kernel_rfl) (fun _ _ _ h => h) (fun _ _ => rfl) hS ?_
            simp only [Act.put, List.setIfInBounds_toArray, List.set_cons_zero, List.set_cons_succ]
            refine anyH_takeW 2 ⟨some 58, _, _, _, _, none⟩ (.int .i64 k) rfl (by kernel_rfl) (by kernel_rfl) (by kernel_rfl) (by kernel_rfl) (fun _ _ _ h => h) (fun _ _ => rfl) hS ?_
            simp only [Act.put, List.setIfInBounds_toArray, List.set_cons_zero, List.set_cons_succ]
            refine anyH_takeW 3 ⟨some 59, _, _, _, _, none⟩ (.pointer (some ⟨g, o + k * 5, none⟩)) rfl (by kernel_rfl) (by kernel_rfl) (by kernel_rfl) (by kernel_rfl) (fun _ _ _ h => h) (fun w' h => by (try dsimp only at h); obtain ⟨s0, s1⟩ := h; go_simp) hS ?_
            simp only [Act.put, List.setIfInBounds_toArray, List.set_cons_zero, List.set_cons_succ]
            refine anyH_takeW 4 ⟨some 60, _, _, _, _, none⟩ (.pointer (some ⟨g, o + k * 5 + 4, none⟩)) rfl (by kernel_rfl) (by kernel_rfl) (by kernel_rfl) (by kernel_rfl) (fun _ _ _ h => h) (fun w' h => by (try dsimp only at h); obtain ⟨s0, s1⟩ := h; go_simp) hS ?_
            simp only [Act.put, List.setIfInBounds_toArray, List.set_cons_zero, List.set_cons_succ]
            refine anyH_takeW 5 ⟨some 61, _, _, _, _, none⟩ (.string (str tx)) rfl (by kernel_rfl) (by kernel_rfl) (by kernel_rfl) (by kernel_rfl) (fun _ _ _ h => h) (fun w' h => by (try dsimp only at h); obtain ⟨s0, s1⟩ := h; go_simp) hS ?_
            simp only [Act.put, List.setIfInBounds_toArray, List.set_cons_zero, List.set_cons_succ]
            refine anyH_takeW 6 ⟨some 62, _, _, _, _, none⟩ (.string (str (Z ++ tx))) rfl (by kernel_rfl) (by kernel_rfl) (by kernel_rfl) (by kernel_rfl) (fun _ _ _ h => h) (fun w' h => exec_addL (l := Z) (m := tx) (by kernel_rfl) (by kernel_rfl) (by omega)) hS ?_
            simp only [Act.put, List.setIfInBounds_toArray, List.set_cons_zero, List.set_cons_succ]
            refine anyH_takeW 7 ⟨some 63, _, _, _, _, none⟩ (.slice (some ⟨g, o, none⟩) rows.length c) rfl (by kernel_rfl) (by kernel_rfl) (by kernel_rfl) (by kernel_rfl) (fun _ _ _ h => h) (fun _ _ => rfl) hS ?_
            simp only [Act.put, List.setIfInBounds_toArray, List.set_cons_zero, List.set_cons_succ]
            refine anyH_takeW 8 ⟨some 64, _, _, _, _, none⟩ (.int .i64 k) rfl (by kernel_rfl) (by kernel_rfl) (by kernel_rfl) (by kernel_rfl) (fun _ _ _ h => h) (fun _ _ => rfl) hS ?_
            simp only [Act.put, List.setIfInBounds_toArray, List.set_cons_zero, List.set_cons_succ]
            refine anyH_takeW 9 ⟨some 65, _, _, _, _, none⟩ (.pointer (some ⟨g, o + k * 5, none⟩)) rfl (by kernel_rfl) (by kernel_rfl) (by kernel_rfl) (by kernel_rfl) (fun _ _ _ h => h) (fun w' h => by (try dsimp only at h); obtain ⟨s0, s1⟩ := h; go_simp) hS ?_
            simp only [Act.put, List.setIfInBounds_toArray, List.set_cons_zero, List.set_cons_succ]
            refine anyH_takeW 10 ⟨some 66, _, _, _, _, none⟩ (.pointer (some ⟨g, o + k * 5 + 1, none⟩)) rfl (by kernel_rfl) (by kernel_rfl) (by kernel_rfl) (by kernel_rfl) (fun _ _ _ h => h) (fun w' h => by (try dsimp only at h); obtain ⟨s0, s1⟩ := h; go_simp) hS ?_
            simp only [Act.put, List.setIfInBounds_toArray, List.set_cons_zero, List.set_cons_succ]
            refine anyH_takeW 11 ⟨some 67, _, _, _, _, none⟩ (.slice va V vc) rfl (by kernel_rfl) (by kernel_rfl) (by kernel_rfl) (by kernel_rfl) (fun _ _ _ h => h) (fun w' h => by (try dsimp only at h); obtain ⟨s0, s1⟩ := h; go_simp) hS ?_
            simp only [Act.put, List.setIfInBounds_toArray, List.set_cons_zero, List.set_cons_succ]
            refine anyH_callW 12 ⟨some 68, _, _, _, _, none⟩ 40 #[.slice va V vc] (by kernel_rfl) rfl (by kernel_rfl) (exec_call40 (by kernel_rfl)) ?_
            refine CVd.out.mono ?_
            rintro e w9 ⟨rfl, hb9⟩
            have B9 := hid (HDr.out.trans (hb9.mono HDr.out.size))
            clear hS
            have hS : w9.cell? ⟨g, o + k * 5 + 4, none⟩ = some (.string (str tx)) ∧ w9.cell? ⟨g, o + k * 5 + 1, none⟩ = some (.slice va V vc) := ⟨(hb9.cell hgd).trans f4, (hb9.cell hgd).trans f1⟩
            clear hb9
            refine ⟨_, rfl, hS, ?_⟩
            simp only [Act.put, List.setIfInBounds_toArray, List.set_cons_zero, List.set_cons_succ]
            refine anyH_takeW 13 ⟨some 69, _, _, _, _, none⟩ (.string (str (Z ++ tx ++ TV))) rfl (by kernel_rfl) (by kernel_rfl) (by kernel_rfl) (by kernel_rfl) (fun _ _ _ h => h) (fun w' h => exec_addL (l := Z ++ tx) (m := TV) (by kernel_rfl) (by kernel_rfl) (by simp only [List.length_append, List.length_cons, List.length_nil]; omega)) hS ?_
            simp only [Act.put, List.setIfInBounds_toArray, List.set_cons_zero, List.set_cons_succ]
            refine anyH_takeW 14 ⟨some 70, _, _, _, _, none⟩ (.string (str (Z ++ tx ++ TV ++ [13, 10]))) rfl (by kernel_rfl) (by kernel_rfl) (by kernel_rfl) (by kernel_rfl) (fun _ _ _ h => h) (fun w' h => exec_addL (l := Z ++ tx ++ TV) (m := [13, 10]) (by kernel_rfl) (by kernel_rfl) (by simp only [List.length_append, List.length_cons, List.length_nil]; omega)) hS ?_
            simp only [Act.put, List.setIfInBounds_toArray, List.set_cons_zero, List.set_cons_succ]
            refine anyH_takeW 15 ⟨some 3, _, _, _, _, none⟩ (.string (str (Z ++ tx ++ TV ++ [13, 10]))) rfl (by kernel_rfl) (by kernel_rfl) (by kernel_rfl) (by kernel_rfl) (fun _ _ _ h => h) (fun _ _ => rfl) hS ?_
            simp only [Act.put, List.setIfInBounds_toArray, List.set_cons_zero, List.set_cons_succ]
            refine wpAnyH_done (by kernel_rfl) ?_ _
            go_wp2_with fail
            go_round
            case rel =>
              refine ⟨k + 1, by omega, by go_num, HFinH.out _ ?_, B9.out, hY.out⟩
              rw [HT.out, HCE.out, ← HZ.out]
              simp [*]
            case measure => simp [intOf]; omega
    · have hlt' : ¬ (k : Int) < rows.length := by omega
      have HX : Hid (printP (rows.map (·.2)) = ((rows.map (·.2)).take k).flatMap lineT) := by
        have ht : (rows.map (·.2)).take k = rows.map (·.2) := List.take_of_length_le (by rw [List.length_map]; omega)
        rw [Hid, ht]
        unfold printP
        rw [if_pos]
        rw [List.all_eq_true]
        intro x hx
        obtain ⟨p, hp, rfl⟩ := List.mem_map.1 hx
        exact H3.out p (by rw [List.take_of_length_le (by omega)]; exact hp)
      go_wp2_with fail
      go_ret
      rw [HX.out]
      exact ⟨rfl, H2.out⟩
end Go.Proofs.YtpjcpdnolcehcaaGreatDoor
