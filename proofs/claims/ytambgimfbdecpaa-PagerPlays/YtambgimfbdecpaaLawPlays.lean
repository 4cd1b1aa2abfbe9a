/- Proved here: whatever is put, read, dropped, committed and pinned, whenever the power goes, whatever a crash keeps, a pager answers what the document says (PagerPlays returns true for every input, and leaves its arguments as they were). No condition. -/
import Derived.Test.YtambgimfbdecpaaRows
import Derived.Test.YtambgimfbdecpaaQ32
import Derived.Test.YtambgimfbdecpaaQ34
import Derived.Deep.RegionHeld3
import Derived.ProofKit
import Derived.ShutString
import Derived.ChangeOld
import Derived.Below
namespace Go.Proofs.Ytambgimfbdecpaa.pagerPlays
open Go.ChangeShapes Go.WideShapes Go.ChangeAt Go.RowKit
set_option linter.unusedVariables false
set_option linter.unusedSimpArgs false

theorem do_any {w : World} {B xb b db r c k : Nat} {al ar : List Nat} {P : PS} {R : RS} (h : Duo w B [(xb, [.pointer (some ⟨db, 0, none⟩), .pointer (some ⟨b, 0, none⟩), .pointer (some ⟨c, 0, none⟩), .pointer (some ⟨r, 0, none⟩)], 39)] b db r c al ar P R) (hsim : Sim P R) (hlim : Lim P k) (hk : k ≤ 60) (kind n m : Int) (s : ByteArray) (hs : s.size ≤ maxLen) (hn : -9223372036854775808 ≤ n ∧ n ≤ 9223372036854775807) (ka : Option Addr) (klen kcap : Nat) :
    Calls Try.prog 23 #[.pointer (some ⟨xb, 0, none⟩), .agg #[.int .i64 kind, .int .i64 n, .int .i64 m, .string s, .slice ka klen kcap]] w (DoP w B xb b db r c (k + 1)) := by
  by_cases h0 : kind = 0
  · exact do_put h hsim hlim hk kind n m s hs hn ka klen kcap h0
  by_cases h1 : kind = 1
  · exact do_read h hsim hlim hk kind n m s hs hn ka klen kcap h1
  by_cases h2 : kind = 2
  · exact do_drop h hsim hlim hk kind n m s hs hn ka klen kcap h2
  by_cases h3 : kind = 3
  · exact do_commit h hsim hlim hk kind n m s hs hn ka klen kcap h3
  by_cases h4 : kind = 4
  · exact do_abort h hsim hlim hk kind n m s hs hn ka klen kcap h4
  by_cases h5 : kind = 5
  · exact do_pin h hsim hlim hk kind n m s hs hn ka klen kcap h5
  by_cases h6 : kind = 6
  · exact do_unpin h hsim hlim hk kind n m s hs hn ka klen kcap h6
  by_cases h7 : kind = 7
  · exact do_use h hsim hlim hk kind n m s hs hn ka klen kcap h7
  exact do_none h hsim hlim hk kind n m s hs hn ka klen kcap (by omega)

/-- A sector of noughts but for its first byte. -/
def secM (v : Int) : List Int := (rep 512 0).set 0 v
theorem secM_length (v : Int) : (secM v).length = 512 := by unfold secM; rw [List.length_set]; exact rep_length 512 0
theorem secM_byt (v : Int) (h : 0 ≤ v ∧ v < 256) : Byt (secM v) := by
  intro x hx
  rcases List.mem_or_eq_of_mem_set hx with h1 | h1
  · simp only [rep, List.mem_replicate] at h1; omega
  · subst h1; exact h
theorem duet_sec {W1 W2 : World} {B db c k g : Nat} {G : List Guest} {D E : DS} {pv rv : Value} (h : Duet W1 B db c k G D E pv rv) (hge : W1.heap.size = g) (hx : Below g W1 W2) (gk : W2.heap[g]? = some (.cells (bc (rep 512 0)).toArray 5)) (v : Int) : Duet (W2.setCell ⟨g, 0, none⟩ (.int .u8 v)) B db c k ((g, bc (secM v), 5) :: G) D E pv rv := by
  subst hge
  refine h.add (hx.setCell (Nat.le_refl _) _) ?_ (Nat.le_refl _)
  rw [heap_setCell_same _ _ _ _ _ _ gk]
  simp [secM, bc]
/-- What Format answers on a new disk, and the disk behind it. -/
def fmtE (n : Nat) : Int × DS := if 4 ≤ n then (0, DS.fmt n) else (2, DS.blank n)
theorem fmtE_byt (n : Nat) : (fmtE n).2.byt := by
  unfold fmtE
  split
  · exact DS.byt.fmt n
  · exact DS.byt.blank n
theorem fmtE_lim (n : Nat) : LimD (fmtE n).2 0 := by
  unfold fmtE
  split
  · rename_i h
    obtain ⟨_, h2, h3, _⟩ := fmt_facts n h
    exact ⟨by show (DS.fmt n).steps ≤ _; rw [h3]; omega, by show (DS.fmt n).waits.length ≤ _; rw [h2]; simp⟩
  · exact ⟨by simp [DS.blank], by simp [DS.blank]⟩
theorem fmtL {w : World} {B db c n : Nat} {G : List Guest} {al ar : List Nat} {E : DS} (h : DuoD w B G db c al ar (DS.blank n) E) : Calls Try.prog 14 #[.pointer (some ⟨db, 0, none⟩)] w fun e w' => e = .returned (.int .i64 (fmtE n).1) ∧ ∃ al', DuoD w' B G db c al' ar (fmtE n).2 E ∧ Below B w w' := by
  refine (format_all h.d (DS.byt.blank n) (by simp [DS.blank]) (by simp [DS.blank])).mono ?_
  have he : (DS.blank n).format = fmtE n := by
    unfold fmtE
    split
    · rename_i h4; exact format_blank n h4
    · rename_i h4; unfold DS.format; rw [if_pos (by simpa [DS.blank] using h4)]
  rw [he]
  rintro e w' ⟨rfl, own', hd, hk, hn⟩
  exact ⟨rfl, own', h.leftK hd hk hn⟩
theorem fmtR {w : World} {B db c n : Nat} {G : List Guest} {al ar : List Nat} {D : DS} (h : DuoD w B G db c al ar D (DS.blank n)) : Calls Try.prog 15 #[.pointer (some ⟨c, 0, none⟩)] w fun e w' => e = .returned (.int .i64 (fmtE n).1) ∧ ∃ ar', DuoD w' B G db c al ar' D (fmtE n).2 ∧ Below B w w' := by
  unfold fmtE
  split
  · rename_i h4
    refine (rformat_ok h.r (DS.ok.blank n) h4 (by simp [DS.blank]) (by simp [DS.blank])).mono ?_
    rintro e w' ⟨rfl, own', hd, hk, hn⟩
    exact ⟨rfl, own', h.rightK hd hk hn⟩
  · rename_i h4
    refine (rformat_no h.r h4).mono ?_
    rintro e w' ⟨rfl, rfl⟩
    exact ⟨rfl, ar, h, Below.refl _ _⟩
theorem free_new {W2 : World} {g : Nat} {cs : Array Value} {t j : Nat} (gk : W2.heap[g]? = some (.cells cs t)) : W2.frozen? ⟨g, j, none⟩ = false := by simp [World.frozen?, gk]

theorem field39_0 (b : Nat) (w : World) : (Instr.fieldAt 39 (.pointer (some ⟨b, 0, none⟩)) 0).run Try.prog w = .ok (.pointer (some ⟨b, 0, none⟩)) w := by kernel_rfl
theorem field39_2 (b : Nat) (w : World) : (Instr.fieldAt 39 (.pointer (some ⟨b, 0, none⟩)) 2).run Try.prog w = .ok (.pointer (some ⟨b, 2, none⟩)) w := by kernel_rfl
theorem field42_4 (b : Nat) (w : World) : (Instr.fieldAt 42 (.pointer (some ⟨b, 0, none⟩)) 4).run Try.prog w = .ok (.pointer (some ⟨b, 4, none⟩)) w := by kernel_rfl
theorem load40x {b k : Nat} {v : Value} {w : World} (h : w.cell? ⟨b, k, none⟩ = some v) : (Instr.loadAt 40 (.pointer (some ⟨b, k, none⟩))).run Try.prog w = .ok v w := by
  simp [Instr.loadAt, Instr.sureAddr, loadVar, isAgg, run_underlying Try.underlying40, h]
theorem load23x {b k : Nat} {v : Value} {w : World} (h : w.cell? ⟨b, k, none⟩ = some v) : (Instr.loadAt 23 (.pointer (some ⟨b, k, none⟩))).run Try.prog w = .ok v w := by
  simp [Instr.loadAt, Instr.sureAddr, loadVar, isAgg, run_underlying Try.underlying23, h]
theorem exec_call2b {a : Act} {x y : Operand} {X Y : Value} {w : World} {d : Option Tmp} {ty f : Nat} {ts : Array Nat} {pos : String} {af : Array Edge} {g : Option (Nat × Bool)} (hx : a.eval x = X) (hy : a.eval y = Y) (hf : f = 19 ∨ f = 20 ∨ f = 23) :
    (execOp a.eval ⟨d, .call { callee := .value (.func f), args := #[x, y], argTypes := ts }, ty, pos, af, g⟩).run Try.prog w = .ok (.enter f #[X, Y]) w := by
  rcases hf with rfl | rfl | rfl
  · simp only [execOp, resolve, List.map_toArray, List.map_cons, List.map_nil, hx, hy]
    kernel_rfl
  · simp only [execOp, resolve, List.map_toArray, List.map_cons, List.map_nil, hx, hy]
    kernel_rfl
  · simp only [execOp, resolve, List.map_toArray, List.map_cons, List.map_nil, hx, hy]
    kernel_rfl
theorem size23 : (Try.prog.info? 23).map (·.size) = some 1 := by kernel_rfl
theorem size27 : (Try.prog.info? 27).map (·.size) = some 1 := by kernel_rfl
theorem exec_store23 {a : Act} {x y : Operand} {b o : Nat} {u v : Value} {p : Option Addr} {w : World} {d : Option Tmp} {ty : Nat} {pos : String} {af : Array Edge} {gd : Option (Nat × Bool)} (hx : a.eval x = .pointer (some ⟨b, o, none⟩)) (hy : a.eval y = v) (hv : v = .pointer p)
    (h : w.cell? ⟨b, o, none⟩ = some u) (hf : w.frozen? ⟨b, o, none⟩ = false) :
    (execOp a.eval ⟨d, .store 23 x y, ty, pos, af, gd⟩).run Try.prog w = .ok .skip (w.setCell ⟨b, o, none⟩ v) := by
  subst hv
  have hs := size23
  cases hq : Try.prog.info? 23 with
  | none => simp [hq] at hs
  | some i =>
    have h1 : i.size = 1 := by simpa [hq] using hs
    have e : (⟨b, o, none⟩ : Addr).add 0 = ⟨b, o, none⟩ := rfl
    simp [execOp, hx, hy, Instr.storeAt, Instr.sureAddr, storeVar, sizeOf, typeInfo, hq, h1, Value.cells, storeCells, e, store, Sem.run, h, hf]
theorem exec_store27 {a : Act} {x y : Operand} {b o : Nat} {u v : Value} {p : Option Addr} {w : World} {d : Option Tmp} {ty : Nat} {pos : String} {af : Array Edge} {gd : Option (Nat × Bool)} (hx : a.eval x = .pointer (some ⟨b, o, none⟩)) (hy : a.eval y = v) (hv : v = .pointer p)
    (h : w.cell? ⟨b, o, none⟩ = some u) (hf : w.frozen? ⟨b, o, none⟩ = false) :
    (execOp a.eval ⟨d, .store 27 x y, ty, pos, af, gd⟩).run Try.prog w = .ok .skip (w.setCell ⟨b, o, none⟩ v) := by
  subst hv
  have hs := size27
  cases hq : Try.prog.info? 27 with
  | none => simp [hq] at hs
  | some i =>
    have h1 : i.size = 1 := by simpa [hq] using hs
    have e : (⟨b, o, none⟩ : Addr).add 0 = ⟨b, o, none⟩ := rfl
    simp [execOp, hx, hy, Instr.storeAt, Instr.sureAddr, storeVar, sizeOf, typeInfo, hq, h1, Value.cells, storeCells, e, store, Sem.run, h, hf]
theorem crash_lim (D : DS) (ks : List (Int × Int)) (k : Nat) : LimD (D.crash ks) k := ⟨by simp [DS.crash]; omega, by simp [DS.crash]⟩

theorem anyH_more {P : Program} {ops : Array Oper} {Q : Exit → Act → World → Prop} {md : Region.Mode} {S S' : World → Prop} (hS : ∀ w, S' w → S w) : ∀ (fuel : Nat) (listed : Array Bool) (a : Act) (w : World), wpAnyH P md ops Q S' fuel listed a w → wpAnyH P md ops Q S fuel listed a w
  | 0, _, _, _, h => h
  | fuel + 1, _, _, _, h => ⟨h.1, fun i hi => wpOp_mono (fun a' w' h' => ⟨hS _ h'.1, anyH_more hS fuel _ a' w' h'.2⟩) (h.2 i hi)⟩
theorem load42 {w : World} {b : Nat} {x0 x1 x2 x3 x4 : Value} (h0 : w.cell? ⟨b, 0, none⟩ = some x0) (h1 : w.cell? ⟨b, 1, none⟩ = some x1) (h2 : w.cell? ⟨b, 2, none⟩ = some x2) (h3 : w.cell? ⟨b, 3, none⟩ = some x3) (h4 : w.cell? ⟨b, 4, none⟩ = some x4) : (Instr.loadAt 42 (.pointer (some ⟨b, 0, none⟩))).run Try.prog w = .ok (.agg #[x0, x1, x2, x3, x4]) w := by
  have hs : (Try.prog.info? 42).map (·.size) = some 5 := by kernel_rfl
  cases hq : Try.prog.info? 42 with
  | none => simp [hq] at hs
  | some j =>
    have hj : j.size = 5 := by simpa [hq] using hs
    have hl := run_loadCells_list (P := Try.prog) w ⟨b, 0, none⟩ [x0, x1, x2, x3, x4] (fun i v hv => by
      rw [Addr.add_mid, Nat.zero_add]
      match i with
      | 0 => rw [h0]; simpa using hv
      | 1 => rw [h1]; simpa using hv
      | 2 => rw [h2]; simpa using hv
      | 3 => rw [h3]; simpa using hv
      | 4 => rw [h4]; simpa using hv
      | i + 5 => simp at hv)
    have hl' : (loadCells ⟨b, 0, none⟩ 5).run Try.prog w = .ok #[x0, x1, x2, x3, x4] w := hl
    simp [Instr.loadAt, Instr.sureAddr, loadVar, isAgg, run_underlying Try.underlying42, sizeOf, typeInfo, hq, hj, hl']
theorem exec_call1g {a : Act} {x : Operand} {X : Value} {w : World} {d : Option Tmp} {ty f : Nat} {ts : Array Nat} {pos : String} {af : Array Edge} {g : Option (Nat × Bool)} (hx : a.eval x = X) (hf : f = 24 ∨ f = 25 ∨ f = 26 ∨ f = 27) :
    (execOp a.eval ⟨d, .call { callee := .value (.func f), args := #[x], argTypes := ts }, ty, pos, af, g⟩).run Try.prog w = .ok (.enter f #[X]) w := by
  rcases hf with rfl | rfl | rfl | rfl
  all_goals
    simp only [execOp, resolve, List.map_toArray, List.map_cons, List.map_nil, hx]
    kernel_rfl
theorem exec_neI {a : Act} {x y : Operand} {p q : Int} {w : World} {d : Option Tmp} {ty : Nat} {pos : String} {af : Array Edge} {g : Option (Nat × Bool)} (hx : a.eval x = .int .i64 p) (hy : a.eval y = .int .i64 q) (h : p = q) :
    (execOp a.eval ⟨d, .binOp .neq 3 x y 3, ty, pos, af, g⟩).run Try.prog w = .ok (.value (.bool false)) w := by
  subst h
  simp [execOp, hx, hy, eqGuard, binOp, Op.equal, Op.maxDepth, Op.equalIn, Op.intCmp, run_underlying Try.underlying3]
theorem exec_neStr {a : Act} {x y : Operand} {s t : ByteArray} {w : World} {d : Option Tmp} {T ty T2 : Nat} {pos : String} {af : Array Edge} {g : Option (Nat × Bool)} (hx : a.eval x = .string s) (hy : a.eval y = .string t) (h : s = t) :
    (execOp a.eval ⟨d, .binOp .neq T x y T2, ty, pos, af, g⟩).run Try.prog w = .ok (.value (.bool false)) w := by
  subst h
  simp [execOp, hx, hy, eqGuard, binOp, Op.stringOp]
theorem field53_2 (b : Nat) (w : World) : (Instr.fieldAt 53 (.pointer (some ⟨b, 0, none⟩)) 2).run Try.prog w = .ok (.pointer (some ⟨b, 2, none⟩)) w := by kernel_rfl
theorem load9x {b k : Nat} {v : Value} {w : World} (h : w.cell? ⟨b, k, none⟩ = some v) : (Instr.loadAt 9 (.pointer (some ⟨b, k, none⟩))).run Try.prog w = .ok v w := by
  simp [Instr.loadAt, Instr.sureAddr, loadVar, isAgg, run_underlying Try.underlying9, h]

set_option maxRecDepth 100000 in
set_option maxHeartbeats 8000000 in
theorem walk_yes (n : Nat) (fmt : Bool) (a : Option Addr) (len cap : Nat) (l : List ActV) (w : World) (h1 : 1 ≤ n) (h2 : n ≤ 4096) (h : ActsOk w a len l) :
    Calls Try.prog 3 #[.int .i64 n, .bool fmt, .slice a len cap] w fun e w' => e = .returned (.bool true) ∧ Below w.heap.size w w' := by
  have hm := h.2.1
  unfold maxLen at hm
  have HA := hid h
  clear h
  go_enter Try.func3, Try.ntmps3
  go_wp2_with fail
  refine (new_yes n w h1 h2).mono ?_
  rintro e w1 ⟨db, al, rfl, hd, hb1⟩
  have Hd := hid hd
  have Hb1 := hid hb1
  clear hd hb1
  go_wp2_with fail
  refine (rnew_yes n w1 h1 h2).mono ?_
  rintro e w2 ⟨c, ar, rfl, hr, hb2⟩
  have H2 : Hid (DuoD w2 w.heap.size [] db c al ar (DS.blank n) (DS.blank n)) := made_duo (G := []) (Nat.le_refl _) Hd.out Hb1.out (Below.refl _ _) hr hb2 (fun x hx => by cases hx)
  have HB2 := hid (Hb1.out.trans (hb2.mono Hb1.out.size))
  clear hr hb2 Hd Hb1
  generalize hBe : w.heap.size = B at *
  go_wp2_with (first | (go_at_call 11; refine (no_any _ _).mono ?_; rintro e wz ⟨rfl, rfl⟩) | (go_at_call 12; refine (alive_any _).mono ?_; rintro e w3 ⟨rfl, hb3⟩; have H3 := hid (H2.out.later hb3); have HB3 := hid (HB2.out.trans (hb3.mono H2.out.hB)); clear hb3))
  refine (few_any _ a len cap l (HA.out.later (hBe ▸ HB3.out))).mono ?_
  rintro e w4 ⟨⟨fr, rfl, hfr⟩, hb4⟩
  have H4 := hid (H3.out.later hb4)
  have HB4 := hid (HB3.out.trans (hb4.mono H3.out.hB))
  clear hb4 H2 H3 HB2 HB3
  cases fr with
  | false =>
    clear hfr
    go_wp2_with fail
    go_ret
    exact ⟨rfl, hBe ▸ HB4.out⟩
  | true =>
    have hlen := hfr rfl
    clear hfr
    cases fmt with
    | true =>
      go_wp2_with fail
      refine (fmtL H4.out).mono ?_
      rintro e w5 ⟨rfl, al5, h5, hb5⟩
      have H5 := hid h5
      have HB5 := hid (HB4.out.trans hb5)
      clear h5 hb5 H4 HB4
      generalize hq : (fmtE n).1 = q at *
      go_wp2_with (first | (go_at_call 11; refine (no_any _ _).mono ?_; rintro e wz ⟨rfl, rfl⟩) | (go_at_call 15; refine (fmtR H5.out).mono ?_; rintro e w4 ⟨rfl, ar6, h6, hb6⟩; have H4 := hid h6; have HB4 := hid (HB5.out.trans hb6); clear h6 hb6; rw [hq]))
      have HY := hid (fmtE_byt n)
      have HLd := hid (fmtE_lim n)
      clear hq H5 HB5
      generalize (fmtE n).2 = D0 at *
      have H5 := hid (H4.out.box [.pointer (some ⟨db, 0, none⟩), .pointer none, .pointer (some ⟨c, 0, none⟩), .pointer none] 39)
      have HB5 := hid (HB4.out.trans (((Below.refl _ w4).alloc (Nat.le_refl _) (.cells #[.pointer (some ⟨db, 0, none⟩), .pointer none, .pointer (some ⟨c, 0, none⟩), .pointer none] 39)).mono H4.out.hB))
      have hxb := H4.out.hB
      clear H4 HB4
      try go_wp2_with fail
      generalize w4.alloc (.cells #[.pointer (some ⟨db, 0, none⟩), .pointer none, .pointer (some ⟨c, 0, none⟩), .pointer none] 39) = W5 at *
      generalize w4.heap.size = xb at *
      refine (bopen_any H5.out HY.out HLd.out hxb).mono ?_
      rintro e w6 ⟨rfl, hst, hb6⟩
      have HST0 := hid hst
      have HB6 := hid (HB5.out.trans hb6)
      clear hst hb6 H5 HB5 HY HLd
      go_wp2_with fail
      go_loopw [58] (fun q wr => ∃ k : Nat, k ≤ len ∧ q = .int .i64 k ∧ (∃ db c, St wr B xb db c k) ∧ Below B w wr) (fun q _ => len - (intOf q).toNat)
      case atStart => exact ⟨0, by omega, rfl, ⟨_, _, HST0.out⟩, HB6.out⟩
      case round =>
        clear HST0 HB6
        obtain ⟨k, hk, rfl, ⟨db, c, hst⟩, hb⟩ := hrel
        by_cases hlt : k < len
        · have hlt' : (k : Int) < len := by omega
          rcases HA.out.2.2 with h0 | ⟨ab0, ao, rfl, hact⟩
          · omega
          · have hA := (hact k (by rw [HA.out.1]; exact hlt)).later (hBe ▸ hb)
            clear hact
            generalize l[k]'(by rw [HA.out.1]; exact hlt) = v at *
            obtain ⟨kind, vn, vm, vs, vka, vkl, vkc, vks⟩ := v
            obtain ⟨c0, c1, c2, c3, c4, hvn1, hvn2, hsm, hks⟩ := hA
            simp only at c0 c1 c2 c3 c4 hvn1 hvn2 hsm hks
            obtain ⟨D, pv, rv, hm', hs1, hs2⟩ := hst.mid
            have H1 := hid (hm'.box [.int .i64 kind, .int .i64 vn, .int .i64 vm, .string vs, .slice vka vkl vkc] 42)
            have HK := hid (hks.later ((Below.refl _ wr).alloc (Nat.le_refl _) (.cells #[.int .i64 kind, .int .i64 vn, .int .i64 vm, .string vs, .slice vka vkl vkc] 42)))
            have HB1 := hid (hb.trans (((Below.refl _ wr).alloc (Nat.le_refl _) (.cells #[.int .i64 kind, .int .i64 vn, .int .i64 vm, .string vs, .slice vka vkl vkc] 42)).mono hm'.hB))
            have HSt := hid hst
            clear hst hb hm' hks
            by_cases hk8 : kind = 8
            · have hkd := hk8
              clear hk8 HSt HK
              have e8 : (kind == 8) = true := by simp [hkd]
              have e9 : (kind == 9) = false := by simp [hkd]
              have e10 : (kind == 10) = false := by simp [hkd]
              clear hkd
              go_wp2_with fail
              generalize wr.alloc (.cells #[.int .i64 kind, .int .i64 vn, .int .i64 vm, .string vs, .slice vka vkl vkc] 42) = W1 at *
              generalize wr.heap.size = ab at *
              have H1d := hid (H1.out.later ((Below.refl W1.heap.size W1).drew))
              have HB1d := hid (HB1.out.trans (((Below.refl W1.heap.size W1).drew).mono H1.out.hB))
              go_region_held3 (fun w' => w'.cell? ⟨xb, 0, none⟩ = some (.pointer (some ⟨db, 0, none⟩)) ∧ w'.cell? ⟨xb, 1, none⟩ = some (pv) ∧ w'.cell? ⟨xb, 2, none⟩ = some (.pointer (some ⟨c, 0, none⟩)) ∧ w'.cell? ⟨xb, 3, none⟩ = some (rv) ∧ w'.cell? ⟨ab, 0, none⟩ = some (.int .i64 kind) ∧ w'.cell? ⟨ab, 1, none⟩ = some (.int .i64 vn) ∧ w'.cell? ⟨ab, 2, none⟩ = some (.int .i64 vm) ∧ w'.cell? ⟨ab, 3, none⟩ = some (.string vs) ∧ w'.cell? ⟨ab, 4, none⟩ = some (.slice vka vkl vkc)) (first | exact ⟨H2.out.xc (q := xb) two_mem.2 (j := 0) rfl, H2.out.xc (q := xb) two_mem.2 (j := 1) rfl, H2.out.xc (q := xb) two_mem.2 (j := 2) rfl, H2.out.xc (q := xb) two_mem.2 (j := 3) rfl, H2.out.xc (q := ab) two_mem.1 (j := 0) rfl, H2.out.xc (q := ab) two_mem.1 (j := 1) rfl, H2.out.xc (q := ab) two_mem.1 (j := 2) rfl, H2.out.xc (q := ab) two_mem.1 (j := 3) rfl, H2.out.xc (q := ab) two_mem.1 (j := 4) rfl⟩ | exact ⟨H1d.out.xc (q := xb) two_mem.2 (j := 0) rfl, H1d.out.xc (q := xb) two_mem.2 (j := 1) rfl, H1d.out.xc (q := xb) two_mem.2 (j := 2) rfl, H1d.out.xc (q := xb) two_mem.2 (j := 3) rfl, H1d.out.xc (q := ab) two_mem.1 (j := 0) rfl, H1d.out.xc (q := ab) two_mem.1 (j := 1) rfl, H1d.out.xc (q := ab) two_mem.1 (j := 2) rfl, H1d.out.xc (q := ab) two_mem.1 (j := 3) rfl, H1d.out.xc (q := ab) two_mem.1 (j := 4) rfl⟩ | exact ⟨H1.out.xc (q := xb) two_mem.2 (j := 0) rfl, H1.out.xc (q := xb) two_mem.2 (j := 1) rfl, H1.out.xc (q := xb) two_mem.2 (j := 2) rfl, H1.out.xc (q := xb) two_mem.2 (j := 3) rfl, H1.out.xc (q := ab) two_mem.1 (j := 0) rfl, H1.out.xc (q := ab) two_mem.1 (j := 1) rfl, H1.out.xc (q := ab) two_mem.1 (j := 2) rfl, H1.out.xc (q := ab) two_mem.1 (j := 3) rfl, H1.out.xc (q := ab) two_mem.1 (j := 4) rfl⟩) (first | (go_at_call 17; refine (H1d.out.fuseL vn hvn2).mono ?_; rintro e w2 ⟨rfl, hm_, hb_⟩; have H2 := hid hm_; have HB2 := hid (HB1d.out.trans hb_); clear hm_ hb_))
              have x0 := H2.out.xc (q := xb) two_mem.2 (j := 0) rfl
              have x1 := H2.out.xc (q := xb) two_mem.2 (j := 1) rfl
              have x2 := H2.out.xc (q := xb) two_mem.2 (j := 2) rfl
              have x3 := H2.out.xc (q := xb) two_mem.2 (j := 3) rfl
              have a0 := H2.out.xc (q := ab) two_mem.1 (j := 0) rfl
              have a1 := H2.out.xc (q := ab) two_mem.1 (j := 1) rfl
              have a2 := H2.out.xc (q := ab) two_mem.1 (j := 2) rfl
              have a3 := H2.out.xc (q := ab) two_mem.1 (j := 3) rfl
              have a4 := H2.out.xc (q := ab) two_mem.1 (j := 4) rfl
              go_wp2_with fail
              clear x0 x1 x2 x3 a0 a1 a2 a3 a4
              have H2d := hid (H2.out.later ((Below.refl w2.heap.size w2).drew))
              have HB2d := hid (HB2.out.trans (((Below.refl w2.heap.size w2).drew).mono H2.out.hB))
              go_region_held3 (fun w' => w'.cell? ⟨xb, 0, none⟩ = some (.pointer (some ⟨db, 0, none⟩)) ∧ w'.cell? ⟨xb, 1, none⟩ = some (pv) ∧ w'.cell? ⟨xb, 2, none⟩ = some (.pointer (some ⟨c, 0, none⟩)) ∧ w'.cell? ⟨xb, 3, none⟩ = some (rv) ∧ w'.cell? ⟨ab, 0, none⟩ = some (.int .i64 kind) ∧ w'.cell? ⟨ab, 1, none⟩ = some (.int .i64 vn) ∧ w'.cell? ⟨ab, 2, none⟩ = some (.int .i64 vm) ∧ w'.cell? ⟨ab, 3, none⟩ = some (.string vs) ∧ w'.cell? ⟨ab, 4, none⟩ = some (.slice vka vkl vkc)) (first | exact ⟨H3.out.xc (q := xb) two_mem.2 (j := 0) rfl, H3.out.xc (q := xb) two_mem.2 (j := 1) rfl, H3.out.xc (q := xb) two_mem.2 (j := 2) rfl, H3.out.xc (q := xb) two_mem.2 (j := 3) rfl, H3.out.xc (q := ab) two_mem.1 (j := 0) rfl, H3.out.xc (q := ab) two_mem.1 (j := 1) rfl, H3.out.xc (q := ab) two_mem.1 (j := 2) rfl, H3.out.xc (q := ab) two_mem.1 (j := 3) rfl, H3.out.xc (q := ab) two_mem.1 (j := 4) rfl⟩ | exact ⟨H2d.out.xc (q := xb) two_mem.2 (j := 0) rfl, H2d.out.xc (q := xb) two_mem.2 (j := 1) rfl, H2d.out.xc (q := xb) two_mem.2 (j := 2) rfl, H2d.out.xc (q := xb) two_mem.2 (j := 3) rfl, H2d.out.xc (q := ab) two_mem.1 (j := 0) rfl, H2d.out.xc (q := ab) two_mem.1 (j := 1) rfl, H2d.out.xc (q := ab) two_mem.1 (j := 2) rfl, H2d.out.xc (q := ab) two_mem.1 (j := 3) rfl, H2d.out.xc (q := ab) two_mem.1 (j := 4) rfl⟩ | exact ⟨H2.out.xc (q := xb) two_mem.2 (j := 0) rfl, H2.out.xc (q := xb) two_mem.2 (j := 1) rfl, H2.out.xc (q := xb) two_mem.2 (j := 2) rfl, H2.out.xc (q := xb) two_mem.2 (j := 3) rfl, H2.out.xc (q := ab) two_mem.1 (j := 0) rfl, H2.out.xc (q := ab) two_mem.1 (j := 1) rfl, H2.out.xc (q := ab) two_mem.1 (j := 2) rfl, H2.out.xc (q := ab) two_mem.1 (j := 3) rfl, H2.out.xc (q := ab) two_mem.1 (j := 4) rfl⟩) (first | (go_at_call 18; refine (H2d.out.fuseR vn hvn2).mono ?_; rintro e w3 ⟨rfl, hm_, hb_⟩; have H3 := hid hm_; have HB3 := hid (HB2d.out.trans hb_); clear hm_ hb_))
              have HST : Hid (∃ db c, St w3 B xb db c (k + 1)) := ⟨db, c, H3.out.less.st (by show D.steps ≤ _; omega) (by show D.waits.length ≤ _; omega)⟩
              have HBF := hid HB3.out
              go_wp2_with fail
              go_roundw
              case rel => exact ⟨k + 1, by omega, by go_num, HST.out, HBF.out⟩
              case measure => simp [intOf]; omega
            · by_cases hk9 : kind = 9
              · have hkd := hk9
                clear hk8 hk9 HSt
                have e8 : (kind == 8) = false := by simp [hkd]
                have e9 : (kind == 9) = true := by simp [hkd]
                have e10 : (kind == 10) = false := by simp [hkd]
                clear hkd
                go_wp2_with fail
                generalize wr.alloc (.cells #[.int .i64 kind, .int .i64 vn, .int .i64 vm, .string vs, .slice vka vkl vkc] 42) = W1 at *
                generalize wr.heap.size = ab at *
                have H1d := hid (H1.out.later ((Below.refl W1.heap.size W1).drew))
                have HB1d := hid (HB1.out.trans (((Below.refl W1.heap.size W1).drew).mono H1.out.hB))
                have HKd := hid (HK.out.later ((Below.refl W1.heap.size W1).drew))
                have hne : ab ≠ xb := by
                  intro e
                  have g1 := H1d.out.guest two_mem.1
                  have g2 := H1d.out.guest two_mem.2
                  simp only [e] at g1 g2
                  rw [g1] at g2
                  simp at g2
                have HS0 := H1d.out.xc (q := ab) two_mem.1 (j := 4) rfl
                have x0 := H1d.out.xc (q := xb) two_mem.2 (j := 0) rfl
                have x2 := H1d.out.xc (q := xb) two_mem.2 (j := 2) rfl
                clear H1 HB1 HK
                refine wp_region_held_drew (S := fun w' => w'.cell? ⟨ab, 4, none⟩ = some (.slice vka vkl vkc)) (by kernel_rfl) HS0 ?_
                intro _
                refine anyH_take 0 ⟨some 82, .move (.tmp 11), _, _, _, none⟩ (.pointer (some ⟨xb, 0, none⟩)) rfl rfl (by kernel_rfl) (by kernel_rfl) (by kernel_rfl) (fun _ _ _ h => h) (fun w hS => rfl) HS0 ?_
                simp only [Act.put, List.setIfInBounds_toArray, List.set_cons_zero, List.set_cons_succ]
                refine anyH_take 1 ⟨some 83, .move (.tmp 11), _, _, _, none⟩ (.pointer (some ⟨xb, 0, none⟩)) rfl rfl (by kernel_rfl) (by kernel_rfl) (by kernel_rfl) (fun _ _ _ h => h) (fun w hS => rfl) HS0 ?_
                simp only [Act.put, List.setIfInBounds_toArray, List.set_cons_zero, List.set_cons_succ]
                refine anyH_take 2 ⟨some 84, .move (.tmp 11), _, _, _, none⟩ (.pointer (some ⟨xb, 0, none⟩)) rfl rfl (by kernel_rfl) (by kernel_rfl) (by kernel_rfl) (fun _ _ _ h => h) (fun w hS => rfl) HS0 ?_
                simp only [Act.put, List.setIfInBounds_toArray, List.set_cons_zero, List.set_cons_succ]
                refine anyH_take 3 ⟨some 85, .nilCheck (.tmp 84), _, _, _, none⟩ (.pointer (some ⟨xb, 0, none⟩)) rfl rfl (by kernel_rfl) (by kernel_rfl) (by kernel_rfl) (fun _ _ _ h => h) (fun w hS => rfl) HS0 ?_
                simp only [Act.put, List.setIfInBounds_toArray, List.set_cons_zero, List.set_cons_succ]
                refine anyH_take 4 ⟨some 86, .fieldAddr 39 (.tmp 85) 0, _, _, _, none⟩ (.pointer (some ⟨xb, 0, none⟩)) rfl rfl (by kernel_rfl) (by kernel_rfl) (by kernel_rfl) (fun _ _ _ h => h) (fun w hS => exec_v (field39_0 xb w)) HS0 ?_
                simp only [Act.put, List.setIfInBounds_toArray, List.set_cons_zero, List.set_cons_succ]
                refine anyH_take 6 ⟨some 88, .fieldAddr 42 (.tmp 13) 4, _, _, _, none⟩ (.pointer (some ⟨ab, 4, none⟩)) rfl rfl (by kernel_rfl) (by kernel_rfl) (by kernel_rfl) (fun _ _ _ h => h) (fun w hS => exec_v (field42_4 ab w)) HS0 ?_
                simp only [Act.put, List.setIfInBounds_toArray, List.set_cons_zero, List.set_cons_succ]
                refine anyH_take 7 ⟨some 89, .load 40 (.tmp 88), _, _, _, none⟩ (.slice vka vkl vkc) rfl rfl (by kernel_rfl) (by kernel_rfl) (by kernel_rfl) (fun _ _ _ h => h) (fun w hS => exec_v (load40x hS)) HS0 ?_
                simp only [Act.put, List.setIfInBounds_toArray, List.set_cons_zero, List.set_cons_succ]
                refine anyH_take 9 ⟨some 91, .move (.tmp 11), _, _, _, none⟩ (.pointer (some ⟨xb, 0, none⟩)) rfl rfl (by kernel_rfl) (by kernel_rfl) (by kernel_rfl) (fun _ _ _ h => h) (fun w hS => rfl) HS0 ?_
                simp only [Act.put, List.setIfInBounds_toArray, List.set_cons_zero, List.set_cons_succ]
                refine anyH_take 10 ⟨some 92, .nilCheck (.tmp 91), _, _, _, none⟩ (.pointer (some ⟨xb, 0, none⟩)) rfl rfl (by kernel_rfl) (by kernel_rfl) (by kernel_rfl) (fun _ _ _ h => h) (fun w hS => rfl) HS0 ?_
                simp only [Act.put, List.setIfInBounds_toArray, List.set_cons_zero, List.set_cons_succ]
                refine anyH_take 11 ⟨some 93, .fieldAddr 39 (.tmp 92) 2, _, _, _, none⟩ (.pointer (some ⟨xb, 2, none⟩)) rfl rfl (by kernel_rfl) (by kernel_rfl) (by kernel_rfl) (fun _ _ _ h => h) (fun w hS => exec_v (field39_2 xb w)) HS0 ?_
                simp only [Act.put, List.setIfInBounds_toArray, List.set_cons_zero, List.set_cons_succ]
                refine anyH_take 13 ⟨some 95, .fieldAddr 42 (.tmp 13) 4, _, _, _, none⟩ (.pointer (some ⟨ab, 4, none⟩)) rfl rfl (by kernel_rfl) (by kernel_rfl) (by kernel_rfl) (fun _ _ _ h => h) (fun w hS => exec_v (field42_4 ab w)) HS0 ?_
                simp only [Act.put, List.setIfInBounds_toArray, List.set_cons_zero, List.set_cons_succ]
                refine anyH_take 14 ⟨some 96, .load 40 (.tmp 95), _, _, _, none⟩ (.slice vka vkl vkc) rfl rfl (by kernel_rfl) (by kernel_rfl) (by kernel_rfl) (fun _ _ _ h => h) (fun w hS => exec_v (load40x hS)) HS0 ?_
                simp only [Act.put, List.setIfInBounds_toArray, List.set_cons_zero, List.set_cons_succ]
                refine anyH_two 5 12 (by kernel_rfl) ?_ ?_
                · refine wpOp_run (o := ⟨some 87, .load 23 (.tmp 86), _, _, _, none⟩) (v := (.pointer (some ⟨db, 0, none⟩))) rfl rfl (exec_v (load23x x0)) ⟨HS0, ?_⟩
                  simp only [Act.put, List.setIfInBounds_toArray, List.set_cons_zero, List.set_cons_succ]
                  refine anyH_two 8 12 (by kernel_rfl) ?_ ?_
                  · refine wpOp_callW (o := ⟨some 90, .call { callee := .value (.func 19), args := #[.tmp 87, .tmp 89], argTypes := #[23, 40] }, _, _, _, none⟩) rfl rfl (exec_call2b (f := 19) rfl rfl (.inl rfl)) ?_
                    refine (H1d.out.crashL vka vkl vkc vks HKd.out).mono ?_
                    rintro e w2c ⟨db2, own2, rfl, hd2, hb2⟩
                    have H2 := hid (H1d.out.later hb2)
                    have HK2 := hid (HKd.out.later hb2)
                    have HD2 := hid hd2
                    have HBB2 := hid hb2
                    have HS2 := H2.out.xc (q := ab) two_mem.1 (j := 4) rfl
                    have x2' := H2.out.xc (q := xb) two_mem.2 (j := 2) rfl
                    clear hd2 hb2
                    refine ⟨_, rfl, HS2, ?_⟩
                    simp only [Act.put, List.setIfInBounds_toArray, List.set_cons_zero, List.set_cons_succ]
                    refine anyH_one 12 ⟨some 94, .load 27 (.tmp 93), _, _, _, none⟩ (.pointer (some ⟨c, 0, none⟩)) _ (by kernel_rfl) rfl rfl (exec_v (load27 x2')) HS2 ?_
                    simp only [Act.put, List.setIfInBounds_toArray, List.set_cons_zero, List.set_cons_succ]
                    refine anyH_callW 15 ⟨some 97, .call { callee := .value (.func 20), args := #[.tmp 94, .tmp 96], argTypes := #[27, 40] }, _, _, _, none⟩ 20 _ (by kernel_rfl) rfl rfl (exec_call2b (f := 20) rfl rfl (.inr (.inl rfl))) ?_
                    refine (H2.out.crashR vka vkl vkc vks HK2.out).mono ?_
                    rintro e w3c ⟨c3, own3, rfl, hr3, hb3⟩
                    have H3 := hid (H2.out.later hb3)
                    have HM := hid (made_duo (w := W1.drew) (w1 := w2c) (w1' := w2c) (G := [(xb, [.pointer (some ⟨db, 0, none⟩), pv, .pointer (some ⟨c, 0, none⟩), rv], 39)]) H1d.out.hB HD2.out HBB2.out (Below.refl _ _) hr3 hb3 (fun x hx => by obtain rfl := List.mem_singleton.1 hx; exact H1d.out.guest two_mem.2))
                    have HS3 := H3.out.xc (q := ab) two_mem.1 (j := 4) rfl
                    have HB3 := hid (HB1d.out.trans ((HBB2.out.mono H1d.out.hB).trans (hb3.mono H2.out.hB)))
                    clear hr3 hb3
                    have y0 := HM.out.xc (k := xb) one_mem (j := 0) rfl
                    have f0 := Guest.free (HM.out.g _ one_mem) 0
                    refine ⟨_, rfl, HS3, ?_⟩
                    simp only [Act.put, List.setIfInBounds_toArray, List.set_cons_zero, List.set_cons_succ]
                    refine anyH_take 16 ⟨some 98, .nilCheck (.tmp 82), _, _, _, none⟩ (.pointer (some ⟨xb, 0, none⟩)) rfl rfl (by kernel_rfl) (by kernel_rfl) (by kernel_rfl) (fun _ _ _ h => h) (fun w hS => rfl) HS3 ?_
                    simp only [Act.put, List.setIfInBounds_toArray, List.set_cons_zero, List.set_cons_succ]
                    refine anyH_take 17 ⟨some 99, .fieldAddr 39 (.tmp 98) 0, _, _, _, none⟩ (.pointer (some ⟨xb, 0, none⟩)) rfl rfl (by kernel_rfl) (by kernel_rfl) (by kernel_rfl) (fun _ _ _ h => h) (fun w hS => exec_v (field39_0 xb w)) HS3 ?_
                    simp only [Act.put, List.setIfInBounds_toArray, List.set_cons_zero, List.set_cons_succ]
                    have HM4 : Hid (DuoD (w3c.setCell ⟨xb, 0, none⟩ (.pointer (some ⟨db2, 0, none⟩))) B [(xb, [.pointer (some ⟨db2, 0, none⟩), pv, .pointer (some ⟨c, 0, none⟩), rv], 39)] db2 c3 own2 own3 (D.crash vks) (D.crash vks)) := HM.out.setX (j := 0) (v := (.pointer (some ⟨db2, 0, none⟩)))
                    have HS4 : (w3c.setCell ⟨xb, 0, none⟩ (.pointer (some ⟨db2, 0, none⟩))).cell? ⟨ab, 4, none⟩ = some (.slice vka vkl vkc) := (World.cell?_setCell_other _ _ _ _ (by intro h; simp only [Addr.mk.injEq] at h; omega)).trans HS3
                    refine anyH_oneSkip 18 ⟨none, .store 23 (.tmp 99) (.tmp 90), _, _, _, none⟩ _ (by kernel_rfl) rfl rfl (exec_store23 (v := (.pointer (some ⟨db2, 0, none⟩))) rfl rfl rfl y0 f0) HS4 ?_
                    simp only [Act.put, List.setIfInBounds_toArray, List.set_cons_zero, List.set_cons_succ]
                    have HB4 : Hid (Below B w (w3c.setCell ⟨xb, 0, none⟩ (.pointer (some ⟨db2, 0, none⟩)))) := HB3.out.setCell hxb _
                    generalize w3c.setCell ⟨xb, 0, none⟩ (.pointer (some ⟨db2, 0, none⟩)) = w4c at *
                    have y2 := HM4.out.xc (k := xb) one_mem (j := 2) rfl
                    have f2 := Guest.free (HM4.out.g _ one_mem) 2
                    refine anyH_take 19 ⟨some 100, .nilCheck (.tmp 83), _, _, _, none⟩ (.pointer (some ⟨xb, 0, none⟩)) rfl rfl (by kernel_rfl) (by kernel_rfl) (by kernel_rfl) (fun _ _ _ h => h) (fun w hS => rfl) HS4 ?_
                    simp only [Act.put, List.setIfInBounds_toArray, List.set_cons_zero, List.set_cons_succ]
                    refine anyH_take 20 ⟨some 101, .fieldAddr 39 (.tmp 100) 2, _, _, _, none⟩ (.pointer (some ⟨xb, 2, none⟩)) rfl rfl (by kernel_rfl) (by kernel_rfl) (by kernel_rfl) (fun _ _ _ h => h) (fun w hS => exec_v (field39_2 xb w)) HS4 ?_
                    simp only [Act.put, List.setIfInBounds_toArray, List.set_cons_zero, List.set_cons_succ]
                    have HM5 : Hid (DuoD (w4c.setCell ⟨xb, 2, none⟩ (.pointer (some ⟨c3, 0, none⟩))) B [(xb, [.pointer (some ⟨db2, 0, none⟩), pv, .pointer (some ⟨c3, 0, none⟩), rv], 39)] db2 c3 own2 own3 (D.crash vks) (D.crash vks)) := HM4.out.setX (j := 2) (v := (.pointer (some ⟨c3, 0, none⟩)))
                    have HS5 : (w4c.setCell ⟨xb, 2, none⟩ (.pointer (some ⟨c3, 0, none⟩))).cell? ⟨ab, 4, none⟩ = some (.slice vka vkl vkc) := (World.cell?_setCell_other _ _ _ _ (by intro h; simp only [Addr.mk.injEq] at h; omega)).trans HS4
                    refine anyH_oneSkip 21 ⟨none, .store 27 (.tmp 101) (.tmp 97), _, _, _, none⟩ _ (by kernel_rfl) rfl rfl (exec_store27 (v := (.pointer (some ⟨c3, 0, none⟩))) rfl rfl rfl y2 f2) HS5 ?_
                    simp only [Act.put, List.setIfInBounds_toArray, List.set_cons_zero, List.set_cons_succ]
                    have HB5 : Hid (Below B w (w4c.setCell ⟨xb, 2, none⟩ (.pointer (some ⟨c3, 0, none⟩)))) := HB4.out.setCell hxb _
                    generalize w4c.setCell ⟨xb, 2, none⟩ (.pointer (some ⟨c3, 0, none⟩)) = w5c at *
                    refine wpAnyH_done (by kernel_rfl) ?_ _
                    clear y0 f0 y2 f2 x2' x0 x2 HS0 HS2 HS3 HS4 HS5 hne
                    have HLk := hid (crash_lim D vks (k + 1))
                    have HYk := hid (H1d.out.byt.1.crash vks)
                    clear HM HM4 HBB2 H2 H3 HD2 HK2 HKd H1d HB1d HB3 HB4
                    generalize D.crash vks = D9 at *
                    go_wp2_with fail
                    refine (bopen_any HM5.out HYk.out HLk.out hxb).mono ?_
                    rintro e w7 ⟨rfl, hst, hb7⟩
                    have HST : Hid (∃ db c, St w7 B xb db c (k + 1)) := ⟨db2, c3, hst⟩
                    have HBF := hid (HB5.out.trans hb7)
                    clear hst hb7
                    go_wp2_with fail
                    go_roundw
                    case rel => exact ⟨k + 1, by omega, by go_num, HST.out, HBF.out⟩
                    case measure => simp [intOf]; omega

                  · refine wpOp_run (o := ⟨some 94, .load 27 (.tmp 93), _, _, _, none⟩) (v := (.pointer (some ⟨c, 0, none⟩))) rfl rfl (exec_v (load27 x2)) ⟨HS0, ?_⟩
                    simp only [Act.put, List.setIfInBounds_toArray, List.set_cons_zero, List.set_cons_succ]
                    refine anyH_callW 8 ⟨some 90, .call { callee := .value (.func 19), args := #[.tmp 87, .tmp 89], argTypes := #[23, 40] }, _, _, _, none⟩ 19 _ (by kernel_rfl) rfl rfl (exec_call2b (f := 19) rfl rfl (.inl rfl)) ?_
                    refine (H1d.out.crashL vka vkl vkc vks HKd.out).mono ?_
                    rintro e w2c ⟨db2, own2, rfl, hd2, hb2⟩
                    have H2 := hid (H1d.out.later hb2)
                    have HK2 := hid (HKd.out.later hb2)
                    have HD2 := hid hd2
                    have HBB2 := hid hb2
                    have HS2 := H2.out.xc (q := ab) two_mem.1 (j := 4) rfl
                    have x2' := H2.out.xc (q := xb) two_mem.2 (j := 2) rfl
                    clear hd2 hb2
                    refine ⟨_, rfl, HS2, ?_⟩
                    simp only [Act.put, List.setIfInBounds_toArray, List.set_cons_zero, List.set_cons_succ]
                    refine anyH_callW 15 ⟨some 97, .call { callee := .value (.func 20), args := #[.tmp 94, .tmp 96], argTypes := #[27, 40] }, _, _, _, none⟩ 20 _ (by kernel_rfl) rfl rfl (exec_call2b (f := 20) rfl rfl (.inr (.inl rfl))) ?_
                    refine (H2.out.crashR vka vkl vkc vks HK2.out).mono ?_
                    rintro e w3c ⟨c3, own3, rfl, hr3, hb3⟩
                    have H3 := hid (H2.out.later hb3)
                    have HM := hid (made_duo (w := W1.drew) (w1 := w2c) (w1' := w2c) (G := [(xb, [.pointer (some ⟨db, 0, none⟩), pv, .pointer (some ⟨c, 0, none⟩), rv], 39)]) H1d.out.hB HD2.out HBB2.out (Below.refl _ _) hr3 hb3 (fun x hx => by obtain rfl := List.mem_singleton.1 hx; exact H1d.out.guest two_mem.2))
                    have HS3 := H3.out.xc (q := ab) two_mem.1 (j := 4) rfl
                    have HB3 := hid (HB1d.out.trans ((HBB2.out.mono H1d.out.hB).trans (hb3.mono H2.out.hB)))
                    clear hr3 hb3
                    have y0 := HM.out.xc (k := xb) one_mem (j := 0) rfl
                    have f0 := Guest.free (HM.out.g _ one_mem) 0
                    refine ⟨_, rfl, HS3, ?_⟩
                    simp only [Act.put, List.setIfInBounds_toArray, List.set_cons_zero, List.set_cons_succ]
                    refine anyH_take 16 ⟨some 98, .nilCheck (.tmp 82), _, _, _, none⟩ (.pointer (some ⟨xb, 0, none⟩)) rfl rfl (by kernel_rfl) (by kernel_rfl) (by kernel_rfl) (fun _ _ _ h => h) (fun w hS => rfl) HS3 ?_
                    simp only [Act.put, List.setIfInBounds_toArray, List.set_cons_zero, List.set_cons_succ]
                    refine anyH_take 17 ⟨some 99, .fieldAddr 39 (.tmp 98) 0, _, _, _, none⟩ (.pointer (some ⟨xb, 0, none⟩)) rfl rfl (by kernel_rfl) (by kernel_rfl) (by kernel_rfl) (fun _ _ _ h => h) (fun w hS => exec_v (field39_0 xb w)) HS3 ?_
                    simp only [Act.put, List.setIfInBounds_toArray, List.set_cons_zero, List.set_cons_succ]
                    have HM4 : Hid (DuoD (w3c.setCell ⟨xb, 0, none⟩ (.pointer (some ⟨db2, 0, none⟩))) B [(xb, [.pointer (some ⟨db2, 0, none⟩), pv, .pointer (some ⟨c, 0, none⟩), rv], 39)] db2 c3 own2 own3 (D.crash vks) (D.crash vks)) := HM.out.setX (j := 0) (v := (.pointer (some ⟨db2, 0, none⟩)))
                    have HS4 : (w3c.setCell ⟨xb, 0, none⟩ (.pointer (some ⟨db2, 0, none⟩))).cell? ⟨ab, 4, none⟩ = some (.slice vka vkl vkc) := (World.cell?_setCell_other _ _ _ _ (by intro h; simp only [Addr.mk.injEq] at h; omega)).trans HS3
                    refine anyH_oneSkip 18 ⟨none, .store 23 (.tmp 99) (.tmp 90), _, _, _, none⟩ _ (by kernel_rfl) rfl rfl (exec_store23 (v := (.pointer (some ⟨db2, 0, none⟩))) rfl rfl rfl y0 f0) HS4 ?_
                    simp only [Act.put, List.setIfInBounds_toArray, List.set_cons_zero, List.set_cons_succ]
                    have HB4 : Hid (Below B w (w3c.setCell ⟨xb, 0, none⟩ (.pointer (some ⟨db2, 0, none⟩)))) := HB3.out.setCell hxb _
                    generalize w3c.setCell ⟨xb, 0, none⟩ (.pointer (some ⟨db2, 0, none⟩)) = w4c at *
                    have y2 := HM4.out.xc (k := xb) one_mem (j := 2) rfl
                    have f2 := Guest.free (HM4.out.g _ one_mem) 2
                    refine anyH_take 19 ⟨some 100, .nilCheck (.tmp 83), _, _, _, none⟩ (.pointer (some ⟨xb, 0, none⟩)) rfl rfl (by kernel_rfl) (by kernel_rfl) (by kernel_rfl) (fun _ _ _ h => h) (fun w hS => rfl) HS4 ?_
                    simp only [Act.put, List.setIfInBounds_toArray, List.set_cons_zero, List.set_cons_succ]
                    refine anyH_take 20 ⟨some 101, .fieldAddr 39 (.tmp 100) 2, _, _, _, none⟩ (.pointer (some ⟨xb, 2, none⟩)) rfl rfl (by kernel_rfl) (by kernel_rfl) (by kernel_rfl) (fun _ _ _ h => h) (fun w hS => exec_v (field39_2 xb w)) HS4 ?_
                    simp only [Act.put, List.setIfInBounds_toArray, List.set_cons_zero, List.set_cons_succ]
                    have HM5 : Hid (DuoD (w4c.setCell ⟨xb, 2, none⟩ (.pointer (some ⟨c3, 0, none⟩))) B [(xb, [.pointer (some ⟨db2, 0, none⟩), pv, .pointer (some ⟨c3, 0, none⟩), rv], 39)] db2 c3 own2 own3 (D.crash vks) (D.crash vks)) := HM4.out.setX (j := 2) (v := (.pointer (some ⟨c3, 0, none⟩)))
                    have HS5 : (w4c.setCell ⟨xb, 2, none⟩ (.pointer (some ⟨c3, 0, none⟩))).cell? ⟨ab, 4, none⟩ = some (.slice vka vkl vkc) := (World.cell?_setCell_other _ _ _ _ (by intro h; simp only [Addr.mk.injEq] at h; omega)).trans HS4
                    refine anyH_oneSkip 21 ⟨none, .store 27 (.tmp 101) (.tmp 97), _, _, _, none⟩ _ (by kernel_rfl) rfl rfl (exec_store27 (v := (.pointer (some ⟨c3, 0, none⟩))) rfl rfl rfl y2 f2) HS5 ?_
                    simp only [Act.put, List.setIfInBounds_toArray, List.set_cons_zero, List.set_cons_succ]
                    have HB5 : Hid (Below B w (w4c.setCell ⟨xb, 2, none⟩ (.pointer (some ⟨c3, 0, none⟩)))) := HB4.out.setCell hxb _
                    generalize w4c.setCell ⟨xb, 2, none⟩ (.pointer (some ⟨c3, 0, none⟩)) = w5c at *
                    refine wpAnyH_done (by kernel_rfl) ?_ _
                    clear y0 f0 y2 f2 x2' x0 x2 HS0 HS2 HS3 HS4 HS5 hne
                    have HLk := hid (crash_lim D vks (k + 1))
                    have HYk := hid (H1d.out.byt.1.crash vks)
                    clear HM HM4 HBB2 H2 H3 HD2 HK2 HKd H1d HB1d HB3 HB4
                    generalize D.crash vks = D9 at *
                    go_wp2_with fail
                    refine (bopen_any HM5.out HYk.out HLk.out hxb).mono ?_
                    rintro e w7 ⟨rfl, hst, hb7⟩
                    have HST : Hid (∃ db c, St w7 B xb db c (k + 1)) := ⟨db2, c3, hst⟩
                    have HBF := hid (HB5.out.trans hb7)
                    clear hst hb7
                    go_wp2_with fail
                    go_roundw
                    case rel => exact ⟨k + 1, by omega, by go_num, HST.out, HBF.out⟩
                    case measure => simp [intOf]; omega

                · refine wpOp_run (o := ⟨some 94, .load 27 (.tmp 93), _, _, _, none⟩) (v := (.pointer (some ⟨c, 0, none⟩))) rfl rfl (exec_v (load27 x2)) ⟨HS0, ?_⟩
                  simp only [Act.put, List.setIfInBounds_toArray, List.set_cons_zero, List.set_cons_succ]
                  refine anyH_one 5 ⟨some 87, .load 23 (.tmp 86), _, _, _, none⟩ (.pointer (some ⟨db, 0, none⟩)) _ (by kernel_rfl) rfl rfl (exec_v (load23x x0)) HS0 ?_
                  simp only [Act.put, List.setIfInBounds_toArray, List.set_cons_zero, List.set_cons_succ]
                  refine anyH_callW 8 ⟨some 90, .call { callee := .value (.func 19), args := #[.tmp 87, .tmp 89], argTypes := #[23, 40] }, _, _, _, none⟩ 19 _ (by kernel_rfl) rfl rfl (exec_call2b (f := 19) rfl rfl (.inl rfl)) ?_
                  refine (H1d.out.crashL vka vkl vkc vks HKd.out).mono ?_
                  rintro e w2c ⟨db2, own2, rfl, hd2, hb2⟩
                  have H2 := hid (H1d.out.later hb2)
                  have HK2 := hid (HKd.out.later hb2)
                  have HD2 := hid hd2
                  have HBB2 := hid hb2
                  have HS2 := H2.out.xc (q := ab) two_mem.1 (j := 4) rfl
                  have x2' := H2.out.xc (q := xb) two_mem.2 (j := 2) rfl
                  clear hd2 hb2
                  refine ⟨_, rfl, HS2, ?_⟩
                  simp only [Act.put, List.setIfInBounds_toArray, List.set_cons_zero, List.set_cons_succ]
                  refine anyH_callW 15 ⟨some 97, .call { callee := .value (.func 20), args := #[.tmp 94, .tmp 96], argTypes := #[27, 40] }, _, _, _, none⟩ 20 _ (by kernel_rfl) rfl rfl (exec_call2b (f := 20) rfl rfl (.inr (.inl rfl))) ?_
                  refine (H2.out.crashR vka vkl vkc vks HK2.out).mono ?_
                  rintro e w3c ⟨c3, own3, rfl, hr3, hb3⟩
                  have H3 := hid (H2.out.later hb3)
                  have HM := hid (made_duo (w := W1.drew) (w1 := w2c) (w1' := w2c) (G := [(xb, [.pointer (some ⟨db, 0, none⟩), pv, .pointer (some ⟨c, 0, none⟩), rv], 39)]) H1d.out.hB HD2.out HBB2.out (Below.refl _ _) hr3 hb3 (fun x hx => by obtain rfl := List.mem_singleton.1 hx; exact H1d.out.guest two_mem.2))
                  have HS3 := H3.out.xc (q := ab) two_mem.1 (j := 4) rfl
                  have HB3 := hid (HB1d.out.trans ((HBB2.out.mono H1d.out.hB).trans (hb3.mono H2.out.hB)))
                  clear hr3 hb3
                  have y0 := HM.out.xc (k := xb) one_mem (j := 0) rfl
                  have f0 := Guest.free (HM.out.g _ one_mem) 0
                  refine ⟨_, rfl, HS3, ?_⟩
                  simp only [Act.put, List.setIfInBounds_toArray, List.set_cons_zero, List.set_cons_succ]
                  refine anyH_take 16 ⟨some 98, .nilCheck (.tmp 82), _, _, _, none⟩ (.pointer (some ⟨xb, 0, none⟩)) rfl rfl (by kernel_rfl) (by kernel_rfl) (by kernel_rfl) (fun _ _ _ h => h) (fun w hS => rfl) HS3 ?_
                  simp only [Act.put, List.setIfInBounds_toArray, List.set_cons_zero, List.set_cons_succ]
                  refine anyH_take 17 ⟨some 99, .fieldAddr 39 (.tmp 98) 0, _, _, _, none⟩ (.pointer (some ⟨xb, 0, none⟩)) rfl rfl (by kernel_rfl) (by kernel_rfl) (by kernel_rfl) (fun _ _ _ h => h) (fun w hS => exec_v (field39_0 xb w)) HS3 ?_
                  simp only [Act.put, List.setIfInBounds_toArray, List.set_cons_zero, List.set_cons_succ]
                  have HM4 : Hid (DuoD (w3c.setCell ⟨xb, 0, none⟩ (.pointer (some ⟨db2, 0, none⟩))) B [(xb, [.pointer (some ⟨db2, 0, none⟩), pv, .pointer (some ⟨c, 0, none⟩), rv], 39)] db2 c3 own2 own3 (D.crash vks) (D.crash vks)) := HM.out.setX (j := 0) (v := (.pointer (some ⟨db2, 0, none⟩)))
                  have HS4 : (w3c.setCell ⟨xb, 0, none⟩ (.pointer (some ⟨db2, 0, none⟩))).cell? ⟨ab, 4, none⟩ = some (.slice vka vkl vkc) := (World.cell?_setCell_other _ _ _ _ (by intro h; simp only [Addr.mk.injEq] at h; omega)).trans HS3
                  refine anyH_oneSkip 18 ⟨none, .store 23 (.tmp 99) (.tmp 90), _, _, _, none⟩ _ (by kernel_rfl) rfl rfl (exec_store23 (v := (.pointer (some ⟨db2, 0, none⟩))) rfl rfl rfl y0 f0) HS4 ?_
                  simp only [Act.put, List.setIfInBounds_toArray, List.set_cons_zero, List.set_cons_succ]
                  have HB4 : Hid (Below B w (w3c.setCell ⟨xb, 0, none⟩ (.pointer (some ⟨db2, 0, none⟩)))) := HB3.out.setCell hxb _
                  generalize w3c.setCell ⟨xb, 0, none⟩ (.pointer (some ⟨db2, 0, none⟩)) = w4c at *
                  have y2 := HM4.out.xc (k := xb) one_mem (j := 2) rfl
                  have f2 := Guest.free (HM4.out.g _ one_mem) 2
                  refine anyH_take 19 ⟨some 100, .nilCheck (.tmp 83), _, _, _, none⟩ (.pointer (some ⟨xb, 0, none⟩)) rfl rfl (by kernel_rfl) (by kernel_rfl) (by kernel_rfl) (fun _ _ _ h => h) (fun w hS => rfl) HS4 ?_
                  simp only [Act.put, List.setIfInBounds_toArray, List.set_cons_zero, List.set_cons_succ]
                  refine anyH_take 20 ⟨some 101, .fieldAddr 39 (.tmp 100) 2, _, _, _, none⟩ (.pointer (some ⟨xb, 2, none⟩)) rfl rfl (by kernel_rfl) (by kernel_rfl) (by kernel_rfl) (fun _ _ _ h => h) (fun w hS => exec_v (field39_2 xb w)) HS4 ?_
                  simp only [Act.put, List.setIfInBounds_toArray, List.set_cons_zero, List.set_cons_succ]
                  have HM5 : Hid (DuoD (w4c.setCell ⟨xb, 2, none⟩ (.pointer (some ⟨c3, 0, none⟩))) B [(xb, [.pointer (some ⟨db2, 0, none⟩), pv, .pointer (some ⟨c3, 0, none⟩), rv], 39)] db2 c3 own2 own3 (D.crash vks) (D.crash vks)) := HM4.out.setX (j := 2) (v := (.pointer (some ⟨c3, 0, none⟩)))
                  have HS5 : (w4c.setCell ⟨xb, 2, none⟩ (.pointer (some ⟨c3, 0, none⟩))).cell? ⟨ab, 4, none⟩ = some (.slice vka vkl vkc) := (World.cell?_setCell_other _ _ _ _ (by intro h; simp only [Addr.mk.injEq] at h; omega)).trans HS4
                  refine anyH_oneSkip 21 ⟨none, .store 27 (.tmp 101) (.tmp 97), _, _, _, none⟩ _ (by kernel_rfl) rfl rfl (exec_store27 (v := (.pointer (some ⟨c3, 0, none⟩))) rfl rfl rfl y2 f2) HS5 ?_
                  simp only [Act.put, List.setIfInBounds_toArray, List.set_cons_zero, List.set_cons_succ]
                  have HB5 : Hid (Below B w (w4c.setCell ⟨xb, 2, none⟩ (.pointer (some ⟨c3, 0, none⟩)))) := HB4.out.setCell hxb _
                  generalize w4c.setCell ⟨xb, 2, none⟩ (.pointer (some ⟨c3, 0, none⟩)) = w5c at *
                  refine wpAnyH_done (by kernel_rfl) ?_ _
                  clear y0 f0 y2 f2 x2' x0 x2 HS0 HS2 HS3 HS4 HS5 hne
                  have HLk := hid (crash_lim D vks (k + 1))
                  have HYk := hid (H1d.out.byt.1.crash vks)
                  clear HM HM4 HBB2 H2 H3 HD2 HK2 HKd H1d HB1d HB3 HB4
                  generalize D.crash vks = D9 at *
                  go_wp2_with fail
                  refine (bopen_any HM5.out HYk.out HLk.out hxb).mono ?_
                  rintro e w7 ⟨rfl, hst, hb7⟩
                  have HST : Hid (∃ db c, St w7 B xb db c (k + 1)) := ⟨db2, c3, hst⟩
                  have HBF := hid (HB5.out.trans hb7)
                  clear hst hb7
                  go_wp2_with fail
                  go_roundw
                  case rel => exact ⟨k + 1, by omega, by go_num, HST.out, HBF.out⟩
                  case measure => simp [intOf]; omega

              · by_cases hk10 : kind = 10
                · have hkd := hk10
                  clear hk8 hk9 hk10 HSt HK
                  have e8 : (kind == 8) = false := by simp [hkd]
                  have e9 : (kind == 9) = false := by simp [hkd]
                  have e10 : (kind == 10) = true := by simp [hkd]
                  clear hkd
                  go_wp2_with fail
                  generalize wr.alloc (.cells #[.int .i64 kind, .int .i64 vn, .int .i64 vm, .string vs, .slice vka vkl vkc] 42) = W1 at *
                  generalize wr.heap.size = ab at *
                  have GK : Hid ((W1.alloc (.cells (bc (rep 512 0)).toArray 5)).heap[W1.heap.size]? = some (.cells (bc (rep 512 0)).toArray 5)) := heap_alloc_new W1 _
                  have g0 : (W1.alloc (.cells (bc (rep 512 0)).toArray 5)).cell? ⟨W1.heap.size, 0, none⟩ = some (.int .u8 0) := by simp only [World.cell?, GK.out]; rfl
                  have gf : (W1.alloc (.cells (bc (rep 512 0)).toArray 5)).frozen? ⟨W1.heap.size, 0, none⟩ = false := free_new GK.out
                  have HX : Hid (Below W1.heap.size W1 (W1.alloc (.cells (bc (rep 512 0)).toArray 5))) := (Below.refl _ W1).alloc (Nat.le_refl _) _
                  have a2 := cell_later HX.out (H1.out.xc (q := ab) two_mem.1 (j := 2) rfl)
                  rw [made_bytes]
                  generalize W1.alloc (.cells (bc (rep 512 0)).toArray 5) = W2 at *
                  generalize hge : W1.heap.size = g at *
                  go_wp2_with fail
                  have H2 := hid (duet_sec H1.out hge HX.out GK.out (vm % 256))
                  have HB2 : Hid (Below B w (W2.setCell ⟨g, 0, none⟩ (.int .u8 (vm % 256)))) := (HB1.out.trans (HX.out.mono (by rw [← hge]; exact H1.out.hB))).setCell (by rw [← hge]; exact H1.out.hB) _
                  have hvb : 0 ≤ vm % 256 ∧ vm % 256 < 256 := by omega
                  have HSB := hid (secM_byt _ hvb)
                  have HSL := hid (secM_length (vm % 256))
                  clear GK g0 gf HX a2 H1 HB1 hvb
                  generalize W2.setCell ⟨g, 0, none⟩ (.int .u8 (vm % 256)) = W3 at *
                  generalize secM (vm % 256) = sm at *
                  have H2d := hid (H2.out.later ((Below.refl W3.heap.size W3).drew))
                  have HB2d := hid (HB2.out.trans (((Below.refl W3.heap.size W3).drew).mono H2.out.hB))
                  go_region_held3 (fun w' => w'.cell? ⟨xb, 0, none⟩ = some (.pointer (some ⟨db, 0, none⟩)) ∧ w'.cell? ⟨xb, 1, none⟩ = some (pv) ∧ w'.cell? ⟨xb, 2, none⟩ = some (.pointer (some ⟨c, 0, none⟩)) ∧ w'.cell? ⟨xb, 3, none⟩ = some (rv) ∧ w'.cell? ⟨ab, 0, none⟩ = some (.int .i64 kind) ∧ w'.cell? ⟨ab, 1, none⟩ = some (.int .i64 vn) ∧ w'.cell? ⟨ab, 2, none⟩ = some (.int .i64 vm) ∧ w'.cell? ⟨ab, 3, none⟩ = some (.string vs) ∧ w'.cell? ⟨ab, 4, none⟩ = some (.slice vka vkl vkc)) (first | exact ⟨H3.out.less.xc (q := xb) two_mem.2 (j := 0) rfl, H3.out.less.xc (q := xb) two_mem.2 (j := 1) rfl, H3.out.less.xc (q := xb) two_mem.2 (j := 2) rfl, H3.out.less.xc (q := xb) two_mem.2 (j := 3) rfl, H3.out.less.xc (q := ab) two_mem.1 (j := 0) rfl, H3.out.less.xc (q := ab) two_mem.1 (j := 1) rfl, H3.out.less.xc (q := ab) two_mem.1 (j := 2) rfl, H3.out.less.xc (q := ab) two_mem.1 (j := 3) rfl, H3.out.less.xc (q := ab) two_mem.1 (j := 4) rfl⟩ | exact ⟨H2d.out.less.xc (q := xb) two_mem.2 (j := 0) rfl, H2d.out.less.xc (q := xb) two_mem.2 (j := 1) rfl, H2d.out.less.xc (q := xb) two_mem.2 (j := 2) rfl, H2d.out.less.xc (q := xb) two_mem.2 (j := 3) rfl, H2d.out.less.xc (q := ab) two_mem.1 (j := 0) rfl, H2d.out.less.xc (q := ab) two_mem.1 (j := 1) rfl, H2d.out.less.xc (q := ab) two_mem.1 (j := 2) rfl, H2d.out.less.xc (q := ab) two_mem.1 (j := 3) rfl, H2d.out.less.xc (q := ab) two_mem.1 (j := 4) rfl⟩ | exact ⟨H2.out.less.xc (q := xb) two_mem.2 (j := 0) rfl, H2.out.less.xc (q := xb) two_mem.2 (j := 1) rfl, H2.out.less.xc (q := xb) two_mem.2 (j := 2) rfl, H2.out.less.xc (q := xb) two_mem.2 (j := 3) rfl, H2.out.less.xc (q := ab) two_mem.1 (j := 0) rfl, H2.out.less.xc (q := ab) two_mem.1 (j := 1) rfl, H2.out.less.xc (q := ab) two_mem.1 (j := 2) rfl, H2.out.less.xc (q := ab) two_mem.1 (j := 3) rfl, H2.out.less.xc (q := ab) two_mem.1 (j := 4) rfl⟩) (first | (go_at_call 21; refine (H2d.out.writeL (by omega) (by omega) vn (List.mem_cons_self ..) HSL.out HSB.out).mono ?_; rintro e w3 ⟨rfl, hm_, hb_⟩; have H3 := hid hm_; have HB3 := hid (HB2d.out.trans hb_); clear hm_ hb_))
                  have x0 := H3.out.less.xc (q := xb) two_mem.2 (j := 0) rfl
                  have x1 := H3.out.less.xc (q := xb) two_mem.2 (j := 1) rfl
                  have x2 := H3.out.less.xc (q := xb) two_mem.2 (j := 2) rfl
                  have x3 := H3.out.less.xc (q := xb) two_mem.2 (j := 3) rfl
                  have a0 := H3.out.less.xc (q := ab) two_mem.1 (j := 0) rfl
                  have a1 := H3.out.less.xc (q := ab) two_mem.1 (j := 1) rfl
                  have a2 := H3.out.less.xc (q := ab) two_mem.1 (j := 2) rfl
                  have a3 := H3.out.less.xc (q := ab) two_mem.1 (j := 3) rfl
                  have a4 := H3.out.less.xc (q := ab) two_mem.1 (j := 4) rfl
                  go_wp2_with fail
                  clear x0 x1 x2 x3 a0 a1 a2 a3 a4
                  have H3d := hid (H3.out.later ((Below.refl w3.heap.size w3).drew))
                  have HB3d := hid (HB3.out.trans (((Below.refl w3.heap.size w3).drew).mono H3.out.hB))
                  go_region_held3 (fun w' => w'.cell? ⟨xb, 0, none⟩ = some (.pointer (some ⟨db, 0, none⟩)) ∧ w'.cell? ⟨xb, 1, none⟩ = some (pv) ∧ w'.cell? ⟨xb, 2, none⟩ = some (.pointer (some ⟨c, 0, none⟩)) ∧ w'.cell? ⟨xb, 3, none⟩ = some (rv) ∧ w'.cell? ⟨ab, 0, none⟩ = some (.int .i64 kind) ∧ w'.cell? ⟨ab, 1, none⟩ = some (.int .i64 vn) ∧ w'.cell? ⟨ab, 2, none⟩ = some (.int .i64 vm) ∧ w'.cell? ⟨ab, 3, none⟩ = some (.string vs) ∧ w'.cell? ⟨ab, 4, none⟩ = some (.slice vka vkl vkc)) (first | exact ⟨H4.out.less.xc (q := xb) two_mem.2 (j := 0) rfl, H4.out.less.xc (q := xb) two_mem.2 (j := 1) rfl, H4.out.less.xc (q := xb) two_mem.2 (j := 2) rfl, H4.out.less.xc (q := xb) two_mem.2 (j := 3) rfl, H4.out.less.xc (q := ab) two_mem.1 (j := 0) rfl, H4.out.less.xc (q := ab) two_mem.1 (j := 1) rfl, H4.out.less.xc (q := ab) two_mem.1 (j := 2) rfl, H4.out.less.xc (q := ab) two_mem.1 (j := 3) rfl, H4.out.less.xc (q := ab) two_mem.1 (j := 4) rfl⟩ | exact ⟨H3d.out.less.xc (q := xb) two_mem.2 (j := 0) rfl, H3d.out.less.xc (q := xb) two_mem.2 (j := 1) rfl, H3d.out.less.xc (q := xb) two_mem.2 (j := 2) rfl, H3d.out.less.xc (q := xb) two_mem.2 (j := 3) rfl, H3d.out.less.xc (q := ab) two_mem.1 (j := 0) rfl, H3d.out.less.xc (q := ab) two_mem.1 (j := 1) rfl, H3d.out.less.xc (q := ab) two_mem.1 (j := 2) rfl, H3d.out.less.xc (q := ab) two_mem.1 (j := 3) rfl, H3d.out.less.xc (q := ab) two_mem.1 (j := 4) rfl⟩ | exact ⟨H3.out.less.xc (q := xb) two_mem.2 (j := 0) rfl, H3.out.less.xc (q := xb) two_mem.2 (j := 1) rfl, H3.out.less.xc (q := xb) two_mem.2 (j := 2) rfl, H3.out.less.xc (q := xb) two_mem.2 (j := 3) rfl, H3.out.less.xc (q := ab) two_mem.1 (j := 0) rfl, H3.out.less.xc (q := ab) two_mem.1 (j := 1) rfl, H3.out.less.xc (q := ab) two_mem.1 (j := 2) rfl, H3.out.less.xc (q := ab) two_mem.1 (j := 3) rfl, H3.out.less.xc (q := ab) two_mem.1 (j := 4) rfl⟩) (first | (go_at_call 22; refine (H3d.out.writeR (by omega) (by omega) vn (List.mem_cons_self ..) HSL.out HSB.out).mono ?_; rintro e w4a ⟨rfl, hm_, hb_⟩; have H4 := hid hm_; have HB4 := hid (HB3d.out.trans hb_); clear hm_ hb_))
                  have hwg := write_grow D vn sm
                  have HST : Hid (∃ db c, St w4a B xb db c (k + 1)) := ⟨db, c, H4.out.less.less.st (by omega) (by omega)⟩
                  have HBF := hid HB4.out
                  clear hwg
                  go_wp2_with fail
                  go_roundw
                  case rel => exact ⟨k + 1, by omega, by go_num, HST.out, HBF.out⟩
                  case measure => simp [intOf]; omega
                · have hkn : kind ≠ 8 ∧ kind ≠ 9 ∧ kind ≠ 10 := ⟨hk8, hk9, hk10⟩
                  clear hk8 hk9 hk10 HK
                  have e8 : (kind == 8) = false := by simp; omega
                  have e9 : (kind == 9) = false := by simp; omega
                  have e10 : (kind == 10) = false := by simp; omega
                  rcases HSt.out with ⟨al, ar, D0, hD, hy, hl0⟩ | ⟨b, r, al, ar, P, R, hD, hsim, hlim⟩
                  · have H0 := hid (hD.box [.int .i64 kind, .int .i64 vn, .int .i64 vm, .string vs, .slice vka vkl vkc] 42)
                    have HST : Hid (∃ db c, St (wr.alloc (.cells #[.int .i64 kind, .int .i64 vn, .int .i64 vm, .string vs, .slice vka vkl vkc] 42)) B xb db c (k + 1)) := ⟨db, c, .inl ⟨al, ar, D0, H0.out.less, hy, ⟨by have := hl0.st; omega, by have := hl0.wt; omega⟩⟩⟩
                    have HBF := hid HB1.out
                    have x3 := H0.out.xc (k := xb) two_mem.2 (j := 3) rfl
                    clear hD hy hl0 hkn
                    go_wp2_with fail
                    go_roundw
                    case rel => exact ⟨k + 1, by omega, by go_num, HST.out, HBF.out⟩
                    case measure => simp [intOf]; omega
                  · have H0 := hid (hD.box [.int .i64 kind, .int .i64 vn, .int .i64 vm, .string vs, .slice vka vkl vkc] 42)
                    have HSim := hid hsim
                    have HLim := hid hlim
                    have x3 := H0.out.xc (k := xb) two_mem.2 (j := 3) rfl
                    clear hD hsim hlim H1 HSt hkn
                    go_wp2_with fail
                    clear x3
                    generalize wr.alloc (.cells #[.int .i64 kind, .int .i64 vn, .int .i64 vm, .string vs, .slice vka vkl vkc] 42) = W1 at *
                    generalize wr.heap.size = ab at *
                    have Hd := hid (H0.out.later ((Below.refl W1.heap.size W1).drew))
                    have HBd := hid (HB1.out.trans (((Below.refl W1.heap.size W1).drew).mono H0.out.hB))
                    have a0 := Hd.out.xc (k := ab) two_mem.1 (j := 0) rfl
                    have a1 := Hd.out.xc (k := ab) two_mem.1 (j := 1) rfl
                    have a2 := Hd.out.xc (k := ab) two_mem.1 (j := 2) rfl
                    have a3 := Hd.out.xc (k := ab) two_mem.1 (j := 3) rfl
                    have a4 := Hd.out.xc (k := ab) two_mem.1 (j := 4) rfl
                    refine wp_region_held_drew (S := fun _ => True) (by kernel_rfl) trivial ?_
                    intro _
                    refine anyH_take 0 ⟨some 134, .move (.tmp 11), _, _, _, none⟩ (.pointer (some ⟨xb, 0, none⟩)) rfl rfl (by kernel_rfl) (by kernel_rfl) (by kernel_rfl) (fun _ _ _ h => h) (fun w hS => rfl) trivial ?_
                    simp only [Act.put, List.setIfInBounds_toArray, List.set_cons_zero, List.set_cons_succ]
                    refine anyH_one 1 ⟨some 135, .load 42 (.tmp 13), _, _, _, none⟩ (.agg #[.int .i64 kind, .int .i64 vn, .int .i64 vm, .string vs, .slice vka vkl vkc]) _ (by kernel_rfl) rfl rfl (exec_v (load42 a0 a1 a2 a3 a4)) trivial ?_
                    simp only [Act.put, List.setIfInBounds_toArray, List.set_cons_zero, List.set_cons_succ]
                    refine anyH_callW 2 ⟨some 136, .call { callee := .value (.func 23), args := #[.tmp 134, .tmp 135], argTypes := #[35, 42] }, _, _, _, none⟩ 23 _ (by kernel_rfl) rfl rfl (exec_call2b (f := 23) rfl rfl (.inr (.inr rfl))) ?_
                    refine (do_any Hd.out.less HSim.out HLim.out (by omega) kind vn vm vs hsm ⟨hvn1, hvn2⟩ vka vkl vkc).mono ?_
                    rintro e w2 ⟨rfl, al2, ar2, P2, R2, hf, hsm2, hlm2, hb2⟩
                    have HF := hid hf
                    have HSm := hid hsm2
                    have HLm := hid hlm2
                    have HBF := hid (HBd.out.trans hb2)
                    clear hf hsm2 hlm2 hb2 a0 a1 a2 a3 a4 HSim HLim H0 HB1 Hd HBd
                    refine ⟨_, rfl, trivial, ?_⟩
                    simp only [Act.put, List.setIfInBounds_toArray, List.set_cons_zero, List.set_cons_succ]
                    obtain ⟨rg, rr⟩ := HF.out.rcells
                    have HS1 := And.intro (HF.out.xc (k := xb) one_mem (j := 1) rfl) (And.intro (HF.out.xc (k := xb) one_mem (j := 3) rfl) (And.intro rg rr))
                    clear rg rr
                    refine anyH_more (S' := fun w' => w'.cell? ⟨xb, 1, none⟩ = some (.pointer (some ⟨b, 0, none⟩)) ∧ w'.cell? ⟨xb, 3, none⟩ = some (.pointer (some ⟨r, 0, none⟩)) ∧ w'.cell? ⟨r, 1, none⟩ = some (.int .i64 R2.gen) ∧ w'.cell? ⟨r, 2, none⟩ = some (.string R2.root)) (fun _ _ => trivial) _ _ _ _ ?_
                    refine anyH_takeW 3 ⟨some 137, .unOp .not 4 (.tmp 136), _, _, _, none⟩ (.bool false) rfl rfl (by kernel_rfl) (by kernel_rfl) (by kernel_rfl) (fun _ _ _ h => h) (fun w hS => rfl) HS1 ?_
                    simp only [Act.put, List.setIfInBounds_toArray, List.set_cons_zero, List.set_cons_succ]
                    refine anyH_takeW 4 ⟨some 138, .move (.tmp 137), _, _, _, none⟩ (.bool false) rfl rfl (by kernel_rfl) (by kernel_rfl) (by kernel_rfl) (fun _ _ _ h => h) (fun w hS => rfl) HS1 ?_
                    simp only [Act.put, List.setIfInBounds_toArray, List.set_cons_zero, List.set_cons_succ]
                    refine anyH_takeW 5 ⟨some 139, .move (.tmp 11), _, _, _, some (4, false)⟩ (.pointer (some ⟨xb, 0, none⟩)) rfl rfl (by kernel_rfl) (by kernel_rfl) (by kernel_rfl) (fun _ _ _ h => h) (fun w hS => rfl) HS1 ?_
                    simp only [Act.put, List.setIfInBounds_toArray, List.set_cons_zero, List.set_cons_succ]
                    refine anyH_takeW 6 ⟨some 140, .nilCheck (.tmp 139), _, _, _, some (4, false)⟩ (.pointer (some ⟨xb, 0, none⟩)) rfl rfl (by kernel_rfl) (by kernel_rfl) (by kernel_rfl) (fun _ _ _ h => h) (fun w hS => rfl) HS1 ?_
                    simp only [Act.put, List.setIfInBounds_toArray, List.set_cons_zero, List.set_cons_succ]
                    refine anyH_takeW 7 ⟨some 141, .fieldAddr 39 (.tmp 140) 1, _, _, _, some (4, false)⟩ (.pointer (some ⟨xb, 1, none⟩)) rfl rfl (by kernel_rfl) (by kernel_rfl) (by kernel_rfl) (fun _ _ _ h => h) (fun w hS => exec_v (field39_1 xb w)) HS1 ?_
                    simp only [Act.put, List.setIfInBounds_toArray, List.set_cons_zero, List.set_cons_succ]
                    refine anyH_takeW 8 ⟨some 142, .load 36 (.tmp 141), _, _, _, some (4, false)⟩ (.pointer (some ⟨b, 0, none⟩)) rfl rfl (by kernel_rfl) (by kernel_rfl) (by kernel_rfl) (fun _ _ _ h => h) (fun w hS => exec_v (load36x hS.1)) HS1 ?_
                    simp only [Act.put, List.setIfInBounds_toArray, List.set_cons_zero, List.set_cons_succ]
                    refine anyH_takeW 10 ⟨some 144, .move (.tmp 11), _, _, _, some (4, false)⟩ (.pointer (some ⟨xb, 0, none⟩)) rfl rfl (by kernel_rfl) (by kernel_rfl) (by kernel_rfl) (fun _ _ _ h => h) (fun w hS => rfl) HS1 ?_
                    simp only [Act.put, List.setIfInBounds_toArray, List.set_cons_zero, List.set_cons_succ]
                    refine anyH_takeW 11 ⟨some 145, .nilCheck (.tmp 144), _, _, _, some (4, false)⟩ (.pointer (some ⟨xb, 0, none⟩)) rfl rfl (by kernel_rfl) (by kernel_rfl) (by kernel_rfl) (fun _ _ _ h => h) (fun w hS => rfl) HS1 ?_
                    simp only [Act.put, List.setIfInBounds_toArray, List.set_cons_zero, List.set_cons_succ]
                    refine anyH_takeW 12 ⟨some 146, .fieldAddr 39 (.tmp 145) 3, _, _, _, some (4, false)⟩ (.pointer (some ⟨xb, 3, none⟩)) rfl rfl (by kernel_rfl) (by kernel_rfl) (by kernel_rfl) (fun _ _ _ h => h) (fun w hS => exec_v (field39_3 xb w)) HS1 ?_
                    simp only [Act.put, List.setIfInBounds_toArray, List.set_cons_zero, List.set_cons_succ]
                    refine anyH_takeW 13 ⟨some 147, .load 37 (.tmp 146), _, _, _, some (4, false)⟩ (.pointer (some ⟨r, 0, none⟩)) rfl rfl (by kernel_rfl) (by kernel_rfl) (by kernel_rfl) (fun _ _ _ h => h) (fun w hS => exec_v (load37x hS.2.1)) HS1 ?_
                    simp only [Act.put, List.setIfInBounds_toArray, List.set_cons_zero, List.set_cons_succ]
                    refine anyH_takeW 14 ⟨some 148, .nilCheck (.tmp 147), _, _, _, some (4, false)⟩ (.pointer (some ⟨r, 0, none⟩)) rfl rfl (by kernel_rfl) (by kernel_rfl) (by kernel_rfl) (fun _ _ _ h => h) (fun w hS => rfl) HS1 ?_
                    simp only [Act.put, List.setIfInBounds_toArray, List.set_cons_zero, List.set_cons_succ]
                    refine anyH_takeW 15 ⟨some 149, .fieldAddr 53 (.tmp 148) 1, _, _, _, some (4, false)⟩ (.pointer (some ⟨r, 1, none⟩)) rfl rfl (by kernel_rfl) (by kernel_rfl) (by kernel_rfl) (fun _ _ _ h => h) (fun w hS => exec_v (field53b r w)) HS1 ?_
                    simp only [Act.put, List.setIfInBounds_toArray, List.set_cons_zero, List.set_cons_succ]
                    refine anyH_takeW 16 ⟨some 150, .load 3 (.tmp 149), _, _, _, some (4, false)⟩ (.int .i64 R2.gen) rfl rfl (by kernel_rfl) (by kernel_rfl) (by kernel_rfl) (fun _ _ _ h => h) (fun w hS => exec_v (load3x hS.2.2.1)) HS1 ?_
                    simp only [Act.put, List.setIfInBounds_toArray, List.set_cons_zero, List.set_cons_succ]
                    refine anyH_callW 9 ⟨some 143, .call { callee := .value (.func 24), args := #[.tmp 142], argTypes := #[36] }, _, _, _, some (4, false)⟩ 24 _ (by kernel_rfl) rfl rfl (exec_call1g (f := 24) rfl (by decide)) ?_
                    refine (gen_any HF.out.p).mono ?_
                    rintro e wz ⟨rfl, hwz⟩
                    have hwz' := hwz.symm
                    subst hwz'
                    refine ⟨_, rfl, HS1, ?_⟩
                    simp only [Act.put, List.setIfInBounds_toArray, List.set_cons_zero, List.set_cons_succ]
                    refine anyH_takeW 17 ⟨some 151, .binOp .neq 3 (.tmp 143) (.tmp 150) 3, _, _, _, some (4, false)⟩ (.bool false) rfl rfl (by kernel_rfl) (by kernel_rfl) (by kernel_rfl) (fun _ _ _ h => h) (fun w hS => exec_neI rfl rfl HSm.out.gen.symm) HS1 ?_
                    simp only [Act.put, List.setIfInBounds_toArray, List.set_cons_zero, List.set_cons_succ]
                    refine anyH_takeW 18 ⟨some 152, .pick (.tmp 138) (.const (.bool true)) (.tmp 151), _, _, _, none⟩ (.bool false) rfl rfl (by kernel_rfl) (by kernel_rfl) (by kernel_rfl) (fun _ _ _ h => h) (fun w hS => rfl) HS1 ?_
                    simp only [Act.put, List.setIfInBounds_toArray, List.set_cons_zero, List.set_cons_succ]
                    refine anyH_takeW 19 ⟨some 153, .move (.tmp 152), _, _, _, none⟩ (.bool false) rfl rfl (by kernel_rfl) (by kernel_rfl) (by kernel_rfl) (fun _ _ _ h => h) (fun w hS => rfl) HS1 ?_
                    simp only [Act.put, List.setIfInBounds_toArray, List.set_cons_zero, List.set_cons_succ]
                    refine anyH_takeW 20 ⟨some 154, .move (.tmp 11), _, _, _, some (19, false)⟩ (.pointer (some ⟨xb, 0, none⟩)) rfl rfl (by kernel_rfl) (by kernel_rfl) (by kernel_rfl) (fun _ _ _ h => h) (fun w hS => rfl) HS1 ?_
                    simp only [Act.put, List.setIfInBounds_toArray, List.set_cons_zero, List.set_cons_succ]
                    refine anyH_takeW 21 ⟨some 155, .nilCheck (.tmp 154), _, _, _, some (19, false)⟩ (.pointer (some ⟨xb, 0, none⟩)) rfl rfl (by kernel_rfl) (by kernel_rfl) (by kernel_rfl) (fun _ _ _ h => h) (fun w hS => rfl) HS1 ?_
                    simp only [Act.put, List.setIfInBounds_toArray, List.set_cons_zero, List.set_cons_succ]
                    refine anyH_takeW 22 ⟨some 156, .fieldAddr 39 (.tmp 155) 1, _, _, _, some (19, false)⟩ (.pointer (some ⟨xb, 1, none⟩)) rfl rfl (by kernel_rfl) (by kernel_rfl) (by kernel_rfl) (fun _ _ _ h => h) (fun w hS => exec_v (field39_1 xb w)) HS1 ?_
                    simp only [Act.put, List.setIfInBounds_toArray, List.set_cons_zero, List.set_cons_succ]
                    refine anyH_takeW 23 ⟨some 157, .load 36 (.tmp 156), _, _, _, some (19, false)⟩ (.pointer (some ⟨b, 0, none⟩)) rfl rfl (by kernel_rfl) (by kernel_rfl) (by kernel_rfl) (fun _ _ _ h => h) (fun w hS => exec_v (load36x hS.1)) HS1 ?_
                    simp only [Act.put, List.setIfInBounds_toArray, List.set_cons_zero, List.set_cons_succ]
                    refine anyH_takeW 25 ⟨some 159, .move (.tmp 11), _, _, _, some (19, false)⟩ (.pointer (some ⟨xb, 0, none⟩)) rfl rfl (by kernel_rfl) (by kernel_rfl) (by kernel_rfl) (fun _ _ _ h => h) (fun w hS => rfl) HS1 ?_
                    simp only [Act.put, List.setIfInBounds_toArray, List.set_cons_zero, List.set_cons_succ]
                    refine anyH_takeW 26 ⟨some 160, .nilCheck (.tmp 159), _, _, _, some (19, false)⟩ (.pointer (some ⟨xb, 0, none⟩)) rfl rfl (by kernel_rfl) (by kernel_rfl) (by kernel_rfl) (fun _ _ _ h => h) (fun w hS => rfl) HS1 ?_
                    simp only [Act.put, List.setIfInBounds_toArray, List.set_cons_zero, List.set_cons_succ]
                    refine anyH_takeW 27 ⟨some 161, .fieldAddr 39 (.tmp 160) 3, _, _, _, some (19, false)⟩ (.pointer (some ⟨xb, 3, none⟩)) rfl rfl (by kernel_rfl) (by kernel_rfl) (by kernel_rfl) (fun _ _ _ h => h) (fun w hS => exec_v (field39_3 xb w)) HS1 ?_
                    simp only [Act.put, List.setIfInBounds_toArray, List.set_cons_zero, List.set_cons_succ]
                    refine anyH_takeW 28 ⟨some 162, .load 37 (.tmp 161), _, _, _, some (19, false)⟩ (.pointer (some ⟨r, 0, none⟩)) rfl rfl (by kernel_rfl) (by kernel_rfl) (by kernel_rfl) (fun _ _ _ h => h) (fun w hS => exec_v (load37x hS.2.1)) HS1 ?_
                    simp only [Act.put, List.setIfInBounds_toArray, List.set_cons_zero, List.set_cons_succ]
                    refine anyH_takeW 29 ⟨some 163, .nilCheck (.tmp 162), _, _, _, some (19, false)⟩ (.pointer (some ⟨r, 0, none⟩)) rfl rfl (by kernel_rfl) (by kernel_rfl) (by kernel_rfl) (fun _ _ _ h => h) (fun w hS => rfl) HS1 ?_
                    simp only [Act.put, List.setIfInBounds_toArray, List.set_cons_zero, List.set_cons_succ]
                    refine anyH_takeW 30 ⟨some 164, .fieldAddr 53 (.tmp 163) 2, _, _, _, some (19, false)⟩ (.pointer (some ⟨r, 2, none⟩)) rfl rfl (by kernel_rfl) (by kernel_rfl) (by kernel_rfl) (fun _ _ _ h => h) (fun w hS => exec_v (field53_2 r w)) HS1 ?_
                    simp only [Act.put, List.setIfInBounds_toArray, List.set_cons_zero, List.set_cons_succ]
                    refine anyH_takeW 31 ⟨some 165, .load 9 (.tmp 164), _, _, _, some (19, false)⟩ (.string R2.root) rfl rfl (by kernel_rfl) (by kernel_rfl) (by kernel_rfl) (fun _ _ _ h => h) (fun w hS => exec_v (load9x hS.2.2.2)) HS1 ?_
                    simp only [Act.put, List.setIfInBounds_toArray, List.set_cons_zero, List.set_cons_succ]
                    refine anyH_callW 24 ⟨some 158, .call { callee := .value (.func 25), args := #[.tmp 157], argTypes := #[36] }, _, _, _, some (19, false)⟩ 25 _ (by kernel_rfl) rfl rfl (exec_call1g (f := 25) rfl (by decide)) ?_
                    refine (rootc_any HF.out.p).mono ?_
                    rintro e wz ⟨rfl, hwz⟩
                    have hwz' := hwz.symm
                    subst hwz'
                    refine ⟨_, rfl, HS1, ?_⟩
                    simp only [Act.put, List.setIfInBounds_toArray, List.set_cons_zero, List.set_cons_succ]
                    refine anyH_takeW 32 ⟨some 166, .binOp .neq 9 (.tmp 158) (.tmp 165) 9, _, _, _, some (19, false)⟩ (.bool false) rfl rfl (by kernel_rfl) (by kernel_rfl) (by kernel_rfl) (fun _ _ _ h => h) (fun w hS => exec_neStr rfl rfl HSm.out.root.symm) HS1 ?_
                    simp only [Act.put, List.setIfInBounds_toArray, List.set_cons_zero, List.set_cons_succ]
                    refine anyH_takeW 33 ⟨some 167, .pick (.tmp 153) (.const (.bool true)) (.tmp 166), _, _, _, none⟩ (.bool false) rfl rfl (by kernel_rfl) (by kernel_rfl) (by kernel_rfl) (fun _ _ _ h => h) (fun w hS => rfl) HS1 ?_
                    simp only [Act.put, List.setIfInBounds_toArray, List.set_cons_zero, List.set_cons_succ]
                    refine anyH_takeW 34 ⟨some 168, .move (.tmp 167), _, _, _, none⟩ (.bool false) rfl rfl (by kernel_rfl) (by kernel_rfl) (by kernel_rfl) (fun _ _ _ h => h) (fun w hS => rfl) HS1 ?_
                    simp only [Act.put, List.setIfInBounds_toArray, List.set_cons_zero, List.set_cons_succ]
                    refine anyH_takeW 35 ⟨some 169, .move (.tmp 11), _, _, _, some (34, false)⟩ (.pointer (some ⟨xb, 0, none⟩)) rfl rfl (by kernel_rfl) (by kernel_rfl) (by kernel_rfl) (fun _ _ _ h => h) (fun w hS => rfl) HS1 ?_
                    simp only [Act.put, List.setIfInBounds_toArray, List.set_cons_zero, List.set_cons_succ]
                    refine anyH_takeW 36 ⟨some 170, .nilCheck (.tmp 169), _, _, _, some (34, false)⟩ (.pointer (some ⟨xb, 0, none⟩)) rfl rfl (by kernel_rfl) (by kernel_rfl) (by kernel_rfl) (fun _ _ _ h => h) (fun w hS => rfl) HS1 ?_
                    simp only [Act.put, List.setIfInBounds_toArray, List.set_cons_zero, List.set_cons_succ]
                    refine anyH_takeW 37 ⟨some 171, .fieldAddr 39 (.tmp 170) 1, _, _, _, some (34, false)⟩ (.pointer (some ⟨xb, 1, none⟩)) rfl rfl (by kernel_rfl) (by kernel_rfl) (by kernel_rfl) (fun _ _ _ h => h) (fun w hS => exec_v (field39_1 xb w)) HS1 ?_
                    simp only [Act.put, List.setIfInBounds_toArray, List.set_cons_zero, List.set_cons_succ]
                    refine anyH_takeW 38 ⟨some 172, .load 36 (.tmp 171), _, _, _, some (34, false)⟩ (.pointer (some ⟨b, 0, none⟩)) rfl rfl (by kernel_rfl) (by kernel_rfl) (by kernel_rfl) (fun _ _ _ h => h) (fun w hS => exec_v (load36x hS.1)) HS1 ?_
                    simp only [Act.put, List.setIfInBounds_toArray, List.set_cons_zero, List.set_cons_succ]
                    refine anyH_takeW 40 ⟨some 174, .move (.tmp 11), _, _, _, some (34, false)⟩ (.pointer (some ⟨xb, 0, none⟩)) rfl rfl (by kernel_rfl) (by kernel_rfl) (by kernel_rfl) (fun _ _ _ h => h) (fun w hS => rfl) HS1 ?_
                    simp only [Act.put, List.setIfInBounds_toArray, List.set_cons_zero, List.set_cons_succ]
                    refine anyH_takeW 41 ⟨some 175, .nilCheck (.tmp 174), _, _, _, some (34, false)⟩ (.pointer (some ⟨xb, 0, none⟩)) rfl rfl (by kernel_rfl) (by kernel_rfl) (by kernel_rfl) (fun _ _ _ h => h) (fun w hS => rfl) HS1 ?_
                    simp only [Act.put, List.setIfInBounds_toArray, List.set_cons_zero, List.set_cons_succ]
                    refine anyH_takeW 42 ⟨some 176, .fieldAddr 39 (.tmp 175) 3, _, _, _, some (34, false)⟩ (.pointer (some ⟨xb, 3, none⟩)) rfl rfl (by kernel_rfl) (by kernel_rfl) (by kernel_rfl) (fun _ _ _ h => h) (fun w hS => exec_v (field39_3 xb w)) HS1 ?_
                    simp only [Act.put, List.setIfInBounds_toArray, List.set_cons_zero, List.set_cons_succ]
                    refine anyH_takeW 43 ⟨some 177, .load 37 (.tmp 176), _, _, _, some (34, false)⟩ (.pointer (some ⟨r, 0, none⟩)) rfl rfl (by kernel_rfl) (by kernel_rfl) (by kernel_rfl) (fun _ _ _ h => h) (fun w hS => exec_v (load37x hS.2.1)) HS1 ?_
                    simp only [Act.put, List.setIfInBounds_toArray, List.set_cons_zero, List.set_cons_succ]
                    refine anyH_callW 39 ⟨some 173, .call { callee := .value (.func 26), args := #[.tmp 172], argTypes := #[36] }, _, _, _, some (34, false)⟩ 26 _ (by kernel_rfl) rfl rfl (exec_call1g (f := 26) rfl (by decide)) ?_
                    refine (free_any HF.out.p).mono ?_
                    rintro e wz ⟨rfl, hwz⟩
                    have hwz' := hwz.symm
                    subst hwz'
                    refine ⟨_, rfl, HS1, ?_⟩
                    simp only [Act.put, List.setIfInBounds_toArray, List.set_cons_zero, List.set_cons_succ]
                    refine anyH_callW 44 ⟨some 178, .call { callee := .value (.func 27), args := #[.tmp 177], argTypes := #[37] }, _, _, _, some (34, false)⟩ 27 _ (by kernel_rfl) rfl rfl (exec_call1g (f := 27) rfl (by decide)) ?_
                    refine (HF.out.rfree).mono ?_
                    rintro e wz ⟨rfl, hwz⟩
                    have hwz' := hwz.symm
                    subst hwz'
                    refine ⟨_, rfl, HS1, ?_⟩
                    simp only [Act.put, List.setIfInBounds_toArray, List.set_cons_zero, List.set_cons_succ]
                    refine anyH_takeW 45 ⟨some 179, .binOp .neq 3 (.tmp 173) (.tmp 178) 3, _, _, _, some (34, false)⟩ (.bool false) rfl rfl (by kernel_rfl) (by kernel_rfl) (by kernel_rfl) (fun _ _ _ h => h) (fun w hS => exec_neI rfl rfl (congrArg Nat.cast HSm.out.free.symm)) HS1 ?_
                    simp only [Act.put, List.setIfInBounds_toArray, List.set_cons_zero, List.set_cons_succ]
                    refine anyH_takeW 46 ⟨some 180, .pick (.tmp 168) (.const (.bool true)) (.tmp 179), _, _, _, none⟩ (.bool false) rfl rfl (by kernel_rfl) (by kernel_rfl) (by kernel_rfl) (fun _ _ _ h => h) (fun w hS => rfl) HS1 ?_
                    simp only [Act.put, List.setIfInBounds_toArray, List.set_cons_zero, List.set_cons_succ]
                    refine wpAnyH_done (by kernel_rfl) ?_ _
                    have HST : Hid (∃ db c, St w2 B xb db c (k + 1)) := ⟨db, c, .inr ⟨b, r, al2, ar2, P2, R2, HF.out, HSm.out, HLm.out⟩⟩
                    clear HS1 HF HSm HLm
                    go_wp2_with fail
                    go_roundw
                    case rel => exact ⟨k + 1, by omega, by go_num, HST.out, HBF.out⟩
                    case measure => simp [intOf]; omega
        · have hlt' : ¬ (k : Int) < len := by omega
          have HB := hid hb
          clear hb hst
          go_wp2_with fail
          go_ret
          exact ⟨rfl, hBe ▸ HB.out⟩
    | false =>
      have HY : Hid ((DS.blank n).byt) := DS.byt.blank n
      have HLd : Hid (LimD (DS.blank n) 0) := ⟨by simp [DS.blank], by simp [DS.blank]⟩
      generalize DS.blank n = D0 at *
      have H5 := hid (H4.out.box [.pointer (some ⟨db, 0, none⟩), .pointer none, .pointer (some ⟨c, 0, none⟩), .pointer none] 39)
      have HB5 := hid (HB4.out.trans (((Below.refl _ w4).alloc (Nat.le_refl _) (.cells #[.pointer (some ⟨db, 0, none⟩), .pointer none, .pointer (some ⟨c, 0, none⟩), .pointer none] 39)).mono H4.out.hB))
      have hxb := H4.out.hB
      clear H4 HB4
      try go_wp2_with fail
      generalize w4.alloc (.cells #[.pointer (some ⟨db, 0, none⟩), .pointer none, .pointer (some ⟨c, 0, none⟩), .pointer none] 39) = W5 at *
      generalize w4.heap.size = xb at *
      refine (bopen_any H5.out HY.out HLd.out hxb).mono ?_
      rintro e w6 ⟨rfl, hst, hb6⟩
      have HST0 := hid hst
      have HB6 := hid (HB5.out.trans hb6)
      clear hst hb6 H5 HB5 HY HLd
      go_wp2_with fail
      go_loopw [58] (fun q wr => ∃ k : Nat, k ≤ len ∧ q = .int .i64 k ∧ (∃ db c, St wr B xb db c k) ∧ Below B w wr) (fun q _ => len - (intOf q).toNat)
      case atStart => exact ⟨0, by omega, rfl, ⟨_, _, HST0.out⟩, HB6.out⟩
      case round =>
        clear HST0 HB6
        obtain ⟨k, hk, rfl, ⟨db, c, hst⟩, hb⟩ := hrel
        by_cases hlt : k < len
        · have hlt' : (k : Int) < len := by omega
          rcases HA.out.2.2 with h0 | ⟨ab0, ao, rfl, hact⟩
          · omega
          · have hA := (hact k (by rw [HA.out.1]; exact hlt)).later (hBe ▸ hb)
            clear hact
            generalize l[k]'(by rw [HA.out.1]; exact hlt) = v at *
            obtain ⟨kind, vn, vm, vs, vka, vkl, vkc, vks⟩ := v
            obtain ⟨c0, c1, c2, c3, c4, hvn1, hvn2, hsm, hks⟩ := hA
            simp only at c0 c1 c2 c3 c4 hvn1 hvn2 hsm hks
            obtain ⟨D, pv, rv, hm', hs1, hs2⟩ := hst.mid
            have H1 := hid (hm'.box [.int .i64 kind, .int .i64 vn, .int .i64 vm, .string vs, .slice vka vkl vkc] 42)
            have HK := hid (hks.later ((Below.refl _ wr).alloc (Nat.le_refl _) (.cells #[.int .i64 kind, .int .i64 vn, .int .i64 vm, .string vs, .slice vka vkl vkc] 42)))
            have HB1 := hid (hb.trans (((Below.refl _ wr).alloc (Nat.le_refl _) (.cells #[.int .i64 kind, .int .i64 vn, .int .i64 vm, .string vs, .slice vka vkl vkc] 42)).mono hm'.hB))
            have HSt := hid hst
            clear hst hb hm' hks
            by_cases hk8 : kind = 8
            · have hkd := hk8
              clear hk8 HSt HK
              have e8 : (kind == 8) = true := by simp [hkd]
              have e9 : (kind == 9) = false := by simp [hkd]
              have e10 : (kind == 10) = false := by simp [hkd]
              clear hkd
              go_wp2_with fail
              generalize wr.alloc (.cells #[.int .i64 kind, .int .i64 vn, .int .i64 vm, .string vs, .slice vka vkl vkc] 42) = W1 at *
              generalize wr.heap.size = ab at *
              have H1d := hid (H1.out.later ((Below.refl W1.heap.size W1).drew))
              have HB1d := hid (HB1.out.trans (((Below.refl W1.heap.size W1).drew).mono H1.out.hB))
              go_region_held3 (fun w' => w'.cell? ⟨xb, 0, none⟩ = some (.pointer (some ⟨db, 0, none⟩)) ∧ w'.cell? ⟨xb, 1, none⟩ = some (pv) ∧ w'.cell? ⟨xb, 2, none⟩ = some (.pointer (some ⟨c, 0, none⟩)) ∧ w'.cell? ⟨xb, 3, none⟩ = some (rv) ∧ w'.cell? ⟨ab, 0, none⟩ = some (.int .i64 kind) ∧ w'.cell? ⟨ab, 1, none⟩ = some (.int .i64 vn) ∧ w'.cell? ⟨ab, 2, none⟩ = some (.int .i64 vm) ∧ w'.cell? ⟨ab, 3, none⟩ = some (.string vs) ∧ w'.cell? ⟨ab, 4, none⟩ = some (.slice vka vkl vkc)) (first | exact ⟨H2.out.xc (q := xb) two_mem.2 (j := 0) rfl, H2.out.xc (q := xb) two_mem.2 (j := 1) rfl, H2.out.xc (q := xb) two_mem.2 (j := 2) rfl, H2.out.xc (q := xb) two_mem.2 (j := 3) rfl, H2.out.xc (q := ab) two_mem.1 (j := 0) rfl, H2.out.xc (q := ab) two_mem.1 (j := 1) rfl, H2.out.xc (q := ab) two_mem.1 (j := 2) rfl, H2.out.xc (q := ab) two_mem.1 (j := 3) rfl, H2.out.xc (q := ab) two_mem.1 (j := 4) rfl⟩ | exact ⟨H1d.out.xc (q := xb) two_mem.2 (j := 0) rfl, H1d.out.xc (q := xb) two_mem.2 (j := 1) rfl, H1d.out.xc (q := xb) two_mem.2 (j := 2) rfl, H1d.out.xc (q := xb) two_mem.2 (j := 3) rfl, H1d.out.xc (q := ab) two_mem.1 (j := 0) rfl, H1d.out.xc (q := ab) two_mem.1 (j := 1) rfl, H1d.out.xc (q := ab) two_mem.1 (j := 2) rfl, H1d.out.xc (q := ab) two_mem.1 (j := 3) rfl, H1d.out.xc (q := ab) two_mem.1 (j := 4) rfl⟩ | exact ⟨H1.out.xc (q := xb) two_mem.2 (j := 0) rfl, H1.out.xc (q := xb) two_mem.2 (j := 1) rfl, H1.out.xc (q := xb) two_mem.2 (j := 2) rfl, H1.out.xc (q := xb) two_mem.2 (j := 3) rfl, H1.out.xc (q := ab) two_mem.1 (j := 0) rfl, H1.out.xc (q := ab) two_mem.1 (j := 1) rfl, H1.out.xc (q := ab) two_mem.1 (j := 2) rfl, H1.out.xc (q := ab) two_mem.1 (j := 3) rfl, H1.out.xc (q := ab) two_mem.1 (j := 4) rfl⟩) (first | (go_at_call 17; refine (H1d.out.fuseL vn hvn2).mono ?_; rintro e w2 ⟨rfl, hm_, hb_⟩; have H2 := hid hm_; have HB2 := hid (HB1d.out.trans hb_); clear hm_ hb_))
              have x0 := H2.out.xc (q := xb) two_mem.2 (j := 0) rfl
              have x1 := H2.out.xc (q := xb) two_mem.2 (j := 1) rfl
              have x2 := H2.out.xc (q := xb) two_mem.2 (j := 2) rfl
              have x3 := H2.out.xc (q := xb) two_mem.2 (j := 3) rfl
              have a0 := H2.out.xc (q := ab) two_mem.1 (j := 0) rfl
              have a1 := H2.out.xc (q := ab) two_mem.1 (j := 1) rfl
              have a2 := H2.out.xc (q := ab) two_mem.1 (j := 2) rfl
              have a3 := H2.out.xc (q := ab) two_mem.1 (j := 3) rfl
              have a4 := H2.out.xc (q := ab) two_mem.1 (j := 4) rfl
              go_wp2_with fail
              clear x0 x1 x2 x3 a0 a1 a2 a3 a4
              have H2d := hid (H2.out.later ((Below.refl w2.heap.size w2).drew))
              have HB2d := hid (HB2.out.trans (((Below.refl w2.heap.size w2).drew).mono H2.out.hB))
              go_region_held3 (fun w' => w'.cell? ⟨xb, 0, none⟩ = some (.pointer (some ⟨db, 0, none⟩)) ∧ w'.cell? ⟨xb, 1, none⟩ = some (pv) ∧ w'.cell? ⟨xb, 2, none⟩ = some (.pointer (some ⟨c, 0, none⟩)) ∧ w'.cell? ⟨xb, 3, none⟩ = some (rv) ∧ w'.cell? ⟨ab, 0, none⟩ = some (.int .i64 kind) ∧ w'.cell? ⟨ab, 1, none⟩ = some (.int .i64 vn) ∧ w'.cell? ⟨ab, 2, none⟩ = some (.int .i64 vm) ∧ w'.cell? ⟨ab, 3, none⟩ = some (.string vs) ∧ w'.cell? ⟨ab, 4, none⟩ = some (.slice vka vkl vkc)) (first | exact ⟨H3.out.xc (q := xb) two_mem.2 (j := 0) rfl, H3.out.xc (q := xb) two_mem.2 (j := 1) rfl, H3.out.xc (q := xb) two_mem.2 (j := 2) rfl, H3.out.xc (q := xb) two_mem.2 (j := 3) rfl, H3.out.xc (q := ab) two_mem.1 (j := 0) rfl, H3.out.xc (q := ab) two_mem.1 (j := 1) rfl, H3.out.xc (q := ab) two_mem.1 (j := 2) rfl, H3.out.xc (q := ab) two_mem.1 (j := 3) rfl, H3.out.xc (q := ab) two_mem.1 (j := 4) rfl⟩ | exact ⟨H2d.out.xc (q := xb) two_mem.2 (j := 0) rfl, H2d.out.xc (q := xb) two_mem.2 (j := 1) rfl, H2d.out.xc (q := xb) two_mem.2 (j := 2) rfl, H2d.out.xc (q := xb) two_mem.2 (j := 3) rfl, H2d.out.xc (q := ab) two_mem.1 (j := 0) rfl, H2d.out.xc (q := ab) two_mem.1 (j := 1) rfl, H2d.out.xc (q := ab) two_mem.1 (j := 2) rfl, H2d.out.xc (q := ab) two_mem.1 (j := 3) rfl, H2d.out.xc (q := ab) two_mem.1 (j := 4) rfl⟩ | exact ⟨H2.out.xc (q := xb) two_mem.2 (j := 0) rfl, H2.out.xc (q := xb) two_mem.2 (j := 1) rfl, H2.out.xc (q := xb) two_mem.2 (j := 2) rfl, H2.out.xc (q := xb) two_mem.2 (j := 3) rfl, H2.out.xc (q := ab) two_mem.1 (j := 0) rfl, H2.out.xc (q := ab) two_mem.1 (j := 1) rfl, H2.out.xc (q := ab) two_mem.1 (j := 2) rfl, H2.out.xc (q := ab) two_mem.1 (j := 3) rfl, H2.out.xc (q := ab) two_mem.1 (j := 4) rfl⟩) (first | (go_at_call 18; refine (H2d.out.fuseR vn hvn2).mono ?_; rintro e w3 ⟨rfl, hm_, hb_⟩; have H3 := hid hm_; have HB3 := hid (HB2d.out.trans hb_); clear hm_ hb_))
              have HST : Hid (∃ db c, St w3 B xb db c (k + 1)) := ⟨db, c, H3.out.less.st (by show D.steps ≤ _; omega) (by show D.waits.length ≤ _; omega)⟩
              have HBF := hid HB3.out
              go_wp2_with fail
              go_roundw
              case rel => exact ⟨k + 1, by omega, by go_num, HST.out, HBF.out⟩
              case measure => simp [intOf]; omega
            · by_cases hk9 : kind = 9
              · have hkd := hk9
                clear hk8 hk9 HSt
                have e8 : (kind == 8) = false := by simp [hkd]
                have e9 : (kind == 9) = true := by simp [hkd]
                have e10 : (kind == 10) = false := by simp [hkd]
                clear hkd
                go_wp2_with fail
                generalize wr.alloc (.cells #[.int .i64 kind, .int .i64 vn, .int .i64 vm, .string vs, .slice vka vkl vkc] 42) = W1 at *
                generalize wr.heap.size = ab at *
                have H1d := hid (H1.out.later ((Below.refl W1.heap.size W1).drew))
                have HB1d := hid (HB1.out.trans (((Below.refl W1.heap.size W1).drew).mono H1.out.hB))
                have HKd := hid (HK.out.later ((Below.refl W1.heap.size W1).drew))
                have hne : ab ≠ xb := by
                  intro e
                  have g1 := H1d.out.guest two_mem.1
                  have g2 := H1d.out.guest two_mem.2
                  simp only [e] at g1 g2
                  rw [g1] at g2
                  simp at g2
                have HS0 := H1d.out.xc (q := ab) two_mem.1 (j := 4) rfl
                have x0 := H1d.out.xc (q := xb) two_mem.2 (j := 0) rfl
                have x2 := H1d.out.xc (q := xb) two_mem.2 (j := 2) rfl
                clear H1 HB1 HK
                refine wp_region_held_drew (S := fun w' => w'.cell? ⟨ab, 4, none⟩ = some (.slice vka vkl vkc)) (by kernel_rfl) HS0 ?_
                intro _
                refine anyH_take 0 ⟨some 82, .move (.tmp 11), _, _, _, none⟩ (.pointer (some ⟨xb, 0, none⟩)) rfl rfl (by kernel_rfl) (by kernel_rfl) (by kernel_rfl) (fun _ _ _ h => h) (fun w hS => rfl) HS0 ?_
                simp only [Act.put, List.setIfInBounds_toArray, List.set_cons_zero, List.set_cons_succ]
                refine anyH_take 1 ⟨some 83, .move (.tmp 11), _, _, _, none⟩ (.pointer (some ⟨xb, 0, none⟩)) rfl rfl (by kernel_rfl) (by kernel_rfl) (by kernel_rfl) (fun _ _ _ h => h) (fun w hS => rfl) HS0 ?_
                simp only [Act.put, List.setIfInBounds_toArray, List.set_cons_zero, List.set_cons_succ]
                refine anyH_take 2 ⟨some 84, .move (.tmp 11), _, _, _, none⟩ (.pointer (some ⟨xb, 0, none⟩)) rfl rfl (by kernel_rfl) (by kernel_rfl) (by kernel_rfl) (fun _ _ _ h => h) (fun w hS => rfl) HS0 ?_
                simp only [Act.put, List.setIfInBounds_toArray, List.set_cons_zero, List.set_cons_succ]
                refine anyH_take 3 ⟨some 85, .nilCheck (.tmp 84), _, _, _, none⟩ (.pointer (some ⟨xb, 0, none⟩)) rfl rfl (by kernel_rfl) (by kernel_rfl) (by kernel_rfl) (fun _ _ _ h => h) (fun w hS => rfl) HS0 ?_
                simp only [Act.put, List.setIfInBounds_toArray, List.set_cons_zero, List.set_cons_succ]
                refine anyH_take 4 ⟨some 86, .fieldAddr 39 (.tmp 85) 0, _, _, _, none⟩ (.pointer (some ⟨xb, 0, none⟩)) rfl rfl (by kernel_rfl) (by kernel_rfl) (by kernel_rfl) (fun _ _ _ h => h) (fun w hS => exec_v (field39_0 xb w)) HS0 ?_
                simp only [Act.put, List.setIfInBounds_toArray, List.set_cons_zero, List.set_cons_succ]
                refine anyH_take 6 ⟨some 88, .fieldAddr 42 (.tmp 13) 4, _, _, _, none⟩ (.pointer (some ⟨ab, 4, none⟩)) rfl rfl (by kernel_rfl) (by kernel_rfl) (by kernel_rfl) (fun _ _ _ h => h) (fun w hS => exec_v (field42_4 ab w)) HS0 ?_
                simp only [Act.put, List.setIfInBounds_toArray, List.set_cons_zero, List.set_cons_succ]
                refine anyH_take 7 ⟨some 89, .load 40 (.tmp 88), _, _, _, none⟩ (.slice vka vkl vkc) rfl rfl (by kernel_rfl) (by kernel_rfl) (by kernel_rfl) (fun _ _ _ h => h) (fun w hS => exec_v (load40x hS)) HS0 ?_
                simp only [Act.put, List.setIfInBounds_toArray, List.set_cons_zero, List.set_cons_succ]
                refine anyH_take 9 ⟨some 91, .move (.tmp 11), _, _, _, none⟩ (.pointer (some ⟨xb, 0, none⟩)) rfl rfl (by kernel_rfl) (by kernel_rfl) (by kernel_rfl) (fun _ _ _ h => h) (fun w hS => rfl) HS0 ?_
                simp only [Act.put, List.setIfInBounds_toArray, List.set_cons_zero, List.set_cons_succ]
                refine anyH_take 10 ⟨some 92, .nilCheck (.tmp 91), _, _, _, none⟩ (.pointer (some ⟨xb, 0, none⟩)) rfl rfl (by kernel_rfl) (by kernel_rfl) (by kernel_rfl) (fun _ _ _ h => h) (fun w hS => rfl) HS0 ?_
                simp only [Act.put, List.setIfInBounds_toArray, List.set_cons_zero, List.set_cons_succ]
                refine anyH_take 11 ⟨some 93, .fieldAddr 39 (.tmp 92) 2, _, _, _, none⟩ (.pointer (some ⟨xb, 2, none⟩)) rfl rfl (by kernel_rfl) (by kernel_rfl) (by kernel_rfl) (fun _ _ _ h => h) (fun w hS => exec_v (field39_2 xb w)) HS0 ?_
                simp only [Act.put, List.setIfInBounds_toArray, List.set_cons_zero, List.set_cons_succ]
                refine anyH_take 13 ⟨some 95, .fieldAddr 42 (.tmp 13) 4, _, _, _, none⟩ (.pointer (some ⟨ab, 4, none⟩)) rfl rfl (by kernel_rfl) (by kernel_rfl) (by kernel_rfl) (fun _ _ _ h => h) (fun w hS => exec_v (field42_4 ab w)) HS0 ?_
                simp only [Act.put, List.setIfInBounds_toArray, List.set_cons_zero, List.set_cons_succ]
                refine anyH_take 14 ⟨some 96, .load 40 (.tmp 95), _, _, _, none⟩ (.slice vka vkl vkc) rfl rfl (by kernel_rfl) (by kernel_rfl) (by kernel_rfl) (fun _ _ _ h => h) (fun w hS => exec_v (load40x hS)) HS0 ?_
                simp only [Act.put, List.setIfInBounds_toArray, List.set_cons_zero, List.set_cons_succ]
                refine anyH_two 5 12 (by kernel_rfl) ?_ ?_
                · refine wpOp_run (o := ⟨some 87, .load 23 (.tmp 86), _, _, _, none⟩) (v := (.pointer (some ⟨db, 0, none⟩))) rfl rfl (exec_v (load23x x0)) ⟨HS0, ?_⟩
                  simp only [Act.put, List.setIfInBounds_toArray, List.set_cons_zero, List.set_cons_succ]
                  refine anyH_two 8 12 (by kernel_rfl) ?_ ?_
                  · refine wpOp_callW (o := ⟨some 90, .call { callee := .value (.func 19), args := #[.tmp 87, .tmp 89], argTypes := #[23, 40] }, _, _, _, none⟩) rfl rfl (exec_call2b (f := 19) rfl rfl (.inl rfl)) ?_
                    refine (H1d.out.crashL vka vkl vkc vks HKd.out).mono ?_
                    rintro e w2c ⟨db2, own2, rfl, hd2, hb2⟩
                    have H2 := hid (H1d.out.later hb2)
                    have HK2 := hid (HKd.out.later hb2)
                    have HD2 := hid hd2
                    have HBB2 := hid hb2
                    have HS2 := H2.out.xc (q := ab) two_mem.1 (j := 4) rfl
                    have x2' := H2.out.xc (q := xb) two_mem.2 (j := 2) rfl
                    clear hd2 hb2
                    refine ⟨_, rfl, HS2, ?_⟩
                    simp only [Act.put, List.setIfInBounds_toArray, List.set_cons_zero, List.set_cons_succ]
                    refine anyH_one 12 ⟨some 94, .load 27 (.tmp 93), _, _, _, none⟩ (.pointer (some ⟨c, 0, none⟩)) _ (by kernel_rfl) rfl rfl (exec_v (load27 x2')) HS2 ?_
                    simp only [Act.put, List.setIfInBounds_toArray, List.set_cons_zero, List.set_cons_succ]
                    refine anyH_callW 15 ⟨some 97, .call { callee := .value (.func 20), args := #[.tmp 94, .tmp 96], argTypes := #[27, 40] }, _, _, _, none⟩ 20 _ (by kernel_rfl) rfl rfl (exec_call2b (f := 20) rfl rfl (.inr (.inl rfl))) ?_
                    refine (H2.out.crashR vka vkl vkc vks HK2.out).mono ?_
                    rintro e w3c ⟨c3, own3, rfl, hr3, hb3⟩
                    have H3 := hid (H2.out.later hb3)
                    have HM := hid (made_duo (w := W1.drew) (w1 := w2c) (w1' := w2c) (G := [(xb, [.pointer (some ⟨db, 0, none⟩), pv, .pointer (some ⟨c, 0, none⟩), rv], 39)]) H1d.out.hB HD2.out HBB2.out (Below.refl _ _) hr3 hb3 (fun x hx => by obtain rfl := List.mem_singleton.1 hx; exact H1d.out.guest two_mem.2))
                    have HS3 := H3.out.xc (q := ab) two_mem.1 (j := 4) rfl
                    have HB3 := hid (HB1d.out.trans ((HBB2.out.mono H1d.out.hB).trans (hb3.mono H2.out.hB)))
                    clear hr3 hb3
                    have y0 := HM.out.xc (k := xb) one_mem (j := 0) rfl
                    have f0 := Guest.free (HM.out.g _ one_mem) 0
                    refine ⟨_, rfl, HS3, ?_⟩
                    simp only [Act.put, List.setIfInBounds_toArray, List.set_cons_zero, List.set_cons_succ]
                    refine anyH_take 16 ⟨some 98, .nilCheck (.tmp 82), _, _, _, none⟩ (.pointer (some ⟨xb, 0, none⟩)) rfl rfl (by kernel_rfl) (by kernel_rfl) (by kernel_rfl) (fun _ _ _ h => h) (fun w hS => rfl) HS3 ?_
                    simp only [Act.put, List.setIfInBounds_toArray, List.set_cons_zero, List.set_cons_succ]
                    refine anyH_take 17 ⟨some 99, .fieldAddr 39 (.tmp 98) 0, _, _, _, none⟩ (.pointer (some ⟨xb, 0, none⟩)) rfl rfl (by kernel_rfl) (by kernel_rfl) (by kernel_rfl) (fun _ _ _ h => h) (fun w hS => exec_v (field39_0 xb w)) HS3 ?_
                    simp only [Act.put, List.setIfInBounds_toArray, List.set_cons_zero, List.set_cons_succ]
                    have HM4 : Hid (DuoD (w3c.setCell ⟨xb, 0, none⟩ (.pointer (some ⟨db2, 0, none⟩))) B [(xb, [.pointer (some ⟨db2, 0, none⟩), pv, .pointer (some ⟨c, 0, none⟩), rv], 39)] db2 c3 own2 own3 (D.crash vks) (D.crash vks)) := HM.out.setX (j := 0) (v := (.pointer (some ⟨db2, 0, none⟩)))
                    have HS4 : (w3c.setCell ⟨xb, 0, none⟩ (.pointer (some ⟨db2, 0, none⟩))).cell? ⟨ab, 4, none⟩ = some (.slice vka vkl vkc) := (World.cell?_setCell_other _ _ _ _ (by intro h; simp only [Addr.mk.injEq] at h; omega)).trans HS3
                    refine anyH_oneSkip 18 ⟨none, .store 23 (.tmp 99) (.tmp 90), _, _, _, none⟩ _ (by kernel_rfl) rfl rfl (exec_store23 (v := (.pointer (some ⟨db2, 0, none⟩))) rfl rfl rfl y0 f0) HS4 ?_
                    simp only [Act.put, List.setIfInBounds_toArray, List.set_cons_zero, List.set_cons_succ]
                    have HB4 : Hid (Below B w (w3c.setCell ⟨xb, 0, none⟩ (.pointer (some ⟨db2, 0, none⟩)))) := HB3.out.setCell hxb _
                    generalize w3c.setCell ⟨xb, 0, none⟩ (.pointer (some ⟨db2, 0, none⟩)) = w4c at *
                    have y2 := HM4.out.xc (k := xb) one_mem (j := 2) rfl
                    have f2 := Guest.free (HM4.out.g _ one_mem) 2
                    refine anyH_take 19 ⟨some 100, .nilCheck (.tmp 83), _, _, _, none⟩ (.pointer (some ⟨xb, 0, none⟩)) rfl rfl (by kernel_rfl) (by kernel_rfl) (by kernel_rfl) (fun _ _ _ h => h) (fun w hS => rfl) HS4 ?_
                    simp only [Act.put, List.setIfInBounds_toArray, List.set_cons_zero, List.set_cons_succ]
                    refine anyH_take 20 ⟨some 101, .fieldAddr 39 (.tmp 100) 2, _, _, _, none⟩ (.pointer (some ⟨xb, 2, none⟩)) rfl rfl (by kernel_rfl) (by kernel_rfl) (by kernel_rfl) (fun _ _ _ h => h) (fun w hS => exec_v (field39_2 xb w)) HS4 ?_
                    simp only [Act.put, List.setIfInBounds_toArray, List.set_cons_zero, List.set_cons_succ]
                    have HM5 : Hid (DuoD (w4c.setCell ⟨xb, 2, none⟩ (.pointer (some ⟨c3, 0, none⟩))) B [(xb, [.pointer (some ⟨db2, 0, none⟩), pv, .pointer (some ⟨c3, 0, none⟩), rv], 39)] db2 c3 own2 own3 (D.crash vks) (D.crash vks)) := HM4.out.setX (j := 2) (v := (.pointer (some ⟨c3, 0, none⟩)))
                    have HS5 : (w4c.setCell ⟨xb, 2, none⟩ (.pointer (some ⟨c3, 0, none⟩))).cell? ⟨ab, 4, none⟩ = some (.slice vka vkl vkc) := (World.cell?_setCell_other _ _ _ _ (by intro h; simp only [Addr.mk.injEq] at h; omega)).trans HS4
                    refine anyH_oneSkip 21 ⟨none, .store 27 (.tmp 101) (.tmp 97), _, _, _, none⟩ _ (by kernel_rfl) rfl rfl (exec_store27 (v := (.pointer (some ⟨c3, 0, none⟩))) rfl rfl rfl y2 f2) HS5 ?_
                    simp only [Act.put, List.setIfInBounds_toArray, List.set_cons_zero, List.set_cons_succ]
                    have HB5 : Hid (Below B w (w4c.setCell ⟨xb, 2, none⟩ (.pointer (some ⟨c3, 0, none⟩)))) := HB4.out.setCell hxb _
                    generalize w4c.setCell ⟨xb, 2, none⟩ (.pointer (some ⟨c3, 0, none⟩)) = w5c at *
                    refine wpAnyH_done (by kernel_rfl) ?_ _
                    clear y0 f0 y2 f2 x2' x0 x2 HS0 HS2 HS3 HS4 HS5 hne
                    have HLk := hid (crash_lim D vks (k + 1))
                    have HYk := hid (H1d.out.byt.1.crash vks)
                    clear HM HM4 HBB2 H2 H3 HD2 HK2 HKd H1d HB1d HB3 HB4
                    generalize D.crash vks = D9 at *
                    go_wp2_with fail
                    refine (bopen_any HM5.out HYk.out HLk.out hxb).mono ?_
                    rintro e w7 ⟨rfl, hst, hb7⟩
                    have HST : Hid (∃ db c, St w7 B xb db c (k + 1)) := ⟨db2, c3, hst⟩
                    have HBF := hid (HB5.out.trans hb7)
                    clear hst hb7
                    go_wp2_with fail
                    go_roundw
                    case rel => exact ⟨k + 1, by omega, by go_num, HST.out, HBF.out⟩
                    case measure => simp [intOf]; omega

                  · refine wpOp_run (o := ⟨some 94, .load 27 (.tmp 93), _, _, _, none⟩) (v := (.pointer (some ⟨c, 0, none⟩))) rfl rfl (exec_v (load27 x2)) ⟨HS0, ?_⟩
                    simp only [Act.put, List.setIfInBounds_toArray, List.set_cons_zero, List.set_cons_succ]
                    refine anyH_callW 8 ⟨some 90, .call { callee := .value (.func 19), args := #[.tmp 87, .tmp 89], argTypes := #[23, 40] }, _, _, _, none⟩ 19 _ (by kernel_rfl) rfl rfl (exec_call2b (f := 19) rfl rfl (.inl rfl)) ?_
                    refine (H1d.out.crashL vka vkl vkc vks HKd.out).mono ?_
                    rintro e w2c ⟨db2, own2, rfl, hd2, hb2⟩
                    have H2 := hid (H1d.out.later hb2)
                    have HK2 := hid (HKd.out.later hb2)
                    have HD2 := hid hd2
                    have HBB2 := hid hb2
                    have HS2 := H2.out.xc (q := ab) two_mem.1 (j := 4) rfl
                    have x2' := H2.out.xc (q := xb) two_mem.2 (j := 2) rfl
                    clear hd2 hb2
                    refine ⟨_, rfl, HS2, ?_⟩
                    simp only [Act.put, List.setIfInBounds_toArray, List.set_cons_zero, List.set_cons_succ]
                    refine anyH_callW 15 ⟨some 97, .call { callee := .value (.func 20), args := #[.tmp 94, .tmp 96], argTypes := #[27, 40] }, _, _, _, none⟩ 20 _ (by kernel_rfl) rfl rfl (exec_call2b (f := 20) rfl rfl (.inr (.inl rfl))) ?_
                    refine (H2.out.crashR vka vkl vkc vks HK2.out).mono ?_
                    rintro e w3c ⟨c3, own3, rfl, hr3, hb3⟩
                    have H3 := hid (H2.out.later hb3)
                    have HM := hid (made_duo (w := W1.drew) (w1 := w2c) (w1' := w2c) (G := [(xb, [.pointer (some ⟨db, 0, none⟩), pv, .pointer (some ⟨c, 0, none⟩), rv], 39)]) H1d.out.hB HD2.out HBB2.out (Below.refl _ _) hr3 hb3 (fun x hx => by obtain rfl := List.mem_singleton.1 hx; exact H1d.out.guest two_mem.2))
                    have HS3 := H3.out.xc (q := ab) two_mem.1 (j := 4) rfl
                    have HB3 := hid (HB1d.out.trans ((HBB2.out.mono H1d.out.hB).trans (hb3.mono H2.out.hB)))
                    clear hr3 hb3
                    have y0 := HM.out.xc (k := xb) one_mem (j := 0) rfl
                    have f0 := Guest.free (HM.out.g _ one_mem) 0
                    refine ⟨_, rfl, HS3, ?_⟩
                    simp only [Act.put, List.setIfInBounds_toArray, List.set_cons_zero, List.set_cons_succ]
                    refine anyH_take 16 ⟨some 98, .nilCheck (.tmp 82), _, _, _, none⟩ (.pointer (some ⟨xb, 0, none⟩)) rfl rfl (by kernel_rfl) (by kernel_rfl) (by kernel_rfl) (fun _ _ _ h => h) (fun w hS => rfl) HS3 ?_
                    simp only [Act.put, List.setIfInBounds_toArray, List.set_cons_zero, List.set_cons_succ]
                    refine anyH_take 17 ⟨some 99, .fieldAddr 39 (.tmp 98) 0, _, _, _, none⟩ (.pointer (some ⟨xb, 0, none⟩)) rfl rfl (by kernel_rfl) (by kernel_rfl) (by kernel_rfl) (fun _ _ _ h => h) (fun w hS => exec_v (field39_0 xb w)) HS3 ?_
                    simp only [Act.put, List.setIfInBounds_toArray, List.set_cons_zero, List.set_cons_succ]
                    have HM4 : Hid (DuoD (w3c.setCell ⟨xb, 0, none⟩ (.pointer (some ⟨db2, 0, none⟩))) B [(xb, [.pointer (some ⟨db2, 0, none⟩), pv, .pointer (some ⟨c, 0, none⟩), rv], 39)] db2 c3 own2 own3 (D.crash vks) (D.crash vks)) := HM.out.setX (j := 0) (v := (.pointer (some ⟨db2, 0, none⟩)))
                    have HS4 : (w3c.setCell ⟨xb, 0, none⟩ (.pointer (some ⟨db2, 0, none⟩))).cell? ⟨ab, 4, none⟩ = some (.slice vka vkl vkc) := (World.cell?_setCell_other _ _ _ _ (by intro h; simp only [Addr.mk.injEq] at h; omega)).trans HS3
                    refine anyH_oneSkip 18 ⟨none, .store 23 (.tmp 99) (.tmp 90), _, _, _, none⟩ _ (by kernel_rfl) rfl rfl (exec_store23 (v := (.pointer (some ⟨db2, 0, none⟩))) rfl rfl rfl y0 f0) HS4 ?_
                    simp only [Act.put, List.setIfInBounds_toArray, List.set_cons_zero, List.set_cons_succ]
                    have HB4 : Hid (Below B w (w3c.setCell ⟨xb, 0, none⟩ (.pointer (some ⟨db2, 0, none⟩)))) := HB3.out.setCell hxb _
                    generalize w3c.setCell ⟨xb, 0, none⟩ (.pointer (some ⟨db2, 0, none⟩)) = w4c at *
                    have y2 := HM4.out.xc (k := xb) one_mem (j := 2) rfl
                    have f2 := Guest.free (HM4.out.g _ one_mem) 2
                    refine anyH_take 19 ⟨some 100, .nilCheck (.tmp 83), _, _, _, none⟩ (.pointer (some ⟨xb, 0, none⟩)) rfl rfl (by kernel_rfl) (by kernel_rfl) (by kernel_rfl) (fun _ _ _ h => h) (fun w hS => rfl) HS4 ?_
                    simp only [Act.put, List.setIfInBounds_toArray, List.set_cons_zero, List.set_cons_succ]
                    refine anyH_take 20 ⟨some 101, .fieldAddr 39 (.tmp 100) 2, _, _, _, none⟩ (.pointer (some ⟨xb, 2, none⟩)) rfl rfl (by kernel_rfl) (by kernel_rfl) (by kernel_rfl) (fun _ _ _ h => h) (fun w hS => exec_v (field39_2 xb w)) HS4 ?_
                    simp only [Act.put, List.setIfInBounds_toArray, List.set_cons_zero, List.set_cons_succ]
                    have HM5 : Hid (DuoD (w4c.setCell ⟨xb, 2, none⟩ (.pointer (some ⟨c3, 0, none⟩))) B [(xb, [.pointer (some ⟨db2, 0, none⟩), pv, .pointer (some ⟨c3, 0, none⟩), rv], 39)] db2 c3 own2 own3 (D.crash vks) (D.crash vks)) := HM4.out.setX (j := 2) (v := (.pointer (some ⟨c3, 0, none⟩)))
                    have HS5 : (w4c.setCell ⟨xb, 2, none⟩ (.pointer (some ⟨c3, 0, none⟩))).cell? ⟨ab, 4, none⟩ = some (.slice vka vkl vkc) := (World.cell?_setCell_other _ _ _ _ (by intro h; simp only [Addr.mk.injEq] at h; omega)).trans HS4
                    refine anyH_oneSkip 21 ⟨none, .store 27 (.tmp 101) (.tmp 97), _, _, _, none⟩ _ (by kernel_rfl) rfl rfl (exec_store27 (v := (.pointer (some ⟨c3, 0, none⟩))) rfl rfl rfl y2 f2) HS5 ?_
                    simp only [Act.put, List.setIfInBounds_toArray, List.set_cons_zero, List.set_cons_succ]
                    have HB5 : Hid (Below B w (w4c.setCell ⟨xb, 2, none⟩ (.pointer (some ⟨c3, 0, none⟩)))) := HB4.out.setCell hxb _
                    generalize w4c.setCell ⟨xb, 2, none⟩ (.pointer (some ⟨c3, 0, none⟩)) = w5c at *
                    refine wpAnyH_done (by kernel_rfl) ?_ _
                    clear y0 f0 y2 f2 x2' x0 x2 HS0 HS2 HS3 HS4 HS5 hne
                    have HLk := hid (crash_lim D vks (k + 1))
                    have HYk := hid (H1d.out.byt.1.crash vks)
                    clear HM HM4 HBB2 H2 H3 HD2 HK2 HKd H1d HB1d HB3 HB4
                    generalize D.crash vks = D9 at *
                    go_wp2_with fail
                    refine (bopen_any HM5.out HYk.out HLk.out hxb).mono ?_
                    rintro e w7 ⟨rfl, hst, hb7⟩
                    have HST : Hid (∃ db c, St w7 B xb db c (k + 1)) := ⟨db2, c3, hst⟩
                    have HBF := hid (HB5.out.trans hb7)
                    clear hst hb7
                    go_wp2_with fail
                    go_roundw
                    case rel => exact ⟨k + 1, by omega, by go_num, HST.out, HBF.out⟩
                    case measure => simp [intOf]; omega

                · refine wpOp_run (o := ⟨some 94, .load 27 (.tmp 93), _, _, _, none⟩) (v := (.pointer (some ⟨c, 0, none⟩))) rfl rfl (exec_v (load27 x2)) ⟨HS0, ?_⟩
                  simp only [Act.put, List.setIfInBounds_toArray, List.set_cons_zero, List.set_cons_succ]
                  refine anyH_one 5 ⟨some 87, .load 23 (.tmp 86), _, _, _, none⟩ (.pointer (some ⟨db, 0, none⟩)) _ (by kernel_rfl) rfl rfl (exec_v (load23x x0)) HS0 ?_
                  simp only [Act.put, List.setIfInBounds_toArray, List.set_cons_zero, List.set_cons_succ]
                  refine anyH_callW 8 ⟨some 90, .call { callee := .value (.func 19), args := #[.tmp 87, .tmp 89], argTypes := #[23, 40] }, _, _, _, none⟩ 19 _ (by kernel_rfl) rfl rfl (exec_call2b (f := 19) rfl rfl (.inl rfl)) ?_
                  refine (H1d.out.crashL vka vkl vkc vks HKd.out).mono ?_
                  rintro e w2c ⟨db2, own2, rfl, hd2, hb2⟩
                  have H2 := hid (H1d.out.later hb2)
                  have HK2 := hid (HKd.out.later hb2)
                  have HD2 := hid hd2
                  have HBB2 := hid hb2
                  have HS2 := H2.out.xc (q := ab) two_mem.1 (j := 4) rfl
                  have x2' := H2.out.xc (q := xb) two_mem.2 (j := 2) rfl
                  clear hd2 hb2
                  refine ⟨_, rfl, HS2, ?_⟩
                  simp only [Act.put, List.setIfInBounds_toArray, List.set_cons_zero, List.set_cons_succ]
                  refine anyH_callW 15 ⟨some 97, .call { callee := .value (.func 20), args := #[.tmp 94, .tmp 96], argTypes := #[27, 40] }, _, _, _, none⟩ 20 _ (by kernel_rfl) rfl rfl (exec_call2b (f := 20) rfl rfl (.inr (.inl rfl))) ?_
                  refine (H2.out.crashR vka vkl vkc vks HK2.out).mono ?_
                  rintro e w3c ⟨c3, own3, rfl, hr3, hb3⟩
                  have H3 := hid (H2.out.later hb3)
                  have HM := hid (made_duo (w := W1.drew) (w1 := w2c) (w1' := w2c) (G := [(xb, [.pointer (some ⟨db, 0, none⟩), pv, .pointer (some ⟨c, 0, none⟩), rv], 39)]) H1d.out.hB HD2.out HBB2.out (Below.refl _ _) hr3 hb3 (fun x hx => by obtain rfl := List.mem_singleton.1 hx; exact H1d.out.guest two_mem.2))
                  have HS3 := H3.out.xc (q := ab) two_mem.1 (j := 4) rfl
                  have HB3 := hid (HB1d.out.trans ((HBB2.out.mono H1d.out.hB).trans (hb3.mono H2.out.hB)))
                  clear hr3 hb3
                  have y0 := HM.out.xc (k := xb) one_mem (j := 0) rfl
                  have f0 := Guest.free (HM.out.g _ one_mem) 0
                  refine ⟨_, rfl, HS3, ?_⟩
                  simp only [Act.put, List.setIfInBounds_toArray, List.set_cons_zero, List.set_cons_succ]
                  refine anyH_take 16 ⟨some 98, .nilCheck (.tmp 82), _, _, _, none⟩ (.pointer (some ⟨xb, 0, none⟩)) rfl rfl (by kernel_rfl) (by kernel_rfl) (by kernel_rfl) (fun _ _ _ h => h) (fun w hS => rfl) HS3 ?_
                  simp only [Act.put, List.setIfInBounds_toArray, List.set_cons_zero, List.set_cons_succ]
                  refine anyH_take 17 ⟨some 99, .fieldAddr 39 (.tmp 98) 0, _, _, _, none⟩ (.pointer (some ⟨xb, 0, none⟩)) rfl rfl (by kernel_rfl) (by kernel_rfl) (by kernel_rfl) (fun _ _ _ h => h) (fun w hS => exec_v (field39_0 xb w)) HS3 ?_
                  simp only [Act.put, List.setIfInBounds_toArray, List.set_cons_zero, List.set_cons_succ]
                  have HM4 : Hid (DuoD (w3c.setCell ⟨xb, 0, none⟩ (.pointer (some ⟨db2, 0, none⟩))) B [(xb, [.pointer (some ⟨db2, 0, none⟩), pv, .pointer (some ⟨c, 0, none⟩), rv], 39)] db2 c3 own2 own3 (D.crash vks) (D.crash vks)) := HM.out.setX (j := 0) (v := (.pointer (some ⟨db2, 0, none⟩)))
                  have HS4 : (w3c.setCell ⟨xb, 0, none⟩ (.pointer (some ⟨db2, 0, none⟩))).cell? ⟨ab, 4, none⟩ = some (.slice vka vkl vkc) := (World.cell?_setCell_other _ _ _ _ (by intro h; simp only [Addr.mk.injEq] at h; omega)).trans HS3
                  refine anyH_oneSkip 18 ⟨none, .store 23 (.tmp 99) (.tmp 90), _, _, _, none⟩ _ (by kernel_rfl) rfl rfl (exec_store23 (v := (.pointer (some ⟨db2, 0, none⟩))) rfl rfl rfl y0 f0) HS4 ?_
                  simp only [Act.put, List.setIfInBounds_toArray, List.set_cons_zero, List.set_cons_succ]
                  have HB4 : Hid (Below B w (w3c.setCell ⟨xb, 0, none⟩ (.pointer (some ⟨db2, 0, none⟩)))) := HB3.out.setCell hxb _
                  generalize w3c.setCell ⟨xb, 0, none⟩ (.pointer (some ⟨db2, 0, none⟩)) = w4c at *
                  have y2 := HM4.out.xc (k := xb) one_mem (j := 2) rfl
                  have f2 := Guest.free (HM4.out.g _ one_mem) 2
                  refine anyH_take 19 ⟨some 100, .nilCheck (.tmp 83), _, _, _, none⟩ (.pointer (some ⟨xb, 0, none⟩)) rfl rfl (by kernel_rfl) (by kernel_rfl) (by kernel_rfl) (fun _ _ _ h => h) (fun w hS => rfl) HS4 ?_
                  simp only [Act.put, List.setIfInBounds_toArray, List.set_cons_zero, List.set_cons_succ]
                  refine anyH_take 20 ⟨some 101, .fieldAddr 39 (.tmp 100) 2, _, _, _, none⟩ (.pointer (some ⟨xb, 2, none⟩)) rfl rfl (by kernel_rfl) (by kernel_rfl) (by kernel_rfl) (fun _ _ _ h => h) (fun w hS => exec_v (field39_2 xb w)) HS4 ?_
                  simp only [Act.put, List.setIfInBounds_toArray, List.set_cons_zero, List.set_cons_succ]
                  have HM5 : Hid (DuoD (w4c.setCell ⟨xb, 2, none⟩ (.pointer (some ⟨c3, 0, none⟩))) B [(xb, [.pointer (some ⟨db2, 0, none⟩), pv, .pointer (some ⟨c3, 0, none⟩), rv], 39)] db2 c3 own2 own3 (D.crash vks) (D.crash vks)) := HM4.out.setX (j := 2) (v := (.pointer (some ⟨c3, 0, none⟩)))
                  have HS5 : (w4c.setCell ⟨xb, 2, none⟩ (.pointer (some ⟨c3, 0, none⟩))).cell? ⟨ab, 4, none⟩ = some (.slice vka vkl vkc) := (World.cell?_setCell_other _ _ _ _ (by intro h; simp only [Addr.mk.injEq] at h; omega)).trans HS4
                  refine anyH_oneSkip 21 ⟨none, .store 27 (.tmp 101) (.tmp 97), _, _, _, none⟩ _ (by kernel_rfl) rfl rfl (exec_store27 (v := (.pointer (some ⟨c3, 0, none⟩))) rfl rfl rfl y2 f2) HS5 ?_
                  simp only [Act.put, List.setIfInBounds_toArray, List.set_cons_zero, List.set_cons_succ]
                  have HB5 : Hid (Below B w (w4c.setCell ⟨xb, 2, none⟩ (.pointer (some ⟨c3, 0, none⟩)))) := HB4.out.setCell hxb _
                  generalize w4c.setCell ⟨xb, 2, none⟩ (.pointer (some ⟨c3, 0, none⟩)) = w5c at *
                  refine wpAnyH_done (by kernel_rfl) ?_ _
                  clear y0 f0 y2 f2 x2' x0 x2 HS0 HS2 HS3 HS4 HS5 hne
                  have HLk := hid (crash_lim D vks (k + 1))
                  have HYk := hid (H1d.out.byt.1.crash vks)
                  clear HM HM4 HBB2 H2 H3 HD2 HK2 HKd H1d HB1d HB3 HB4
                  generalize D.crash vks = D9 at *
                  go_wp2_with fail
                  refine (bopen_any HM5.out HYk.out HLk.out hxb).mono ?_
                  rintro e w7 ⟨rfl, hst, hb7⟩
                  have HST : Hid (∃ db c, St w7 B xb db c (k + 1)) := ⟨db2, c3, hst⟩
                  have HBF := hid (HB5.out.trans hb7)
                  clear hst hb7
                  go_wp2_with fail
                  go_roundw
                  case rel => exact ⟨k + 1, by omega, by go_num, HST.out, HBF.out⟩
                  case measure => simp [intOf]; omega

              · by_cases hk10 : kind = 10
                · have hkd := hk10
                  clear hk8 hk9 hk10 HSt HK
                  have e8 : (kind == 8) = false := by simp [hkd]
                  have e9 : (kind == 9) = false := by simp [hkd]
                  have e10 : (kind == 10) = true := by simp [hkd]
                  clear hkd
                  go_wp2_with fail
                  generalize wr.alloc (.cells #[.int .i64 kind, .int .i64 vn, .int .i64 vm, .string vs, .slice vka vkl vkc] 42) = W1 at *
                  generalize wr.heap.size = ab at *
                  have GK : Hid ((W1.alloc (.cells (bc (rep 512 0)).toArray 5)).heap[W1.heap.size]? = some (.cells (bc (rep 512 0)).toArray 5)) := heap_alloc_new W1 _
                  have g0 : (W1.alloc (.cells (bc (rep 512 0)).toArray 5)).cell? ⟨W1.heap.size, 0, none⟩ = some (.int .u8 0) := by simp only [World.cell?, GK.out]; rfl
                  have gf : (W1.alloc (.cells (bc (rep 512 0)).toArray 5)).frozen? ⟨W1.heap.size, 0, none⟩ = false := free_new GK.out
                  have HX : Hid (Below W1.heap.size W1 (W1.alloc (.cells (bc (rep 512 0)).toArray 5))) := (Below.refl _ W1).alloc (Nat.le_refl _) _
                  have a2 := cell_later HX.out (H1.out.xc (q := ab) two_mem.1 (j := 2) rfl)
                  rw [made_bytes]
                  generalize W1.alloc (.cells (bc (rep 512 0)).toArray 5) = W2 at *
                  generalize hge : W1.heap.size = g at *
                  go_wp2_with fail
                  have H2 := hid (duet_sec H1.out hge HX.out GK.out (vm % 256))
                  have HB2 : Hid (Below B w (W2.setCell ⟨g, 0, none⟩ (.int .u8 (vm % 256)))) := (HB1.out.trans (HX.out.mono (by rw [← hge]; exact H1.out.hB))).setCell (by rw [← hge]; exact H1.out.hB) _
                  have hvb : 0 ≤ vm % 256 ∧ vm % 256 < 256 := by omega
                  have HSB := hid (secM_byt _ hvb)
                  have HSL := hid (secM_length (vm % 256))
                  clear GK g0 gf HX a2 H1 HB1 hvb
                  generalize W2.setCell ⟨g, 0, none⟩ (.int .u8 (vm % 256)) = W3 at *
                  generalize secM (vm % 256) = sm at *
                  have H2d := hid (H2.out.later ((Below.refl W3.heap.size W3).drew))
                  have HB2d := hid (HB2.out.trans (((Below.refl W3.heap.size W3).drew).mono H2.out.hB))
                  go_region_held3 (fun w' => w'.cell? ⟨xb, 0, none⟩ = some (.pointer (some ⟨db, 0, none⟩)) ∧ w'.cell? ⟨xb, 1, none⟩ = some (pv) ∧ w'.cell? ⟨xb, 2, none⟩ = some (.pointer (some ⟨c, 0, none⟩)) ∧ w'.cell? ⟨xb, 3, none⟩ = some (rv) ∧ w'.cell? ⟨ab, 0, none⟩ = some (.int .i64 kind) ∧ w'.cell? ⟨ab, 1, none⟩ = some (.int .i64 vn) ∧ w'.cell? ⟨ab, 2, none⟩ = some (.int .i64 vm) ∧ w'.cell? ⟨ab, 3, none⟩ = some (.string vs) ∧ w'.cell? ⟨ab, 4, none⟩ = some (.slice vka vkl vkc)) (first | exact ⟨H3.out.less.xc (q := xb) two_mem.2 (j := 0) rfl, H3.out.less.xc (q := xb) two_mem.2 (j := 1) rfl, H3.out.less.xc (q := xb) two_mem.2 (j := 2) rfl, H3.out.less.xc (q := xb) two_mem.2 (j := 3) rfl, H3.out.less.xc (q := ab) two_mem.1 (j := 0) rfl, H3.out.less.xc (q := ab) two_mem.1 (j := 1) rfl, H3.out.less.xc (q := ab) two_mem.1 (j := 2) rfl, H3.out.less.xc (q := ab) two_mem.1 (j := 3) rfl, H3.out.less.xc (q := ab) two_mem.1 (j := 4) rfl⟩ | exact ⟨H2d.out.less.xc (q := xb) two_mem.2 (j := 0) rfl, H2d.out.less.xc (q := xb) two_mem.2 (j := 1) rfl, H2d.out.less.xc (q := xb) two_mem.2 (j := 2) rfl, H2d.out.less.xc (q := xb) two_mem.2 (j := 3) rfl, H2d.out.less.xc (q := ab) two_mem.1 (j := 0) rfl, H2d.out.less.xc (q := ab) two_mem.1 (j := 1) rfl, H2d.out.less.xc (q := ab) two_mem.1 (j := 2) rfl, H2d.out.less.xc (q := ab) two_mem.1 (j := 3) rfl, H2d.out.less.xc (q := ab) two_mem.1 (j := 4) rfl⟩ | exact ⟨H2.out.less.xc (q := xb) two_mem.2 (j := 0) rfl, H2.out.less.xc (q := xb) two_mem.2 (j := 1) rfl, H2.out.less.xc (q := xb) two_mem.2 (j := 2) rfl, H2.out.less.xc (q := xb) two_mem.2 (j := 3) rfl, H2.out.less.xc (q := ab) two_mem.1 (j := 0) rfl, H2.out.less.xc (q := ab) two_mem.1 (j := 1) rfl, H2.out.less.xc (q := ab) two_mem.1 (j := 2) rfl, H2.out.less.xc (q := ab) two_mem.1 (j := 3) rfl, H2.out.less.xc (q := ab) two_mem.1 (j := 4) rfl⟩) (first | (go_at_call 21; refine (H2d.out.writeL (by omega) (by omega) vn (List.mem_cons_self ..) HSL.out HSB.out).mono ?_; rintro e w3 ⟨rfl, hm_, hb_⟩; have H3 := hid hm_; have HB3 := hid (HB2d.out.trans hb_); clear hm_ hb_))
                  have x0 := H3.out.less.xc (q := xb) two_mem.2 (j := 0) rfl
                  have x1 := H3.out.less.xc (q := xb) two_mem.2 (j := 1) rfl
                  have x2 := H3.out.less.xc (q := xb) two_mem.2 (j := 2) rfl
                  have x3 := H3.out.less.xc (q := xb) two_mem.2 (j := 3) rfl
                  have a0 := H3.out.less.xc (q := ab) two_mem.1 (j := 0) rfl
                  have a1 := H3.out.less.xc (q := ab) two_mem.1 (j := 1) rfl
                  have a2 := H3.out.less.xc (q := ab) two_mem.1 (j := 2) rfl
                  have a3 := H3.out.less.xc (q := ab) two_mem.1 (j := 3) rfl
                  have a4 := H3.out.less.xc (q := ab) two_mem.1 (j := 4) rfl
                  go_wp2_with fail
                  clear x0 x1 x2 x3 a0 a1 a2 a3 a4
                  have H3d := hid (H3.out.later ((Below.refl w3.heap.size w3).drew))
                  have HB3d := hid (HB3.out.trans (((Below.refl w3.heap.size w3).drew).mono H3.out.hB))
                  go_region_held3 (fun w' => w'.cell? ⟨xb, 0, none⟩ = some (.pointer (some ⟨db, 0, none⟩)) ∧ w'.cell? ⟨xb, 1, none⟩ = some (pv) ∧ w'.cell? ⟨xb, 2, none⟩ = some (.pointer (some ⟨c, 0, none⟩)) ∧ w'.cell? ⟨xb, 3, none⟩ = some (rv) ∧ w'.cell? ⟨ab, 0, none⟩ = some (.int .i64 kind) ∧ w'.cell? ⟨ab, 1, none⟩ = some (.int .i64 vn) ∧ w'.cell? ⟨ab, 2, none⟩ = some (.int .i64 vm) ∧ w'.cell? ⟨ab, 3, none⟩ = some (.string vs) ∧ w'.cell? ⟨ab, 4, none⟩ = some (.slice vka vkl vkc)) (first | exact ⟨H4.out.less.xc (q := xb) two_mem.2 (j := 0) rfl, H4.out.less.xc (q := xb) two_mem.2 (j := 1) rfl, H4.out.less.xc (q := xb) two_mem.2 (j := 2) rfl, H4.out.less.xc (q := xb) two_mem.2 (j := 3) rfl, H4.out.less.xc (q := ab) two_mem.1 (j := 0) rfl, H4.out.less.xc (q := ab) two_mem.1 (j := 1) rfl, H4.out.less.xc (q := ab) two_mem.1 (j := 2) rfl, H4.out.less.xc (q := ab) two_mem.1 (j := 3) rfl, H4.out.less.xc (q := ab) two_mem.1 (j := 4) rfl⟩ | exact ⟨H3d.out.less.xc (q := xb) two_mem.2 (j := 0) rfl, H3d.out.less.xc (q := xb) two_mem.2 (j := 1) rfl, H3d.out.less.xc (q := xb) two_mem.2 (j := 2) rfl, H3d.out.less.xc (q := xb) two_mem.2 (j := 3) rfl, H3d.out.less.xc (q := ab) two_mem.1 (j := 0) rfl, H3d.out.less.xc (q := ab) two_mem.1 (j := 1) rfl, H3d.out.less.xc (q := ab) two_mem.1 (j := 2) rfl, H3d.out.less.xc (q := ab) two_mem.1 (j := 3) rfl, H3d.out.less.xc (q := ab) two_mem.1 (j := 4) rfl⟩ | exact ⟨H3.out.less.xc (q := xb) two_mem.2 (j := 0) rfl, H3.out.less.xc (q := xb) two_mem.2 (j := 1) rfl, H3.out.less.xc (q := xb) two_mem.2 (j := 2) rfl, H3.out.less.xc (q := xb) two_mem.2 (j := 3) rfl, H3.out.less.xc (q := ab) two_mem.1 (j := 0) rfl, H3.out.less.xc (q := ab) two_mem.1 (j := 1) rfl, H3.out.less.xc (q := ab) two_mem.1 (j := 2) rfl, H3.out.less.xc (q := ab) two_mem.1 (j := 3) rfl, H3.out.less.xc (q := ab) two_mem.1 (j := 4) rfl⟩) (first | (go_at_call 22; refine (H3d.out.writeR (by omega) (by omega) vn (List.mem_cons_self ..) HSL.out HSB.out).mono ?_; rintro e w4a ⟨rfl, hm_, hb_⟩; have H4 := hid hm_; have HB4 := hid (HB3d.out.trans hb_); clear hm_ hb_))
                  have hwg := write_grow D vn sm
                  have HST : Hid (∃ db c, St w4a B xb db c (k + 1)) := ⟨db, c, H4.out.less.less.st (by omega) (by omega)⟩
                  have HBF := hid HB4.out
                  clear hwg
                  go_wp2_with fail
                  go_roundw
                  case rel => exact ⟨k + 1, by omega, by go_num, HST.out, HBF.out⟩
                  case measure => simp [intOf]; omega
                · have hkn : kind ≠ 8 ∧ kind ≠ 9 ∧ kind ≠ 10 := ⟨hk8, hk9, hk10⟩
                  clear hk8 hk9 hk10 HK
                  have e8 : (kind == 8) = false := by simp; omega
                  have e9 : (kind == 9) = false := by simp; omega
                  have e10 : (kind == 10) = false := by simp; omega
                  rcases HSt.out with ⟨al, ar, D0, hD, hy, hl0⟩ | ⟨b, r, al, ar, P, R, hD, hsim, hlim⟩
                  · have H0 := hid (hD.box [.int .i64 kind, .int .i64 vn, .int .i64 vm, .string vs, .slice vka vkl vkc] 42)
                    have HST : Hid (∃ db c, St (wr.alloc (.cells #[.int .i64 kind, .int .i64 vn, .int .i64 vm, .string vs, .slice vka vkl vkc] 42)) B xb db c (k + 1)) := ⟨db, c, .inl ⟨al, ar, D0, H0.out.less, hy, ⟨by have := hl0.st; omega, by have := hl0.wt; omega⟩⟩⟩
                    have HBF := hid HB1.out
                    have x3 := H0.out.xc (k := xb) two_mem.2 (j := 3) rfl
                    clear hD hy hl0 hkn
                    go_wp2_with fail
                    go_roundw
                    case rel => exact ⟨k + 1, by omega, by go_num, HST.out, HBF.out⟩
                    case measure => simp [intOf]; omega
                  · have H0 := hid (hD.box [.int .i64 kind, .int .i64 vn, .int .i64 vm, .string vs, .slice vka vkl vkc] 42)
                    have HSim := hid hsim
                    have HLim := hid hlim
                    have x3 := H0.out.xc (k := xb) two_mem.2 (j := 3) rfl
                    clear hD hsim hlim H1 HSt hkn
                    go_wp2_with fail
                    clear x3
                    generalize wr.alloc (.cells #[.int .i64 kind, .int .i64 vn, .int .i64 vm, .string vs, .slice vka vkl vkc] 42) = W1 at *
                    generalize wr.heap.size = ab at *
                    have Hd := hid (H0.out.later ((Below.refl W1.heap.size W1).drew))
                    have HBd := hid (HB1.out.trans (((Below.refl W1.heap.size W1).drew).mono H0.out.hB))
                    have a0 := Hd.out.xc (k := ab) two_mem.1 (j := 0) rfl
                    have a1 := Hd.out.xc (k := ab) two_mem.1 (j := 1) rfl
                    have a2 := Hd.out.xc (k := ab) two_mem.1 (j := 2) rfl
                    have a3 := Hd.out.xc (k := ab) two_mem.1 (j := 3) rfl
                    have a4 := Hd.out.xc (k := ab) two_mem.1 (j := 4) rfl
                    refine wp_region_held_drew (S := fun _ => True) (by kernel_rfl) trivial ?_
                    intro _
                    refine anyH_take 0 ⟨some 134, .move (.tmp 11), _, _, _, none⟩ (.pointer (some ⟨xb, 0, none⟩)) rfl rfl (by kernel_rfl) (by kernel_rfl) (by kernel_rfl) (fun _ _ _ h => h) (fun w hS => rfl) trivial ?_
                    simp only [Act.put, List.setIfInBounds_toArray, List.set_cons_zero, List.set_cons_succ]
                    refine anyH_one 1 ⟨some 135, .load 42 (.tmp 13), _, _, _, none⟩ (.agg #[.int .i64 kind, .int .i64 vn, .int .i64 vm, .string vs, .slice vka vkl vkc]) _ (by kernel_rfl) rfl rfl (exec_v (load42 a0 a1 a2 a3 a4)) trivial ?_
                    simp only [Act.put, List.setIfInBounds_toArray, List.set_cons_zero, List.set_cons_succ]
                    refine anyH_callW 2 ⟨some 136, .call { callee := .value (.func 23), args := #[.tmp 134, .tmp 135], argTypes := #[35, 42] }, _, _, _, none⟩ 23 _ (by kernel_rfl) rfl rfl (exec_call2b (f := 23) rfl rfl (.inr (.inr rfl))) ?_
                    refine (do_any Hd.out.less HSim.out HLim.out (by omega) kind vn vm vs hsm ⟨hvn1, hvn2⟩ vka vkl vkc).mono ?_
                    rintro e w2 ⟨rfl, al2, ar2, P2, R2, hf, hsm2, hlm2, hb2⟩
                    have HF := hid hf
                    have HSm := hid hsm2
                    have HLm := hid hlm2
                    have HBF := hid (HBd.out.trans hb2)
                    clear hf hsm2 hlm2 hb2 a0 a1 a2 a3 a4 HSim HLim H0 HB1 Hd HBd
                    refine ⟨_, rfl, trivial, ?_⟩
                    simp only [Act.put, List.setIfInBounds_toArray, List.set_cons_zero, List.set_cons_succ]
                    obtain ⟨rg, rr⟩ := HF.out.rcells
                    have HS1 := And.intro (HF.out.xc (k := xb) one_mem (j := 1) rfl) (And.intro (HF.out.xc (k := xb) one_mem (j := 3) rfl) (And.intro rg rr))
                    clear rg rr
                    refine anyH_more (S' := fun w' => w'.cell? ⟨xb, 1, none⟩ = some (.pointer (some ⟨b, 0, none⟩)) ∧ w'.cell? ⟨xb, 3, none⟩ = some (.pointer (some ⟨r, 0, none⟩)) ∧ w'.cell? ⟨r, 1, none⟩ = some (.int .i64 R2.gen) ∧ w'.cell? ⟨r, 2, none⟩ = some (.string R2.root)) (fun _ _ => trivial) _ _ _ _ ?_
                    refine anyH_takeW 3 ⟨some 137, .unOp .not 4 (.tmp 136), _, _, _, none⟩ (.bool false) rfl rfl (by kernel_rfl) (by kernel_rfl) (by kernel_rfl) (fun _ _ _ h => h) (fun w hS => rfl) HS1 ?_
                    simp only [Act.put, List.setIfInBounds_toArray, List.set_cons_zero, List.set_cons_succ]
                    refine anyH_takeW 4 ⟨some 138, .move (.tmp 137), _, _, _, none⟩ (.bool false) rfl rfl (by kernel_rfl) (by kernel_rfl) (by kernel_rfl) (fun _ _ _ h => h) (fun w hS => rfl) HS1 ?_
                    simp only [Act.put, List.setIfInBounds_toArray, List.set_cons_zero, List.set_cons_succ]
                    refine anyH_takeW 5 ⟨some 139, .move (.tmp 11), _, _, _, some (4, false)⟩ (.pointer (some ⟨xb, 0, none⟩)) rfl rfl (by kernel_rfl) (by kernel_rfl) (by kernel_rfl) (fun _ _ _ h => h) (fun w hS => rfl) HS1 ?_
                    simp only [Act.put, List.setIfInBounds_toArray, List.set_cons_zero, List.set_cons_succ]
                    refine anyH_takeW 6 ⟨some 140, .nilCheck (.tmp 139), _, _, _, some (4, false)⟩ (.pointer (some ⟨xb, 0, none⟩)) rfl rfl (by kernel_rfl) (by kernel_rfl) (by kernel_rfl) (fun _ _ _ h => h) (fun w hS => rfl) HS1 ?_
                    simp only [Act.put, List.setIfInBounds_toArray, List.set_cons_zero, List.set_cons_succ]
                    refine anyH_takeW 7 ⟨some 141, .fieldAddr 39 (.tmp 140) 1, _, _, _, some (4, false)⟩ (.pointer (some ⟨xb, 1, none⟩)) rfl rfl (by kernel_rfl) (by kernel_rfl) (by kernel_rfl) (fun _ _ _ h => h) (fun w hS => exec_v (field39_1 xb w)) HS1 ?_
                    simp only [Act.put, List.setIfInBounds_toArray, List.set_cons_zero, List.set_cons_succ]
                    refine anyH_takeW 8 ⟨some 142, .load 36 (.tmp 141), _, _, _, some (4, false)⟩ (.pointer (some ⟨b, 0, none⟩)) rfl rfl (by kernel_rfl) (by kernel_rfl) (by kernel_rfl) (fun _ _ _ h => h) (fun w hS => exec_v (load36x hS.1)) HS1 ?_
                    simp only [Act.put, List.setIfInBounds_toArray, List.set_cons_zero, List.set_cons_succ]
                    refine anyH_takeW 10 ⟨some 144, .move (.tmp 11), _, _, _, some (4, false)⟩ (.pointer (some ⟨xb, 0, none⟩)) rfl rfl (by kernel_rfl) (by kernel_rfl) (by kernel_rfl) (fun _ _ _ h => h) (fun w hS => rfl) HS1 ?_
                    simp only [Act.put, List.setIfInBounds_toArray, List.set_cons_zero, List.set_cons_succ]
                    refine anyH_takeW 11 ⟨some 145, .nilCheck (.tmp 144), _, _, _, some (4, false)⟩ (.pointer (some ⟨xb, 0, none⟩)) rfl rfl (by kernel_rfl) (by kernel_rfl) (by kernel_rfl) (fun _ _ _ h => h) (fun w hS => rfl) HS1 ?_
                    simp only [Act.put, List.setIfInBounds_toArray, List.set_cons_zero, List.set_cons_succ]
                    refine anyH_takeW 12 ⟨some 146, .fieldAddr 39 (.tmp 145) 3, _, _, _, some (4, false)⟩ (.pointer (some ⟨xb, 3, none⟩)) rfl rfl (by kernel_rfl) (by kernel_rfl) (by kernel_rfl) (fun _ _ _ h => h) (fun w hS => exec_v (field39_3 xb w)) HS1 ?_
                    simp only [Act.put, List.setIfInBounds_toArray, List.set_cons_zero, List.set_cons_succ]
                    refine anyH_takeW 13 ⟨some 147, .load 37 (.tmp 146), _, _, _, some (4, false)⟩ (.pointer (some ⟨r, 0, none⟩)) rfl rfl (by kernel_rfl) (by kernel_rfl) (by kernel_rfl) (fun _ _ _ h => h) (fun w hS => exec_v (load37x hS.2.1)) HS1 ?_
                    simp only [Act.put, List.setIfInBounds_toArray, List.set_cons_zero, List.set_cons_succ]
                    refine anyH_takeW 14 ⟨some 148, .nilCheck (.tmp 147), _, _, _, some (4, false)⟩ (.pointer (some ⟨r, 0, none⟩)) rfl rfl (by kernel_rfl) (by kernel_rfl) (by kernel_rfl) (fun _ _ _ h => h) (fun w hS => rfl) HS1 ?_
                    simp only [Act.put, List.setIfInBounds_toArray, List.set_cons_zero, List.set_cons_succ]
                    refine anyH_takeW 15 ⟨some 149, .fieldAddr 53 (.tmp 148) 1, _, _, _, some (4, false)⟩ (.pointer (some ⟨r, 1, none⟩)) rfl rfl (by kernel_rfl) (by kernel_rfl) (by kernel_rfl) (fun _ _ _ h => h) (fun w hS => exec_v (field53b r w)) HS1 ?_
                    simp only [Act.put, List.setIfInBounds_toArray, List.set_cons_zero, List.set_cons_succ]
                    refine anyH_takeW 16 ⟨some 150, .load 3 (.tmp 149), _, _, _, some (4, false)⟩ (.int .i64 R2.gen) rfl rfl (by kernel_rfl) (by kernel_rfl) (by kernel_rfl) (fun _ _ _ h => h) (fun w hS => exec_v (load3x hS.2.2.1)) HS1 ?_
                    simp only [Act.put, List.setIfInBounds_toArray, List.set_cons_zero, List.set_cons_succ]
                    refine anyH_callW 9 ⟨some 143, .call { callee := .value (.func 24), args := #[.tmp 142], argTypes := #[36] }, _, _, _, some (4, false)⟩ 24 _ (by kernel_rfl) rfl rfl (exec_call1g (f := 24) rfl (by decide)) ?_
                    refine (gen_any HF.out.p).mono ?_
                    rintro e wz ⟨rfl, hwz⟩
                    have hwz' := hwz.symm
                    subst hwz'
                    refine ⟨_, rfl, HS1, ?_⟩
                    simp only [Act.put, List.setIfInBounds_toArray, List.set_cons_zero, List.set_cons_succ]
                    refine anyH_takeW 17 ⟨some 151, .binOp .neq 3 (.tmp 143) (.tmp 150) 3, _, _, _, some (4, false)⟩ (.bool false) rfl rfl (by kernel_rfl) (by kernel_rfl) (by kernel_rfl) (fun _ _ _ h => h) (fun w hS => exec_neI rfl rfl HSm.out.gen.symm) HS1 ?_
                    simp only [Act.put, List.setIfInBounds_toArray, List.set_cons_zero, List.set_cons_succ]
                    refine anyH_takeW 18 ⟨some 152, .pick (.tmp 138) (.const (.bool true)) (.tmp 151), _, _, _, none⟩ (.bool false) rfl rfl (by kernel_rfl) (by kernel_rfl) (by kernel_rfl) (fun _ _ _ h => h) (fun w hS => rfl) HS1 ?_
                    simp only [Act.put, List.setIfInBounds_toArray, List.set_cons_zero, List.set_cons_succ]
                    refine anyH_takeW 19 ⟨some 153, .move (.tmp 152), _, _, _, none⟩ (.bool false) rfl rfl (by kernel_rfl) (by kernel_rfl) (by kernel_rfl) (fun _ _ _ h => h) (fun w hS => rfl) HS1 ?_
                    simp only [Act.put, List.setIfInBounds_toArray, List.set_cons_zero, List.set_cons_succ]
                    refine anyH_takeW 20 ⟨some 154, .move (.tmp 11), _, _, _, some (19, false)⟩ (.pointer (some ⟨xb, 0, none⟩)) rfl rfl (by kernel_rfl) (by kernel_rfl) (by kernel_rfl) (fun _ _ _ h => h) (fun w hS => rfl) HS1 ?_
                    simp only [Act.put, List.setIfInBounds_toArray, List.set_cons_zero, List.set_cons_succ]
                    refine anyH_takeW 21 ⟨some 155, .nilCheck (.tmp 154), _, _, _, some (19, false)⟩ (.pointer (some ⟨xb, 0, none⟩)) rfl rfl (by kernel_rfl) (by kernel_rfl) (by kernel_rfl) (fun _ _ _ h => h) (fun w hS => rfl) HS1 ?_
                    simp only [Act.put, List.setIfInBounds_toArray, List.set_cons_zero, List.set_cons_succ]
                    refine anyH_takeW 22 ⟨some 156, .fieldAddr 39 (.tmp 155) 1, _, _, _, some (19, false)⟩ (.pointer (some ⟨xb, 1, none⟩)) rfl rfl (by kernel_rfl) (by kernel_rfl) (by kernel_rfl) (fun _ _ _ h => h) (fun w hS => exec_v (field39_1 xb w)) HS1 ?_
                    simp only [Act.put, List.setIfInBounds_toArray, List.set_cons_zero, List.set_cons_succ]
                    refine anyH_takeW 23 ⟨some 157, .load 36 (.tmp 156), _, _, _, some (19, false)⟩ (.pointer (some ⟨b, 0, none⟩)) rfl rfl (by kernel_rfl) (by kernel_rfl) (by kernel_rfl) (fun _ _ _ h => h) (fun w hS => exec_v (load36x hS.1)) HS1 ?_
                    simp only [Act.put, List.setIfInBounds_toArray, List.set_cons_zero, List.set_cons_succ]
                    refine anyH_takeW 25 ⟨some 159, .move (.tmp 11), _, _, _, some (19, false)⟩ (.pointer (some ⟨xb, 0, none⟩)) rfl rfl (by kernel_rfl) (by kernel_rfl) (by kernel_rfl) (fun _ _ _ h => h) (fun w hS => rfl) HS1 ?_
                    simp only [Act.put, List.setIfInBounds_toArray, List.set_cons_zero, List.set_cons_succ]
                    refine anyH_takeW 26 ⟨some 160, .nilCheck (.tmp 159), _, _, _, some (19, false)⟩ (.pointer (some ⟨xb, 0, none⟩)) rfl rfl (by kernel_rfl) (by kernel_rfl) (by kernel_rfl) (fun _ _ _ h => h) (fun w hS => rfl) HS1 ?_
                    simp only [Act.put, List.setIfInBounds_toArray, List.set_cons_zero, List.set_cons_succ]
                    refine anyH_takeW 27 ⟨some 161, .fieldAddr 39 (.tmp 160) 3, _, _, _, some (19, false)⟩ (.pointer (some ⟨xb, 3, none⟩)) rfl rfl (by kernel_rfl) (by kernel_rfl) (by kernel_rfl) (fun _ _ _ h => h) (fun w hS => exec_v (field39_3 xb w)) HS1 ?_
                    simp only [Act.put, List.setIfInBounds_toArray, List.set_cons_zero, List.set_cons_succ]
                    refine anyH_takeW 28 ⟨some 162, .load 37 (.tmp 161), _, _, _, some (19, false)⟩ (.pointer (some ⟨r, 0, none⟩)) rfl rfl (by kernel_rfl) (by kernel_rfl) (by kernel_rfl) (fun _ _ _ h => h) (fun w hS => exec_v (load37x hS.2.1)) HS1 ?_
                    simp only [Act.put, List.setIfInBounds_toArray, List.set_cons_zero, List.set_cons_succ]
                    refine anyH_takeW 29 ⟨some 163, .nilCheck (.tmp 162), _, _, _, some (19, false)⟩ (.pointer (some ⟨r, 0, none⟩)) rfl rfl (by kernel_rfl) (by kernel_rfl) (by kernel_rfl) (fun _ _ _ h => h) (fun w hS => rfl) HS1 ?_
                    simp only [Act.put, List.setIfInBounds_toArray, List.set_cons_zero, List.set_cons_succ]
                    refine anyH_takeW 30 ⟨some 164, .fieldAddr 53 (.tmp 163) 2, _, _, _, some (19, false)⟩ (.pointer (some ⟨r, 2, none⟩)) rfl rfl (by kernel_rfl) (by kernel_rfl) (by kernel_rfl) (fun _ _ _ h => h) (fun w hS => exec_v (field53_2 r w)) HS1 ?_
                    simp only [Act.put, List.setIfInBounds_toArray, List.set_cons_zero, List.set_cons_succ]
                    refine anyH_takeW 31 ⟨some 165, .load 9 (.tmp 164), _, _, _, some (19, false)⟩ (.string R2.root) rfl rfl (by kernel_rfl) (by kernel_rfl) (by kernel_rfl) (fun _ _ _ h => h) (fun w hS => exec_v (load9x hS.2.2.2)) HS1 ?_
                    simp only [Act.put, List.setIfInBounds_toArray, List.set_cons_zero, List.set_cons_succ]
                    refine anyH_callW 24 ⟨some 158, .call { callee := .value (.func 25), args := #[.tmp 157], argTypes := #[36] }, _, _, _, some (19, false)⟩ 25 _ (by kernel_rfl) rfl rfl (exec_call1g (f := 25) rfl (by decide)) ?_
                    refine (rootc_any HF.out.p).mono ?_
                    rintro e wz ⟨rfl, hwz⟩
                    have hwz' := hwz.symm
                    subst hwz'
                    refine ⟨_, rfl, HS1, ?_⟩
                    simp only [Act.put, List.setIfInBounds_toArray, List.set_cons_zero, List.set_cons_succ]
                    refine anyH_takeW 32 ⟨some 166, .binOp .neq 9 (.tmp 158) (.tmp 165) 9, _, _, _, some (19, false)⟩ (.bool false) rfl rfl (by kernel_rfl) (by kernel_rfl) (by kernel_rfl) (fun _ _ _ h => h) (fun w hS => exec_neStr rfl rfl HSm.out.root.symm) HS1 ?_
                    simp only [Act.put, List.setIfInBounds_toArray, List.set_cons_zero, List.set_cons_succ]
                    refine anyH_takeW 33 ⟨some 167, .pick (.tmp 153) (.const (.bool true)) (.tmp 166), _, _, _, none⟩ (.bool false) rfl rfl (by kernel_rfl) (by kernel_rfl) (by kernel_rfl) (fun _ _ _ h => h) (fun w hS => rfl) HS1 ?_
                    simp only [Act.put, List.setIfInBounds_toArray, List.set_cons_zero, List.set_cons_succ]
                    refine anyH_takeW 34 ⟨some 168, .move (.tmp 167), _, _, _, none⟩ (.bool false) rfl rfl (by kernel_rfl) (by kernel_rfl) (by kernel_rfl) (fun _ _ _ h => h) (fun w hS => rfl) HS1 ?_
                    simp only [Act.put, List.setIfInBounds_toArray, List.set_cons_zero, List.set_cons_succ]
                    refine anyH_takeW 35 ⟨some 169, .move (.tmp 11), _, _, _, some (34, false)⟩ (.pointer (some ⟨xb, 0, none⟩)) rfl rfl (by kernel_rfl) (by kernel_rfl) (by kernel_rfl) (fun _ _ _ h => h) (fun w hS => rfl) HS1 ?_
                    simp only [Act.put, List.setIfInBounds_toArray, List.set_cons_zero, List.set_cons_succ]
                    refine anyH_takeW 36 ⟨some 170, .nilCheck (.tmp 169), _, _, _, some (34, false)⟩ (.pointer (some ⟨xb, 0, none⟩)) rfl rfl (by kernel_rfl) (by kernel_rfl) (by kernel_rfl) (fun _ _ _ h => h) (fun w hS => rfl) HS1 ?_
                    simp only [Act.put, List.setIfInBounds_toArray, List.set_cons_zero, List.set_cons_succ]
                    refine anyH_takeW 37 ⟨some 171, .fieldAddr 39 (.tmp 170) 1, _, _, _, some (34, false)⟩ (.pointer (some ⟨xb, 1, none⟩)) rfl rfl (by kernel_rfl) (by kernel_rfl) (by kernel_rfl) (fun _ _ _ h => h) (fun w hS => exec_v (field39_1 xb w)) HS1 ?_
                    simp only [Act.put, List.setIfInBounds_toArray, List.set_cons_zero, List.set_cons_succ]
                    refine anyH_takeW 38 ⟨some 172, .load 36 (.tmp 171), _, _, _, some (34, false)⟩ (.pointer (some ⟨b, 0, none⟩)) rfl rfl (by kernel_rfl) (by kernel_rfl) (by kernel_rfl) (fun _ _ _ h => h) (fun w hS => exec_v (load36x hS.1)) HS1 ?_
                    simp only [Act.put, List.setIfInBounds_toArray, List.set_cons_zero, List.set_cons_succ]
                    refine anyH_takeW 40 ⟨some 174, .move (.tmp 11), _, _, _, some (34, false)⟩ (.pointer (some ⟨xb, 0, none⟩)) rfl rfl (by kernel_rfl) (by kernel_rfl) (by kernel_rfl) (fun _ _ _ h => h) (fun w hS => rfl) HS1 ?_
                    simp only [Act.put, List.setIfInBounds_toArray, List.set_cons_zero, List.set_cons_succ]
                    refine anyH_takeW 41 ⟨some 175, .nilCheck (.tmp 174), _, _, _, some (34, false)⟩ (.pointer (some ⟨xb, 0, none⟩)) rfl rfl (by kernel_rfl) (by kernel_rfl) (by kernel_rfl) (fun _ _ _ h => h) (fun w hS => rfl) HS1 ?_
                    simp only [Act.put, List.setIfInBounds_toArray, List.set_cons_zero, List.set_cons_succ]
                    refine anyH_takeW 42 ⟨some 176, .fieldAddr 39 (.tmp 175) 3, _, _, _, some (34, false)⟩ (.pointer (some ⟨xb, 3, none⟩)) rfl rfl (by kernel_rfl) (by kernel_rfl) (by kernel_rfl) (fun _ _ _ h => h) (fun w hS => exec_v (field39_3 xb w)) HS1 ?_
                    simp only [Act.put, List.setIfInBounds_toArray, List.set_cons_zero, List.set_cons_succ]
                    refine anyH_takeW 43 ⟨some 177, .load 37 (.tmp 176), _, _, _, some (34, false)⟩ (.pointer (some ⟨r, 0, none⟩)) rfl rfl (by kernel_rfl) (by kernel_rfl) (by kernel_rfl) (fun _ _ _ h => h) (fun w hS => exec_v (load37x hS.2.1)) HS1 ?_
                    simp only [Act.put, List.setIfInBounds_toArray, List.set_cons_zero, List.set_cons_succ]
                    refine anyH_callW 39 ⟨some 173, .call { callee := .value (.func 26), args := #[.tmp 172], argTypes := #[36] }, _, _, _, some (34, false)⟩ 26 _ (by kernel_rfl) rfl rfl (exec_call1g (f := 26) rfl (by decide)) ?_
                    refine (free_any HF.out.p).mono ?_
                    rintro e wz ⟨rfl, hwz⟩
                    have hwz' := hwz.symm
                    subst hwz'
                    refine ⟨_, rfl, HS1, ?_⟩
                    simp only [Act.put, List.setIfInBounds_toArray, List.set_cons_zero, List.set_cons_succ]
                    refine anyH_callW 44 ⟨some 178, .call { callee := .value (.func 27), args := #[.tmp 177], argTypes := #[37] }, _, _, _, some (34, false)⟩ 27 _ (by kernel_rfl) rfl rfl (exec_call1g (f := 27) rfl (by decide)) ?_
                    refine (HF.out.rfree).mono ?_
                    rintro e wz ⟨rfl, hwz⟩
                    have hwz' := hwz.symm
                    subst hwz'
                    refine ⟨_, rfl, HS1, ?_⟩
                    simp only [Act.put, List.setIfInBounds_toArray, List.set_cons_zero, List.set_cons_succ]
                    refine anyH_takeW 45 ⟨some 179, .binOp .neq 3 (.tmp 173) (.tmp 178) 3, _, _, _, some (34, false)⟩ (.bool false) rfl rfl (by kernel_rfl) (by kernel_rfl) (by kernel_rfl) (fun _ _ _ h => h) (fun w hS => exec_neI rfl rfl (congrArg Nat.cast HSm.out.free.symm)) HS1 ?_
                    simp only [Act.put, List.setIfInBounds_toArray, List.set_cons_zero, List.set_cons_succ]
                    refine anyH_takeW 46 ⟨some 180, .pick (.tmp 168) (.const (.bool true)) (.tmp 179), _, _, _, none⟩ (.bool false) rfl rfl (by kernel_rfl) (by kernel_rfl) (by kernel_rfl) (fun _ _ _ h => h) (fun w hS => rfl) HS1 ?_
                    simp only [Act.put, List.setIfInBounds_toArray, List.set_cons_zero, List.set_cons_succ]
                    refine wpAnyH_done (by kernel_rfl) ?_ _
                    have HST : Hid (∃ db c, St w2 B xb db c (k + 1)) := ⟨db, c, .inr ⟨b, r, al2, ar2, P2, R2, HF.out, HSm.out, HLm.out⟩⟩
                    clear HS1 HF HSm HLm
                    go_wp2_with fail
                    go_roundw
                    case rel => exact ⟨k + 1, by omega, by go_num, HST.out, HBF.out⟩
                    case measure => simp [intOf]; omega
        · have hlt' : ¬ (k : Int) < len := by omega
          have HB := hid hb
          clear hb hst
          go_wp2_with fail
          go_ret
          exact ⟨rfl, hBe ▸ HB.out⟩

set_option maxRecDepth 100000 in
set_option maxHeartbeats 2000000 in
theorem walk_no (n : Int) (fmt : Bool) (a : Option Addr) (len cap : Nat) (w : World) (hn : n < 1 ∨ 4096 < n) :
    Calls Try.prog 3 #[.int .i64 n, .bool fmt, .slice a len cap] w fun e w' => e = .returned (.bool true) ∧ Below w.heap.size w w' := by
  have HN := hid hn
  clear hn
  go_enter Try.func3, Try.ntmps3
  go_wp2_with (first | (go_at_call 9; refine (new_no _ _ HN.out).mono ?_; rintro e wz ⟨rfl, rfl⟩) | (go_at_call 10; refine (rnew_no _ _ HN.out).mono ?_; rintro e wz ⟨rfl, rfl⟩) | (go_at_call 11; refine (no_any _ _).mono ?_; rintro e wz ⟨rfl, rfl⟩) | (go_at_call 12; refine (alive_any _).mono ?_; rintro e w3 ⟨rfl, hb3⟩; have HB3 := hid hb3; clear hb3))
  go_ret
  exact ⟨rfl, HB3.out⟩
theorem walk (n : Int) (fmt : Bool) (a : Option Addr) (len cap : Nat) (l : List ActV) (w : World) (h : ActsOk w a len l) :
    Calls Try.prog 3 #[.int .i64 n, .bool fmt, .slice a len cap] w fun e w' => e = .returned (.bool true) ∧ Below w.heap.size w w' := by
  by_cases hn : n < 1 ∨ 4096 < n
  · exact walk_no n fmt a len cap w hn
  · obtain ⟨m, rfl⟩ : ∃ m : Nat, n = m := ⟨n.toNat, by omega⟩
    exact walk_yes m fmt a len cap l w (by omega) (by omega) h

theorem own : ownKnob Try.prog.godebug = none := by kernel_rfl
theorem laidOut : laidOutB Try.prog = true := by kernel_rfl

set_option maxRecDepth 100000 in
theorem lifted (os : Os) (started : os.Started) (H : Type) (enc : TypeId × Value → H) :
    ReturnsInHanded {} Try.checked os 3 .any (Rows.pagerPlaysSpec.pre6 enc Try.prog Try.f3 Rows.pagerPlaysRow.domain false) (Rows.pagerPlaysSpec.post enc Try.prog Try.f3 false true false false) := by
  refine returnsInHanded_of_change (C := Try.checked) own started (by kernel_rfl) Try.func3
    (ChangeSpec.witness6 (enc := enc) (C := Try.checked) false ⟨#[], #[.int .i64 0, .bool false, .slice none 0 0], []⟩ 8 (by kernel_rfl) (by kernel_rfl) (by kernel_rfl) (by kernel_rfl)) ?_
  intro W base args ds gs before hval0 hW hcnd _
  have hval : ∀ (j : Nat) t v, Try.f3.params[j]? = some t → args[j]? = some v → Value.okWide Try.prog W .any base t v := hval0
  have hW' := hW
  obtain ⟨p, q, hA0, hV, rfl, hfz, hnd⟩ := hW
  have hA : DataW.TrodAll enc Try.prog W 0 (fun _ => true) true Try.f3.params.toList args.toList ds p := hA0
  rw [Try.params3] at hA hval
  obtain ⟨v0, vs0, d0, ds0, p0, q0, hargs, rfl, rfl, h0, r0⟩ := trodAll_cons hA
  obtain ⟨v1, vs1, d1, ds1, p1, q1, rfl, rfl, rfl, h1, r1⟩ := trodAll_cons r0
  obtain ⟨v2, vs2, d2, ds2, p2, q2, rfl, rfl, rfl, h2, r2⟩ := trodAll_cons r1
  obtain ⟨rfl, rfl, rfl⟩ := trodAll_nil r2
  obtain rfl : args = #[v0, v1, v2] := by cases args; simp_all
  obtain ⟨rfl, rfl⟩ := trodVars_none hV
  obtain ⟨a0, rfl, rfl, rfl, w0⟩ := open_int Try.underlying3 (hval 0 3 v0 rfl rfl) h0
  obtain ⟨a1, rfl⟩ := okWide_bool Try.underlying4 (hval 1 4 v1 rfl rfl)
  have lt1 : ∀ x ∈ p1, x.block < W.heap.size := by obtain ⟨m, hm⟩ := h1; exact DataW.trod_lt m _ _ _ hm
  obtain ⟨a2, len2, cap2, rfl⟩ := okWide_slice Try.underlying22 (hval 2 22 v2 rfl rfl)
  have lt2 : ∀ x ∈ p2, x.block < W.heap.size := by obtain ⟨m, hm⟩ := h2; exact DataW.trod_lt m _ _ _ hm
  obtain ⟨l2, hl2⟩ : ∃ l, ActsOk W a2 len2 l := by obtain ⟨fuel, hf⟩ := h2; exact open_acts hf
  clear hA0 hval0
  refine (walk _ _ _ _ cap2 _ _ hl2).mono fun e W' ⟨he, bel⟩ => ?_
  subst he
  exact ⟨_, rfl, _, _, _, [], _, [], hW', trodAll_mk1 (shut_bool Try.underlying4 _), (trodAll_cons_mk (shut_int Try.underlying3 w0) (trodAll_cons_mk (Below.trod laidOut (by kernel_rfl) (of_decide_eq_true (by kernel_rfl)) h1 bel lt1) (trodAll_cons_mk (Below.trod laidOut (by kernel_rfl) (of_decide_eq_true (by kernel_rfl)) h2 bel lt2) trodAll_mk0))), rfl, bel.frame _, fun h => by cases h⟩

theorem over : Rows.pagerPlaysRow.holds Try.pinned (OpenSpec.ofChange Rows.pagerPlaysSpec) :=
  OpenClaim.holds_of_wide 3 Try.f3 rfl rfl rfl rfl rfl rfl rfl ⟨rfl, rfl, rfl, rfl, rfl⟩ rfl rfl rfl rfl rfl (by kernel_rfl) Try.func3 (by kernel_rfl)
    (of_decide_eq_true (by kernel_rfl)) (by unfold Func.isWrapper; first | (rw [if_pos (by decide +kernel)]; kernel_rfl) | (rw [if_neg (by decide +kernel)]; exact ⟨rfl, rfl⟩))
    (fun os started H enc _ => lifted os started H enc)
end Go.Proofs.Ytambgimfbdecpaa.pagerPlays
namespace Go.Proofs.Ytambgimfbdecpaa
/-- THE STATEMENT. -/
theorem pagerPlays_holds : Rows.PagerPlaysSaid := pagerPlays.over
#print axioms pagerPlays_holds
end Go.Proofs.Ytambgimfbdecpaa
