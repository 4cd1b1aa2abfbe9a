/- What this text holds: Crash of the document's own disk. -/
import Derived.Test.YtambgimfbdecpaaQ20
namespace Go.Proofs.Ytambgimfbdecpaa
open Go.RowKit
set_option linter.unusedVariables false

theorem strOf_take (l : List Int) (m : Nat) : (strOf l).extract 0 m = strOf (l.take m) := by
  apply ByteArray.ext
  apply Array.toList_inj.1
  rw [strOf_toList, ByteArray.data_extract, Array.toList_extract, strOf_toList]
  simp
theorem strOf_drop (l : List Int) (m : Nat) : (strOf l).extract m (strOf l).size = strOf (l.drop m) := by
  apply ByteArray.ext
  apply Array.toList_inj.1
  rw [strOf_toList, ByteArray.data_extract, Array.toList_extract, strOf_toList, strOf_size]
  simp only [List.extract_eq_take_drop, List.map_drop]
  exact List.take_of_length_le (by simp)
theorem exec_strHead {a : Act} {x y : Operand} {s : ByteArray} {m : Nat} {w : World} {d : Option Tmp} {ty : Nat} {pos : String} {af : Array Edge} {g : Option (Nat × Bool)} (hx : a.eval x = .string s) (hy : a.eval y = .int .i64 m) (hm : m ≤ s.size) :
    (execOp a.eval ⟨d, .slice 9 x none (some y) none, ty, pos, af, g⟩).run Try.prog w = .ok (.value (.string (s.extract 0 m))) w := by
  have h := run_slice_string_h (P := Try.prog) w 9 s Try.underlying9 .i64 m (by omega) (by omega)
  simp only [execOp, hx, hy, Option.map_some, Option.map_none]
  exact exec_v (by rw [run_sliceAt_string _ _ _ _ _ _ Try.underlying9, h, Int.toNat_natCast])
theorem exec_strTail {a : Act} {x y : Operand} {s : ByteArray} {m : Nat} {w : World} {d : Option Tmp} {ty : Nat} {pos : String} {af : Array Edge} {g : Option (Nat × Bool)} (hx : a.eval x = .string s) (hy : a.eval y = .int .i64 m) (hm : m ≤ s.size) :
    (execOp a.eval ⟨d, .slice 9 x (some y) none none, ty, pos, af, g⟩).run Try.prog w = .ok (.value (.string (s.extract m s.size))) w := by
  have h := run_slice_string_l (P := Try.prog) w 9 s Try.underlying9 .i64 m (by omega) (by omega)
  simp only [execOp, hx, hy, Option.map_some, Option.map_none]
  exact exec_v (by rw [run_sliceAt_string _ _ _ _ _ _ Try.underlying9, h, Int.toNat_natCast])
theorem loadk9 {b k : Nat} {v : Value} {w : World} (h : w.cell? ⟨b, k, none⟩ = some v) : (Instr.loadAt 9 (.pointer (some ⟨b, k, none⟩))).run Try.prog w = .ok v w := by
  simp [Instr.loadAt, Instr.sureAddr, loadVar, isAgg, run_underlying Try.underlying9, h]
theorem fieldk77 (r k : Nat) (w : World) (hk : k < 2) : (Instr.fieldAt 100 (.pointer (some ⟨r, 0, none⟩)) k).run Try.prog w = .ok (.pointer (some ⟨r, k, none⟩)) w := by
  rcases (by omega : k = 0 ∨ k = 1) with rfl | rfl <;> kernel_rfl
theorem size9 : (Try.prog.info? 9).map (·.size) = some 1 := by kernel_rfl
theorem exec_store9 {a : Act} {x y : Operand} {b k : Nat} {s : ByteArray} {u : Value} {w : World} {d : Option Tmp} {ty : Nat} {pos : String} {af : Array Edge} {gd : Option (Nat × Bool)} (hx : a.eval x = .pointer (some ⟨b, k, none⟩)) (hy : a.eval y = .string s)
    (h : w.cell? ⟨b, k, none⟩ = some u) (hf : w.frozen? ⟨b, k, none⟩ = false) :
    (execOp a.eval ⟨d, .store 9 x y, ty, pos, af, gd⟩).run Try.prog w = .ok .skip (w.setCell ⟨b, k, none⟩ (.string s)) := by
  have hs := size9
  cases hq : Try.prog.info? 9 with
  | none => simp [hq] at hs
  | some i =>
    have h1 : i.size = 1 := by simpa [hq] using hs
    have e : (⟨b, k, none⟩ : Addr).add 0 = ⟨b, k, none⟩ := by simp [Addr.add]
    simp [execOp, hx, hy, Instr.storeAt, Instr.sureAddr, storeVar, sizeOf, typeInfo, hq, h1, Value.cells, storeCells, e, store, Sem.run, h, hf]
theorem index67 (g n c i : Nat) (w : World) (hi : i < n) : (Instr.indexAt 56 (.slice (some ⟨g, 0, none⟩) n c) (.int .i64 i)).run Try.prog w = .ok (.pointer (some ⟨g, i, none⟩)) w := by
  have hs := size9
  cases hq : Try.prog.info? 9 with
  | none => simp [hq] at hs
  | some j =>
    have h1 : j.size = 1 := by simpa [hq] using hs
    rw [run_indexAt_slice _ _ _ _ _ _ _ (by kernel_rfl)]
    have he : Try.prog.elem 56 = 9 := by kernel_rfl
    have e : (⟨g, 0, none⟩ : Addr).add i = ⟨g, i, none⟩ := by rw [Addr.add_mid, Nat.zero_add]
    simp [he, sizeOf, typeInfo, hq, h1, hi, e]

theorem index33 (g o n c i : Nat) (w : World) (hi : i < n) : (Instr.indexAt 40 (.slice (some ⟨g, o, none⟩) n c) (.int .i64 i)).run Try.prog w = .ok (.pointer (some ⟨g, o + i * 2, none⟩)) w := by
  have hs : (Try.prog.info? 94).map (·.size) = some 2 := by kernel_rfl
  cases hq : Try.prog.info? 94 with
  | none => simp [hq] at hs
  | some j =>
    have h1 : j.size = 2 := by simpa [hq] using hs
    rw [run_indexAt_slice _ _ _ _ _ _ _ (by kernel_rfl)]
    have he : Try.prog.elem 40 = 94 := by kernel_rfl
    have e : (⟨g, o, none⟩ : Addr).add (i * 2) = ⟨g, o + i * 2, none⟩ := Addr.add_mid _ _ _
    simp [he, sizeOf, typeInfo, hq, h1, hi, e]
theorem index68 (g n c i : Nat) (w : World) (hi : i < n) : (Instr.indexAt 84 (.slice (some ⟨g, 0, none⟩) n c) (.int .i64 i)).run Try.prog w = .ok (.pointer (some ⟨g, i * 2, none⟩)) w := by
  have hs : (Try.prog.info? 100).map (·.size) = some 2 := by kernel_rfl
  cases hq : Try.prog.info? 100 with
  | none => simp [hq] at hs
  | some j =>
    have h1 : j.size = 2 := by simpa [hq] using hs
    rw [run_indexAt_slice _ _ _ _ _ _ _ (by kernel_rfl)]
    have he : Try.prog.elem 84 = 100 := by kernel_rfl
    have e : (⟨g, 0, none⟩ : Addr).add (i * 2) = ⟨g, i * 2, none⟩ := by rw [Addr.add_mid, Nat.zero_add]
    simp [he, sizeOf, typeInfo, hq, h1, hi, e]
theorem field55 (g o : Nat) (w : World) : (Instr.fieldAt 94 (.pointer (some ⟨g, o, none⟩)) 0).run Try.prog w = .ok (.pointer (some ⟨g, o, none⟩)) w := by kernel_rfl
theorem load77 {w : World} {b o : Nat} {x y : Value} (hx : w.cell? ⟨b, o, none⟩ = some x) (hy : w.cell? ⟨b, o + 1, none⟩ = some y) : (Instr.loadAt 100 (.pointer (some ⟨b, o, none⟩))).run Try.prog w = .ok (.agg #[x, y]) w := by
  have hs : (Try.prog.info? 100).map (·.size) = some 2 := by kernel_rfl
  cases hq : Try.prog.info? 100 with
  | none => simp [hq] at hs
  | some j =>
    have h1 : j.size = 2 := by simpa [hq] using hs
    have e0 : (⟨b, o, none⟩ : Addr).add 0 = ⟨b, o, none⟩ := by rw [Addr.add_mid, Nat.add_zero]
    have e1 : (⟨b, o, none⟩ : Addr).add 1 = ⟨b, o + 1, none⟩ := Addr.add_mid _ _ _
    have hl := run_loadCells_list (P := Try.prog) w ⟨b, o, none⟩ [x, y] (fun i v hv => by
      match i with
      | 0 => rw [e0, hx]; simpa using hv
      | 1 => rw [e1, hy]; simpa using hv
      | i + 2 => simp at hv)
    simp only [List.length_cons, List.length_nil] at hl
    simp [Instr.loadAt, Instr.sureAddr, loadVar, isAgg, run_underlying Try.underlying100, sizeOf, typeInfo, hq, h1, hl]
theorem exec_alloc77 {a : Act} (w : World) {ty : Nat} {pos : String} {af : Array Edge} {gd : Option (Nat × Bool)} : (execOp a.eval ⟨some 7, .alloc 100, ty, pos, af, gd⟩).run Try.prog w = .ok (.value (.pointer (some ⟨w.heap.size, 0, none⟩))) (w.alloc (.cells #[.int .i64 0, .string ⟨#[]⟩] 100)) := by kernel_rfl
theorem exec_store77 {a : Act} {x y : Operand} {u v u' v' : Value} {w : World} {d : Option Tmp} {ty : Nat} {pos : String} {af : Array Edge} {gd : Option (Nat × Bool)} (hx : a.eval x = .pointer (some ⟨w.heap.size, 0, none⟩)) (hy : a.eval y = .agg #[u, v]) (h1 : u.oneCell' = true) (h2 : v.oneCell' = true) :
    (execOp a.eval ⟨d, .store 100 x y, ty, pos, af, gd⟩).run Try.prog (w.alloc (.cells #[u', v'] 100)) = .ok .skip (w.alloc (.cells #[u, v] 100)) := by
  have h := run_storeVar_new (P := Try.prog) w 100 #[u', v'] #[u, v] (by kernel_rfl) rfl (by simp [h1, h2])
  simp [execOp, hx, hy, Instr.storeAt, Instr.sureAddr, h]
/-- Nothing that was there has turned. -/
def S6 (w X : World) : Prop := Kept [] w X
/-- What a keep's last step reads. -/
def S12 (o g n c b at_ : Nat) (S : ByteArray) (X : World) : Prop := X.cell? ⟨o, 0, none⟩ = some (.slice (some ⟨g, 0, none⟩) n c) ∧ X.cell? ⟨b, 0, none⟩ = some (.int .i64 at_) ∧ X.cell? ⟨b, 1, none⟩ = some (.string S)
theorem kX (wr : World) (n : Nat) (O : Obj) : Kept [] wr (((wr.drewN n).alloc O).drew) :=
  (⟨rfl, rfl, rfl, Nat.le_refl _, fun k _ _ => rfl⟩ : Kept [] wr (wr.drewN n)).trans ((Kept.alloc [] _ _).trans (Kept.drew [] _) (fun _ _ h => h)) (fun _ _ h => h)
theorem s12_start {wr : World} {B o g c : Nat} {E : DS} (h : RDiskAt wr B o g c (.slice none 0 0) E) (n at_ : Nat) (S : ByteArray) : S12 o g E.n c wr.heap.size at_ S (((wr.drewN n).alloc (.cells #[.int .i64 at_, .string S] 100)).drew) := by
  have hb := heap_alloc_new (wr.drewN n) (.cells #[.int .i64 at_, .string S] 100)
  refine ⟨(h.keep (kX wr n _) (by simp)).cells.1, ?_, ?_⟩
  · show ((wr.drewN n).alloc _).cell? _ = _
    simp only [World.cell?]
    rw [show wr.heap.size = (wr.drewN n).heap.size from rfl, hb]; rfl
  · show ((wr.drewN n).alloc _).cell? _ = _
    simp only [World.cell?]
    rw [show wr.heap.size = (wr.drewN n).heap.size from rfl, hb]; rfl
theorem s12_stored {wr X : World} {B o g c n b at_ : Nat} {S : ByteArray} {E : DS} (hS : S12 o g n c b at_ S X) (h : RDiskAt wr B o g c (.slice none 0 0) E) (hb : b = wr.heap.size) (v : Value) : S12 o g n c b at_ S (X.setCell ⟨g, at_, none⟩ v) := by
  have hg := (h.L.lt g rfl).2
  have hk := Kept.setCell [g] X ⟨g, at_, none⟩ v (by simp)
  have h1 := h.ne1
  exact ⟨hk.cell hS.1 (by simpa using fun e => h1 e.symm), hk.cell hS.2.1 (by simp; omega), hk.cell hS.2.2 (by simp; omega)⟩
theorem rkeep_one {wr X : World} {B o g c : Nat} {E : DS} (h : RDiskAt wr B o g c (.slice none 0 0) E) (hX : Kept [] wr X) (at_ : Nat) (hat : at_ < E.n) (S T : ByteArray) (bytes : List Int) (m : Nat) (hl : bytes.length = 512) (hm : m ≤ 512)
    (hS : S = strOf bytes) (hT : T = strOf (sec E.secs at_)) : RDiskAt (X.setCell ⟨g, at_, none⟩ (.string (S.extract 0 m ++ T.extract m T.size))) B o g c (.slice none 0 0) { E with secs := layS E.secs at_ (bytes.take m) } := by
  have h1 := (h.keep hX (by simp)).setSec at_ (bytes.take m) hat (by simp; omega)
  have h2 : (bytes.take m).length = m := by simp; omega
  rw [h2] at h1
  rw [hS, hT, strOf_take, strOf_drop, ← strOf_append]
  exact h1

theorem rcrash_start {w w1 : World} {B r gl lc : Nat} {wv : Value} {D : DS} (h : RDiskAt w B r gl lc wv D) {g c : Nat} (hg : w.heap.size ≤ g) (ho : w1.ownsRow w.heap.size 9 1 (.slice (some ⟨g, 0, none⟩) D.n c) D.n (strs D.n D.secs)) (hb : Below w.heap.size w w1) :
    RDiskAt (w1.alloc (.cells #[.slice (some ⟨g, 0, none⟩) D.n c, .slice none 0 0, .int .i64 0, .int .i64 (-1), .bool false] 86)) w.heap.size w1.heap.size g c (.slice none 0 0) (D.crash []) ∧
    Below w.heap.size w (w1.alloc (.cells #[.slice (some ⟨g, 0, none⟩) D.n c, .slice none 0 0, .int .i64 0, .int .i64 (-1), .bool false] 86)) := by
  have hlt := (ho.lt g rfl).2
  refine ⟨{ blk := heap_alloc_new _ _, L := ho.alloc _, W := World.ownsRow_nil _ _ _ _, ne1 := by omega, ne2 := by simp [Value.ownBlock], ne3 := by simp [Value.ownBlock], hB := hb.size, good := ?_ }, hb.alloc hb.size _⟩
  exact ⟨h.good.n1, h.good.n2, h.good.len, by simp [DS.crash], by simp [DS.crash], by simp [DS.crash], by simp [DS.crash], by simp [DS.crash], by simp [DS.crash]⟩

set_option maxRecDepth 100000 in
set_option maxHeartbeats 2000000 in
theorem rcrash_none {w : World} {B r gl lc : Nat} {wv : Value} {D : DS} (h : RDiskAt w B r gl lc wv D) (ka : Option Addr) (kc : Nat) :
    Calls Try.prog 20 #[.pointer (some ⟨r, 0, none⟩), .slice ka 0 kc] w (RMade w (D.crash [])) := by
  obtain ⟨i, hi, hz0, hz1, hz2⟩ := info_parts Try.info9
  have hn1 := h.good.n1
  have hn2 := h.good.n2
  have hown0 : (w.alloc (.cells #[] 9)).ownsRow w.heap.size 9 1 (.slice (some ⟨w.heap.size, 0, none⟩) 0 0) 0 [] := World.ownsRow_made w #[] 0 (Nat.le_refl _) (by unfold maxLen; omega) (by simp)
  have c0 : (w.alloc (.cells #[] 9)).cell? ⟨r, 0, none⟩ = some (.slice (some ⟨gl, 0, none⟩) D.n lc) := (h.keep (Kept.alloc [] w _) (by simp)).cells.1
  have HO := hid hown0
  have HC := hid (cells_of_owned (h.L.alloc (.cells #[] 9)))
  have HLn := hid h.L.1
  have HH := hid h
  clear hown0 h
  go_enter Try.func20, Try.ntmps20
  go_wp2_with (at_builtin; refine wpList_append_own _ rfl (.tmp 9) (.tmp 13) 56 rfl w.heap.size 9 i _ 1 16 Try.underlying56 hi hz0 hz1 hz2 rfl (by omega) (.slice (some ⟨w.heap.size, 0, none⟩) 0 0) 0 [] rfl HO.out ⟨gl, 0, none⟩ D.n lc (strs D.n D.secs) rfl HLn.out HC.out (strs_one _ _) (by unfold maxLen; omega) (by omega) (by simp) ?_; intro v' w1 ho hg hn; rw [Nat.zero_add, List.nil_append] at ho; obtain ⟨g, c, rfl, hgB⟩ := ownsRow_some ho hn1; obtain ⟨hd1, hb1⟩ := rcrash_start HH.out hgB ho (((Below.refl _ _).alloc (Nat.le_refl _) _).grown hg (by simp) (fun k hk => by simp only [Value.ownBlock, Option.some.injEq] at hk; omega)); have HD := hid hd1; have HB := hid hb1; clear hd1 hb1 ho hg hn)
  go_loop [6] (fun q => q = .int .i64 0) (fun q => 0)
  case atStart => rfl
  case round =>
    subst hrel
    go_wp2
    go_ret
    exact ⟨_, _, rfl, ⟨_, _, _, HD.out, rfl⟩, HB.out⟩

set_option maxRecDepth 100000 in
set_option maxHeartbeats 4000000 in
theorem rcrash_some {w : World} {B r gl lc : Nat} {wv : Value} {D : DS} (h : RDiskAt w B r gl lc wv D) (kb ko kc : Nat) (ks : List (Int × Int)) (hm : ks.length ≤ maxLen) (hks : KeepsAt w kb ko ks) :
    Calls Try.prog 20 #[.pointer (some ⟨r, 0, none⟩), .slice (some ⟨kb, ko, none⟩) ks.length kc] w (RMade w (D.crash ks)) := by
  unfold maxLen at hm
  obtain ⟨i, hi, hz0, hz1, hz2⟩ := info_parts Try.info9
  obtain ⟨a, wc, rfl⟩ := h.wvSlice
  have hn1 := h.good.n1
  have hn2 := h.good.n2
  have hwl := h.good.wl
  have hown0 : (w.alloc (.cells #[] 9)).ownsRow w.heap.size 9 1 (.slice (some ⟨w.heap.size, 0, none⟩) 0 0) 0 [] := World.ownsRow_made w #[] 0 (Nat.le_refl _) (by unfold maxLen; omega) (by simp)
  have c0 : (w.alloc (.cells #[] 9)).cell? ⟨r, 0, none⟩ = some (.slice (some ⟨gl, 0, none⟩) D.n lc) := (h.keep (Kept.alloc [] w _) (by simp)).cells.1
  have c1 := h.cells.2.1
  have HO := hid hown0
  have HC := hid (cells_of_owned (h.L.alloc (.cells #[] 9)))
  have HLn := hid h.L.1
  have HH := hid h
  have HK := hid hks
  clear hown0 h hks
  go_enter Try.func20, Try.ntmps20
  go_wp2_with (at_builtin; refine wpList_append_own _ rfl (.tmp 9) (.tmp 13) 56 rfl w.heap.size 9 i _ 1 16 Try.underlying56 hi hz0 hz1 hz2 rfl (by omega) (.slice (some ⟨w.heap.size, 0, none⟩) 0 0) 0 [] rfl HO.out ⟨gl, 0, none⟩ D.n lc (strs D.n D.secs) rfl HLn.out HC.out (strs_one _ _) (by unfold maxLen; omega) (by omega) (by simp) ?_; intro v' w1 ho hg hn; rw [Nat.zero_add, List.nil_append] at ho; obtain ⟨g, c, rfl, hgB⟩ := ownsRow_some ho hn1; obtain ⟨hd1, hb1⟩ := rcrash_start HH.out hgB ho (((Below.refl _ _).alloc (Nat.le_refl _) _).grown hg (by simp) (fun k hk => by simp only [Value.ownBlock, Option.some.injEq] at hk; omega)); have HD := hid hd1; have HB := hid hb1; clear hd1 hb1 ho hg hn)
  clear hi hz0 hz1 hz2 c0
  go_loopw [6] (fun q wr => ∃ k : Nat, k ≤ ks.length ∧ q = .int .i64 k ∧ RDiskAt wr w.heap.size w1.heap.size g c (.slice none 0 0) (D.crash (ks.take k)) ∧ Below w.heap.size w wr) (fun q _ => ks.length - (intOf q).toNat)
  case atStart => exact ⟨0, by omega, rfl, HD.out, HB.out⟩
  case round =>
    obtain ⟨k, hkl, rfl, hdr, hbr⟩ := hrel
    by_cases hlt : k < ks.length
    · obtain ⟨k1, k2⟩ := HK.out k hlt
      have m1 : wr.cell? ⟨kb, ko + k * 2, none⟩ = some (.int .i64 (ks[k]).1) := cell_later hbr k1
      have m2 : wr.cell? ⟨kb, ko + k * 2 + 1, none⟩ = some (.int .i64 (ks[k]).2) := cell_later hbr k2
      obtain ⟨W, hW⟩ : ∃ W, W = (ks[k]).1 := ⟨_, rfl⟩
      obtain ⟨Y, hY⟩ : ∃ Y, Y = (ks[k]).2 := ⟨_, rfl⟩
      rw [← hW] at m1
      rw [← hY] at m2
      have HWe := hid hW
      have HYe := hid hY
      have HR := hid hdr
      have f1 : wr.cell? ⟨r, 1, none⟩ = some (.slice a D.waits.length wc) := cell_later hbr c1
      have hbrH := hid hbr
      clear hdr k1 k2 HD HB hW hY
      by_cases h0 : W < 0
      · have hd0 : decide (W < 0) = true := by simpa using h0
        have hsk : D.crash (ks.take (k + 1)) = D.crash (ks.take k) := crash_skip D ks k hlt (by rw [← HWe.out]; omega)
        have HSk := hid hsk
        clear hsk
        go_wp2
        go_quiet (fail)
        go_wp2
        go_roundw
        case rel =>
          refine ⟨k + 1, by omega, by go_num, ?_, ?_⟩
          · rw [HSk.out]; exact HR.out.keep ⟨rfl, rfl, rfl, Nat.le_refl _, fun k _ _ => rfl⟩ (by simp) (S := [])
          · exact (hbrH.out.trans (below_drewN' _ _ _))
        case measure => simp [intOf]; omega
      · have hd0 : decide (W < 0) = false := by simpa using h0
        obtain ⟨q, rfl⟩ : ∃ q : Nat, W = q := ⟨W.toNat, by omega⟩
        by_cases h1 : q < D.waits.length
        · have hd1 : decide ((D.waits.length : Int) ≤ (q : Int)) = false := by simp; omega
          obtain ⟨gw, wc', e, hc1, hc2⟩ := rwait_cells HH.out q h1
          simp only [Value.slice.injEq, true_and] at e
          obtain ⟨rfl, rfl⟩ := e
          obtain ⟨at_, hat⟩ : ∃ m : Nat, (D.waits[q]).1 = m := ⟨(D.waits[q]).1.toNat, by have := (HH.out.good.w _ (List.getElem_mem h1)).1; omega⟩
          have hatn : at_ < D.n := by have := (HH.out.good.w _ (List.getElem_mem h1)).2.1; omega
          have hx : (D.waits[q]).2.length = 512 := (HH.out.good.w _ (List.getElem_mem h1)).2.2
          rw [hat] at hc1
          have p1 : wr.cell? ⟨gw, q * 2, none⟩ = some (.int .i64 at_) := cell_later hbr hc1
          have p2 : wr.cell? ⟨gw, q * 2 + 1, none⟩ = some (.string (strOf (D.waits[q]).2)) := cell_later hbr hc2
          obtain ⟨S, hS⟩ : ∃ S, S = strOf (D.waits[q]).2 := ⟨_, rfl⟩
          rw [← hS] at p2
          have HSe := hid hS
          have HA := hid hat
          have HX := hid hx
          have m3 : ∀ (n : Nat) (O : Obj), ((wr.drewN n).alloc O).cell? ⟨kb, ko + k * 2 + 1, none⟩ = some (.int .i64 Y) := fun n O => by
            have := (kX wr n O).cell m2 (by simp)
            exact this
          obtain ⟨T, hT⟩ : ∃ T, T = strOf (sec (D.crash (ks.take k)).secs at_) := ⟨_, rfl⟩
          have HT := hid hT
          have HTl := hid (sec_length _ at_ D.n HR.out.good.len hatn)
          have HT12 : Hid (∀ (n : Nat) (O : Obj), ((wr.drewN n).alloc O).drew.cell? ⟨g, at_, none⟩ = some (.string T)) := hid (fun n O => by rw [hT]; exact rsec_cell (HR.out.keep (kX wr n O) (by simp)) at_ hatn)
          have HZ12 : Hid (∀ (n : Nat) (O : Obj), ((wr.drewN n).alloc O).drew.frozen? ⟨g, at_, none⟩ = false) := hid (fun n O => (HR.out.keep (kX wr n O) (by simp)).L.frozenAt at_)
          clear hat hx hc1 hc2 hS hbr hT m2
          rcases (by omega : Y < 0 ∨ (0 ≤ Y ∧ Y ≤ 512) ∨ 512 < Y) with hy | hy | hy
          · skip
            go_wp2
            go_quiet (fail)
            go_wp2
            refine wp_region_held_drew (S := S6 wr) (by kernel_rfl) ⟨rfl, rfl, rfl, Nat.le_refl _, fun k _ _ => rfl⟩ ?_
            intro hS
            refine anyH_take 0 ⟨some 42, .move (.tmp 0), _, _, _, none⟩ (.pointer (some ⟨r, 0, none⟩)) rfl rfl (by kernel_rfl) (by kernel_rfl) (by kernel_rfl) (fun _ _ _ h => h) (fun _ _ => rfl) hS ?_
            simp only [Act.put, List.setIfInBounds_toArray, List.set_cons_zero, List.set_cons_succ]
            refine anyH_take 1 ⟨some 43, .nilCheck (.tmp 42), _, _, _, none⟩ (.pointer (some ⟨r, 0, none⟩)) rfl rfl (by kernel_rfl) (by kernel_rfl) (by kernel_rfl) (fun _ _ _ h => h) (fun _ _ => rfl) hS ?_
            simp only [Act.put, List.setIfInBounds_toArray, List.set_cons_zero, List.set_cons_succ]
            refine anyH_take 2 ⟨some 44, .fieldAddr 86 (.tmp 43) 1, _, _, _, none⟩ (.pointer (some ⟨r, 1, none⟩)) rfl rfl (by kernel_rfl) (by kernel_rfl) (by kernel_rfl) (fun _ _ _ h => h) (fun w _ => exec_v (fieldk70 r 1 w (by omega))) hS ?_
            simp only [Act.put, List.setIfInBounds_toArray, List.set_cons_zero, List.set_cons_succ]
            refine anyH_take 3 ⟨some 45, .load 84 (.tmp 44), _, _, _, none⟩ (.slice (some ⟨gw, 0, none⟩) D.waits.length wc) rfl rfl (by kernel_rfl) (by kernel_rfl) (by kernel_rfl) (fun _ _ _ h => h) (fun X hX => exec_v (loadk68 (Kept.cell hX f1 (by simp)))) hS ?_
            simp only [Act.put, List.setIfInBounds_toArray, List.set_cons_zero, List.set_cons_succ]
            refine anyH_take 4 ⟨some 46, .move (.tmp 1), _, _, _, none⟩ (.slice (some ⟨kb, ko, none⟩) ks.length kc) rfl rfl (by kernel_rfl) (by kernel_rfl) (by kernel_rfl) (fun _ _ _ h => h) (fun _ _ => rfl) hS ?_
            simp only [Act.put, List.setIfInBounds_toArray, List.set_cons_zero, List.set_cons_succ]
            refine anyH_take 5 ⟨some 47, .move (.tmp 6), _, _, _, none⟩ (.int .i64 k) rfl rfl (by kernel_rfl) (by kernel_rfl) (by kernel_rfl) (fun _ _ _ h => h) (fun _ _ => rfl) hS ?_
            simp only [Act.put, List.setIfInBounds_toArray, List.set_cons_zero, List.set_cons_succ]
            refine anyH_take 6 ⟨some 48, .indexAddr 40 (.tmp 46) (.tmp 47), _, _, _, none⟩ (.pointer (some ⟨kb, ko + k * 2, none⟩)) rfl rfl (by kernel_rfl) (by kernel_rfl) (by kernel_rfl) (fun _ _ _ h => h) (fun X _ => exec_v (index33 kb ko _ _ k X hlt)) hS ?_
            simp only [Act.put, List.setIfInBounds_toArray, List.set_cons_zero, List.set_cons_succ]
            refine anyH_take 7 ⟨some 49, .fieldAddr 94 (.tmp 48) 0, _, _, _, none⟩ (.pointer (some ⟨kb, ko + k * 2, none⟩)) rfl rfl (by kernel_rfl) (by kernel_rfl) (by kernel_rfl) (fun _ _ _ h => h) (fun X _ => exec_v (field55 kb _ X)) hS ?_
            simp only [Act.put, List.setIfInBounds_toArray, List.set_cons_zero, List.set_cons_succ]
            refine anyH_take 8 ⟨some 50, .load 3 (.tmp 49), _, _, _, none⟩ (.int .i64 q) rfl rfl (by kernel_rfl) (by kernel_rfl) (by kernel_rfl) (fun _ _ _ h => h) (fun X hX => exec_v (loadk3 (Kept.cell hX m1 (by simp)))) hS ?_
            simp only [Act.put, List.setIfInBounds_toArray, List.set_cons_zero, List.set_cons_succ]
            refine anyH_take 9 ⟨some 51, .indexAddr 84 (.tmp 45) (.tmp 50), _, _, _, none⟩ (.pointer (some ⟨gw, q * 2, none⟩)) rfl rfl (by kernel_rfl) (by kernel_rfl) (by kernel_rfl) (fun _ _ _ h => h) (fun X _ => exec_v (index68 gw _ _ q X h1)) hS ?_
            simp only [Act.put, List.setIfInBounds_toArray, List.set_cons_zero, List.set_cons_succ]
            refine anyH_take 10 ⟨some 52, .load 100 (.tmp 51), _, _, _, none⟩ (.agg #[.int .i64 at_, .string S]) rfl rfl (by kernel_rfl) (by kernel_rfl) (by kernel_rfl) (fun _ _ _ h => h) (fun X hX => exec_v (load77 (Kept.cell hX p1 (by simp)) (Kept.cell hX p2 (by simp)))) hS ?_
            simp only [Act.put, List.setIfInBounds_toArray, List.set_cons_zero, List.set_cons_succ]
            refine anyH_one 11 ⟨some 7, .alloc 100, _, _, _, none⟩ _ _ (by kernel_rfl) rfl rfl (exec_alloc77 _) (Kept.trans hS (Kept.alloc [] _ _) (fun _ _ h => h)) ?_
            simp only [Act.put, List.setIfInBounds_toArray, List.set_cons_zero, List.set_cons_succ]
            refine anyH_oneSkip 12 ⟨none, .store 100 (.tmp 7) (.tmp 52), _, _, _, none⟩ _ (by kernel_rfl) rfl rfl (exec_store77 rfl rfl rfl rfl) (Kept.trans hS (Kept.alloc [] _ _) (fun _ _ h => h)) ?_
            refine wpAnyH_done (by kernel_rfl) ?_ _
            clear hS
            go_wp2
            refine wp_region_held_drew (S := S12 w1.heap.size g D.n c wr.heap.size at_ S) (by kernel_rfl) (s12_start HR.out _ _ _) ?_
            intro hS
            refine anyH_take 0 ⟨some 62, .move (.tmp 5), _, _, _, none⟩ (.pointer (some ⟨w1.heap.size, 0, none⟩)) rfl rfl (by kernel_rfl) (by kernel_rfl) (by kernel_rfl) (fun _ _ _ h => h) (fun _ _ => rfl) hS ?_
            simp only [Act.put, List.setIfInBounds_toArray, List.set_cons_zero, List.set_cons_succ]
            refine anyH_take 1 ⟨some 63, .nilCheck (.tmp 62), _, _, _, none⟩ (.pointer (some ⟨w1.heap.size, 0, none⟩)) rfl rfl (by kernel_rfl) (by kernel_rfl) (by kernel_rfl) (fun _ _ _ h => h) (fun _ _ => rfl) hS ?_
            simp only [Act.put, List.setIfInBounds_toArray, List.set_cons_zero, List.set_cons_succ]
            refine anyH_take 2 ⟨some 64, .fieldAddr 86 (.tmp 63) 0, _, _, _, none⟩ (.pointer (some ⟨w1.heap.size, 0, none⟩)) rfl rfl (by kernel_rfl) (by kernel_rfl) (by kernel_rfl) (fun _ _ _ h => h) (fun w _ => exec_v (fieldk70 _ 0 w (by omega))) hS ?_
            simp only [Act.put, List.setIfInBounds_toArray, List.set_cons_zero, List.set_cons_succ]
            refine anyH_take 3 ⟨some 65, .load 56 (.tmp 64), _, _, _, none⟩ (.slice (some ⟨g, 0, none⟩) D.n c) rfl rfl (by kernel_rfl) (by kernel_rfl) (by kernel_rfl) (fun _ _ _ h => h) (fun X hX => exec_v (loadk67 hX.1)) hS ?_
            simp only [Act.put, List.setIfInBounds_toArray, List.set_cons_zero, List.set_cons_succ]
            refine anyH_take 4 ⟨some 66, .fieldAddr 100 (.tmp 7) 0, _, _, _, none⟩ (.pointer (some ⟨wr.heap.size, 0, none⟩)) rfl rfl (by kernel_rfl) (by kernel_rfl) (by kernel_rfl) (fun _ _ _ h => h) (fun w _ => exec_v (fieldk77 _ 0 w (by omega))) hS ?_
            simp only [Act.put, List.setIfInBounds_toArray, List.set_cons_zero, List.set_cons_succ]
            refine anyH_take 5 ⟨some 67, .load 3 (.tmp 66), _, _, _, none⟩ (.int .i64 at_) rfl rfl (by kernel_rfl) (by kernel_rfl) (by kernel_rfl) (fun _ _ _ h => h) (fun X hX => exec_v (loadk3 hX.2.1)) hS ?_
            simp only [Act.put, List.setIfInBounds_toArray, List.set_cons_zero, List.set_cons_succ]
            refine anyH_take 6 ⟨some 68, .fieldAddr 100 (.tmp 7) 1, _, _, _, none⟩ (.pointer (some ⟨wr.heap.size, 1, none⟩)) rfl rfl (by kernel_rfl) (by kernel_rfl) (by kernel_rfl) (fun _ _ _ h => h) (fun w _ => exec_v (fieldk77 _ 1 w (by omega))) hS ?_
            simp only [Act.put, List.setIfInBounds_toArray, List.set_cons_zero, List.set_cons_succ]
            refine anyH_take 7 ⟨some 69, .load 9 (.tmp 68), _, _, _, none⟩ (.string S) rfl rfl (by kernel_rfl) (by kernel_rfl) (by kernel_rfl) (fun _ _ _ h => h) (fun X hX => exec_v (loadk9 hX.2.2)) hS ?_
            simp only [Act.put, List.setIfInBounds_toArray, List.set_cons_zero, List.set_cons_succ]
            refine anyH_take 8 ⟨some 70, .move (.tmp 8), _, _, _, none⟩ (.int .i64 (0 : Nat)) rfl rfl (by kernel_rfl) (by kernel_rfl) (by kernel_rfl) (fun _ _ _ h => h) (fun _ _ => rfl) hS ?_
            simp only [Act.put, List.setIfInBounds_toArray, List.set_cons_zero, List.set_cons_succ]
            refine anyH_take 9 ⟨some 71, .slice 9 (.tmp 69) none (some (.tmp 70)) none, _, _, _, none⟩ (.string (S.extract 0 0)) rfl rfl (by kernel_rfl) (by kernel_rfl) (by kernel_rfl) (fun _ _ _ h => h) (fun _ _ => exec_strHead (m := 0) rfl rfl (by rw [HSe.out, strOf_size, HX.out]; omega)) hS ?_
            simp only [Act.put, List.setIfInBounds_toArray, List.set_cons_zero, List.set_cons_succ]
            refine anyH_take 10 ⟨some 72, .move (.tmp 5), _, _, _, none⟩ (.pointer (some ⟨w1.heap.size, 0, none⟩)) rfl rfl (by kernel_rfl) (by kernel_rfl) (by kernel_rfl) (fun _ _ _ h => h) (fun _ _ => rfl) hS ?_
            simp only [Act.put, List.setIfInBounds_toArray, List.set_cons_zero, List.set_cons_succ]
            refine anyH_take 11 ⟨some 73, .nilCheck (.tmp 72), _, _, _, none⟩ (.pointer (some ⟨w1.heap.size, 0, none⟩)) rfl rfl (by kernel_rfl) (by kernel_rfl) (by kernel_rfl) (fun _ _ _ h => h) (fun _ _ => rfl) hS ?_
            simp only [Act.put, List.setIfInBounds_toArray, List.set_cons_zero, List.set_cons_succ]
            refine anyH_take 12 ⟨some 74, .fieldAddr 86 (.tmp 73) 0, _, _, _, none⟩ (.pointer (some ⟨w1.heap.size, 0, none⟩)) rfl rfl (by kernel_rfl) (by kernel_rfl) (by kernel_rfl) (fun _ _ _ h => h) (fun w _ => exec_v (fieldk70 _ 0 w (by omega))) hS ?_
            simp only [Act.put, List.setIfInBounds_toArray, List.set_cons_zero, List.set_cons_succ]
            refine anyH_take 13 ⟨some 75, .load 56 (.tmp 74), _, _, _, none⟩ (.slice (some ⟨g, 0, none⟩) D.n c) rfl rfl (by kernel_rfl) (by kernel_rfl) (by kernel_rfl) (fun _ _ _ h => h) (fun X hX => exec_v (loadk67 hX.1)) hS ?_
            simp only [Act.put, List.setIfInBounds_toArray, List.set_cons_zero, List.set_cons_succ]
            refine anyH_take 14 ⟨some 76, .fieldAddr 100 (.tmp 7) 0, _, _, _, none⟩ (.pointer (some ⟨wr.heap.size, 0, none⟩)) rfl rfl (by kernel_rfl) (by kernel_rfl) (by kernel_rfl) (fun _ _ _ h => h) (fun w _ => exec_v (fieldk77 _ 0 w (by omega))) hS ?_
            simp only [Act.put, List.setIfInBounds_toArray, List.set_cons_zero, List.set_cons_succ]
            refine anyH_take 15 ⟨some 77, .load 3 (.tmp 76), _, _, _, none⟩ (.int .i64 at_) rfl rfl (by kernel_rfl) (by kernel_rfl) (by kernel_rfl) (fun _ _ _ h => h) (fun X hX => exec_v (loadk3 hX.2.1)) hS ?_
            simp only [Act.put, List.setIfInBounds_toArray, List.set_cons_zero, List.set_cons_succ]
            refine anyH_take 16 ⟨some 78, .indexAddr 56 (.tmp 75) (.tmp 77), _, _, _, none⟩ (.pointer (some ⟨g, at_, none⟩)) rfl rfl (by kernel_rfl) (by kernel_rfl) (by kernel_rfl) (fun _ _ _ h => h) (fun X _ => exec_v (index67 g _ _ at_ X hatn)) hS ?_
            simp only [Act.put, List.setIfInBounds_toArray, List.set_cons_zero, List.set_cons_succ]
            refine anyH_take 18 ⟨some 80, .move (.tmp 8), _, _, _, none⟩ (.int .i64 (0 : Nat)) rfl rfl (by kernel_rfl) (by kernel_rfl) (by kernel_rfl) (fun _ _ _ h => h) (fun _ _ => rfl) hS ?_
            simp only [Act.put, List.setIfInBounds_toArray, List.set_cons_zero, List.set_cons_succ]
            refine anyH_one 17 ⟨some 79, .load 9 (.tmp 78), _, _, _, none⟩ (.string T) _ (by kernel_rfl) rfl rfl (exec_v (loadk9 (HT12.out _ _))) hS ?_
            simp only [Act.put, List.setIfInBounds_toArray, List.set_cons_zero, List.set_cons_succ]
            refine anyH_one 19 ⟨some 81, .slice 9 (.tmp 79) (some (.tmp 80)) none none, _, _, _, none⟩ (.string (T.extract 0 T.size)) _ (by kernel_rfl) rfl rfl (exec_strTail (m := 0) rfl rfl (by rw [HT.out, strOf_size, HTl.out]; omega)) hS ?_
            simp only [Act.put, List.setIfInBounds_toArray, List.set_cons_zero, List.set_cons_succ]
            refine anyH_one 20 ⟨some 82, .binOp .add 9 (.tmp 71) (.tmp 81) 9, _, _, _, none⟩ (.string (S.extract 0 0 ++ T.extract 0 T.size)) _ (by kernel_rfl) rfl rfl (exec_addStr rfl rfl (by simp only [ByteArray.size_extract, HSe.out, HT.out, strOf_size, HX.out, HTl.out]; omega)) hS ?_
            simp only [Act.put, List.setIfInBounds_toArray, List.set_cons_zero, List.set_cons_succ]
            refine anyH_one 21 ⟨some 83, .indexAddr 56 (.tmp 65) (.tmp 67), _, _, _, none⟩ (.pointer (some ⟨g, at_, none⟩)) _ (by kernel_rfl) rfl rfl (exec_v (index67 g _ _ at_ _ hatn)) hS ?_
            simp only [Act.put, List.setIfInBounds_toArray, List.set_cons_zero, List.set_cons_succ]
            refine anyH_oneSkip 22 ⟨none, .store 9 (.tmp 83) (.tmp 82), _, _, _, none⟩ _ (by kernel_rfl) rfl rfl (exec_store9 rfl rfl (HT12.out _ _) (HZ12.out _ _)) (s12_stored hS HR.out rfl _) ?_
            refine wpAnyH_done (by kernel_rfl) ?_ _
            clear hS
            go_wp2
            go_roundw
            case rel =>
              refine ⟨k + 1, by omega, by go_num, ?_, ?_⟩
              · rw [crash_snoc D ks k hlt, keep1_in D.waits _ _ q h1 at_ (0) HWe.out.symm HA.out (by rw [← HYe.out]; unfold keepN; omega)]
                have h9 := rkeep_one HR.out (kX wr (nq + 1) (.cells #[.int .i64 at_, .string S] 100)) at_ hatn S T (D.waits[q]).2 (0) HX.out (by omega) HSe.out HT.out
                rw [show S.extract 0 0 ++ T.extract 0 T.size = T by simp] at h9; exact h9
              · exact ((((hbrH.out.trans (below_drewN' _ _ _))).alloc hbrH.out.size _).drew).setCell (HR.out.L.lt g rfl).1 _
            case measure => simp [intOf]; omega
          · obtain ⟨y, rfl⟩ : ∃ y : Nat, Y = y := ⟨Y.toNat, by omega⟩
            have hy1 : (y : Int) ≤ 512 := hy.2
            clear hy
            go_wp2
            go_quiet (fail)
            go_wp2
            refine wp_region_held_drew (S := S6 wr) (by kernel_rfl) ⟨rfl, rfl, rfl, Nat.le_refl _, fun k _ _ => rfl⟩ ?_
            intro hS
            refine anyH_take 0 ⟨some 42, .move (.tmp 0), _, _, _, none⟩ (.pointer (some ⟨r, 0, none⟩)) rfl rfl (by kernel_rfl) (by kernel_rfl) (by kernel_rfl) (fun _ _ _ h => h) (fun _ _ => rfl) hS ?_
            simp only [Act.put, List.setIfInBounds_toArray, List.set_cons_zero, List.set_cons_succ]
            refine anyH_take 1 ⟨some 43, .nilCheck (.tmp 42), _, _, _, none⟩ (.pointer (some ⟨r, 0, none⟩)) rfl rfl (by kernel_rfl) (by kernel_rfl) (by kernel_rfl) (fun _ _ _ h => h) (fun _ _ => rfl) hS ?_
            simp only [Act.put, List.setIfInBounds_toArray, List.set_cons_zero, List.set_cons_succ]
            refine anyH_take 2 ⟨some 44, .fieldAddr 86 (.tmp 43) 1, _, _, _, none⟩ (.pointer (some ⟨r, 1, none⟩)) rfl rfl (by kernel_rfl) (by kernel_rfl) (by kernel_rfl) (fun _ _ _ h => h) (fun w _ => exec_v (fieldk70 r 1 w (by omega))) hS ?_
            simp only [Act.put, List.setIfInBounds_toArray, List.set_cons_zero, List.set_cons_succ]
            refine anyH_take 3 ⟨some 45, .load 84 (.tmp 44), _, _, _, none⟩ (.slice (some ⟨gw, 0, none⟩) D.waits.length wc) rfl rfl (by kernel_rfl) (by kernel_rfl) (by kernel_rfl) (fun _ _ _ h => h) (fun X hX => exec_v (loadk68 (Kept.cell hX f1 (by simp)))) hS ?_
            simp only [Act.put, List.setIfInBounds_toArray, List.set_cons_zero, List.set_cons_succ]
            refine anyH_take 4 ⟨some 46, .move (.tmp 1), _, _, _, none⟩ (.slice (some ⟨kb, ko, none⟩) ks.length kc) rfl rfl (by kernel_rfl) (by kernel_rfl) (by kernel_rfl) (fun _ _ _ h => h) (fun _ _ => rfl) hS ?_
            simp only [Act.put, List.setIfInBounds_toArray, List.set_cons_zero, List.set_cons_succ]
            refine anyH_take 5 ⟨some 47, .move (.tmp 6), _, _, _, none⟩ (.int .i64 k) rfl rfl (by kernel_rfl) (by kernel_rfl) (by kernel_rfl) (fun _ _ _ h => h) (fun _ _ => rfl) hS ?_
            simp only [Act.put, List.setIfInBounds_toArray, List.set_cons_zero, List.set_cons_succ]
            refine anyH_take 6 ⟨some 48, .indexAddr 40 (.tmp 46) (.tmp 47), _, _, _, none⟩ (.pointer (some ⟨kb, ko + k * 2, none⟩)) rfl rfl (by kernel_rfl) (by kernel_rfl) (by kernel_rfl) (fun _ _ _ h => h) (fun X _ => exec_v (index33 kb ko _ _ k X hlt)) hS ?_
            simp only [Act.put, List.setIfInBounds_toArray, List.set_cons_zero, List.set_cons_succ]
            refine anyH_take 7 ⟨some 49, .fieldAddr 94 (.tmp 48) 0, _, _, _, none⟩ (.pointer (some ⟨kb, ko + k * 2, none⟩)) rfl rfl (by kernel_rfl) (by kernel_rfl) (by kernel_rfl) (fun _ _ _ h => h) (fun X _ => exec_v (field55 kb _ X)) hS ?_
            simp only [Act.put, List.setIfInBounds_toArray, List.set_cons_zero, List.set_cons_succ]
            refine anyH_take 8 ⟨some 50, .load 3 (.tmp 49), _, _, _, none⟩ (.int .i64 q) rfl rfl (by kernel_rfl) (by kernel_rfl) (by kernel_rfl) (fun _ _ _ h => h) (fun X hX => exec_v (loadk3 (Kept.cell hX m1 (by simp)))) hS ?_
            simp only [Act.put, List.setIfInBounds_toArray, List.set_cons_zero, List.set_cons_succ]
            refine anyH_take 9 ⟨some 51, .indexAddr 84 (.tmp 45) (.tmp 50), _, _, _, none⟩ (.pointer (some ⟨gw, q * 2, none⟩)) rfl rfl (by kernel_rfl) (by kernel_rfl) (by kernel_rfl) (fun _ _ _ h => h) (fun X _ => exec_v (index68 gw _ _ q X h1)) hS ?_
            simp only [Act.put, List.setIfInBounds_toArray, List.set_cons_zero, List.set_cons_succ]
            refine anyH_take 10 ⟨some 52, .load 100 (.tmp 51), _, _, _, none⟩ (.agg #[.int .i64 at_, .string S]) rfl rfl (by kernel_rfl) (by kernel_rfl) (by kernel_rfl) (fun _ _ _ h => h) (fun X hX => exec_v (load77 (Kept.cell hX p1 (by simp)) (Kept.cell hX p2 (by simp)))) hS ?_
            simp only [Act.put, List.setIfInBounds_toArray, List.set_cons_zero, List.set_cons_succ]
            refine anyH_one 11 ⟨some 7, .alloc 100, _, _, _, none⟩ _ _ (by kernel_rfl) rfl rfl (exec_alloc77 _) (Kept.trans hS (Kept.alloc [] _ _) (fun _ _ h => h)) ?_
            simp only [Act.put, List.setIfInBounds_toArray, List.set_cons_zero, List.set_cons_succ]
            refine anyH_oneSkip 12 ⟨none, .store 100 (.tmp 7) (.tmp 52), _, _, _, none⟩ _ (by kernel_rfl) rfl rfl (exec_store77 rfl rfl rfl rfl) (Kept.trans hS (Kept.alloc [] _ _) (fun _ _ h => h)) ?_
            refine wpAnyH_done (by kernel_rfl) ?_ _
            clear hS
            go_wp2
            refine wp_region_held_drew (S := S12 w1.heap.size g D.n c wr.heap.size at_ S) (by kernel_rfl) (s12_start HR.out _ _ _) ?_
            intro hS
            refine anyH_take 0 ⟨some 62, .move (.tmp 5), _, _, _, none⟩ (.pointer (some ⟨w1.heap.size, 0, none⟩)) rfl rfl (by kernel_rfl) (by kernel_rfl) (by kernel_rfl) (fun _ _ _ h => h) (fun _ _ => rfl) hS ?_
            simp only [Act.put, List.setIfInBounds_toArray, List.set_cons_zero, List.set_cons_succ]
            refine anyH_take 1 ⟨some 63, .nilCheck (.tmp 62), _, _, _, none⟩ (.pointer (some ⟨w1.heap.size, 0, none⟩)) rfl rfl (by kernel_rfl) (by kernel_rfl) (by kernel_rfl) (fun _ _ _ h => h) (fun _ _ => rfl) hS ?_
            simp only [Act.put, List.setIfInBounds_toArray, List.set_cons_zero, List.set_cons_succ]
            refine anyH_take 2 ⟨some 64, .fieldAddr 86 (.tmp 63) 0, _, _, _, none⟩ (.pointer (some ⟨w1.heap.size, 0, none⟩)) rfl rfl (by kernel_rfl) (by kernel_rfl) (by kernel_rfl) (fun _ _ _ h => h) (fun w _ => exec_v (fieldk70 _ 0 w (by omega))) hS ?_
            simp only [Act.put, List.setIfInBounds_toArray, List.set_cons_zero, List.set_cons_succ]
            refine anyH_take 3 ⟨some 65, .load 56 (.tmp 64), _, _, _, none⟩ (.slice (some ⟨g, 0, none⟩) D.n c) rfl rfl (by kernel_rfl) (by kernel_rfl) (by kernel_rfl) (fun _ _ _ h => h) (fun X hX => exec_v (loadk67 hX.1)) hS ?_
            simp only [Act.put, List.setIfInBounds_toArray, List.set_cons_zero, List.set_cons_succ]
            refine anyH_take 4 ⟨some 66, .fieldAddr 100 (.tmp 7) 0, _, _, _, none⟩ (.pointer (some ⟨wr.heap.size, 0, none⟩)) rfl rfl (by kernel_rfl) (by kernel_rfl) (by kernel_rfl) (fun _ _ _ h => h) (fun w _ => exec_v (fieldk77 _ 0 w (by omega))) hS ?_
            simp only [Act.put, List.setIfInBounds_toArray, List.set_cons_zero, List.set_cons_succ]
            refine anyH_take 5 ⟨some 67, .load 3 (.tmp 66), _, _, _, none⟩ (.int .i64 at_) rfl rfl (by kernel_rfl) (by kernel_rfl) (by kernel_rfl) (fun _ _ _ h => h) (fun X hX => exec_v (loadk3 hX.2.1)) hS ?_
            simp only [Act.put, List.setIfInBounds_toArray, List.set_cons_zero, List.set_cons_succ]
            refine anyH_take 6 ⟨some 68, .fieldAddr 100 (.tmp 7) 1, _, _, _, none⟩ (.pointer (some ⟨wr.heap.size, 1, none⟩)) rfl rfl (by kernel_rfl) (by kernel_rfl) (by kernel_rfl) (fun _ _ _ h => h) (fun w _ => exec_v (fieldk77 _ 1 w (by omega))) hS ?_
            simp only [Act.put, List.setIfInBounds_toArray, List.set_cons_zero, List.set_cons_succ]
            refine anyH_take 7 ⟨some 69, .load 9 (.tmp 68), _, _, _, none⟩ (.string S) rfl rfl (by kernel_rfl) (by kernel_rfl) (by kernel_rfl) (fun _ _ _ h => h) (fun X hX => exec_v (loadk9 hX.2.2)) hS ?_
            simp only [Act.put, List.setIfInBounds_toArray, List.set_cons_zero, List.set_cons_succ]
            refine anyH_take 8 ⟨some 70, .move (.tmp 8), _, _, _, none⟩ (.int .i64 (y : Nat)) rfl rfl (by kernel_rfl) (by kernel_rfl) (by kernel_rfl) (fun _ _ _ h => h) (fun _ _ => rfl) hS ?_
            simp only [Act.put, List.setIfInBounds_toArray, List.set_cons_zero, List.set_cons_succ]
            refine anyH_take 9 ⟨some 71, .slice 9 (.tmp 69) none (some (.tmp 70)) none, _, _, _, none⟩ (.string (S.extract 0 y)) rfl rfl (by kernel_rfl) (by kernel_rfl) (by kernel_rfl) (fun _ _ _ h => h) (fun _ _ => exec_strHead (m := y) rfl rfl (by rw [HSe.out, strOf_size, HX.out]; omega)) hS ?_
            simp only [Act.put, List.setIfInBounds_toArray, List.set_cons_zero, List.set_cons_succ]
            refine anyH_take 10 ⟨some 72, .move (.tmp 5), _, _, _, none⟩ (.pointer (some ⟨w1.heap.size, 0, none⟩)) rfl rfl (by kernel_rfl) (by kernel_rfl) (by kernel_rfl) (fun _ _ _ h => h) (fun _ _ => rfl) hS ?_
            simp only [Act.put, List.setIfInBounds_toArray, List.set_cons_zero, List.set_cons_succ]
            refine anyH_take 11 ⟨some 73, .nilCheck (.tmp 72), _, _, _, none⟩ (.pointer (some ⟨w1.heap.size, 0, none⟩)) rfl rfl (by kernel_rfl) (by kernel_rfl) (by kernel_rfl) (fun _ _ _ h => h) (fun _ _ => rfl) hS ?_
            simp only [Act.put, List.setIfInBounds_toArray, List.set_cons_zero, List.set_cons_succ]
            refine anyH_take 12 ⟨some 74, .fieldAddr 86 (.tmp 73) 0, _, _, _, none⟩ (.pointer (some ⟨w1.heap.size, 0, none⟩)) rfl rfl (by kernel_rfl) (by kernel_rfl) (by kernel_rfl) (fun _ _ _ h => h) (fun w _ => exec_v (fieldk70 _ 0 w (by omega))) hS ?_
            simp only [Act.put, List.setIfInBounds_toArray, List.set_cons_zero, List.set_cons_succ]
            refine anyH_take 13 ⟨some 75, .load 56 (.tmp 74), _, _, _, none⟩ (.slice (some ⟨g, 0, none⟩) D.n c) rfl rfl (by kernel_rfl) (by kernel_rfl) (by kernel_rfl) (fun _ _ _ h => h) (fun X hX => exec_v (loadk67 hX.1)) hS ?_
            simp only [Act.put, List.setIfInBounds_toArray, List.set_cons_zero, List.set_cons_succ]
            refine anyH_take 14 ⟨some 76, .fieldAddr 100 (.tmp 7) 0, _, _, _, none⟩ (.pointer (some ⟨wr.heap.size, 0, none⟩)) rfl rfl (by kernel_rfl) (by kernel_rfl) (by kernel_rfl) (fun _ _ _ h => h) (fun w _ => exec_v (fieldk77 _ 0 w (by omega))) hS ?_
            simp only [Act.put, List.setIfInBounds_toArray, List.set_cons_zero, List.set_cons_succ]
            refine anyH_take 15 ⟨some 77, .load 3 (.tmp 76), _, _, _, none⟩ (.int .i64 at_) rfl rfl (by kernel_rfl) (by kernel_rfl) (by kernel_rfl) (fun _ _ _ h => h) (fun X hX => exec_v (loadk3 hX.2.1)) hS ?_
            simp only [Act.put, List.setIfInBounds_toArray, List.set_cons_zero, List.set_cons_succ]
            refine anyH_take 16 ⟨some 78, .indexAddr 56 (.tmp 75) (.tmp 77), _, _, _, none⟩ (.pointer (some ⟨g, at_, none⟩)) rfl rfl (by kernel_rfl) (by kernel_rfl) (by kernel_rfl) (fun _ _ _ h => h) (fun X _ => exec_v (index67 g _ _ at_ X hatn)) hS ?_
            simp only [Act.put, List.setIfInBounds_toArray, List.set_cons_zero, List.set_cons_succ]
            refine anyH_take 18 ⟨some 80, .move (.tmp 8), _, _, _, none⟩ (.int .i64 (y : Nat)) rfl rfl (by kernel_rfl) (by kernel_rfl) (by kernel_rfl) (fun _ _ _ h => h) (fun _ _ => rfl) hS ?_
            simp only [Act.put, List.setIfInBounds_toArray, List.set_cons_zero, List.set_cons_succ]
            refine anyH_one 17 ⟨some 79, .load 9 (.tmp 78), _, _, _, none⟩ (.string T) _ (by kernel_rfl) rfl rfl (exec_v (loadk9 (HT12.out _ _))) hS ?_
            simp only [Act.put, List.setIfInBounds_toArray, List.set_cons_zero, List.set_cons_succ]
            refine anyH_one 19 ⟨some 81, .slice 9 (.tmp 79) (some (.tmp 80)) none none, _, _, _, none⟩ (.string (T.extract y T.size)) _ (by kernel_rfl) rfl rfl (exec_strTail (m := y) rfl rfl (by rw [HT.out, strOf_size, HTl.out]; omega)) hS ?_
            simp only [Act.put, List.setIfInBounds_toArray, List.set_cons_zero, List.set_cons_succ]
            refine anyH_one 20 ⟨some 82, .binOp .add 9 (.tmp 71) (.tmp 81) 9, _, _, _, none⟩ (.string (S.extract 0 y ++ T.extract y T.size)) _ (by kernel_rfl) rfl rfl (exec_addStr rfl rfl (by simp only [ByteArray.size_extract, HSe.out, HT.out, strOf_size, HX.out, HTl.out]; omega)) hS ?_
            simp only [Act.put, List.setIfInBounds_toArray, List.set_cons_zero, List.set_cons_succ]
            refine anyH_one 21 ⟨some 83, .indexAddr 56 (.tmp 65) (.tmp 67), _, _, _, none⟩ (.pointer (some ⟨g, at_, none⟩)) _ (by kernel_rfl) rfl rfl (exec_v (index67 g _ _ at_ _ hatn)) hS ?_
            simp only [Act.put, List.setIfInBounds_toArray, List.set_cons_zero, List.set_cons_succ]
            refine anyH_oneSkip 22 ⟨none, .store 9 (.tmp 83) (.tmp 82), _, _, _, none⟩ _ (by kernel_rfl) rfl rfl (exec_store9 rfl rfl (HT12.out _ _) (HZ12.out _ _)) (s12_stored hS HR.out rfl _) ?_
            refine wpAnyH_done (by kernel_rfl) ?_ _
            clear hS
            go_wp2
            go_roundw
            case rel =>
              refine ⟨k + 1, by omega, by go_num, ?_, ?_⟩
              · rw [crash_snoc D ks k hlt, keep1_in D.waits _ _ q h1 at_ (y) HWe.out.symm HA.out (by rw [← HYe.out]; unfold keepN; omega)]
                have h9 := rkeep_one HR.out (kX wr (nq + 1) (.cells #[.int .i64 at_, .string S] 100)) at_ hatn S T (D.waits[q]).2 (y) HX.out (by omega) HSe.out HT.out
                exact h9
              · exact ((((hbrH.out.trans (below_drewN' _ _ _))).alloc hbrH.out.size _).drew).setCell (HR.out.L.lt g rfl).1 _
            case measure => simp [intOf]; omega
          · have hy0 : ¬ Y < 0 := by omega
            go_wp2
            go_quiet (fail)
            go_wp2
            refine wp_region_held_drew (S := S6 wr) (by kernel_rfl) ⟨rfl, rfl, rfl, Nat.le_refl _, fun k _ _ => rfl⟩ ?_
            intro hS
            refine anyH_take 0 ⟨some 42, .move (.tmp 0), _, _, _, none⟩ (.pointer (some ⟨r, 0, none⟩)) rfl rfl (by kernel_rfl) (by kernel_rfl) (by kernel_rfl) (fun _ _ _ h => h) (fun _ _ => rfl) hS ?_
            simp only [Act.put, List.setIfInBounds_toArray, List.set_cons_zero, List.set_cons_succ]
            refine anyH_take 1 ⟨some 43, .nilCheck (.tmp 42), _, _, _, none⟩ (.pointer (some ⟨r, 0, none⟩)) rfl rfl (by kernel_rfl) (by kernel_rfl) (by kernel_rfl) (fun _ _ _ h => h) (fun _ _ => rfl) hS ?_
            simp only [Act.put, List.setIfInBounds_toArray, List.set_cons_zero, List.set_cons_succ]
            refine anyH_take 2 ⟨some 44, .fieldAddr 86 (.tmp 43) 1, _, _, _, none⟩ (.pointer (some ⟨r, 1, none⟩)) rfl rfl (by kernel_rfl) (by kernel_rfl) (by kernel_rfl) (fun _ _ _ h => h) (fun w _ => exec_v (fieldk70 r 1 w (by omega))) hS ?_
            simp only [Act.put, List.setIfInBounds_toArray, List.set_cons_zero, List.set_cons_succ]
            refine anyH_take 3 ⟨some 45, .load 84 (.tmp 44), _, _, _, none⟩ (.slice (some ⟨gw, 0, none⟩) D.waits.length wc) rfl rfl (by kernel_rfl) (by kernel_rfl) (by kernel_rfl) (fun _ _ _ h => h) (fun X hX => exec_v (loadk68 (Kept.cell hX f1 (by simp)))) hS ?_
            simp only [Act.put, List.setIfInBounds_toArray, List.set_cons_zero, List.set_cons_succ]
            refine anyH_take 4 ⟨some 46, .move (.tmp 1), _, _, _, none⟩ (.slice (some ⟨kb, ko, none⟩) ks.length kc) rfl rfl (by kernel_rfl) (by kernel_rfl) (by kernel_rfl) (fun _ _ _ h => h) (fun _ _ => rfl) hS ?_
            simp only [Act.put, List.setIfInBounds_toArray, List.set_cons_zero, List.set_cons_succ]
            refine anyH_take 5 ⟨some 47, .move (.tmp 6), _, _, _, none⟩ (.int .i64 k) rfl rfl (by kernel_rfl) (by kernel_rfl) (by kernel_rfl) (fun _ _ _ h => h) (fun _ _ => rfl) hS ?_
            simp only [Act.put, List.setIfInBounds_toArray, List.set_cons_zero, List.set_cons_succ]
            refine anyH_take 6 ⟨some 48, .indexAddr 40 (.tmp 46) (.tmp 47), _, _, _, none⟩ (.pointer (some ⟨kb, ko + k * 2, none⟩)) rfl rfl (by kernel_rfl) (by kernel_rfl) (by kernel_rfl) (fun _ _ _ h => h) (fun X _ => exec_v (index33 kb ko _ _ k X hlt)) hS ?_
            simp only [Act.put, List.setIfInBounds_toArray, List.set_cons_zero, List.set_cons_succ]
            refine anyH_take 7 ⟨some 49, .fieldAddr 94 (.tmp 48) 0, _, _, _, none⟩ (.pointer (some ⟨kb, ko + k * 2, none⟩)) rfl rfl (by kernel_rfl) (by kernel_rfl) (by kernel_rfl) (fun _ _ _ h => h) (fun X _ => exec_v (field55 kb _ X)) hS ?_
            simp only [Act.put, List.setIfInBounds_toArray, List.set_cons_zero, List.set_cons_succ]
            refine anyH_take 8 ⟨some 50, .load 3 (.tmp 49), _, _, _, none⟩ (.int .i64 q) rfl rfl (by kernel_rfl) (by kernel_rfl) (by kernel_rfl) (fun _ _ _ h => h) (fun X hX => exec_v (loadk3 (Kept.cell hX m1 (by simp)))) hS ?_
            simp only [Act.put, List.setIfInBounds_toArray, List.set_cons_zero, List.set_cons_succ]
            refine anyH_take 9 ⟨some 51, .indexAddr 84 (.tmp 45) (.tmp 50), _, _, _, none⟩ (.pointer (some ⟨gw, q * 2, none⟩)) rfl rfl (by kernel_rfl) (by kernel_rfl) (by kernel_rfl) (fun _ _ _ h => h) (fun X _ => exec_v (index68 gw _ _ q X h1)) hS ?_
            simp only [Act.put, List.setIfInBounds_toArray, List.set_cons_zero, List.set_cons_succ]
            refine anyH_take 10 ⟨some 52, .load 100 (.tmp 51), _, _, _, none⟩ (.agg #[.int .i64 at_, .string S]) rfl rfl (by kernel_rfl) (by kernel_rfl) (by kernel_rfl) (fun _ _ _ h => h) (fun X hX => exec_v (load77 (Kept.cell hX p1 (by simp)) (Kept.cell hX p2 (by simp)))) hS ?_
            simp only [Act.put, List.setIfInBounds_toArray, List.set_cons_zero, List.set_cons_succ]
            refine anyH_one 11 ⟨some 7, .alloc 100, _, _, _, none⟩ _ _ (by kernel_rfl) rfl rfl (exec_alloc77 _) (Kept.trans hS (Kept.alloc [] _ _) (fun _ _ h => h)) ?_
            simp only [Act.put, List.setIfInBounds_toArray, List.set_cons_zero, List.set_cons_succ]
            refine anyH_oneSkip 12 ⟨none, .store 100 (.tmp 7) (.tmp 52), _, _, _, none⟩ _ (by kernel_rfl) rfl rfl (exec_store77 rfl rfl rfl rfl) (Kept.trans hS (Kept.alloc [] _ _) (fun _ _ h => h)) ?_
            refine wpAnyH_done (by kernel_rfl) ?_ _
            clear hS
            go_wp2
            refine wp_region_held_drew (S := S12 w1.heap.size g D.n c wr.heap.size at_ S) (by kernel_rfl) (s12_start HR.out _ _ _) ?_
            intro hS
            refine anyH_take 0 ⟨some 62, .move (.tmp 5), _, _, _, none⟩ (.pointer (some ⟨w1.heap.size, 0, none⟩)) rfl rfl (by kernel_rfl) (by kernel_rfl) (by kernel_rfl) (fun _ _ _ h => h) (fun _ _ => rfl) hS ?_
            simp only [Act.put, List.setIfInBounds_toArray, List.set_cons_zero, List.set_cons_succ]
            refine anyH_take 1 ⟨some 63, .nilCheck (.tmp 62), _, _, _, none⟩ (.pointer (some ⟨w1.heap.size, 0, none⟩)) rfl rfl (by kernel_rfl) (by kernel_rfl) (by kernel_rfl) (fun _ _ _ h => h) (fun _ _ => rfl) hS ?_
            simp only [Act.put, List.setIfInBounds_toArray, List.set_cons_zero, List.set_cons_succ]
            refine anyH_take 2 ⟨some 64, .fieldAddr 86 (.tmp 63) 0, _, _, _, none⟩ (.pointer (some ⟨w1.heap.size, 0, none⟩)) rfl rfl (by kernel_rfl) (by kernel_rfl) (by kernel_rfl) (fun _ _ _ h => h) (fun w _ => exec_v (fieldk70 _ 0 w (by omega))) hS ?_
            simp only [Act.put, List.setIfInBounds_toArray, List.set_cons_zero, List.set_cons_succ]
            refine anyH_take 3 ⟨some 65, .load 56 (.tmp 64), _, _, _, none⟩ (.slice (some ⟨g, 0, none⟩) D.n c) rfl rfl (by kernel_rfl) (by kernel_rfl) (by kernel_rfl) (fun _ _ _ h => h) (fun X hX => exec_v (loadk67 hX.1)) hS ?_
            simp only [Act.put, List.setIfInBounds_toArray, List.set_cons_zero, List.set_cons_succ]
            refine anyH_take 4 ⟨some 66, .fieldAddr 100 (.tmp 7) 0, _, _, _, none⟩ (.pointer (some ⟨wr.heap.size, 0, none⟩)) rfl rfl (by kernel_rfl) (by kernel_rfl) (by kernel_rfl) (fun _ _ _ h => h) (fun w _ => exec_v (fieldk77 _ 0 w (by omega))) hS ?_
            simp only [Act.put, List.setIfInBounds_toArray, List.set_cons_zero, List.set_cons_succ]
            refine anyH_take 5 ⟨some 67, .load 3 (.tmp 66), _, _, _, none⟩ (.int .i64 at_) rfl rfl (by kernel_rfl) (by kernel_rfl) (by kernel_rfl) (fun _ _ _ h => h) (fun X hX => exec_v (loadk3 hX.2.1)) hS ?_
            simp only [Act.put, List.setIfInBounds_toArray, List.set_cons_zero, List.set_cons_succ]
            refine anyH_take 6 ⟨some 68, .fieldAddr 100 (.tmp 7) 1, _, _, _, none⟩ (.pointer (some ⟨wr.heap.size, 1, none⟩)) rfl rfl (by kernel_rfl) (by kernel_rfl) (by kernel_rfl) (fun _ _ _ h => h) (fun w _ => exec_v (fieldk77 _ 1 w (by omega))) hS ?_
            simp only [Act.put, List.setIfInBounds_toArray, List.set_cons_zero, List.set_cons_succ]
            refine anyH_take 7 ⟨some 69, .load 9 (.tmp 68), _, _, _, none⟩ (.string S) rfl rfl (by kernel_rfl) (by kernel_rfl) (by kernel_rfl) (fun _ _ _ h => h) (fun X hX => exec_v (loadk9 hX.2.2)) hS ?_
            simp only [Act.put, List.setIfInBounds_toArray, List.set_cons_zero, List.set_cons_succ]
            refine anyH_take 8 ⟨some 70, .move (.tmp 8), _, _, _, none⟩ (.int .i64 (512 : Nat)) rfl rfl (by kernel_rfl) (by kernel_rfl) (by kernel_rfl) (fun _ _ _ h => h) (fun _ _ => rfl) hS ?_
            simp only [Act.put, List.setIfInBounds_toArray, List.set_cons_zero, List.set_cons_succ]
            refine anyH_take 9 ⟨some 71, .slice 9 (.tmp 69) none (some (.tmp 70)) none, _, _, _, none⟩ (.string (S.extract 0 512)) rfl rfl (by kernel_rfl) (by kernel_rfl) (by kernel_rfl) (fun _ _ _ h => h) (fun _ _ => exec_strHead (m := 512) rfl rfl (by rw [HSe.out, strOf_size, HX.out]; omega)) hS ?_
            simp only [Act.put, List.setIfInBounds_toArray, List.set_cons_zero, List.set_cons_succ]
            refine anyH_take 10 ⟨some 72, .move (.tmp 5), _, _, _, none⟩ (.pointer (some ⟨w1.heap.size, 0, none⟩)) rfl rfl (by kernel_rfl) (by kernel_rfl) (by kernel_rfl) (fun _ _ _ h => h) (fun _ _ => rfl) hS ?_
            simp only [Act.put, List.setIfInBounds_toArray, List.set_cons_zero, List.set_cons_succ]
            refine anyH_take 11 ⟨some 73, .nilCheck (.tmp 72), _, _, _, none⟩ (.pointer (some ⟨w1.heap.size, 0, none⟩)) rfl rfl (by kernel_rfl) (by kernel_rfl) (by kernel_rfl) (fun _ _ _ h => h) (fun _ _ => rfl) hS ?_
            simp only [Act.put, List.setIfInBounds_toArray, List.set_cons_zero, List.set_cons_succ]
            refine anyH_take 12 ⟨some 74, .fieldAddr 86 (.tmp 73) 0, _, _, _, none⟩ (.pointer (some ⟨w1.heap.size, 0, none⟩)) rfl rfl (by kernel_rfl) (by kernel_rfl) (by kernel_rfl) (fun _ _ _ h => h) (fun w _ => exec_v (fieldk70 _ 0 w (by omega))) hS ?_
            simp only [Act.put, List.setIfInBounds_toArray, List.set_cons_zero, List.set_cons_succ]
            refine anyH_take 13 ⟨some 75, .load 56 (.tmp 74), _, _, _, none⟩ (.slice (some ⟨g, 0, none⟩) D.n c) rfl rfl (by kernel_rfl) (by kernel_rfl) (by kernel_rfl) (fun _ _ _ h => h) (fun X hX => exec_v (loadk67 hX.1)) hS ?_
            simp only [Act.put, List.setIfInBounds_toArray, List.set_cons_zero, List.set_cons_succ]
            refine anyH_take 14 ⟨some 76, .fieldAddr 100 (.tmp 7) 0, _, _, _, none⟩ (.pointer (some ⟨wr.heap.size, 0, none⟩)) rfl rfl (by kernel_rfl) (by kernel_rfl) (by kernel_rfl) (fun _ _ _ h => h) (fun w _ => exec_v (fieldk77 _ 0 w (by omega))) hS ?_
            simp only [Act.put, List.setIfInBounds_toArray, List.set_cons_zero, List.set_cons_succ]
            refine anyH_take 15 ⟨some 77, .load 3 (.tmp 76), _, _, _, none⟩ (.int .i64 at_) rfl rfl (by kernel_rfl) (by kernel_rfl) (by kernel_rfl) (fun _ _ _ h => h) (fun X hX => exec_v (loadk3 hX.2.1)) hS ?_
            simp only [Act.put, List.setIfInBounds_toArray, List.set_cons_zero, List.set_cons_succ]
            refine anyH_take 16 ⟨some 78, .indexAddr 56 (.tmp 75) (.tmp 77), _, _, _, none⟩ (.pointer (some ⟨g, at_, none⟩)) rfl rfl (by kernel_rfl) (by kernel_rfl) (by kernel_rfl) (fun _ _ _ h => h) (fun X _ => exec_v (index67 g _ _ at_ X hatn)) hS ?_
            simp only [Act.put, List.setIfInBounds_toArray, List.set_cons_zero, List.set_cons_succ]
            refine anyH_take 18 ⟨some 80, .move (.tmp 8), _, _, _, none⟩ (.int .i64 (512 : Nat)) rfl rfl (by kernel_rfl) (by kernel_rfl) (by kernel_rfl) (fun _ _ _ h => h) (fun _ _ => rfl) hS ?_
            simp only [Act.put, List.setIfInBounds_toArray, List.set_cons_zero, List.set_cons_succ]
            refine anyH_one 17 ⟨some 79, .load 9 (.tmp 78), _, _, _, none⟩ (.string T) _ (by kernel_rfl) rfl rfl (exec_v (loadk9 (HT12.out _ _))) hS ?_
            simp only [Act.put, List.setIfInBounds_toArray, List.set_cons_zero, List.set_cons_succ]
            refine anyH_one 19 ⟨some 81, .slice 9 (.tmp 79) (some (.tmp 80)) none none, _, _, _, none⟩ (.string (T.extract 512 T.size)) _ (by kernel_rfl) rfl rfl (exec_strTail (m := 512) rfl rfl (by rw [HT.out, strOf_size, HTl.out]; omega)) hS ?_
            simp only [Act.put, List.setIfInBounds_toArray, List.set_cons_zero, List.set_cons_succ]
            refine anyH_one 20 ⟨some 82, .binOp .add 9 (.tmp 71) (.tmp 81) 9, _, _, _, none⟩ (.string (S.extract 0 512 ++ T.extract 512 T.size)) _ (by kernel_rfl) rfl rfl (exec_addStr rfl rfl (by simp only [ByteArray.size_extract, HSe.out, HT.out, strOf_size, HX.out, HTl.out]; omega)) hS ?_
            simp only [Act.put, List.setIfInBounds_toArray, List.set_cons_zero, List.set_cons_succ]
            refine anyH_one 21 ⟨some 83, .indexAddr 56 (.tmp 65) (.tmp 67), _, _, _, none⟩ (.pointer (some ⟨g, at_, none⟩)) _ (by kernel_rfl) rfl rfl (exec_v (index67 g _ _ at_ _ hatn)) hS ?_
            simp only [Act.put, List.setIfInBounds_toArray, List.set_cons_zero, List.set_cons_succ]
            refine anyH_oneSkip 22 ⟨none, .store 9 (.tmp 83) (.tmp 82), _, _, _, none⟩ _ (by kernel_rfl) rfl rfl (exec_store9 rfl rfl (HT12.out _ _) (HZ12.out _ _)) (s12_stored hS HR.out rfl _) ?_
            refine wpAnyH_done (by kernel_rfl) ?_ _
            clear hS
            go_wp2
            go_roundw
            case rel =>
              refine ⟨k + 1, by omega, by go_num, ?_, ?_⟩
              · rw [crash_snoc D ks k hlt, keep1_in D.waits _ _ q h1 at_ (512) HWe.out.symm HA.out (by rw [← HYe.out]; unfold keepN; omega)]
                have h9 := rkeep_one HR.out (kX wr (nq + 1) (.cells #[.int .i64 at_, .string S] 100)) at_ hatn S T (D.waits[q]).2 (512) HX.out (by omega) HSe.out HT.out
                exact h9
              · exact ((((hbrH.out.trans (below_drewN' _ _ _))).alloc hbrH.out.size _).drew).setCell (HR.out.L.lt g rfl).1 _
            case measure => simp [intOf]; omega
        · have hd1 : decide ((D.waits.length : Int) ≤ (q : Int)) = true := by simp; omega
          have hsk : D.crash (ks.take (k + 1)) = D.crash (ks.take k) := crash_skip D ks k hlt (by rw [← HWe.out]; omega)
          have HSk := hid hsk
          clear hsk
          go_wp2
          go_quiet (fail)
          go_wp2
          go_roundw
          case rel =>
            refine ⟨k + 1, by omega, by go_num, ?_, ?_⟩
            · rw [HSk.out]; exact HR.out.keep ⟨rfl, rfl, rfl, Nat.le_refl _, fun k _ _ => rfl⟩ (by simp) (S := [])
            · exact (hbrH.out.trans (below_drewN' _ _ _))
          case measure => simp [intOf]; omega
    · have e : k = ks.length := by omega
      subst e
      rw [List.take_length] at hdr
      have HR := hid hdr
      clear hdr
      go_wp2
      go_ret
      exact ⟨_, _, rfl, ⟨_, _, _, HR.out, rfl⟩, hbr⟩
end Go.Proofs.Ytambgimfbdecpaa
