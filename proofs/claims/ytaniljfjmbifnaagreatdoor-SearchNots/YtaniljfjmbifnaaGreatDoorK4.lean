/- What this text holds: a message that is looked at, in memory, and the values of its fields. -/
import Derived.Test.YtaniljfjmbifnaaGreatDoorK3
namespace Go.Proofs.YtaniljfjmbifnaaGreatDoor.H
open Go.RowKit
set_option linter.unusedVariables false
set_option linter.unusedSimpArgs false

theorem ents_in : ∀ (n : Nat) (s : Bs), s.length ≤ n → ∀ e ∈ ents s, e.1.length ≤ s.length ∧ e.2.length ≤ s.length
  | 0, s, h => by
    have : s = [] := List.eq_nil_of_length_eq_zero (by omega)
    subst this; simp [ents_nil]
  | n + 1, s, h => by
    by_cases h0 : s = []
    · subst h0; simp [ents_nil]
    · have h1 := ln_pos s h0
      have h2 := ln_le s
      have h3 := fl_pos s h0
      have h4 := fl_le s
      have h5 := ents_in n (s.drop (ln s)) (by simp; omega)
      have h6 := ents_in n (s.drop (fl s)) (by simp; omega)
      rw [ents_step s h0]
      split
      · intro e he
        have := h5 e he
        simp at this
        omega
      · rename_i hn
        intro e he
        rcases List.mem_cons.1 he with rfl | he
        · have h7 := nameB_lt _ hn
          simp at h7 ⊢
          omega
        · have := h6 e he
          simp at this
          omega
theorem ra_lit (w : World) (L : List (List Bs)) (k : Nat) (T : TypeId) (h : Wd k L) : RL (w.alloc (.cells (rc L).toArray T)) (.slice (some ⟨w.heap.size, 0, none⟩) L.length L.length) k L := by
  refine ⟨h, _, L.length, rfl, Nat.le_refl _, .inr ⟨_, 0, rfl, fun j i r p h1 h2 => ?_, by simp⟩⟩
  have := flat_at h j i r p h1 h2
  simp only [World.cell?, heap_alloc_new, Nat.zero_add]
  simp [rc, this]
  rw [← List.map_flatten, List.getElem?_map, this]
  rfl
theorem nm1 (name : Bs) : Wd 1 [[name]] := by intro r hr; simp at hr; rw [hr]; rfl
/-- A message that is looked at. -/
structure Lk where
  uid : Int
  fl : Option Addr × Nat × Nat
  d1 : Int
  d2 : Int
  d3 : Int
  d4 : Int
  d5 : Int
  d6 : Int
  d7 : Int
  text : Bs
  size : Int
  id : Int
  seq : Int
  most : Int
  mu : Int
  rd : Bool
  fs : Option Addr × Nat × Nat
  deep : Int
  lost : Bool
def sv (s : Option Addr × Nat × Nat) : Value := .slice s.1 s.2.1 s.2.2
def Lk.c (L : Lk) : List Value := [.int .i64 L.uid, sv L.fl, .int .i64 L.d1, .int .i64 L.d2, .int .i64 L.d3, .int .i64 L.d4, .int .i64 L.d5, .int .i64 L.d6, .int .i64 L.d7, .string (str L.text), .int .i64 L.size, .int .i64 L.id, .int .i64 L.seq, .int .i64 L.most, .int .i64 L.mu, .bool L.rd, sv L.fs, .int .i64 L.deep, .bool L.lost]
def LkAt (w : World) (b : Nat) (L : Lk) : Prop := w.heap[b]? = some (.cells L.c.toArray 48 (0, 0))
theorem LkAt.lt {w : World} {b : Nat} {L : Lk} (h : LkAt w b L) : b < w.heap.size := (Array.getElem?_eq_some_iff.1 h).1
theorem LkAt.cell {w : World} {b : Nat} {L : Lk} (h : LkAt w b L) (j : Nat) : w.cell? ⟨b, j, none⟩ = L.c[j]? := by
  simp [World.cell?, show w.heap[b]? = _ from h]
theorem LkAt.fz {w : World} {b : Nat} {L : Lk} (h : LkAt w b L) (j : Nat) : w.frozen? ⟨b, j, none⟩ = false := by simp [World.frozen?, show w.heap[b]? = _ from h]
theorem LkAt.kept {w w' : World} {b : Nat} {L : Lk} {S : List Nat} (h : LkAt w b L) (hk : Kept S w w') (hb : b ∉ S) : LkAt w' b L := (hk.block b h.lt hb).trans h
theorem LkAt.later {w w' : World} {b : Nat} {L : Lk} (h : LkAt w b L) (hb : Below w.heap.size w w') : LkAt w' b L := (hb.block b h.lt).trans h
theorem LkAt.set15 {w : World} {b : Nat} {L : Lk} (h : LkAt w b L) (x : Bool) : LkAt (w.setCell ⟨b, 15, none⟩ (.bool x)) b { L with rd := x } := by
  unfold LkAt; rw [heap_setCell_same _ _ _ _ _ _ h]; rfl
theorem LkAt.set16 {w : World} {b : Nat} {L : Lk} (h : LkAt w b L) (x : Option Addr × Nat × Nat) : LkAt (w.setCell ⟨b, 16, none⟩ (sv x)) b { L with fs := x } := by
  unfold LkAt; rw [heap_setCell_same _ _ _ _ _ _ h]; rfl
theorem LkAt.set17 {w : World} {b : Nat} {L : Lk} (h : LkAt w b L) (x : Int) : LkAt (w.setCell ⟨b, 17, none⟩ (.int .i64 x)) b { L with deep := x } := by
  unfold LkAt; rw [heap_setCell_same _ _ _ _ _ _ h]; rfl
theorem LkAt.set18 {w : World} {b : Nat} {L : Lk} (h : LkAt w b L) (x : Bool) : LkAt (w.setCell ⟨b, 18, none⟩ (.bool x)) b { L with lost := x } := by
  unfold LkAt; rw [heap_setCell_same _ _ _ _ _ _ h]; rfl
theorem fldk (b : Nat) (w : World) : (Instr.fieldAt 48 (.pointer (some ⟨b, 0, none⟩)) 0).run Tryz.prog w = .ok (.pointer (some ⟨b, 0, none⟩)) w ∧ (Instr.fieldAt 48 (.pointer (some ⟨b, 0, none⟩)) 1).run Tryz.prog w = .ok (.pointer (some ⟨b, 12, none⟩)) w ∧
    (Instr.fieldAt 48 (.pointer (some ⟨b, 0, none⟩)) 2).run Tryz.prog w = .ok (.pointer (some ⟨b, 13, none⟩)) w ∧ (Instr.fieldAt 48 (.pointer (some ⟨b, 0, none⟩)) 3).run Tryz.prog w = .ok (.pointer (some ⟨b, 14, none⟩)) w ∧
    (Instr.fieldAt 48 (.pointer (some ⟨b, 0, none⟩)) 4).run Tryz.prog w = .ok (.pointer (some ⟨b, 15, none⟩)) w ∧ (Instr.fieldAt 48 (.pointer (some ⟨b, 0, none⟩)) 5).run Tryz.prog w = .ok (.pointer (some ⟨b, 16, none⟩)) w ∧
    (Instr.fieldAt 48 (.pointer (some ⟨b, 0, none⟩)) 6).run Tryz.prog w = .ok (.pointer (some ⟨b, 17, none⟩)) w ∧ (Instr.fieldAt 48 (.pointer (some ⟨b, 0, none⟩)) 7).run Tryz.prog w = .ok (.pointer (some ⟨b, 18, none⟩)) w ∧
    (Instr.fieldAt 33 (.pointer (some ⟨b, 0, none⟩)) 3).run Tryz.prog w = .ok (.pointer (some ⟨b, 9, none⟩)) w := ⟨by kernel_rfl, by kernel_rfl, by kernel_rfl, by kernel_rfl, by kernel_rfl, by kernel_rfl, by kernel_rfl, by kernel_rfl, by kernel_rfl⟩
def headL (t : Bs) : List (Bs × Bs) := fieldsP (t.take (hdr t))
def valsL (t name : Bs) : List Bs := getP (headL t) [name]
theorem head_len (t : Bs) (ht : t.length ≤ 1000000) : (headL t).length ≤ 1000000 ∧ ∀ f ∈ headL t, f.1.length ≤ 10000000 ∧ f.2.length ≤ 10000000 := by
  have hl : (t.take (hdr t)).length ≤ 1000000 := by rw [List.length_take]; omega
  unfold headL fieldsP
  refine ⟨by rw [List.length_map]; exact Nat.le_trans (ents_len _) hl, ?_⟩
  intro f hf
  obtain ⟨e, he, rfl⟩ := List.mem_map.1 hf
  have h1 := ents_in _ _ (Nat.le_refl _) e he
  have h2 := bare_len (e.2.drop (e.1.length + 1))
  rw [List.length_drop] at h2
  simp only
  omega
def FsOk (w : World) (L : Lk) : Prop := L.rd = true → RL w (sv L.fs) 2 ((headL L.text).map fR)
theorem kept_t {S : List Nat} {a b c : World} (h : Kept S a b) (k : Kept S b c) : Kept S a c := h.trans k (fun _ _ h => h)
set_option maxRecDepth 100000 in
set_option maxHeartbeats 2000000 in
theorem values_any {w : World} {b : Nat} {L : Lk} (he : Env w) (hb0 : 0 < b) (h : LkAt w b L) (hf : FsOk w L) (ht : L.text.length ≤ 1000000) (name : Bs) (hn : name.length ≤ 10000000) :
    Calls Tryz.prog 35 #[.pointer (some ⟨b, 0, none⟩), .string (str name)] w fun e w' => ∃ u fs, e = .returned u ∧ RL w' u 1 ((valsL L.text name).map sR) ∧ LkAt w' b { L with rd := true, fs := fs } ∧ FsOk w' { L with rd := true, fs := fs } ∧ Kept [b] w w' := by
  have hF := fldk b
  have f4 := fun w => (hF w).2.2.2.2.1
  have f5 := fun w => (hF w).2.2.2.2.2.1
  have f0 := fun w => (hF w).1
  have g3 := fun w => (hF w).2.2.2.2.2.2.2.2
  obtain ⟨hl1, hl2⟩ := head_len L.text ht
  have HL1 := hid hl1
  have HL2 := hid hl2
  have c15 := h.cell 15
  have c16 := h.cell 16
  have c9 := h.cell 9
  have z15 := h.fz 15
  have z16 := h.fz 16
  simp only [Lk.c, List.getElem?_cons_succ, List.getElem?_cons_zero] at c15 c16 c9
  clear hF hl1 hl2
  rcases hrd : L.rd with _ | _
  · rw [hrd] at c15
    have C := cut_any L.text w (by omega)
    have hbl := h.lt
    have HAt := hid h
    have HE := hid he
    unfold CutIs at C
    have hhl : (L.text.take (hdr L.text)).length ≤ 1000000 := by rw [List.length_take]; omega
    have HH := hid hhl
    clear hf h he hhl
    go_enter Tryz.func35, Tryz.ntmps35
    go_wp2_with fail
    refine C.mono ?_
    rintro e w1 ⟨rfl, b1⟩
    have B1 := hid b1
    have A1 := hid (HAt.out.later b1)
    have C2 := fields_any (L.text.take (hdr L.text)) (HE.out.later b1) HH.out
    clear b1 C c15 c16 c9 z15 z16
    go_wp2_with fail
    refine C2.mono ?_
    rintro e w2 ⟨⟨v, rfl, ho⟩, b2⟩
    have A2 := A1.out.later b2
    have K2 := (Kept.ofBelow B1.out [b]).trans (Kept.ofBelow b2 [b]) (fun _ _ h => h)
    obtain ⟨fa, fc, rfl⟩ := ho.slice
    have A3 := A2.set16 (fa, ((fieldsP (L.text.take (hdr L.text))).map fR).length, fc)
    have A4 := A3.set15 true
    have o3 := ho.setOther (by decide : (48 : Nat) ≠ 108) A2 16 (sv (fa, ((fieldsP (L.text.take (hdr L.text))).map fR).length, fc))
    have o4 := o3.setOther (by decide : (48 : Nat) ≠ 108) A3 15 (.bool true)
    have c16 := A4.cell 16
    have z15 := A3.fz 15
    have z15' := A2.fz 15
    have z16 := A2.fz 16
    have y15 := A2.cell 15
    have y16 := A2.cell 16
    have y15' := A3.cell 15
    simp only [Lk.c, sv, List.getElem?_cons_succ, List.getElem?_cons_zero] at c16 y15 y16 y15' z15
    have K4 := kept_t (kept_t K2 (Kept.setCell [b] w2 ⟨b, 16, none⟩ (sv (fa, ((fieldsP (L.text.take (hdr L.text))).map fR).length, fc)) (by simp))) (Kept.setCell [b] _ ⟨b, 15, none⟩ (.bool true) (by simp))
    have E4 : Env ((w2.setCell ⟨b, 16, none⟩ (sv (fa, ((fieldsP (L.text.take (hdr L.text))).map fR).length, fc))).setCell ⟨b, 15, none⟩ (.bool true)) := by
      obtain ⟨m, hm⟩ := HE.out
      exact ⟨m, (World.cell?_of_block (K4.block 0 (by omega) (by simp; omega))).trans hm⟩
    rw [List.length_map] at *
    have HA4 := hid A4
    have HO4 := hid o4
    have HK4 := hid K4
    have HE4 := hid E4
    simp only [sv] at HA4 HO4 HK4 HE4 c16 z15 y15'
    clear A2 A3 A4 o3 o4 K2 K4 E4 ho b2 C2
    go_wp2_with fail
    obtain ⟨W, hW⟩ : ∃ W, (w2.setCell ⟨b, 16, none⟩ (.slice fa (fieldsP (L.text.take (hdr L.text))).length fc)).setCell ⟨b, 15, none⟩ (.bool true) = W := ⟨_, rfl⟩
    have hsz : W.heap.size = w2.heap.size := by rw [← hW]; simp [World.setCell]
    rw [hW] at HA4 HO4 HK4 HE4 ⊢
    clear hW
    have HF : Hid (RL W (.slice fa (fieldsP (L.text.take (hdr L.text))).length fc) 2 ((headL L.text).map fR)) := HO4.out.rl
    have bn : Below W.heap.size W (W.alloc (.cells (rc [[name]]).toArray 9)) := (Below.refl _ _).alloc (Nat.le_refl _) _
    have C := get_any (HE4.out.later bn) (HF.out.later bn) (names := [name]) (ra_lit W [[name]] 1 9 (nm1 name)) HL1.out (by simp) HL2.out (by simpa using hn)
    rw [hsz] at C
    have HBn := hid bn
    clear bn c16 y15 y16 y15' z15 z15' z16
    refine C.mono ?_
    rintro e w4 ⟨⟨u, rfl, ho⟩, b4⟩
    have B4 := hid (HBn.out.trans (b4.mono HBn.out.size))
    have HO := hid ho.rl
    have A5 := hid (HA4.out.later B4.out)
    have F5 := hid (HF.out.later B4.out)
    have K5 := hid (kept_t HK4.out (Kept.ofBelow B4.out [b]))
    clear b4 ho C
    go_wp2_with fail
    go_ret
    exact ⟨_, (fa, (fieldsP (L.text.take (hdr L.text))).length, fc), rfl, HO.out, A5.out, fun _ => F5.out, K5.out⟩
  · rw [hrd] at c15
    have hfs := hf hrd
    have HAt := hid h
    have HE := hid he
    have hw := h.lt
    have bn : Below w.heap.size w (w.alloc (.cells (rc [[name]]).toArray 9)) := (Below.refl _ _).alloc (Nat.le_refl _) _
    have C := get_any (he.later bn) (hfs.later bn) (names := [name]) (ra_lit w [[name]] 1 9 (nm1 name)) HL1.out (by simp) HL2.out (by simpa using hn)
    have HBn := hid bn
    clear hf h he bn
    go_enter Tryz.func35, Tryz.ntmps35
    go_wp2_with fail
    refine C.mono ?_
    rintro e w2 ⟨⟨u, rfl, ho⟩, b2⟩
    have B2 := hid (HBn.out.trans (b2.mono HBn.out.size))
    have HO := hid ho.rl
    have A2 := hid (HAt.out.later B2.out)
    have F2 := hid (hfs.later B2.out)
    clear b2 ho hfs C
    go_wp2_with fail
    go_ret
    have eL : { L with rd := true, fs := L.fs } = L := by rw [← hrd]
    refine ⟨_, L.fs, rfl, HO.out, ?_, ?_, Kept.ofBelow B2.out [b]⟩
    · rw [eL]; exact A2.out
    · rw [eL]; exact fun _ => F2.out
end Go.Proofs.YtaniljfjmbifnaaGreatDoor.H
