/- What this text holds: an address, parted at its last @. -/
import Derived.Test.YtemgpghjolpneaaGreatDoorM11
import Derived.WalkMore
import Derived.ScopeJumps
namespace Go.Proofs.YtemgpghjolpneaaGreatDoor
open Go.RowKit
set_option linter.unusedVariables false
set_option linter.unusedSimpArgs false

def adV (a : Ad) : Value := .agg #[.string (str a.1), .string (str a.2.1), .string (str a.2.2)]
theorem parted_none {name addr : Bs} (h : lastAt addr = none) : partedP name addr = (name, addr, []) := by unfold partedP; rw [h]
theorem parted_some {name addr : Bs} {k : Nat} (h : lastAt addr = some k) : partedP name addr = (name, addr.take k, addr.drop (k + 1)) := by unfold partedP; rw [h]
set_option maxRecDepth 100000 in
set_option maxHeartbeats 4000000 in
theorem parted_any (name addr : Bs) (w : World) (h1 : addr.length ≤ 10000000) :
    Calls Tryz.prog 51 #[.string (str name), .string (str addr)] w fun e w' => e = .returned (adV (partedP name addr)) ∧ Below w.heap.size w w' := by
  have hsz := str_size addr
  have C := fun W => Tryz.strings_LastIndexByte (str addr) 64 (by omega) W
  rw [lastIB addr (str addr) (str_data addr)] at C
  rcases hk : lastAt addr with _ | k
  · rw [hk] at C
    rw [parted_none hk]
    have HC := hid C
    clear C hk
    go_enter Tryz.func51, Tryz.ntmps51
    go_wp2_with fail
    refine (HC.out _).mono ?_
    rintro e w1 ⟨rfl, rfl⟩
    go_wp2_with fail
    exact bodyPost_ret (v := .agg #[.string (str name), .string (str addr), .string ⟨#[]⟩]) (by simp [results, Tryz.results51, go_sem]) rfl ⟨rfl, (Below.refl _ _).alloc (Nat.le_refl _) _⟩
  · have hlt := lastAt_some addr k hk
    rw [hk] at C
    rw [parted_some hk]
    have HC := hid C
    have HT := hid (take_str addr k)
    have HD : Hid ((str addr).extract (k + 1) addr.length = str (addr.drop (k + 1))) := by rw [Hid, ← str_size]; exact drop_str addr (k + 1)
    clear C hk
    go_enter Tryz.func51, Tryz.ntmps51
    go_wp2_with fail
    refine (HC.out _).mono ?_
    rintro e w1 ⟨rfl, rfl⟩
    go_wp2_with fail
    go_region
    go_wp2_with fail
    rw [HT.out, HD.out]
    exact bodyPost_ret (v := .agg #[.string (str name), .string (str (addr.take k)), .string (str (addr.drop (k + 1)))]) (by simp [results, Tryz.results51, go_sem]) rfl ⟨rfl, ((Below.refl _ _).alloc (Nat.le_refl _) _).trans (drewN_below _ 1 _)⟩

def stN : Pst → Bs
  | none => []
  | some p => p.1
def stA : Pst → Bs
  | none => []
  | some p => p.2
def stB : Pst → Bool
  | none => false
  | some _ => true
theorem parted_len (n a : Bs) : a.length ≤ 10000000 → True := fun _ => trivial
theorem Fr.rb {B b : Nat} {w w' : World} (h : Fr B b w w') {k : Nat} {X : Array Value} {T : TypeId} {fr : Nat × Nat} (hk : w.heap[k]? = some (.cells X T fr)) (hkb : k ≠ b) (hT : T ≠ 5) : w'.heap[k]? = some (.cells X T fr) :=
  h.kept k _ hk (fun e => hkb (Option.some.inj e)) (fun c fz e => by simp at e; exact hT e.2.1)
theorem trimA_len (d : Bs) : (trimA d).length ≤ d.length := trimS_len _ _
/-- What a piece leaves behind. -/
def PieceIs (B b : Nat) (l : Bs) (w : World) (e : Ending) (w' : World) : Prop := e = .returned (adV (adOf (pieP none [] l).1 (pieP none [] l).2.1)) ∧ RAt w' B b (pieP none [] l).2.2 [] ∧ Fr B b w w'
theorem adOf_is (st : Pst) (d : Bs) : adOf st d = partedP (stN st) (if stB st then stA st else trimA d) := by
  cases st <;> rfl

/-- How things stand behind a piece's bytes. -/
structure PEnd (w : World) (B b : Nat) (l : Bs) (st : Pst) (dd q : Bs) (wr : World) : Prop where
  at_ : RAt wr B b q dd
  fr : Fr B b w wr
  rb : wr.heap[w.heap.size]? = some (.cells #[.string ⟨#[]⟩, .string ⟨#[]⟩, .string ⟨#[]⟩] 42 (0, 0))
  is : pieP none [] l = (st, dd, q)
  la : (stA st).length ≤ l.length
  ld : dd.length ≤ l.length
theorem rb_cells {w : World} {k : Nat} (h : w.heap[k]? = some (.cells #[.string ⟨#[]⟩, .string ⟨#[]⟩, .string ⟨#[]⟩] 42 (0, 0))) : w.cell? ⟨k, 0, none⟩ = some (.string ⟨#[]⟩) ∧ w.cell? ⟨k, 1, none⟩ = some (.string ⟨#[]⟩) ∧ w.cell? ⟨k, 2, none⟩ = some (.string ⟨#[]⟩) ∧ ∀ o, w.frozen? ⟨k, o, none⟩ = false :=
  ⟨by simp [World.cell?, h], by simp [World.cell?, h], by simp [World.cell?, h], fun o => by simp [World.frozen?, h]⟩
theorem put3_heap {w : World} {k : Nat} {T : TypeId} {x y z : Value} (h : w.heap[k]? = some (.cells #[x, y, z] T (0, 0))) (a b c : Value) :
    (((w.setCell ⟨k, 0, none⟩ a).setCell ⟨k, 1, none⟩ b).setCell ⟨k, 2, none⟩ c).heap[k]? = some (.cells #[a, b, c] T (0, 0)) := by
  rw [heap_setCell_same _ _ _ _ _ _ (heap_setCell_same _ _ _ _ _ _ (heap_setCell_same _ _ _ _ _ _ h))]; rfl
theorem RAt.other {w : World} {B b : Nat} {l d : Bs} (h : RAt w B b l d) {k o : Nat} {X : Array Value} {T : TypeId} (hk : w.heap[k]? = some (.cells X T (0, 0))) (hT : T ≠ 5) (hne : k ≠ b) (u : Value) : RAt (w.setCell ⟨k, o, none⟩ u) B b l d := by
  obtain ⟨v, hc, ho⟩ := h.at_
  refine ⟨⟨v, ?_, ownsRow_setCell_other ho (own_ne hT hk ho) _⟩, h.base⟩
  rw [Below.heap_setCell _ _ _ _ (fun e => hne e.symm)]; exact hc
theorem Fr.setNew {B b : Nat} {w W : World} (h : Fr B b w W) {k o : Nat} (hk : w.heap.size ≤ k) (hB : B ≤ k) (u : Value) : Fr B b w (W.setCell ⟨k, o, none⟩ u) :=
  ⟨h.below.setCell hB _, fun i x hi hb hx => by
    have := h.kept i x hi hb hx
    rw [Below.heap_setCell _ _ _ _ (fun e => by have := lt_of_some hi; have e : i = k := e; omega)]
    exact this⟩
theorem set1_heap {w : World} {k : Nat} {X : Array Value} {T : TypeId} (h : w.heap[k]? = some (.cells X T (0, 0))) (o : Nat) (u : Value) : ∃ Y, (w.setCell ⟨k, o, none⟩ u).heap[k]? = some (.cells Y T (0, 0)) := ⟨_, heap_setCell_same _ _ _ _ _ _ h⟩
set_option maxRecDepth 100000 in
theorem piece_end {w w2 : World} {B b : Nat} {l q : Bs} {pa : Ad} {a : Act} (hr : RAt w2 B b q []) (hf : Fr B b w w2) (hk : w2.heap[w.heap.size]? = some (.cells #[.string ⟨#[]⟩, .string ⟨#[]⟩, .string ⟨#[]⟩] 42 (0, 0))) (hne : w.heap.size ≠ b) (hB : B ≤ b) (hbl : b < w.heap.size) (had : adOf (pieP none [] l).1 (pieP none [] l).2.1 = pa) (hq : (pieP none [] l).2.2 = q) {J : Act → World → Prop}
    (ha : a.tmps[2]? = some (.pointer (some ⟨w.heap.size, 0, none⟩))) (hd : a.defers = []) :
    Exit.jump 0 J (bodyPost Tryz.prog Tryz.f31 (PieceIs B b l w)) Exit.ret a (((w2.setCell ⟨w.heap.size, 0, none⟩ (.string (str pa.1))).setCell ⟨w.heap.size, 1, none⟩ (.string (str pa.2.1))).setCell ⟨w.heap.size, 2, none⟩ (.string (str pa.2.2))) := by
  have h3 := put3_heap hk (.string (str pa.1)) (.string (str pa.2.1)) (.string (str pa.2.2))
  have HP : PieceIs B b l w (.returned (adV pa)) (((w2.setCell ⟨w.heap.size, 0, none⟩ (.string (str pa.1))).setCell ⟨w.heap.size, 1, none⟩ (.string (str pa.2.1))).setCell ⟨w.heap.size, 2, none⟩ (.string (str pa.2.2))) := by
    obtain ⟨Y1, y1⟩ := set1_heap hk 0 (.string (str pa.1))
    obtain ⟨Y2, y2⟩ := set1_heap y1 1 (.string (str pa.2.1))
    refine ⟨by rw [had], ?_, ((hf.setNew (Nat.le_refl _) (by omega) _).setNew (Nat.le_refl _) (by omega) _).setNew (Nat.le_refl _) (by omega) _⟩
    rw [hq]
    exact ((hr.other hk (by decide) hne _).other y1 (by decide) hne _).other y2 (by decide) hne _
  generalize ((w2.setCell ⟨w.heap.size, 0, none⟩ (.string (str pa.1))).setCell ⟨w.heap.size, 1, none⟩ (.string (str pa.2.1))).setCell ⟨w.heap.size, 2, none⟩ (.string (str pa.2.2)) = W at *
  have c0 : W.cell? ⟨w.heap.size, 0, none⟩ = some (.string (str pa.1)) := by simp [World.cell?, h3]
  have c1 : W.cell? ⟨w.heap.size, 1, none⟩ = some (.string (str pa.2.1)) := by simp [World.cell?, h3]
  have c2 : W.cell? ⟨w.heap.size, 2, none⟩ = some (.string (str pa.2.2)) := by simp [World.cell?, h3]
  obtain ⟨T, D⟩ := a
  simp only at ha hd
  subst hd
  have hg : T.getD 2 undef = .pointer (some ⟨w.heap.size, 0, none⟩) := by rw [Array.getD_eq_getD_getElem?, ha]; rfl
  exact bodyPost_ret (v := adV pa) (by simp [results, Tryz.results31, go_sem, ha, c0, c1, c2, adV]) rfl HP
theorem stA_get (st : Pst) (p : Bs × Bs) : stA (some (st.getD p)) = if stB st then stA st else p.2 := by cases st <;> rfl
theorem stN_get (st : Pst) (p : Bs × Bs) : stN (some (st.getD p)) = if stB st then stN st else p.1 := by cases st <;> rfl
theorem stB_some (p : Bs × Bs) : stB (some p) = true := rfl

set_option maxRecDepth 100000 in
set_option maxHeartbeats 8000000 in
theorem piece_any {w : World} {B b : Nat} {l : Bs} (h : RAt w B b l []) (hl : l.length ≤ 400000) :
    Calls Tryz.prog 31 #[.pointer (some ⟨b, 0, none⟩)] w (PieceIs B b l w) := by
  have hal : Below w.heap.size w (w.alloc (.cells #[.string ⟨#[]⟩, .string ⟨#[]⟩, .string ⟨#[]⟩] 42)) := (Below.refl _ _).alloc (Nat.le_refl _) _
  have hbl := h.lt
  have H0 := hid (h.later hal)
  have HF0 := hid (Fr.of (b := b) hal h.base_le)
  have HK0 : Hid ((w.alloc (.cells #[.string ⟨#[]⟩, .string ⟨#[]⟩, .string ⟨#[]⟩] 42)).heap[w.heap.size]? = some (.cells #[.string ⟨#[]⟩, .string ⟨#[]⟩, .string ⟨#[]⟩] 42 (0, 0))) := heap_alloc_new _ _
  have HNe : Hid (w.heap.size ≠ b) := by unfold Hid; omega
  have hB := h.base
  clear h hal
  go_enter Tryz.func31, Tryz.ntmps31
  go_wp2_with fail
  refine wp_scope_jumps 0 (fun a' wr => ∃ (st : Pst) (dd q : Bs) (u1 u6 u7 u8 u9 u10 u11 u12 u13 u14 u15 u16 u17 u18 u19 u20 u21 u22 u23 u24 u25 u26 u27 u28 u29 u30 u31 u32 u33 u34 u35 u36 u37 u38 u39 u40 u41 u42 u43 u44 u45 u46 u47 u48 u49 u50 u51 u52 u53 u54 : Value), a' = { tmps := #[.pointer (some ⟨b, 0, none⟩), u1, .pointer (some ⟨w.heap.size, 0, none⟩), .string (str (stN st)), .string (str (stA st)), .bool (stB st), u6, u7, u8, u9, u10, u11, u12, u13, u14, u15, u16, u17, u18, u19, u20, u21, u22, u23, u24, u25, u26, u27, u28, u29, u30, u31, u32, u33, u34, u35, u36, u37, u38, u39, u40, u41, u42, u43, u44, u45, u46, u47, u48, u49, u50, u51, u52, u53, u54], defers := [] } ∧ PEnd w B b l st dd q wr) (fun _ _ => 0) rfl ?_ ?_
  · go_wp2_with fail
    go_loopw [3, 4, 5] (fun nm ad an wr => ∃ (st : Pst) (dd q : Bs), nm = .string (str (stN st)) ∧ ad = .string (str (stA st)) ∧ an = .bool (stB st) ∧ RAt wr B b q dd ∧ Fr B b w wr ∧ wr.heap[w.heap.size]? = some (.cells #[.string ⟨#[]⟩, .string ⟨#[]⟩, .string ⟨#[]⟩] 42 (0, 0)) ∧ pieP st dd q = pieP none [] l ∧ dd.length + q.length ≤ l.length ∧ (stA st).length ≤ l.length) (fun _ _ _ wr => leftN b wr)
    case atStart => exact ⟨none, [], l, rfl, rfl, rfl, H0.out, HF0.out, HK0.out, rfl, by simp, by simp [stA]⟩
    case round =>
      obtain ⟨st, dd, q, rfl, rfl, rfl, hr, hf, hk, he, hn, hsa⟩ := hrel
      have HR := hid hr
      have HF := hid hf
      have HK := hid hk
      have HE := hid he
      have HM := hid hr.leftN
      clear hr hf hk he H0 HF0 HK0
      cases q with
      | nil =>
        have HP : Hid (PEnd w B b l st dd [] wr) := ⟨HR.out, HF.out, HK.out, by rw [← HE.out, pieP_nil], hsa, by omega⟩
        go_wp2_with fail
        refine HR.out.next_no.mono ?_
        rintro e w1 ⟨rfl, rfl⟩
        go_wp2_with fail
        go_step3
        exact ⟨rfl, st, dd, [], _, _, _, _, _, _, _, _, _, _, _, _, _, _, _, _, _, _, _, _, _, _, _, _, _, _, _, _, _, _, _, _, _, _, _, _, _, _, _, _, _, _, _, _, _, _, _, _, _, _, rfl, HP.out⟩
      | cons c t =>
        simp only [List.length_cons] at hn HM
        have HNx := hid (HR.out.next_yes (by omega))
        by_cases h1 : c = 44
        · have e1 : (c.toNat : Int) = 44 := c_eq h1
          have HP : Hid (pieP none [] l = (st, dd, t)) := by rw [Hid, ← HE.out, h1, pieP_comma]
          clear h1
          go_wp2_with fail
          refine HNx.out.mono ?_
          rintro e w1 ⟨rfl, h, f⟩
          have HQ : Hid (PEnd w B b l st dd t w1) := ⟨h, HF.out.trans f, f.rb HK.out HNe.out (by decide), HP.out, hsa, by omega⟩
          clear h f
          go_wp2_with fail
          go_step3
          exact ⟨rfl, st, dd, t, _, _, _, _, _, _, _, _, _, _, _, _, _, _, _, _, _, _, _, _, _, _, _, _, _, _, _, _, _, _, _, _, _, _, _, _, _, _, _, _, _, _, _, _, _, _, _, _, _, _, rfl, HQ.out⟩
        · have e1 : ¬ (c.toNat : Int) = 44 := c_ne h1
          by_cases h2 : c = 60
          · have e2 : (c.toNat : Int) = 60 := c_eq h2
            have HX : Hid (pieP st dd (c :: t) = pieP (some (st.getD (trimA dd, trimA (angP t).1))) [] (angP t).2) := by rw [Hid, h2, pieP_angle]
            have hal := angP_len _ t (Nat.le_refl _)
            have htl := trimA_len (angP t).1
            have HSA := hid (stA_get st (trimA dd, trimA (angP t).1))
            have HSN := hid (stN_get st (trimA dd, trimA (angP t).1))
            clear h1 h2
            go_wp2_with fail
            refine HNx.out.mono ?_
            rintro e w1 ⟨rfl, h, f⟩
            have HR1 := hid h
            have HF1 := hid (HF.out.trans f)
            have HK1 := hid (f.rb HK.out HNe.out (by decide))
            clear h f
            go_wp2_with fail
            refine (take_any HR1.out (by omega)).mono ?_
            rintro e w2 ⟨rfl, h, f⟩
            have HR2 := hid h
            have HF2 := hid (HF1.out.trans f)
            have HK2 := hid (f.rb HK1.out HNe.out (by decide))
            clear h f
            go_wp2_with fail
            refine (angle_any HR2.out (by omega) (by simp)).mono ?_
            rintro e w3 ⟨rfl, h, f⟩
            rw [List.nil_append] at h
            have HR3 := hid h
            have HF3 := hid (HF2.out.trans f)
            have HK3 := hid (f.rb HK2.out HNe.out (by decide))
            clear h f
            go_wp2_with fail
            refine (take_any HR3.out (by omega)).mono ?_
            rintro e w4 ⟨rfl, h, f⟩
            have HR4 := hid h
            have HF4 := hid (HF3.out.trans f)
            have HK4 := hid (f.rb HK3.out HNe.out (by decide))
            clear h f
            cases st with
            | none =>
              go_wp2_with fail
              go_roundw
              case rel => exact ⟨some (trimA dd, trimA (angP t).1), [], (angP t).2, rfl, rfl, rfl, HR4.out, HF4.out, HK4.out, by rw [← HE.out, HX.out]; rfl, by simp; omega, by show (trimA (angP t).1).length ≤ _; omega⟩
              case measure => rw [HM.out, HR4.out.leftN]; omega
            | some p =>
              go_wp2_with fail
              go_roundw
              case rel => exact ⟨some p, [], (angP t).2, rfl, rfl, rfl, HR4.out, HF4.out, HK4.out, by rw [← HE.out, HX.out]; rfl, by simp; omega, hsa⟩
              case measure => rw [HM.out, HR4.out.leftN]; omega
          · have e2 : ¬ (c.toNat : Int) = 60 := c_ne h2
            have HX := hid (pieP_step st dd c t h1 h2)
            have hpl := parP_len c t
            have hpt := parP_lt c t
            clear h1 h2
            go_wp2_with fail
            refine HNx.out.mono ?_
            rintro e w1 ⟨rfl, h, f⟩
            have HR1 := hid h
            have HF1 := hid (HF.out.trans f)
            have HK1 := hid (f.rb HK.out HNe.out (by decide))
            clear h f
            go_wp2_with fail
            refine (part_any HR1.out c (by omega) (by omega)).mono ?_
            rintro e w2 ⟨rfl, h, f⟩
            have HR2 := hid h
            have HF2 := hid (HF1.out.trans f)
            have HK2 := hid (f.rb HK1.out HNe.out (by decide))
            clear h f
            go_wp2_with fail
            go_roundw
            case rel => exact ⟨st, dd ++ (parP c t).1, (parP c t).2, rfl, rfl, rfl, HR2.out, HF2.out, HK2.out, by rw [← HE.out, HX.out], by simp; omega, hsa⟩
            case measure => rw [HM.out, HR2.out.leftN]; omega
  · rintro a' wr ⟨st, dd, q, u1, u6, u7, u8, u9, u10, u11, u12, u13, u14, u15, u16, u17, u18, u19, u20, u21, u22, u23, u24, u25, u26, u27, u28, u29, u30, u31, u32, u33, u34, u35, u36, u37, u38, u39, u40, u41, u42, u43, u44, u45, u46, u47, u48, u49, u50, u51, u52, u53, u54, rfl, hp⟩
    have HT := hid (take_any hp.at_ (by have := hp.ld; omega))
    have HFr := hid hp.fr
    have HRb := hid hp.rb
    have HIs := hid hp.is
    have hla := hp.la
    have htl := trimA_len dd
    have hld := hp.ld
    clear hp
    cases st with
    | none =>
      have HAd : Hid (adOf (pieP none [] l).1 (pieP none [] l).2.1 = partedP [] (trimA dd)) := by rw [Hid, HIs.out]; rfl
      have hsb : stB (none) = false := rfl
      go_wp2_with fail
      refine HT.out.mono ?_
      rintro e w1 ⟨rfl, h, f⟩
      have HR1 := hid h
      have HF1 := hid (HFr.out.trans f)
      have HK1 := hid (f.rb HRb.out HNe.out (by decide))
      clear h f
      go_wp2_with fail
      refine (parted_any [] (trimA dd) w1 (by omega)).mono ?_
      rintro e w2 ⟨rfl, hb2⟩
      have HR2 := hid (HR1.out.later hb2)
      have HF2 := hid (HF1.out.trans (Fr.of hb2 HR1.out.base_le))
      have HK2 := hid ((hb2.block _ (lt_of_some HK1.out)).trans HK1.out)
      clear hb2
      obtain ⟨c0, c1, c2, fz⟩ := rb_cells HK2.out
      have f0 := fz 0
      have f1 := fz 1
      have f2 := fz 2
      clear fz
      unfold adV
      generalize partedP [] (trimA dd) = pa at *
      go_wp2_with fail
      exact piece_end HR2.out HF2.out HK2.out HNe.out hB hbl HAd.out (by rw [HIs.out]) rfl rfl
    | some p =>
      have HAd : Hid (adOf (pieP none [] l).1 (pieP none [] l).2.1 = partedP p.1 p.2) := by rw [Hid, HIs.out]; rfl
      have hsb : stB (some p) = true := rfl
      go_wp2_with fail
      refine HT.out.mono ?_
      rintro e w1 ⟨rfl, h, f⟩
      have HR1 := hid h
      have HF1 := hid (HFr.out.trans f)
      have HK1 := hid (f.rb HRb.out HNe.out (by decide))
      clear h f
      go_wp2_with fail
      refine (parted_any p.1 p.2 w1 (by exact Nat.le_trans hla (by omega))).mono ?_
      rintro e w2 ⟨rfl, hb2⟩
      have HR2 := hid (HR1.out.later hb2)
      have HF2 := hid (HF1.out.trans (Fr.of hb2 HR1.out.base_le))
      have HK2 := hid ((hb2.block _ (lt_of_some HK1.out)).trans HK1.out)
      clear hb2
      obtain ⟨c0, c1, c2, fz⟩ := rb_cells HK2.out
      have f0 := fz 0
      have f1 := fz 1
      have f2 := fz 2
      clear fz
      unfold adV
      generalize partedP p.1 p.2 = pa at *
      go_wp2_with fail
      exact piece_end HR2.out HF2.out HK2.out HNe.out hB hbl HAd.out (by rw [HIs.out]) rfl rfl
end Go.Proofs.YtemgpghjolpneaaGreatDoor
