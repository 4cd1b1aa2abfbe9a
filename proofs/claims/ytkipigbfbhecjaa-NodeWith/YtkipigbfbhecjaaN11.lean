/- What this text holds: a node's content, as the program lays it. -/
import Derived.Test.YtkipigbfbhecjaaN10
namespace Go.Proofs.Ytkipigbfbhecjaa
open Go.RowKit
set_option linter.unusedVariables false
set_option linter.unusedSimpArgs false

theorem wpList_append_run {ops : Array Oper} {rest : List Oper} {Q : Exit → Act → World → Prop} {a : Act} {x y : Operand} {u s : Value} {w w' : World} {v : Value} {d : Option Tmp} {t t2 ty : Nat} {pos : String} {af : Array Edge} (hx : a.eval x = u) (hy : a.eval y = s)
    (hrun : (Builtin.append_ #[t, t2] ty #[u, s]).run Try.prog w = .ok v w') (h : wpList Try.prog ops Q rest (a.put d v) w') : wpList Try.prog ops Q (⟨d, .call { callee := .builtin .append, args := #[x, y], argTypes := #[t, t2] }, ty, pos, af, none⟩ :: rest) a w := by
  refine wpList_plain rfl fun K hK => ?_
  unfold Oper.wp
  rw [exec_append hx hy hrun]
  exact hK _ _ h

set_option maxRecDepth 100000 in
set_option maxHeartbeats 1000000 in
theorem text_any {w : World} {B b : Nat} {l : List Int} (h : StAt w B b l) (hBw : B ≤ w.heap.size) (hl : l.length ≤ 99999000) (s : ByteArray) (hs : s.size ≤ 255) :
    Calls Try.prog 61 #[.pointer (some ⟨b, 0, none⟩), .string s] w fun e w' => e = .returned (.tuple #[]) ∧ StAt w' B b (l ++ (numB 1 s.size ++ bOf s)) ∧ Below B w w' ∧ Oth b w w' := by
  have HC := hid (number_any h hBw (by omega) 1 (by omega) (s.size : Int))
  have HBw := hid hBw
  clear h hBw
  go_enter Try.func61, Try.ntmps61
  go_wp2_with fail
  refine HC.out.mono ?_
  rintro e w1 ⟨rfl, hst, hb, hot⟩
  obtain ⟨v, v', w', hc, hrun, ⟨sa, sn, sc, rfl⟩, hc3, hf3, hst3, hb3, ho3⟩ := st_string hst (Nat.le_trans HBw.out hb.size) s (by rw [List.length_append, numB_length]; omega) (by omega)
  rw [List.append_assoc] at hst3
  have HS3 := hid hst3
  have HB3 := hid (hb.trans hb3)
  have HO3 := hid (hot.trans ho3)
  have HR := hid hrun
  clear hst hb hst3 hb3 HC hrun hot ho3
  go_wp2_with (at_builtin; refine wpList_append_run rfl rfl HR.out ?_)
  go_end0
  exact ⟨rfl, HS3.out, HB3.out, HO3.out⟩

theorem StAt.alloc {w : World} {B b : Nat} {l : List Int} (h : StAt w B b l) (o : Obj) : StAt (w.alloc o) B b l := by
  obtain ⟨v, hb, ho, hB⟩ := h
  have hlt : b < w.heap.size := by
    have := hb
    rw [Array.getElem?_eq_some_iff] at this
    exact this.1
  exact ⟨v, by rw [Below.heap_alloc _ _ _ hlt]; exact hb, World.ownsRow.alloc ho _, hB⟩
theorem box3 {w wr : World} {x0 x1 x2 : Value} {t : TypeId} (hb : Below (w.alloc (.cells #[x0, x1, x2] t)).heap.size (w.alloc (.cells #[x0, x1, x2] t)) wr) :
    wr.cell? ⟨w.heap.size, 0, none⟩ = some x0 ∧ wr.cell? ⟨w.heap.size, 1, none⟩ = some x1 ∧ wr.cell? ⟨w.heap.size, 2, none⟩ = some x2 := by
  have hh := heap_alloc_new w (.cells #[x0, x1, x2] t)
  refine ⟨?_, ?_, ?_⟩ <;> refine cell_later hb ?_ <;> simp only [World.cell?, hh] <;> rfl

theorem Oth.drew {b : Nat} {w w' : World} (h : Oth b w.drew w') : Oth b w w' := h
theorem item_cells {w : World} {C : Nat} {s : ByteArray} {p z : Int} (h : w.heap[C]? = some (.cells #[.string s, .int .i64 p, .int .i64 z] 51 (0, 0))) :
    w.cell? ⟨C, 0, none⟩ = some (.string s) ∧ w.cell? ⟨C, 1, none⟩ = some (.int .i64 p) ∧ w.cell? ⟨C, 2, none⟩ = some (.int .i64 z) := by
  simp only [World.cell?, h]; exact ⟨rfl, rfl, rfl⟩

set_option maxRecDepth 100000 in
set_option maxHeartbeats 1000000 in
theorem ditem_any {w : World} {B b : Nat} {l : List Int} (h : StAt w B b l) (hBw : B ≤ w.heap.size) (hl : l.length ≤ 99998000) (x : It) (hx : x.val.size ≤ 255) :
    Calls Try.prog 62 #[.pointer (some ⟨b, 0, none⟩), itv x] w fun e w' => e = .returned (.tuple #[]) ∧ StAt w' B b (l ++ itemL x) ∧ Below B w w' := by
  obtain ⟨s, p, z⟩ := x
  unfold itv itemL
  simp only at hx ⊢
  have hbC : b ≠ w.heap.size := by
    obtain ⟨v, hb, _⟩ := h
    rw [Array.getElem?_eq_some_iff] at hb
    exact Nat.ne_of_lt hb.1
  have HS := hid (h.alloc (.cells #[.string s, .int .i64 p, .int .i64 z] 51))
  have HB := hid ((Below.refl B w).alloc hBw (.cells #[.string s, .int .i64 p, .int .i64 z] 51))
  have HX := hid (heap_alloc_new w (.cells #[.string s, .int .i64 p, .int .i64 z] 51))
  have HBw := hid hBw
  clear h hBw
  by_cases h0 : p = 0
  · subst h0
    go_enter Try.func62, Try.ntmps62
    go_wp2_with fail
    generalize w.alloc (.cells #[.string s, .int .i64 0, .int .i64 z] 51) = W at HS HB HX ⊢
    have hB : B ≤ W.heap.size := Nat.le_trans HBw.out HB.out.size
    generalize w.heap.size = C at HX hbC ⊢
    obtain ⟨x0, x1, x2⟩ := item_cells HX.out
    go_region_held3 (fun w' => w'.cell? ⟨C, 0, none⟩ = some (.string s)) (first | exact x0 | exact (item_cells hx1).1) (first | (go_at_call 61; refine (text_any HS.out.drew hB (by omega) s hx).mono ?_; rintro e w1 ⟨rfl, hst, hb, hot⟩; have hx1 := hot _ _ _ _ (Ne.symm hbC) (by decide) HX.out))
    have HS1 := hid hst
    have HB1 := hid (HB.out.drew.trans hb)
    clear hst hb hot hx1 x0 x1 x2
    go_wp2_with fail
    refine bodyPost_ret (results_none rfl _ _ _) rfl ?_
    exact ⟨rfl, by simpa using HS1.out, HB1.out⟩
  · have HP := hid h0
    have hp : (p == 0) = false := beq_eq_false_iff_ne.2 h0
    clear h0
    go_enter Try.func62, Try.ntmps62
    go_wp2_with fail
    generalize w.alloc (.cells #[.string s, .int .i64 p, .int .i64 z] 51) = W at HS HB HX ⊢
    have hB : B ≤ W.heap.size := Nat.le_trans HBw.out HB.out.size
    generalize w.heap.size = C at HX hbC ⊢
    refine (number_any HS.out hB (by omega) 1 (by omega) 255).mono ?_
    rintro e w1 ⟨rfl, hst, hb, hot⟩
    have HS1 := hid hst
    have HB1 := hid (HB.out.trans hb)
    have HX1 := hid (hot _ _ _ _ (Ne.symm hbC) (by decide) HX.out)
    have hB1 : B ≤ w1.heap.size := Nat.le_trans HBw.out HB1.out.size
    clear hst hb hot HX HB HS
    obtain ⟨x0, x1, x2⟩ := item_cells HX1.out
    go_wp2_with fail
    go_region_held3 (fun w' => w'.cell? ⟨C, 1, none⟩ = some (.int .i64 p)) (first | exact x1 | exact (item_cells hx1).2.1) (first | (go_at_call 60; refine (number_any HS1.out.drew hB1 (by rw [List.length_append, numB_length]; omega) 4 (by omega) p).mono ?_; rintro e w2 ⟨rfl, hst, hb, hot⟩; have hx1 := hot _ _ _ _ (Ne.symm hbC) (by decide) HX1.out))
    have HS2 := hid hst
    have HB2 := hid (HB1.out.drew.trans hb)
    have HX2 := hid hx1
    have hB2 : B ≤ w2.heap.size := Nat.le_trans HBw.out HB2.out.size
    clear hst hb hot hx1 x0 x1 x2 HX1 HB1 HS1
    rename_i hSwd
    clear hSwd
    obtain ⟨x0, x1, x2⟩ := item_cells HX2.out
    go_wp2_with fail
    go_region_held3 (fun w' => w'.cell? ⟨C, 2, none⟩ = some (.int .i64 z)) (first | exact x2 | exact (item_cells hx1).2.2) (first | (go_at_call 60; refine (number_any HS2.out.drew hB2 (by rw [List.length_append, List.length_append, numB_length, numB_length]; omega) 4 (by omega) z).mono ?_; rintro e w3 ⟨rfl, hst, hb, hot⟩; have hx1 := hot _ _ _ _ (Ne.symm hbC) (by decide) HX2.out))
    have HS3 := hid hst
    have HB3 := hid (HB2.out.drew.trans hb)
    clear hst hb hot hx1 x0 x1 x2
    go_wp2_with fail
    go_end0
    refine ⟨rfl, ?_, HB3.out⟩
    have h3 := HS3.out
    rw [List.append_assoc, List.append_assoc] at h3
    simpa [HP.out] using h3

theorem alloc82 (w : World) : StAt (w.alloc (.cells #[.slice none 0 0] 82)) w.heap.size w.heap.size [] :=
  ⟨_, heap_alloc_new w _, World.ownsRow_nil _ _ _ _, Nat.le_refl _⟩
theorem st_conv {w : World} {B b : Nat} {l : List Int} (h : StAt w B b l) : ∃ v, w.cell? ⟨b, 0, none⟩ = some v ∧ (convert 78 9 v).run Try.prog w = .ok (.string (strOf l)) w := by
  obtain ⟨v, hb, ho, hB⟩ := h
  refine ⟨v, by simp [World.cell?, hb], ?_⟩
  rcases ho.2 with ⟨h1, h2⟩ | ⟨g, cap, cur, h1, _⟩
  · subst h1
    obtain rfl : l = [] := List.eq_nil_of_length_eq_zero h2
    exact conv_bytes (l := []) (fun j x hx => by simp at hx) rfl
  · subst h1
    exact conv_bytes (fun j x hx => ⟨_, rfl, cells_of_owned ho j _ (by rw [bc, List.getElem?_map, hx, Option.map_some])⟩) rfl

set_option maxRecDepth 100000 in
set_option maxHeartbeats 2000000 in
theorem content_any {w : World} {v : Value} {n : Nd} (h : NAt w v n) (sm : n.small) (r : Ri n) : Calls Try.prog 38 #[v] w fun e w' => e = .returned (.string (strOf (contentL n))) ∧ Below w.heap.size w w' := by
  obtain ⟨ka, kp, ia, ep, da, dp, rfl, hk, hI, hd, ⟨k1, k2⟩, ⟨i1, i2⟩, ⟨d1, d2⟩⟩ := h.at_
  have hk7 := sm.k
  have hi7 := sm.i
  have hd7 := sm.d
  have HR := hid r
  unfold maxLen at k2 i2 d2
  have HB0 := hid (below_box w (.cells #[.bool n.leaf, .slice ka n.keys.length kp, .slice ia n.items.length ep, .slice da n.kids.length dp] 26))
  have HX := hid (@box4 w _ _ _ _ _ _ (Below.refl (w.alloc (.cells #[.bool n.leaf, .slice ka n.keys.length kp, .slice ia n.items.length ep, .slice da n.kids.length dp] 26)).heap.size _))
  have HK := hid (hk.later HB0.out)
  have HI := hid (hI.later HB0.out)
  have HD := hid (hd.later HB0.out)
  have hsz : (w.alloc (.cells #[.bool n.leaf, .slice ka n.keys.length kp, .slice ia n.items.length ep, .slice da n.kids.length dp] 26)).heap.size = w.heap.size + 1 := by simp
  have HST := hid (alloc82 (w.alloc (.cells #[.bool n.leaf, .slice ka n.keys.length kp, .slice ia n.items.length ep, .slice da n.kids.length dp] 26)))
  have HBA := hid (below_box (w.alloc (.cells #[.bool n.leaf, .slice ka n.keys.length kp, .slice ia n.items.length ep, .slice da n.kids.length dp] 26)) (.cells #[.slice none 0 0] 82))
  clear hk hI hd h sm r
  unfold nv
  go_enter Try.func38, Try.ntmps38
  go_wp2_with fail
  generalize (w.alloc (.cells #[.bool n.leaf, .slice ka n.keys.length kp, .slice ia n.items.length ep, .slice da n.kids.length dp] 26)).alloc (.cells #[.slice none 0 0] 82) = V at HST HBA ⊢
  generalize w.alloc (.cells #[.bool n.leaf, .slice ka n.keys.length kp, .slice ia n.items.length ep, .slice da n.kids.length dp] 26) = W at HB0 HX HK HI HD HST HBA hsz ⊢
  have hB : w.heap.size ≤ W.heap.size := HB0.out.size
  rw [hsz] at HST HBA
  generalize hS1 : w.heap.size + 1 = S1 at hsz HST HBA ⊢
  have HS1 := hid hsz
  have hVs : S1 ≤ V.heap.size := by have := HBA.out.size; omega
  generalize hBe : w.heap.size = B at HB0 HX hB hS1 ⊢
  have HC := hid (number_any HST.out hVs (by simp) 2 (by omega) (n.keys.length : Int))
  refine HC.out.mono ?_
  rintro e w1 ⟨rfl, hst1, hb1, _⟩
  have HST1 := hid hst1
  have HB1 := hid (HBA.out.trans hb1)
  have hBs1 : S1 ≤ w1.heap.size := Nat.le_trans hVs hb1.size
  clear hst1 hb1 HC
  obtain ⟨x0, x1, x2, x3⟩ := HX.out
  have hb := HB1.out
  rw [← HS1.out] at hb
  have c0 := cell_later hb x0
  have c1 := cell_later hb x1
  have c3 := cell_later hb x3
  cases hl : n.leaf with
  | true =>
    have HL := hid hl
    have HR1 := hid (HR.out.leaf hl).1
    rw [hl] at c0 HX
    have hh : [] ++ numB 2 n.keys.length = headL n ++ partsL n 0 := by unfold headL partsL; rw [hl]; simp
    rw [hh] at HST1
    clear hl hb x0 x1 x2 x3 hh
    generalize hkn : n.keys.length = kn at HX hk7 k1 HR1 c1 ⊢
    generalize hen : n.items.length = en at HX hi7 i1 HR1 ⊢
    generalize hdn : n.kids.length = dn at HX hd7 d1 c3 ⊢
    have HEn := hid hen
    have HKn := hid hkn
    clear hkn hen hdn
    go_wp2_with fail
    go_loopw [23] (fun i wr => ∃ k : Nat, k ≤ kn ∧ i = .int .i64 k ∧ StAt wr S1 S1 (headL n ++ partsL n k) ∧ Below S1 W wr) (fun i _ => kn - (intOf i).toNat)
    case atStart => exact ⟨0, by omega, rfl, HST1.out, HB1.out⟩
    case round =>
      clear HB1 HST1
      obtain ⟨k, hk, rfl, hst, hb⟩ := hrel
      have HBr := hid hb
      have HST := hid hst
      obtain ⟨x0, x1, x2, x3⟩ := HX.out
      rw [← HS1.out] at hb
      clear c0 c1 c3
      have c0 := cell_later hb x0
      have c1 := cell_later hb x1
      have c2 := cell_later hb x2
      have c3 := cell_later hb x3
      clear hst
      have hBr : S1 ≤ wr.heap.size := by have := hb.size; rw [HS1.out] at this; exact this
      by_cases hlt : k < kn
      · have hlk : k < n.keys.length := by rw [HKn.out]; exact hlt
        obtain ⟨kb, ko, rfl, hc⟩ := (HK.out.later hb).key k hlk
        rw [← n.key_at k hlk] at hc
        have hs := HR.out.key_size k hlk
        have hz : (headL n ++ partsL n k).length ≤ 6 + 122 * k := HR.out.sizeN_le k (by omega)
        have HE := hid (show headL n ++ partsL n (k + 1) = headL n ++ partsL n k ++ (numB 1 (n.key k).size ++ bOf (n.key k)) ++ (itemL (n.item k)) by
          show headL n ++ (partsL n k ++ partL n k) = _
          unfold partL; rw [HL.out]; simp)
        generalize n.key k = s at hc hs HE
        generalize headL n ++ partsL n k = L at HST hz HE
        have HT := hid (text_any HST.out hBr (by omega) s (by omega))
        clear hb
        go_wp2_with fail
        refine HT.out.mono ?_
        rintro e w4 ⟨rfl, hst4, hb4, _⟩
        have HST4 := hid hst4
        have HB4 := hid (HBr.out.trans hb4)
        have hb := HB4.out
        rw [← HS1.out] at hb
        clear c0 c1 c2 c3 hc hst4 hb4 HT
        have c0 := cell_later hb x0
        have c2 := cell_later hb x2
        have c3 := cell_later hb x3
        have hB4 : S1 ≤ w4.heap.size := by have := hb.size; rw [HS1.out] at this; exact this
        have hlI : k < n.items.length := by rw [HEn.out, HR1.out]; exact hlt
        obtain ⟨ib, io, rfl, ci0, ci1, ci2⟩ := (HI.out.later hb).item k hlI
        rw [← n.item_at k hlI] at ci0 ci1 ci2
        have hok := HR.out.item_ok HL.out k hlk
        have hv : (n.item k).val.size ≤ 255 := by
          by_cases h0 : (n.item k).page = 0
          · have := (itemOk_zero hok h0).2; omega
          · have := (itemOk_page hok h0).2.1
            have e : (n.item k).val.size = 0 := by
              have e2 := congrArg List.length this
              rw [ba_toList] at e2
              exact e2
            omega
        generalize n.item k = x at ci0 ci1 ci2 hok hv HE
        have hken : k < en := by have := HR1.out; omega
        have HT := hid (ditem_any HST4.out hB4 (by simp only [List.length_append, numB_length, bOf_length]; omega) x hv)
        clear hb x0 x1 x2 x3
        go_wp2_with fail
        refine HT.out.mono ?_
        rintro e w5 ⟨rfl, hst5, hb5⟩
        have hst5' := hst5
        clear ci0 ci1 ci2 HT
        have HB5 := hid (HB4.out.trans hb5)
        clear hst5 hb5
        have HST5 := hid hst5'
        clear c0 c2 c3 hst5'
        go_wp2_with fail
        go_roundw
        case rel => exact ⟨k + 1, by omega, by go_num, by rw [HE.out]; exact HST5.out, HB5.out⟩
        case measure => simp [intOf]; omega
      · obtain rfl : kn = k := by omega
        clear hb x0 x2 x3 c0 c2 c3
        obtain ⟨sv, hsv, hconv⟩ := st_conv HST.out
        go_wp2_with fail
        go_ret
        refine ⟨by unfold contentL; rw [HKn.out]; rfl, ?_⟩
        have := HBr.out
        rw [← HS1.out] at this
        exact below3 hBe HB0.out hB this
  | false =>
    have HL := hid hl
    obtain ⟨r0, r1, r2, _⟩ := HR.out.other hl
    have HR1 := hid r1
    have hd0 : 0 < n.kids.length := by omega
    rw [hl] at c0 HX
    obtain ⟨db, dd, rfl, cd⟩ := (HD.out.later hb).kid 0 hd0
    rw [← n.kid_at 0 hd0, Nat.add_zero] at cd
    have hh : [] ++ numB 2 n.keys.length ++ numB 4 (n.kid 0) = headL n ++ partsL n 0 := by unfold headL partsL; rw [hl]; simp
    have HH := hid hh
    clear hl hb x0 x1 x2 x3 hh r0 r1 r2
    generalize n.kid 0 = p0 at cd HH
    have HC := hid (number_any HST1.out hBs1 (by simp [numB_length]) 4 (by omega) p0)
    generalize hkn : n.keys.length = kn at HX hk7 k1 HR1 c1 HST1 HC HH ⊢
    generalize hen : n.items.length = en at HX hi7 i1 ⊢
    generalize hdn : n.kids.length = dn at HX hd7 d1 c3 HR1 hd0 ⊢
    have HDn := hid hdn
    go_wp2_with fail
    refine HC.out.mono ?_
    rw [HH.out]
    rintro e w2 ⟨rfl, hst2, hb2, _⟩
    replace HST1 := hid hst2
    replace HB1 := hid (HB1.out.trans hb2)
    clear hst2 hb2 HC HH c0 c1 c3 cd
    obtain ⟨x0, x1, x2, x3⟩ := HX.out
    have hb := HB1.out
    rw [← HS1.out] at hb
    have c0 := cell_later hb x0
    have c1 := cell_later hb x1
    have c3 := cell_later hb x3
    clear hb x0 x1 x2 x3
    have HKn := hid hkn
    clear hkn hen hdn
    go_wp2_with fail
    go_loopw [23] (fun i wr => ∃ k : Nat, k ≤ kn ∧ i = .int .i64 k ∧ StAt wr S1 S1 (headL n ++ partsL n k) ∧ Below S1 W wr) (fun i _ => kn - (intOf i).toNat)
    case atStart => exact ⟨0, by omega, rfl, HST1.out, HB1.out⟩
    case round =>
      clear HB1 HST1
      obtain ⟨k, hk, rfl, hst, hb⟩ := hrel
      have HBr := hid hb
      have HST := hid hst
      obtain ⟨x0, x1, x2, x3⟩ := HX.out
      rw [← HS1.out] at hb
      clear c0 c1 c3
      have c0 := cell_later hb x0
      have c1 := cell_later hb x1
      have c2 := cell_later hb x2
      have c3 := cell_later hb x3
      clear hst
      have hBr : S1 ≤ wr.heap.size := by have := hb.size; rw [HS1.out] at this; exact this
      by_cases hlt : k < kn
      · have hlk : k < n.keys.length := by rw [HKn.out]; exact hlt
        obtain ⟨kb, ko, rfl, hc⟩ := (HK.out.later hb).key k hlk
        rw [← n.key_at k hlk] at hc
        have hs := HR.out.key_size k hlk
        have hz : (headL n ++ partsL n k).length ≤ 6 + 122 * k := HR.out.sizeN_le k (by omega)
        have HE := hid (show headL n ++ partsL n (k + 1) = headL n ++ partsL n k ++ (numB 1 (n.key k).size ++ bOf (n.key k)) ++ (numB 4 (n.kid (k + 1))) by
          show headL n ++ (partsL n k ++ partL n k) = _
          unfold partL; rw [HL.out]; simp)
        generalize n.key k = s at hc hs HE
        generalize headL n ++ partsL n k = L at HST hz HE
        have HT := hid (text_any HST.out hBr (by omega) s (by omega))
        clear hb
        go_wp2_with fail
        refine HT.out.mono ?_
        rintro e w4 ⟨rfl, hst4, hb4, _⟩
        have HST4 := hid hst4
        have HB4 := hid (HBr.out.trans hb4)
        have hb := HB4.out
        rw [← HS1.out] at hb
        clear c0 c1 c2 c3 hc hst4 hb4 HT
        have c0 := cell_later hb x0
        have c2 := cell_later hb x2
        have c3 := cell_later hb x3
        have hB4 : S1 ≤ w4.heap.size := by have := hb.size; rw [HS1.out] at this; exact this
        have hlD : k + 1 < n.kids.length := by rw [HDn.out, HR1.out]; omega
        obtain ⟨ib, io, e, ci0⟩ := (HD.out.later hb).kid (k + 1) hlD
        simp only [Option.some.injEq, Addr.mk.injEq, and_true] at e
        obtain ⟨rfl, rfl⟩ := e
        rw [← n.kid_at (k + 1) hlD] at ci0
        generalize n.kid (k + 1) = x at ci0 HE
        have hkd : ((k : Int) + 1) < dn := by have := HR1.out; omega
        have HT := hid (number_any HST4.out hB4 (by simp only [List.length_append, numB_length, bOf_length]; omega) 4 (by omega) x)
        clear hb x0 x1 x2 x3
        go_wp2_with fail
        refine HT.out.mono ?_
        rintro e w5 ⟨rfl, hst5, hb5, _⟩
        have hst5' := hst5
        clear ci0 HT
        have HB5 := hid (HB4.out.trans hb5)
        clear hst5 hb5
        have HST5 := hid hst5'
        clear c0 c2 c3 hst5'
        go_wp2_with fail
        go_roundw
        case rel => exact ⟨k + 1, by omega, by go_num, by rw [HE.out]; exact HST5.out, HB5.out⟩
        case measure => simp [intOf]; omega
      · obtain rfl : kn = k := by omega
        clear hb x0 x2 x3 c0 c2 c3
        obtain ⟨sv, hsv, hconv⟩ := st_conv HST.out
        go_wp2_with fail
        go_ret
        refine ⟨by unfold contentL; rw [HKn.out]; rfl, ?_⟩
        have := HBr.out
        rw [← HS1.out] at this
        exact below3 hBe HB0.out hB this
end Go.Proofs.Ytkipigbfbhecjaa
