/- Proved here: a crash that keeps all writes whole, in the order in which they came, leaves what is read (DiskAll returns true for every input, and leaves its arguments as they were). No condition. -/
import Derived.Test.YtahhhpmpgkfkdaaRows
import Derived.Test.YtahhhpmpgkfkdaaOpen
namespace Go.Proofs.Ytahhhpmpgkfkdaa.diskAll
open Go.ChangeShapes Go.WideShapes Go.ChangeAt Go.RowKit
set_option linter.unusedVariables false

/-- All keeps. -/
def allK (k : Nat) : List (Int × Int) := (List.range k).map fun i : Nat => ((i : Int), (1000 : Int))
theorem allK_succ (k : Nat) : allK (k + 1) = allK k ++ [((k : Int), 1000)] := by simp [allK, List.range_succ]
theorem allK_length (k : Nat) : (allK k).length = k := by simp [allK]
/-- Their cells. -/
def allC (k : Nat) : List Value := (allK k).flatMap fun x => [.int .i64 x.1, .int .i64 x.2]
theorem allC_succ (k : Nat) : allC (k + 1) = allC k ++ [.int .i64 k, .int .i64 1000] := by simp [allC, allK_succ]
theorem allC_length (k : Nat) : (allC k).length = k * 2 := by
  induction k with
  | zero => rfl
  | succ k ih => rw [allC_succ, List.length_append, ih]; simp; omega
theorem allC_at (k j : Nat) (hj : j < k) : (allC k)[j * 2]? = some (.int .i64 j) ∧ (allC k)[j * 2 + 1]? = some (.int .i64 1000) := by
  induction k with
  | zero => omega
  | succ k ih =>
    rw [allC_succ]
    by_cases h : j < k
    · obtain ⟨h1, h2⟩ := ih h
      rw [List.getElem?_append_left (by rw [allC_length]; omega), List.getElem?_append_left (by rw [allC_length]; omega)]
      exact ⟨h1, h2⟩
    · obtain rfl : j = k := by omega
      rw [List.getElem?_append_right (by rw [allC_length]; omega), List.getElem?_append_right (by rw [allC_length]; omega), allC_length, show j * 2 - j * 2 = 0 by omega, show j * 2 + 1 - j * 2 = 1 by omega]
      exact ⟨rfl, rfl⟩

theorem fold_all (ws : List (Int × List Int)) (hw : ∀ x ∈ ws, 0 ≤ x.1 ∧ x.2.length = 512) (s : List Int) : ∀ k, k ≤ ws.length → (allK k).foldl (keep1 ws) s = layAll s (ws.take k) := by
  intro k
  induction k with
  | zero => intro _; rfl
  | succ k ih =>
    intro hk
    obtain ⟨h0, h5⟩ := hw _ (List.getElem_mem (show k < ws.length by omega))
    rw [allK_succ, List.foldl_append, ih (by omega), List.take_succ_eq_append_getElem (by omega), layAll_snoc]
    show keep1 ws _ ((k : Int), 1000) = _
    rw [keep1_in ws _ _ k (by omega) (ws[k]).1.toNat 512 rfl (by omega) rfl, show (ws[k]).2.take 512 = (ws[k]).2 from List.take_of_length_le (by omega)]

theorem sec_layAll (n : Nat) (ws : List (Int × List Int)) (hw : ∀ x ∈ ws, 0 ≤ x.1 ∧ x.1 < n ∧ x.2.length = 512) : ∀ (s : List Int) (i : Nat), s.length = n * 512 → i < n → sec (layAll s ws) i = lastW ws i (sec s i) := by
  induction ws with
  | nil => intro s i _ _; rfl
  | cons x ws ih =>
    intro s i hs hi
    obtain ⟨h0, h1, h5⟩ := hw x (by simp)
    show sec (layAll (layS s x.1.toNat x.2) ws) i = lastW ws i (if x.1 = i then x.2 else sec s i)
    rw [ih (fun y hy => hw y (by simp [hy])) _ i (layS_length s n _ _ hs (by omega) (by omega)) hi]
    congr 1
    by_cases h : x.1 = i
    · rw [if_pos h, show x.1.toNat = i by omega, sec_layS_same s n i x.2 hs hi (by omega), List.drop_of_length_le (by rw [sec_length s i n hs hi]; omega), List.append_nil]
    · rw [if_neg h]
      exact sec_layS_other s n _ i x.2 hs (by omega) (by omega) (by omega)

theorem all_read {w : World} {B b bs sc : Nat} {wv : Value} {D : DS} (h : DiskAt w B b bs sc wv D) (i : Nat) (hi : i < D.n) : (D.crash (allK D.waits.length)).read i = D.read i := by
  have hw := h.good.w
  unfold DS.read DS.crash
  show sec _ i = _
  rw [fold_all D.waits (fun x hx => ⟨(hw x hx).1, (hw x hx).2.2⟩) D.secs _ (Nat.le_refl _), List.take_length, sec_layAll D.n D.waits hw D.secs i h.good.len hi]

theorem keeps_of {w : World} {B k : Nat} {v : Value} (h : w.ownsRow B 55 2 v k (allC k)) (hk : k ≤ 100) : ∃ ka kc, v = .slice ka k kc ∧ KeepsOk w ka k (allK k) := by
  rcases h.2 with ⟨h1, h2⟩ | ⟨g, cap, cur, h1, _⟩
  · subst h2
    exact ⟨none, 0, h1, rfl, by unfold maxLen; omega, .inl rfl⟩
  · subst h1
    refine ⟨_, _, rfl, allK_length k, by unfold maxLen; omega, .inr ⟨g, 0, rfl, fun j hj => ?_⟩⟩
    rw [allK_length] at hj
    obtain ⟨e1, e2⟩ := allC_at k j hj
    rw [Nat.zero_add, h.cellAt _ (by omega), h.cellAt _ (by omega), e1, e2]
    simp [allK]

theorem two_new (w : World) (x y : Value) (t : TypeId) : ∀ j u, [x, y][j]? = some u → (w.alloc (.cells #[x, y] t)).cell? ((⟨w.heap.size, 0, none⟩ : Addr).add j) = some u := by
  intro j u hu
  rw [Addr.add_mid, Nat.zero_add, cell_of_row _ _ _ _ _ _ (heap_alloc_new _ _)]
  simpa using hu
theorem two_one (a b : Int) : ∀ u ∈ [Value.int .i64 a, .int .i64 b], u.oneCell' = true := by
  intro u hu
  simp only [List.mem_cons, List.not_mem_nil, or_false] at hu
  rcases hu with rfl | rfl <;> rfl

theorem Try.info55 : (Try.prog.info? 55).map (fun i => (i.zero, i.size, i.bytes)) = some (some (.agg #[.int .i64 0, .int .i64 0]), 2, 16) := by kernel_rfl

set_option maxRecDepth 100000 in
set_option maxHeartbeats 4000000 in
theorem walk (n : Int) (a : Option Addr) (len cap : Nat) (l : List ActV) (w : World) (hA : ActsOk w a len l) :
    Calls Try.prog 6 #[.int .i64 n, .slice a len cap] w fun e w' => e = .returned (.bool true) ∧ Below w.heap.size w w' := by
  obtain ⟨i0, hi, hz0, hz1, hz2⟩ := info_parts Try.info55
  have HA := hid hA
  clear hA
  go_enter Try.func6, Try.ntmps6
  go_wp2_with fail
  refine (play_any n a len cap l w HA.out).mono ?_
  rintro e w1 (⟨rfl, hb⟩ | ⟨m, rfl, b, own, D, rfl, hp⟩)
  · go_wp2_with (first | (go_at_call 12; refine (alive_any _).mono ?_; rintro e w2 ⟨rfl, hb2⟩))
    go_ret
    exact ⟨rfl, hb.trans (hb2.mono hb.size)⟩
  · obtain ⟨bs, sc, wv, hda, hown⟩ := hp.d
    have hw80 := hp.w
    have hbB := hp.b
    have hDn := hp.n
    have HDA := hid hda
    have HBB := hid hbB
    have HDn := hid hDn
    clear hp hda hbB hDn hown
    go_wp2_with fail
    go_loopw [6, 7] (fun v q wr => ∃ k : Nat, k ≤ D.waits.length ∧ q = .int .i64 k ∧ wr.ownsRow w1.heap.size 55 2 v k (allC k) ∧ Below w1.heap.size w1 wr) (fun _ q _ => D.waits.length - (intOf q).toNat)
    case atStart => exact ⟨0, by omega, rfl, World.ownsRow_nil _ _ _ _, Below.refl _ _⟩
    case round =>
      obtain ⟨k, hk, rfl, hor, hbr⟩ := hrel
      have hdr := HDA.out.keep (Kept.ofBelow hbr []) (by simp)
      have hwt := waiting_any hdr
      have HWT := hid hwt
      have HDR := hid hdr
      have HOR := hid hor
      have HBR := hid hbr
      clear hwt hdr hor hbr
      by_cases hlt : k < D.waits.length
      · have hlt' : (k : Int) < D.waits.length := by omega
        have h100 : (k : Int) < 100 := by omega
        go_wp2_with (first | (go_at_call 24; refine HWT.out.mono ?_; rintro e wr ⟨rfl, rfl⟩) | (at_builtin; refine wpList_append_own _ rfl (.tmp 30) (.tmp 33) 33 rfl w1.heap.size 55 i0 (.agg #[.int .i64 0, .int .i64 0]) 2 16 Try.underlying33 hi hz0 hz1 hz2 rfl (by omega) _ k (allC k) rfl (HOR.out.alloc _) ⟨wr.heap.size, 0, none⟩ 1 1 [.int .i64 k, .int .i64 1000] rfl rfl (two_new _ _ _ _) (two_one _ _) (by unfold maxLen; omega) (by omega) (by have := HBR.out.size; simp; omega) ?_; intro v' w2 hor2 hgr2 _; have HO2 := hid hor2; have HB2 := hid ((HBR.out.alloc HBR.out.size _).grown hgr2 (by have := HBR.out.size; simp; omega) (fun q hq => ((HOR.out.alloc (.cells #[.int .i64 k, .int .i64 1000] 55)).lt q hq).1)); clear hor2 hgr2))
        go_roundw
        case rel => exact ⟨k + 1, by omega, by go_num, by rw [allC_succ]; exact HO2.out, HB2.out⟩
        case measure => simp [intOf]; omega
      · have hke : k = D.waits.length := by omega
        subst hke
        have hlt' : ¬ ((D.waits.length : Int) < D.waits.length) := by omega
        obtain ⟨ka, kc, hv, hko⟩ := keeps_of HOR.out (by omega)
        rw [hv]
        have hcr := crash_all (show Disk wr w.heap.size b _ D from ⟨bs, sc, wv, HDR.out, rfl⟩) ka D.waits.length kc _ hko
        have HCR := hid hcr
        clear hcr hko hv HOR
        go_wp2_with (first | (go_at_call 24; refine HWT.out.mono ?_; rintro e wr ⟨rfl, rfl⟩))
        refine HCR.out.mono ?_
        rintro e w3 ⟨b3, own3, rfl, ⟨bs3, sc3, wv3, hdo, rfl⟩, hb3⟩
        have hBr : Below w.heap.size w wr := HBB.out.trans (HBR.out.mono HBB.out.size)
        have hB3 := hBr.trans (hb3.mono hBr.size)
        have HD3 := hid (HDR.out.keep (Kept.ofBelow hb3 []) (by simp))
        have HO3 := hid (hdo.base hBr.size)
        clear hdo hb3 hBr HCR HDR HWT HBR HBB HDA hlt hlt' hk
        go_wp2_with fail
        go_loopw [9] (fun q wr => ∃ k : Nat, k ≤ 20 ∧ k ≤ m ∧ q = .int .i64 k ∧ Hid (DiskAt wr w.heap.size b bs sc wv D) ∧ Hid (DiskAt wr w.heap.size b3 bs3 sc3 wv3 (D.crash (allK D.waits.length))) ∧ Below w.heap.size w wr) (fun q _ => 20 - (intOf q).toNat)
        case atStart => exact ⟨0, by omega, by omega, rfl, HD3, HO3, hB3⟩
        case round =>
          obtain ⟨k, hk40, hkm2, rfl, hda, hdo, hbr⟩ := hrel
          by_cases hlt : k < m ∧ k < 20
          · obtain ⟨hlt, h40⟩ := hlt
            have hlt' : (k : Int) < m := by omega
            have h40' : (k : Int) < 20 := by omega
            clear HD3 HO3 hB3
            cases hgn : D.gone with
            | true =>
              have hr1 := read_gone hda.out k (by rw [HDn.out]; exact hlt) hgn
              have hr2 := read_yes hdo.out k (by show k < D.n; rw [HDn.out]; exact hlt) rfl
              have HR1 := hid hr1
              have HR2 := hid hr2
              clear hr1 hr2 hgn
              go_wp2_with fail
              refine HR1.out.mono ?_
              rintro e wr ⟨rfl, rfl⟩
              go_wp2_with fail
              refine HR2.out.mono ?_
              rintro e w5 ⟨g5, rfl, hg5, hh5, hb5⟩
              have HDA5 := hid (hda.out.keep (Kept.ofBelow hb5 []) (by simp))
              have HDO5 := hid (hdo.out.keep (Kept.ofBelow hb5 []) (by simp))
              have HB5 := hid (hbr.trans (hb5.mono hbr.size))
              clear hh5 hb5 HR1 HR2 hda hdo hbr
              go_wp2_with (first | (go_at_call 11; refine (no_any _ _).mono ?_; rintro e w5 ⟨rfl, rfl⟩))
              go_roundw
              case rel => exact ⟨k + 1, by omega, by omega, by go_num, HDA5, HDO5, HB5.out⟩
              case measure => simp [intOf]; omega
            | false =>
              have hr1 := read_yes hda.out k (by rw [HDn.out]; exact hlt) hgn
              have HR1 := hid hr1
              clear hr1 hgn
              go_wp2_with fail
              refine HR1.out.mono ?_
              rintro e w4 ⟨g4, rfl, hg4, hh4, hb4⟩
              have hda4 := hda.out.keep (Kept.ofBelow hb4 []) (by simp)
              have hdo4 := hdo.out.keep (Kept.ofBelow hb4 []) (by simp)
              have hr2 := read_yes hdo4 k (by show k < D.n; rw [HDn.out]; exact hlt) rfl
              have HR2 := hid hr2
              have HDA4 := hid hda4
              have HDO4 := hid hdo4
              have HB4 := hid (hbr.trans (hb4.mono hbr.size))
              have HH4 := hid hh4
              clear hr2 hda4 hdo4 hb4 hh4 hda hdo hbr HR1
              go_wp2_with fail
              refine HR2.out.mono ?_
              rintro e w5 ⟨g5, rfl, hg5, hh5, hb5⟩
              rw [all_read HDA4.out k (by rw [HDn.out]; exact hlt)] at hh5
              have hh4 := (hb5.block g4 (Array.getElem?_eq_some_iff.1 HH4.out).1).trans HH4.out
              have HDA5 := hid (HDA4.out.keep (Kept.ofBelow hb5 []) (by simp))
              have HDO5 := hid (HDO4.out.keep (Kept.ofBelow hb5 []) (by simp))
              have HB5 := hid (HB4.out.trans (hb5.mono HB4.out.size))
              have hlen := read_length HDA5.out k (by rw [HDn.out]; exact hlt)
              have v4 := conv_whole (m := 512) (c := 512) hh4 hlen
              have v5 := conv_whole (m := 512) (c := 512) hh5 hlen
              clear hh4 hh5 hb5 HR2 HDA4 HDO4 HB4 HH4 hlen
              go_wp2_with (first | (go_at_call 11; refine (no_any _ _).mono ?_; rintro e w5 ⟨rfl, rfl⟩))
              go_roundw
              case rel => exact ⟨k + 1, by omega, by omega, by go_num, HDA5, HDO5, HB5.out⟩
              case measure => simp [intOf]; omega
          · clear HD3 HO3 hB3
            by_cases h40 : k < m
            · have h40' : ¬ (k : Int) < 20 := by omega
              clear hlt
              go_wp2_with (first | (go_at_call 12; refine (alive_any _).mono ?_; rintro e w6 ⟨rfl, hb6⟩))
              go_ret
              exact ⟨rfl, hbr.trans (hb6.mono hbr.size)⟩
            · have h40' : ¬ (k : Int) < m := by omega
              clear hlt
              go_wp2_with (first | (go_at_call 12; refine (alive_any _).mono ?_; rintro e w6 ⟨rfl, hb6⟩))
              go_ret
              exact ⟨rfl, hbr.trans (hb6.mono hbr.size)⟩

theorem own : ownKnob Try.prog.godebug = none := by kernel_rfl
theorem laidOut : laidOutB Try.prog = true := by kernel_rfl

set_option maxRecDepth 100000 in
theorem lifted (os : Os) (started : os.Started) (H : Type) (enc : TypeId × Value → H) :
    ReturnsInHanded {} Try.checked os 6 .any (Rows.diskAllSpec.pre6 enc Try.prog Try.f6 Rows.diskAllRow.domain false) (Rows.diskAllSpec.post enc Try.prog Try.f6 false true false false) := by
  refine returnsInHanded_of_change (C := Try.checked) own started (by kernel_rfl) Try.func6
    (ChangeSpec.witness6 (enc := enc) (C := Try.checked) false ⟨#[], #[.int .i64 0, .slice none 0 0], []⟩ 8 (by kernel_rfl) (by kernel_rfl) (by kernel_rfl) (by kernel_rfl)) ?_
  intro W base args ds gs before hval0 hW hcnd _
  have hval : ∀ (j : Nat) t v, Try.f6.params[j]? = some t → args[j]? = some v → Value.okWide Try.prog W .any base t v := hval0
  have hW' := hW
  obtain ⟨p, q, hA0, hV, rfl, hfz, hnd⟩ := hW
  have hA : DataW.TrodAll enc Try.prog W 0 (fun _ => true) true Try.f6.params.toList args.toList ds p := hA0
  rw [Try.params6] at hA hval
  obtain ⟨v0, vs0, d0, ds0, p0, q0, hargs, rfl, rfl, h0, r0⟩ := trodAll_cons hA
  obtain ⟨v1, vs1, d1, ds1, p1, q1, rfl, rfl, rfl, h1, r1⟩ := trodAll_cons r0
  obtain ⟨rfl, rfl, rfl⟩ := trodAll_nil r1
  obtain rfl : args = #[v0, v1] := by cases args; simp_all
  obtain ⟨rfl, rfl⟩ := trodVars_none hV
  obtain ⟨a0, rfl, rfl, rfl, w0⟩ := open_int Try.underlying3 (hval 0 3 v0 rfl rfl) h0
  obtain ⟨a1, len1, cap1, rfl⟩ := okWide_slice Try.underlying22 (hval 1 22 v1 rfl rfl)
  have lt1 : ∀ x ∈ p1, x.block < W.heap.size := by obtain ⟨m, hm⟩ := h1; exact DataW.trod_lt m _ _ _ hm
  obtain ⟨l1, hl1⟩ : ∃ l, ActsOk W a1 len1 l := by obtain ⟨fuel, hf⟩ := h1; exact open_acts hf
  clear hA0 hval0
  refine (walk a0 a1 len1 cap1 l1 W hl1).mono fun e W' ⟨he, bel⟩ => ?_
  subst he
  exact ⟨_, rfl, _, _, _, [], _, [], hW', trodAll_mk1 (shut_bool Try.underlying4 _), (trodAll_cons_mk (shut_int Try.underlying3 w0) (trodAll_cons_mk (Below.trod laidOut (by kernel_rfl) (of_decide_eq_true (by kernel_rfl)) h1 bel lt1) trodAll_mk0)), rfl, bel.frame _, fun h => by cases h⟩

theorem over : Rows.diskAllRow.holds Try.pinned (OpenSpec.ofChange Rows.diskAllSpec) :=
  OpenClaim.holds_of_wide 6 Try.f6 rfl rfl rfl rfl rfl rfl rfl ⟨rfl, rfl, rfl, rfl, rfl⟩ rfl rfl rfl rfl rfl (by kernel_rfl) Try.func6 (by kernel_rfl)
    (of_decide_eq_true (by kernel_rfl)) (by unfold Func.isWrapper; first | (rw [if_pos (by decide +kernel)]; kernel_rfl) | (rw [if_neg (by decide +kernel)]; exact ⟨rfl, rfl⟩))
    (fun os started H enc _ => lifted os started H enc)
end Go.Proofs.Ytahhhpmpgkfkdaa.diskAll
namespace Go.Proofs.Ytahhhpmpgkfkdaa
/-- THE STATEMENT. -/
theorem diskAll_holds : Rows.DiskAllSaid := diskAll.over
#print axioms diskAll_holds
end Go.Proofs.Ytahhhpmpgkfkdaa
