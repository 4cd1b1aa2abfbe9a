/- Proved here: of the bytes of a command whose texts have no line end, and no mark at their end, comes just that command, whatever whole command came ahead (WireBack returns true for every input, and leaves its arguments as they were). No condition beyond what the card says: five tables and two errors of the library hold what its text lays. -/
import Derived.Test.YtikcbgoocljgnaaDoorCards
import Derived.Test.YtikcbgoocljgnaaDoorTie
import Derived.Test.YtikcbgoocljgnaaDoorOpen
import Derived.Test.YtikcbgoocljgnaaDoorM28
import Derived.Test.YtikcbgoocljgnaaDoorL1
import Derived.Test.YtikcbgoocljgnaaDoorL2
import Derived.ProofKit
import Derived.OpenShut
import Derived.ShutString
import Derived.Below
namespace Go.Proofs.YtikcbgoocljgnaaDoor.wireBack
open Go.ChangeShapes Go.WideShapes Go.ChangeAt Go.RowKit
open Go.ChangeMaps (open_string shut_string)
set_option linter.unusedVariables false
set_option linter.unusedSimpArgs false

theorem fs_base {w w5 w6 : World} {b : Nat} {own : List Nat} {F : Fd} (hb : Below w.heap.size w w5) (h : FS w5 w6 b own F) : FS w w6 b own F :=
  ⟨h.f, fun g hg => Nat.le_trans hb.size (h.n g hg), hb.trans (h.k.mono hb.size), h.s⟩
/-- The two commands, one of them. -/
structure Cm (w : World) (vt vl : Value) (T L : List Bs) : Prop where
  t : GL eS w vt T
  l : GL eS w vl L
  f : Few T L
theorem back_take {T L : List Bs} (h : Clean T L) (hf : Few T L) : takeP Fd.zero (cmdB T L) = (Fd.zero, [(1, T, L)]) ∧ (cmdB T L).length ≤ 100000 := by
  obtain ⟨h1, h2, h3, h4⟩ := h
  obtain ⟨f1, f2, f3⟩ := hf
  have hx : ∀ x ∈ L, x.length ≤ 50000 := fun x hx => by
    obtain ⟨j, hj, rfl⟩ := List.getElem_of_mem hx
    have := lens_get L j hj
    omega
  have e : cmdB T L = bytesP decB T L := by rw [cmdB, if_pos h1]
  refine ⟨by rw [e]; exact take_back decB (fun n hn => digs_ok n hn) L T h1 h3 hx h2 (by omega), ?_⟩
  rw [e, bytes_pre L T h1]
  have hp := preB_len T L (by omega) L.length (by omega) (Nat.le_refl _)
  have ht := lens_take T L.length
  have hl := lens_take L L.length
  have hg := lens_get T L.length (by omega)
  simp only [List.length_append, List.length_cons, List.length_nil]
  omega
set_option maxRecDepth 100000 in
set_option maxHeartbeats 8000000 in
theorem walk {w : World} (vt vl : Value) (T L : List Bs) (h : RawOk w vt vl T L) (vt' vl' : Value) (T' L' : List Bs) (h' : RawOk w vt' vl' T' L') (hE : Env w) : Calls Tryd.prog 5 #[.agg #[vt, vl], .agg #[vt', vl']] w fun e w' => e = .returned (.bool true) ∧ Below w.heap.size w w' := by
  obtain ⟨hT, hL, hTs, hLs⟩ := h
  obtain ⟨hT', hL', hTs', hLs'⟩ := h'
  have hmx : maxLen ≤ 9223372036854775807 := by decide
  have hal1 : Below w.heap.size w (w.alloc (.cells #[vt, vl] 36)) := (Below.refl _ _).alloc (Nat.le_refl _) _
  have hal : Below w.heap.size w ((w.alloc (.cells #[vt, vl] 36)).alloc (.cells #[vt', vl'] 36)) := hal1.alloc hal1.size _
  have hr0 : ((w.alloc (.cells #[vt, vl] 36)).alloc (.cells #[vt', vl'] 36)).heap[w.heap.size]? = some (.cells #[vt, vl] 36 (0, 0)) := by rw [heap_alloc_old _ _ (by simp)]; exact heap_alloc_new _ _
  have hr1 : ((w.alloc (.cells #[vt, vl] 36)).alloc (.cells #[vt', vl'] 36)).heap[w.heap.size + 1]? = some (.cells #[vt', vl'] 36 (0, 0)) := by
    have := heap_alloc_new (w.alloc (.cells #[vt, vl] 36)) (.cells #[vt', vl'] 36)
    rw [World.size_alloc] at this
    exact this
  have HF1 : Hid (∀ W, Below w.heap.size w W → Calls Tryd.prog 15 #[.agg #[vt, vl]] W (FewIs T L W)) := fun W hW => few_any (hT.later hW) (hL.later hW) (fun s hs => Nat.le_trans (hTs s hs) hmx) (fun s hs => Nat.le_trans (hLs s hs) hmx)
  have HF2 : Hid (∀ W, Below w.heap.size w W → Calls Tryd.prog 15 #[.agg #[vt', vl']] W (FewIs T' L' W)) := fun W hW => few_any (hT'.later hW) (hL'.later hW) (fun s hs => Nat.le_trans (hTs' s hs) hmx) (fun s hs => Nat.le_trans (hLs' s hs) hmx)
  have HT := hid hT
  have HL := hid hL
  have HT' := hid hT'
  have HL' := hid hL'
  have HE := hid hE
  have HB := hid hal
  have HR0 := hid hr0
  have HR1 := hid hr1
  obtain ⟨a0, c0, hv0, _⟩ := id hT
  obtain ⟨a1, c1, hv1, _⟩ := id hL
  obtain ⟨a2, c2, hv2, _⟩ := id hT'
  obtain ⟨a3, c3, hv3, _⟩ := id hL'
  subst hv0 hv1 hv2 hv3
  have x0 := row_at hr0 0 (v := .slice a0 T.length c0) rfl
  have x1 := row_at hr0 1 (v := .slice a1 L.length c1) rfl
  clear hT hL hT' hL' hTs hLs hTs' hLs' hal hal1 hr0 hr1 hE
  go_enter Tryd.func5, Tryd.ntmps5
  go_wp2_with fail
  refine (HF1.out _ HB.out).mono ?_
  rintro e w1 ⟨r, rfl, hr, hb1⟩
  have hB1 := HB.out.trans (hb1.mono HB.out.size)
  have R0 := (hb1.block _ (lt_of_some HR0.out)).trans HR0.out
  have R1 := (hb1.block _ (lt_of_some HR1.out)).trans HR1.out
  have y0 := row_at R1 0 (v := .slice a2 T'.length c2) rfl
  have y1 := row_at R1 1 (v := .slice a3 L'.length c3) rfl
  have HR0' := hid R0
  have HR1' := hid R1
  have HB1 := hid hB1
  clear R0 R1 hb1 hB1 x0 x1 HR0 HR1 HB HF1
  cases r with
  | false =>
    clear hr
    go_wp2_with fail
    refine (alive_ok w1).mono ?_
    rintro e w2 ⟨rfl, hb2⟩
    have HB2 := hid (HB1.out.trans (hb2.mono HB1.out.size))
    clear hb2
    go_wp2_with fail
    go_ret
    exact ⟨rfl, HB2.out⟩
  | true =>
    have HFw := hid (hr rfl)
    clear hr
    go_wp2_with fail
    refine (HF2.out _ HB1.out).mono ?_
    rintro e w2 ⟨r, rfl, hr, hb2⟩
    have hB2 := HB1.out.trans (hb2.mono HB1.out.size)
    have R0 := (hb2.block _ (lt_of_some HR0'.out)).trans HR0'.out
    have R1 := (hb2.block _ (lt_of_some HR1'.out)).trans HR1'.out
    have HR0 := hid R0
    have HR1 := hid R1
    have HB2 := hid hB2
    clear R0 R1 hb2 hB2 y0 y1 HR0' HR1' HB1 HF2
    cases r with
    | false =>
      clear hr
      go_wp2_with fail
      refine (alive_ok w2).mono ?_
      rintro e w3 ⟨rfl, hb3⟩
      have HB3 := hid (HB2.out.trans (hb3.mono HB2.out.size))
      clear hb3
      go_wp2_with fail
      go_ret
      exact ⟨rfl, HB3.out⟩
    | true =>
      have HFw' := hid (hr rfl)
      clear hr
      have HN := hid (fs_new w2)
      go_wp2_with fail
      refine HN.out.mono ?_
      rintro e w3 ⟨rfl, hf3⟩
      have R0 := (hf3.k.block _ (lt_of_some HR0.out)).trans HR0.out
      have R1 := (hf3.k.block _ (lt_of_some HR1.out)).trans HR1.out
      have y0 := row_at R1 0 (v := .slice a2 T'.length c2) rfl
      have y1 := row_at R1 1 (v := .slice a3 L'.length c3) rfl
      have x0 := row_at R0 0 (v := .slice a0 T.length c0) rfl
      have x1 := row_at R0 1 (v := .slice a1 L.length c1) rfl
      have HF3 := hid (fs_base HB2.out hf3)
      have hal4 : Below w3.heap.size w3 (w3.alloc (.cells #[.slice a2 T'.length c2, .slice a3 L'.length c3, .slice a0 T.length c0, .slice a1 L.length c1] 36)) := (Below.refl _ _).alloc (Nat.le_refl _) _
      have HF4 := hid (HF3.out.later hal4)
      have HQ4 := hid (heap_alloc_new w3 (.cells #[.slice a2 T'.length c2, .slice a3 L'.length c3, .slice a0 T.length c0, .slice a1 L.length c1] 36))
      have Hq4 : Hid (w3.heap.size ∉ [w2.heap.size]) := fun e => by have := HF3.out.f.lt _ e; omega
      have C1 : Cm w (.slice a0 T.length c0) (.slice a1 L.length c1) T L := ⟨HT.out, HL.out, HFw.out⟩
      have C2 : Cm w (.slice a2 T'.length c2) (.slice a3 L'.length c3) T' L' := ⟨HT'.out, HL'.out, HFw'.out⟩
      have HC1 := hid C1
      have HC2 := hid C2
      clear R0 R1 hf3 HN HR0 HR1 HT HL HT' HL' hal4 HF3 C1 C2
      go_wp2_with fail
      go_loopw [23] (fun i wr => ∃ (k : Nat) (own : List Nat), k ≤ 2 ∧ i = .int .i64 k ∧ FS w wr w2.heap.size own Fd.zero ∧ wr.heap[w3.heap.size]? = some (.cells #[.slice a2 T'.length c2, .slice a3 L'.length c3, .slice a0 T.length c0, .slice a1 L.length c1] 36 (0, 0)) ∧ w3.heap.size ∉ own) (fun i _ => 2 - (intOf i).toNat)
      case atStart => exact ⟨0, _, by omega, rfl, HF4.out, HQ4.out, Hq4.out⟩
      case round =>
        obtain ⟨k, own, hk, rfl, hfs, hqr, hqn⟩ := hrel
        have HFS := hid hfs
        have HQ := hid hqr
        have Hqn := hid hqn
        clear HF4 HQ4 Hq4 x0 x1 y0 y1
        by_cases hk2 : k < 2
        · have hk2' : (k : Int) < 2 := by omega
          obtain ⟨a, c, a', c', X, Y, q0, q1, HX⟩ : ∃ (a : Option Addr) (c : Nat) (a' : Option Addr) (c' : Nat) (X Y : List Bs), wr.cell? ⟨w3.heap.size, k * 2, none⟩ = some (.slice a X.length c) ∧ wr.cell? ⟨w3.heap.size, k * 2 + 1, none⟩ = some (.slice a' Y.length c') ∧ Hid (Cm w (.slice a X.length c) (.slice a' Y.length c') X Y) := by
            match k, hk2 with
            | 0, _ => exact ⟨a2, c2, a3, c3, T', L', row_at hqr 0 rfl, row_at hqr 1 rfl, HC2⟩
            | 1, _ => exact ⟨a0, c0, a1, c1, T, L, row_at hqr 2 rfl, row_at hqr 3 rfl, HC1⟩
          have hal5 : Below wr.heap.size wr (wr.alloc (.cells #[.slice a X.length c, .slice a' Y.length c'] 36)) := (Below.refl _ _).alloc (Nat.le_refl _) _
          have hB5 := hfs.k.trans (hal5.mono hfs.k.size)
          have HCl := hid (clean_any (HX.out.t.later hB5) (HX.out.l.later hB5) (by have := HX.out.f.1; omega) (by have := HX.out.f.2.1; omega) (by have := HX.out.f; unfold Few at this; omega))
          have HR5 := hid (heap_alloc_new wr (.cells #[.slice a X.length c, .slice a' Y.length c'] 36))
          have HF5 := hid (hfs.later hal5)
          have HQ5 : Hid ((wr.alloc (.cells #[.slice a X.length c, .slice a' Y.length c'] 36)).heap[w3.heap.size]? = some (.cells #[.slice a2 T'.length c2, .slice a3 L'.length c3, .slice a0 T.length c0, .slice a1 L.length c1] 36 (0, 0))) := (hal5.block _ (lt_of_some hqr)).trans hqr
          have Hno : Hid (wr.heap.size ∉ own) := fun e => by have := hfs.f.lt _ e; omega
          clear hfs hqr hqn hal5 hB5
          go_wp2_with fail
          refine HCl.out.mono ?_
          rintro e w6 ⟨r, rfl, hr, hb6⟩
          have HF6 := hid (HF5.out.later hb6)
          have R6 := (hb6.block _ (lt_of_some HR5.out)).trans HR5.out
          have Q6 := (hb6.block _ (lt_of_some HQ5.out)).trans HQ5.out
          have z0 := row_at R6 0 (v := .slice a X.length c) rfl
          have z1 := row_at R6 1 (v := .slice a' Y.length c') rfl
          have HR6 := hid R6
          have HQ6 := hid Q6
          have hz6 : w3.heap.size < w6.heap.size := lt_of_some Q6
          have hw6 : wr.heap.size < w6.heap.size := lt_of_some R6
          clear hb6 R6 Q6 HF5 HR5 HQ5 HCl
          cases r with
          | false =>
            clear hr
            go_wp2_with fail
            go_roundw
            case rel => exact ⟨k + 1, own, by omega, by go_num, HF6.out, HQ6.out, Hqn.out⟩
            case measure => simp [intOf]; omega
          | true =>
            have hcl := hr rfl
            obtain ⟨htk, htl⟩ := back_take hcl HX.out.f
            have HTk := hid htk
            have hcb := bytes_any (HE.out.later HF6.out.k) (HX.out.t.later HF6.out.k) (HX.out.l.later HF6.out.k) (by have := HX.out.f.1; omega) (by have := HX.out.f.2.1; omega) (by have := HX.out.f; unfold Few at this; omega) (by have := HX.out.f; unfold Few at this; omega)
            have HBy := hid hcb
            unfold TxtIs at HBy
            clear hr hcl htk hcb
            generalize cmdB X Y = cm at *
            go_wp2_with fail
            refine HBy.out.mono ?_
            rintro e w7 ⟨rfl, hb7⟩
            have hcv := strW_conv w7 cm
            have CT := take_text (HF6.out.later hb7) cm (by omega)
            rw [HTk.out] at CT
            have HCT := hid CT
            have HR7 := hid ((hb7.block _ (lt_of_some HR6.out)).trans HR6.out)
            have HQ7 := hid ((hb7.block _ (lt_of_some HQ6.out)).trans HQ6.out)
            have HF7 := hid (HF6.out.later hb7)
            have hs7 := hb7.size
            clear hb7 CT HBy HR6 HQ6 HF6 HTk z0 z1
            go_wp2_with fail
            refine HCT.out.mono ?_
            rintro e w8 ⟨v, own8, rfl, hf8, he8, _, hk8, ho8⟩
            have R8 := keep_blk hk8 HR7.out Hno.out
            have Q8 := keep_blk hk8 HQ7.out Hqn.out
            have z0 := row_at R8 0 (v := .slice a X.length c) rfl
            have z1 := row_at R8 1 (v := .slice a' Y.length c') rfl
            have hqn8 : w3.heap.size ∉ own8 := fun e => by rcases ho8 _ e with e | e; exact Hqn.out e; omega
            have e9 := evr_one (w := w8) (e := (1, (a, X.length, c), (a', Y.length, c'))) (E := (1, X, Y)) rfl (HX.out.t.later hf8.k) (HX.out.l.later hf8.k)
            have hal9 : Below w8.heap.size w8 (w8.alloc (.cells #[.int .i64 1, .slice a X.length c, .slice a' Y.length c'] 41)) := (Below.refl _ _).alloc (Nat.le_refl _) _
            have hsz : X.length ≤ 1000000 ∧ Y.length ≤ 1000000 := by have := HX.out.f; unfold Few at this; omega
            have CS := same_any (he8.r.later hal9) e9 (by simp) (by simp) (by simpa using hsz) (by simpa using hsz)
            rw [show decide (([(1, X, Y)] : List Ev) = [(1, X, Y)]) = true by simp] at CS
            have HCS : Hid (Calls Tryd.prog 13 #[v, .slice (some ⟨w8.heap.size, 0, none⟩) 1 1] (w8.alloc (.cells #[.int .i64 1, .slice a X.length c, .slice a' Y.length c'] 41)) fun e w' => e = .returned (.bool true) ∧ ∃ n, w' = (w8.alloc (.cells #[.int .i64 1, .slice a X.length c, .slice a' Y.length c'] 41)).drewN n) := CS
            have HF9 := hid (hf8.later hal9)
            have HQ9 := hid ((hal9.block _ (lt_of_some Q8)).trans Q8)
            have Hq9 := hid hqn8
            clear hf8 he8 hk8 ho8 R8 Q8 e9 hal9 CS hqn8 HCT HR7 HQ7 HF7 hcv
            go_wp2_with fail
            refine HCS.out.mono ?_
            rintro e w10 ⟨rfl, n10, hw10⟩
            have hd10 : Below (w8.alloc (.cells #[.int .i64 1, .slice a X.length c, .slice a' Y.length c'] 41)).heap.size (w8.alloc (.cells #[.int .i64 1, .slice a X.length c, .slice a' Y.length c'] 41)) w10 := by rw [hw10]; exact drewN_below _ _ _
            have hf10 := HF9.out.later hd10
            have HF10 := hid hf10
            have HQ10 := hid ((hd10.block _ (lt_of_some HQ9.out)).trans HQ9.out)
            have HI := hid (idle_any hf10.f)
            clear hw10 hd10 hf10 HF9 HQ9 HCS z0 z1
            simp only [Fd.zero] at HI
            go_wp2_with fail
            refine HI.out.mono ?_
            rintro e w11 ⟨rfl, hb11⟩
            have HF11 := hid (HF10.out.later hb11)
            have HQ11 := hid ((hb11.block _ (lt_of_some HQ10.out)).trans HQ10.out)
            clear hb11 HF10 HQ10 HI
            go_wp2_with fail
            go_roundw
            case rel => exact ⟨k + 1, own8, by omega, by go_num, HF11.out, HQ11.out, Hq9.out⟩
            case measure => simp [intOf]; omega
        · have hk2' : ¬ (k : Int) < 2 := by omega
          clear hfs hqr hqn
          go_wp2_with fail
          refine (alive_ok wr).mono ?_
          rintro e w4 ⟨rfl, hb4⟩
          have HB4 := hid (HFS.out.k.trans (hb4.mono HFS.out.k.size))
          clear hb4
          go_wp2_with fail
          go_ret
          exact ⟨rfl, HB4.out⟩

theorem witness (os : Os) {H : Type} (enc : TypeId × Value → H) :
    (OpenSpec.ofChange Rows.wireBackSpec).preRow enc Tryd.prog Tryd.f5 Rows.wireBackRow.domain false Rows.wireBackRow.laid ((laidWorld os).forCall (fun _ _ => 0) ⟨#[], #[.agg #[.slice none 0 0, .slice none 0 0], .agg #[.slice none 0 0, .slice none 0 0]], []⟩).memory #[.agg #[.slice none 0 0, .slice none 0 0], .agg #[.slice none 0 0, .slice none 0 0]] := by
  have hw : (DataW.whole enc Tryd.prog ((laidWorld os).forCall (fun _ _ => 0) ⟨#[], #[.agg #[.slice none 0 0, .slice none 0 0], .agg #[.slice none 0 0, .slice none 0 0]], []⟩).memory Tryd.f5.params.toList Rows.wireBackSpec.vars false (#[.agg #[.slice none 0 0, .slice none 0 0], .agg #[.slice none 0 0, .slice none 0 0]] : Array Value).toList 8).map (fun x => (x.1, x.2.1)) =
      some ([.agg [.nil, .nil], .agg [.nil, .nil]], []) := by kernel_rfl
  obtain ⟨⟨x1, x2, x3⟩, hx, hx1⟩ := Option.map_eq_some_iff.1 hw
  simp only [Prod.mk.injEq] at hx1
  obtain ⟨rfl, rfl⟩ := hx1
  exact OpenSpec.preRow_of_cond 8 hx (by kernel_rfl) (fun k hk => by cases hk) (by kernel_rfl) (laid_met os _)

set_option maxRecDepth 100000 in
set_option maxHeartbeats 2000000 in
theorem lifted (os : Os) (started : os.Started) (H : Type) (enc : TypeId × Value → H) (F : Stop.Interp) :
    ReturnsInHanded {} Tryd.checked os 5 .any ((OpenSpec.ofChange Rows.wireBackSpec).preRow enc Tryd.prog Tryd.f5 Rows.wireBackRow.domain false Rows.wireBackRow.laid) (((OpenSpec.ofChange Rows.wireBackSpec).at F).post enc Tryd.prog Tryd.f5 false true false false) := by
  refine returnsInHanded_of_row (C := Tryd.checked) (s := OpenSpec.ofChange Rows.wireBackSpec) own started (by kernel_rfl) Tryd.func5
    (witness_row_atRef (enc := enc) (C := Tryd.checked) false (laidWorld os) #[.agg #[.slice none 0 0, .slice none 0 0], .agg #[.slice none 0 0, .slice none 0 0]] rfl (by kernel_rfl) (by kernel_rfl) (by kernel_rfl) (witness os enc)) ?_
  intro W base args ds gs before hval0 hW _ _ _ hL hsh _
  have hval : ∀ (j : Nat) t v, Tryd.f5.params[j]? = some t → args[j]? = some v → Value.okWide Tryd.prog W .any base t v := hval0
  have hW' := hW
  obtain ⟨p, q, hA0, hV, rfl, hfz, hnd⟩ := hW
  have hA : DataW.TrodAll enc Tryd.prog W 0 (fun _ => true) true Tryd.f5.params.toList args.toList ds p := hA0
  rw [Tryd.params5] at hA hval
  obtain ⟨v0, vs0, d0, ds0, p0, q0, hargs, rfl, rfl, h0, r0⟩ := trodAll_cons hA
  obtain ⟨v1, vs1, d1, ds1, p1, q1, rfl, rfl, rfl, h1, r1⟩ := trodAll_cons r0
  obtain ⟨rfl, rfl, rfl⟩ := trodAll_nil r1
  obtain rfl : args = #[v0, v1] := by cases args; simp_all
  obtain ⟨rfl, rfl⟩ := trodVars_none hV
  obtain ⟨cs0, rfl, sz0⟩ := okWide_struct Tryd.underlying36 (hval 0 36 v0 rfl rfl)
  have lt0 : ∀ x ∈ p0, x.block < W.heap.size := by obtain ⟨m, hm⟩ := h0; exact DataW.trod_lt m _ _ _ hm
  obtain ⟨vt0, vl0, T0, L0, rfl, hl0⟩ : ∃ vt vl T L, cs0 = #[vt, vl] ∧ RawOk W vt vl T L := by obtain ⟨fuel, hf⟩ := h0; exact open_raw (sz0.trans cells36) hf
  obtain ⟨cs1, rfl, sz1⟩ := okWide_struct Tryd.underlying36 (hval 1 36 v1 rfl rfl)
  have lt1 : ∀ x ∈ p1, x.block < W.heap.size := by obtain ⟨m, hm⟩ := h1; exact DataW.trod_lt m _ _ _ hm
  obtain ⟨vt1, vl1, T1, L1, rfl, hl1⟩ : ∃ vt vl T L, cs1 = #[vt, vl] ∧ RawOk W vt vl T L := by obtain ⟨fuel, hf⟩ := h1; exact open_raw (sz1.trans cells36) hf
  clear hA0 hval0
  refine (walk vt0 vl0 T0 L0 hl0 vt1 vl1 T1 L1 hl1 (env_of hL) ).mono ?_
  rintro e W' ⟨rfl, bel⟩
  exact ⟨_, rfl, _, _, _, [], _, [], hW', trodAll_mk1 (shut_bool Tryd.underlying4 _), (trodAll_cons_mk (Below.trod laidOut (by kernel_rfl) (of_decide_eq_true (by kernel_rfl)) h0 bel lt0) (trodAll_cons_mk (Below.trod laidOut (by kernel_rfl) (of_decide_eq_true (by kernel_rfl)) h1 bel lt1) trodAll_mk0)), rfl, bel.frame _, fun h => by cases h⟩

theorem over : Rows.wireBackRow.holds Tryd.pinned (OpenSpec.ofChange Rows.wireBackSpec) :=
  OpenClaim.holds_of_cond 5 Tryd.f5 rfl rfl rfl rfl rfl rfl rfl ⟨rfl, rfl, rfl, rfl, rfl⟩ rfl rfl rfl rfl rfl (by kernel_rfl) Tryd.func5 (by kernel_rfl)
    (of_decide_eq_true (by kernel_rfl)) (by unfold Func.isWrapper; first | (rw [if_pos (by decide +kernel)]; kernel_rfl) | (rw [if_neg (by decide +kernel)]; exact ⟨rfl, rfl⟩))
    (fun os started H enc _ F => by rw [OpenClaim.pre_eq_preRow]; exact lifted os started H enc F)

/-- No parameter wants a stand-in. -/
theorem plain (f : FuncId) (fn : Func) (hf : Tryd.pinned.checked.prog.funcNamed Rows.wireBackRow.func = some f) (hfn : Tryd.pinned.checked.prog.funcs[f]? = some fn) :
    true = Tryd.pinned.checked.prog.looks [] ∧ ∀ (j : Nat) t, fn.params[j]? = some t → Tryd.pinned.checked.prog.wantsStandIn t = false := by
  obtain rfl : f = 5 := Option.some.inj ((show Tryd.prog.funcNamed Rows.wireBackRow.func = some 5 by kernel_rfl).symm.trans hf) |>.symm
  obtain rfl : fn = Tryd.f5 := (Option.some.inj (Tryd.func5.symm.trans hfn)).symm
  refine ⟨by kernel_rfl, fun j t ht => ?_⟩
  rw [Tryd.params5] at ht
  have hm := Array.mem_of_getElem? ht
  simp only [List.mem_toArray, List.mem_cons, List.not_mem_nil, or_false, or_self] at hm
  rcases hm with rfl
  · exact (show Tryd.prog.wantsStandIn 36 = false by kernel_rfl)
end Go.Proofs.YtikcbgoocljgnaaDoor.wireBack
namespace Go.Proofs.YtikcbgoocljgnaaDoor
/-- THE STATEMENT. -/
theorem wireBack_holds : Rows.WireBackCardSaid :=
  Claim7.holds_tied_plain_at .later [] _ _ _ _ wireBack.over (fun _ h => by cases h) (by kernel_rfl) (fun _ h => by cases h) wireBack_row_tie rfl ⟨rfl, rfl⟩ (by kernel_rfl) rfl wireBack.plain (by kernel_rfl)
#print axioms wireBack_holds
end Go.Proofs.YtikcbgoocljgnaaDoor
