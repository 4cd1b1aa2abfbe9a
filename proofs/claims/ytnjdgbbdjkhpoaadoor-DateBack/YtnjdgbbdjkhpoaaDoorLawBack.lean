/- Proved here: a date is read from its text as it was, and is the one of its seconds and zone; a text that is read is its date's (DateBack returns true for every input, and leaves its arguments as they were). No condition beyond what the card says: three tables of the library hold what its text lays. -/
import Derived.Test.YtnjdgbbdjkhpoaaDoorCards
import Derived.Test.YtnjdgbbdjkhpoaaDoorTie
import Derived.Test.YtnjdgbbdjkhpoaaDoorOpen
import Derived.Test.YtnjdgbbdjkhpoaaDoorU1
import Derived.ProofKit
import Derived.OpenShut
import Derived.ShutString
import Derived.Below
namespace Go.Proofs.YtnjdgbbdjkhpoaaDoor.dateBack
open Go.ChangeShapes Go.WideShapes Go.ChangeAt Go.RowKit
open Go.ChangeMaps (open_string shut_string)
set_option linter.unusedVariables false
set_option linter.unusedSimpArgs false

def gB (i : Nat) (c : UInt8) : UInt8 := if c = 45 ∧ i < 8 then 32 else c
theorem gB_no (i : Nat) (c : UInt8) (h : c ≠ 45 ∨ 8 ≤ i) : gB i c = c := by
  unfold gB
  rw [if_neg]
  rintro ⟨h1, h2⟩
  rcases h with h | h
  · exact h h1
  · omega
theorem gB_yes (i : Nat) (h : i < 8) : gB i 45 = 32 := by
  unfold gB
  rw [if_pos ⟨rfl, h⟩]
theorem sub8 (a b m1 m2 m3 y : UInt8) (r : Bs) (h1 : a ≠ 45) (h2 : b ≠ 45) (h3 : m1 ≠ 45) (h4 : m2 ≠ 45) (h5 : m3 ≠ 45) (h6 : y ≠ 45) : ([a, b, 45, m1, m2, m3, 45, y] ++ r).mapIdx gB = [a, b, 32, m1, m2, m3, 32, y] ++ r := by
  rw [List.mapIdx_append]
  congr 1
  · simp [List.mapIdx_cons, gB_no 0 a (.inl h1), gB_no 1 b (.inl h2), gB_yes 2, gB_no 3 m1 (.inl h3), gB_no 4 m2 (.inl h4), gB_no 5 m3 (.inl h5), gB_yes 6, gB_no 7 y (.inl h6)]
  · apply List.ext_getElem
    · simp
    · intro i k1 k2
      simp only [List.getElem_mapIdx]
      exact gB_no _ _ (.inr (by simp))
theorem dg_ne (n : Int) : dg n ≠ 45 := by
  intro e
  have := dg_val n
  rw [e] at this
  simp at this
  omega
theorem day_shape (d : Int) : ∃ a b, dayN d = [a, b] ∧ a ≠ 45 ∧ b ≠ 45 := by
  unfold dayN
  split
  · exact ⟨32, dg d, rfl, by decide, dg_ne d⟩
  · exact ⟨dg (d / 10), dg d, rfl, dg_ne _, dg_ne _⟩
theorem month_shape (m : Int) (h0 : 1 ≤ m) (h1 : m ≤ 12) : ∃ a b c, monthN m = [a, b, c] ∧ a ≠ 45 ∧ b ≠ 45 ∧ c ≠ 45 := by
  rcases month_cases h0 h1 with rfl | rfl | rfl | rfl | rfl | rfl | rfl | rfl | rfl | rfl | rfl | rfl <;> exact ⟨_, _, _, rfl, by decide, by decide, by decide⟩
theorem blanked (t : Dt) (ht : RightP t) : (printN t 45).mapIdx gB = printN t 32 := by
  obtain ⟨⟨h1, h2, h3, h4, h5, h6⟩, _⟩ := ht
  obtain ⟨a, b, e1, n1, n2⟩ := day_shape t.d
  obtain ⟨m1, m2, m3, e2, n3, n4, n5⟩ := month_shape t.mo h3 h4
  rw [print_shape, print_shape, e1, e2]
  exact sub8 a b m1 m2 m3 (dg (t.y / 100 / 10)) _ n1 n2 n3 n4 n5 (dg_ne _)
theorem print_len (t : Dt) (ht : RightP t) (c : UInt8) : (printN t c).length = 26 := by
  obtain ⟨⟨h1, h2, h3, h4, h5, h6⟩, _⟩ := ht
  obtain ⟨a, b, e1, n1, n2⟩ := day_shape t.d
  have e2 := month_len' t.mo h3 h4
  have e3 := zone_len' t.z
  rw [print_shape, e1]
  simp [e2, e3, two_len, four_len]
theorem int_back (t : Dt) (ht : RightP t) : internalV (printN t 45) = some t := by
  have h1 : readP internalP (printN t 45) = some t := by
    unfold readP
    rw [internal_back t ht]
    simp [ht]
  have h2 : printV t = printN t 45 := by unfold printV; rw [if_pos ht]
  unfold internalV
  rw [h1]
  simp [h2]
theorem mail_of (t : Dt) (ht : RightP t) : readP mailP (printN t 32) = some t := by
  unfold readP
  rw [mail_back t ht]
  simp [ht]
theorem at_of (t : Dt) (ht : RightP t) : AtP (unixN t) t.z t := by
  obtain ⟨h0, k1, k2, k3, k4, k5, k6, k7, k8⟩ := ht
  have e : unixN t + t.z * 60 = dayNo t.y t.mo t.d * 86400 + (t.h * 3600 + t.mi * 60 + t.s) := by unfold unixN; omega
  refine ⟨h0, ?_, ?_, ?_, ?_, rfl⟩ <;> rw [e] <;> omega
theorem unix_range (t : Dt) (ht : RightP t) : -9223372036854775808 ≤ unixN t ∧ unixN t ≤ 9223372036854775807 := by
  have h := day_range ht.1
  obtain ⟨h0, k1, k2, k3, k4, k5, k6, k7, k8⟩ := ht
  unfold unixN
  omega
theorem all3 {w : World} {A B C : Nat} {t : Dt} (hA : w.heap[A]? = some (.cells (dtL t).toArray 29 (0, 0))) (hB : w.heap[B]? = some (.cells (dtL t).toArray 29 (0, 0))) (hC : w.heap[C]? = some (.cells (dtL t).toArray 29 (0, 0))) :
    w.cell? ⟨A, 0, none⟩ = some (.int .i64 t.y) ∧ w.cell? ⟨A, 1, none⟩ = some (.int .i64 t.mo) ∧ w.cell? ⟨A, 2, none⟩ = some (.int .i64 t.d) ∧ w.cell? ⟨A, 3, none⟩ = some (.int .i64 t.h) ∧ w.cell? ⟨A, 4, none⟩ = some (.int .i64 t.mi) ∧ w.cell? ⟨A, 5, none⟩ = some (.int .i64 t.s) ∧ w.cell? ⟨A, 6, none⟩ = some (.int .i64 t.z) ∧ w.cell? ⟨B, 0, none⟩ = some (.int .i64 t.y) ∧ w.cell? ⟨B, 1, none⟩ = some (.int .i64 t.mo) ∧ w.cell? ⟨B, 2, none⟩ = some (.int .i64 t.d) ∧ w.cell? ⟨B, 3, none⟩ = some (.int .i64 t.h) ∧ w.cell? ⟨B, 4, none⟩ = some (.int .i64 t.mi) ∧ w.cell? ⟨B, 5, none⟩ = some (.int .i64 t.s) ∧ w.cell? ⟨B, 6, none⟩ = some (.int .i64 t.z) ∧ w.cell? ⟨C, 0, none⟩ = some (.int .i64 t.y) ∧ w.cell? ⟨C, 1, none⟩ = some (.int .i64 t.mo) ∧ w.cell? ⟨C, 2, none⟩ = some (.int .i64 t.d) ∧ w.cell? ⟨C, 3, none⟩ = some (.int .i64 t.h) ∧ w.cell? ⟨C, 4, none⟩ = some (.int .i64 t.mi) ∧ w.cell? ⟨C, 5, none⟩ = some (.int .i64 t.s) ∧ w.cell? ⟨C, 6, none⟩ = some (.int .i64 t.z) := by
  obtain ⟨a0, a1, a2, a3, a4, a5, a6⟩ := cA_load hA
  obtain ⟨b0, b1, b2, b3, b4, b5, b6⟩ := cA_load hB
  obtain ⟨c0, c1, c2, c3, c4, c5, c6⟩ := cA_load hC
  exact ⟨a0, a1, a2, a3, a4, a5, a6, b0, b1, b2, b3, b4, b5, b6, c0, c1, c2, c3, c4, c5, c6⟩
theorem readV_some (t : Dt) : readV (some t) = .tuple #[.agg #[.int .i64 t.y, .int .i64 t.mo, .int .i64 t.d, .int .i64 t.h, .int .i64 t.mi, .int .i64 t.s, .int .i64 t.z], .int .i64 0] := rfl
theorem readV_none : readV none = .tuple #[.agg #[.int .i64 0, .int .i64 0, .int .i64 0, .int .i64 0, .int .i64 0, .int .i64 0, .int .i64 0], .int .i64 11] := rfl

set_option maxRecDepth 100000 in
set_option maxHeartbeats 8000000 in
theorem walk (t : Dt) (a : ByteArray) {w : World} (hE : Env w) (ha : a.size ≤ maxLen) :
    Calls Tryd.prog 7 #[dtV t, .string a] w fun e w' => e = .returned (.bool true) ∧ Below w.heap.size w w' := by
  obtain ⟨x, rfl⟩ : ∃ x, a = str x := ⟨a.data.toList, (str_of a).symm⟩
  unfold maxLen at ha
  have hx := str_size x
  rw [hx] at ha
  have HE := hid hE
  have HA := hid (boxed0 t w)
  have HB : Hid (Below w.heap.size w (w.alloc (.cells (dtL t).toArray 29))) := (Below.refl _ _).alloc (Nat.le_refl _) _
  have hk := cA_load HA.out
  have hdt : dtV t = .agg #[.int .i64 t.y, .int .i64 t.mo, .int .i64 t.d, .int .i64 t.h, .int .i64 t.mi, .int .i64 t.s, .int .i64 t.z] := rfl
  have HPR : Hid (∀ w, Env w → Calls Tryd.prog 23 #[dtV t] w fun e w' => e = .returned (.string (str (printV t))) ∧ Below w.heap.size w w') := fun w h => print_any t h
  have HRI := hid (right_any t)
  have HUX := hid (unix_any t)
  rw [hdt] at HPR HRI HUX ⊢
  obtain ⟨k0, k1, k2, k3, k4, k5, k6⟩ := hk
  clear hE hdt
  by_cases g0 : (2000 : Int) < x.length
  · go_enter Tryd.func7, Tryd.ntmps7
    go_wp2_with fail
    refine (alive_any (HE.out.later HB.out)).mono ?_
    rintro e w1 ⟨rfl, hb⟩
    have HB1 := hid (HB.out.trans (hb.mono HB.out.size))
    clear hb
    go_wp2_with fail
    go_ret
    exact ⟨rfl, HB1.out⟩
  have CI := internals_any x (by omega) (HE.out.later HB.out)
  rcases ho : internalV x with _ | r
  · rw [ho, readV_none] at CI
    have HCI := hid CI
    clear CI ho
    go_enter Tryd.func7, Tryd.ntmps7
    go_wp2_with fail
    refine HCI.out.mono ?_
    rintro e w1 ⟨rfl, hb⟩
    have HB2 := hid ((HB.out.trans (hb.mono HB.out.size)).alloc (by have := HB.out.size; have := hb.size; omega) (.cells (dtL Dt.zero).toArray 29))
    have HL1 := hid ((hb.block w.heap.size (by simp)).trans HA.out)
    have HA2 : Hid ((w1.alloc (.cells (dtL Dt.zero).toArray 29)).heap[w.heap.size]? = some (.cells (dtL t).toArray 29 (0, 0))) := (Below.heap_alloc _ _ _ (lt_of_some HL1.out)).trans HL1.out
    clear hb HCI k0 k1 k2 k3 k4 k5 k6
    obtain ⟨k0, k1, k2, k3, k4, k5, k6⟩ := cA_load HL1.out
    have hlt1 := lt_of_some HL1.out
    go_wp2_with (go_at_call 25; refine (no_any _ _).mono ?_; rintro e wn ⟨rfl, rfl⟩)
    go_wp2_with fail
    refine (HPR.out _ (HE.out.later HB2.out)).mono ?_
    rintro e w3 ⟨rfl, hb⟩
    have HB3 := hid (HB2.out.trans (hb.mono HB2.out.size))
    have HA3 := hid ((hb.block w.heap.size (lt_of_some HA2.out)).trans HA2.out)
    clear hb
    clear k0 k1 k2 k3 k4 k5 k6
    obtain ⟨k0, k1, k2, k3, k4, k5, k6⟩ := cA_load HA3.out
    go_wp2_with fail
    by_cases ht : RightP t
    · have CR := HRI.out w3
      rw [decide_eq_true ht] at CR
      refine CR.mono ?_
      clear CR
      rintro e w4 ⟨rfl, hb⟩
      have HB4 := hid (HB3.out.trans (hb.mono HB3.out.size))
      have HA4 := hid ((hb.block w.heap.size (lt_of_some HA3.out)).trans HA3.out)
      have HT := hid ht
      have hpv : printV t = printN t 45 := by unfold printV; rw [if_pos ht]
      have hpl := print_len t ht 45
      have HPL := hid hpl
      have HBK := hid (blanked t ht)
      have CI := internals_any (printN t 45) (by rw [hpl]; omega) (HE.out.later HB4.out)
      rw [int_back t ht, readV_some, ← hpv] at CI
      have HCI := hid CI
      have HPV := hid hpv
      clear hb CI hpl hpv ht
      clear k0 k1 k2 k3 k4 k5 k6
      obtain ⟨k0, k1, k2, k3, k4, k5, k6⟩ := cA_load HA4.out
      go_wp2_with fail
      refine HCI.out.mono ?_
      rintro e w5 ⟨rfl, hb⟩
      have HB5 := hid ((HB4.out.trans (hb.mono HB4.out.size)).alloc (by have := HB4.out.size; have := hb.size; omega) (.cells (dtL t).toArray 29))
      have HL5 := hid ((hb.block w.heap.size (lt_of_some HA4.out)).trans HA4.out)
      have HA5 : Hid ((w5.alloc (.cells (dtL t).toArray 29)).heap[w.heap.size]? = some (.cells (dtL t).toArray 29 (0, 0))) := (Below.heap_alloc _ _ _ (lt_of_some HL5.out)).trans HL5.out
      have HY5 := hid (boxed0 t w5)
      have HS5 : Hid ((w5.alloc (.cells (dtL t).toArray 29)).heap.size = w5.heap.size + 1) := by unfold Hid; simp
      have HW5 := hid (lt_of_some HL5.out)
      obtain ⟨W, c, hcv, hu, hbc⟩ := to_bytes (str (printN t 45)) (w5.alloc (.cells (dtL t).toArray 29))
      rw [str_data, HS5.out] at hu
      rw [str_size, HPL.out, HS5.out] at hcv
      rw [HS5.out] at hbc
      rw [HPV.out]
      unfold dtL at hcv
      have HU := hid hu
      have HBC := hid hbc
      clear hb hu hbc HL5 HCI
      go_wp2_with fail
      have hLn := HPL.out
      generalize hLL : printN t 45 = L at HU hLn HBK
      go_loopw [56] (fun i wr => ∃ k : Nat, k ≤ 26 ∧ i = .int .i64 k ∧ UpAt wr (w5.heap.size + 1) (half gB L k) ∧ Below (w5.heap.size + 1) (w5.alloc (.cells (dtL t).toArray 29)) wr) (fun i _ => 26 - (intOf i).toNat)
      case atStart => exact ⟨0, by omega, rfl, HU.out, HBC.out⟩
      case round =>
        obtain ⟨k, hk, rfl, hr, hb⟩ := hrel
        have HR := hid hr
        have HBr := hid hb
        clear hr hb hcv
        by_cases hlt : k < 26
        · have hlt' : (k : Int) < 26 := by omega
          have hkL : k < L.length := by omega
          have hkh : k < (half gB L k).length := by rw [half_len]; exact hkL
          obtain ⟨hc, hf⟩ := HR.out.cell k hkh
          rw [half_at _ _ _ hkL hkh] at hc
          by_cases h45 : L[k] = 45
          · rw [h45] at hc
            by_cases h8 : k < 8
            · have h8' : (k : Int) < 8 := by omega
              have HST : Hid (UpAt (wr.setCell ⟨w5.heap.size + 1, k, none⟩ (.int .u8 32)) (w5.heap.size + 1) (half gB L (k + 1))) := by
                rw [Hid, half_next _ L k hkL, h45, gB_yes k h8]
                exact HR.out.set k hkh 32
              clear h45 hkL hkh
              go_wp2_with fail
              go_roundw
              case rel => exact ⟨k + 1, by omega, by go_num, HST.out, HBr.out.setCell (Nat.le_refl _) _⟩
              case measure => simp [intOf]; omega
            · have h8' : ¬ (k : Int) < 8 := by omega
              have HST : Hid (UpAt wr (w5.heap.size + 1) (half gB L (k + 1))) := by
                rw [Hid, half_same _ L k hkL (gB_no k _ (.inr (by omega)))]
                exact HR.out
              clear h45 hkL hkh
              go_wp2_with fail
              go_roundw
              case rel => exact ⟨k + 1, by omega, by go_num, HST.out, HBr.out⟩
              case measure => simp [intOf]; omega
          · have n45 : ((L[k].toNat : Int) == 45) = false := by
              have : ¬ L[k].toNat = 45 := fun e => h45 ((u8_eq L[k] 45 (by omega)).2 e)
              simp
              omega
            have HST : Hid (UpAt wr (w5.heap.size + 1) (half gB L (k + 1))) := by
              rw [Hid, half_same _ L k hkL (gB_no k _ (.inl h45))]
              exact HR.out
            generalize L[k].toNat = xx at hc n45
            clear h45 hkL hkh
            go_wp2_with fail
            go_roundw
            case rel => exact ⟨k + 1, by omega, by go_num, HST.out, HBr.out⟩
            case measure => simp [intOf]; omega
        · have HH : Hid (half gB L k = printN t 32) := by unfold Hid; rw [half_all _ L k (by omega)]; exact HBK.out
          have hcv : (convert 41 9 (.slice (some ⟨w5.heap.size + 1, 0, none⟩) 26 c)).run Tryd.prog wr = .ok (.string (str (printN t 32))) wr := by
            have := HR.out.conv (c := c)
            rw [half_len, hLn, HH.out] at this
            exact this
          have CM := mails_any (printN t 32) (by rw [print_len t HT.out]; omega) wr
          rw [mail_of t HT.out, readV_some] at CM
          have HCM := hid CM
          have hS5 := HS5.out
          have hAr := (HBr.out.block w.heap.size (by have := HW5.out; omega)).trans HA5.out
          have hYr := (HBr.out.block w5.heap.size (by omega)).trans HY5.out
          have HAr := hid hAr
          have HYr := hid hYr
          have HBW := hid (HB5.out.trans (HBr.out.mono (by have := HW5.out; omega)))
          clear CM hS5 hAr hYr
          go_wp2_with fail
          refine HCM.out.mono ?_
          rintro e w7 ⟨rfl, hb⟩
          have hA7 := (hb.block w.heap.size (lt_of_some HAr.out)).trans HAr.out
          have hY7 := (hb.block w5.heap.size (lt_of_some HYr.out)).trans HYr.out
          have HB7 := hid (HBW.out.trans (hb.mono HBW.out.size))
          have hlA := lt_of_some hA7
          have hlY := lt_of_some hY7
          have hkA := cA_load hA7
          have hkY := cA_load hY7
          have HA8 : Hid ((w7.alloc (.cells (dtL t).toArray 29)).heap[w.heap.size]? = some (.cells (dtL t).toArray 29 (0, 0))) := (Below.heap_alloc _ _ _ hlA).trans hA7
          have HY8 : Hid ((w7.alloc (.cells (dtL t).toArray 29)).heap[w5.heap.size]? = some (.cells (dtL t).toArray 29 (0, 0))) := (Below.heap_alloc _ _ _ hlY).trans hY7
          have HZ8 := hid (boxed0 t w7)
          have HB8 := hid (HB7.out.alloc HB7.out.size (.cells (dtL t).toArray 29))
          have q0 := all3 HA8.out HY8.out HZ8.out
          have CU := HUX.out ((w7.alloc (.cells (dtL t).toArray 29)).drew)
          rw [show unixV t = unixN t by unfold unixV; rw [if_pos HT.out]] at CU
          have HCU := hid CU
          have CA := at_yes (unixN t) t.z t (at_of t HT.out) (unix_range t HT.out).1 (unix_range t HT.out).2 HT.out.2.2.2.2.2.2.2.1 HT.out.2.2.2.2.2.2.2.2
          rw [show dtV t = .agg #[.int .i64 t.y, .int .i64 t.mo, .int .i64 t.d, .int .i64 t.h, .int .i64 t.mi, .int .i64 t.s, .int .i64 t.z] from rfl] at CA
          have HCA := hid CA
          clear CU CA hA7 hY7 hb hkA hkY
          go_wp2_with fail
          go_region_held3 (fun w' => w'.cell? ⟨w.heap.size, 0, none⟩ = some (.int .i64 t.y) ∧ w'.cell? ⟨w.heap.size, 1, none⟩ = some (.int .i64 t.mo) ∧ w'.cell? ⟨w.heap.size, 2, none⟩ = some (.int .i64 t.d) ∧ w'.cell? ⟨w.heap.size, 3, none⟩ = some (.int .i64 t.h) ∧ w'.cell? ⟨w.heap.size, 4, none⟩ = some (.int .i64 t.mi) ∧ w'.cell? ⟨w.heap.size, 5, none⟩ = some (.int .i64 t.s) ∧ w'.cell? ⟨w.heap.size, 6, none⟩ = some (.int .i64 t.z) ∧ w'.cell? ⟨w5.heap.size, 0, none⟩ = some (.int .i64 t.y) ∧ w'.cell? ⟨w5.heap.size, 1, none⟩ = some (.int .i64 t.mo) ∧ w'.cell? ⟨w5.heap.size, 2, none⟩ = some (.int .i64 t.d) ∧ w'.cell? ⟨w5.heap.size, 3, none⟩ = some (.int .i64 t.h) ∧ w'.cell? ⟨w5.heap.size, 4, none⟩ = some (.int .i64 t.mi) ∧ w'.cell? ⟨w5.heap.size, 5, none⟩ = some (.int .i64 t.s) ∧ w'.cell? ⟨w5.heap.size, 6, none⟩ = some (.int .i64 t.z) ∧ w'.cell? ⟨w7.heap.size, 0, none⟩ = some (.int .i64 t.y) ∧ w'.cell? ⟨w7.heap.size, 1, none⟩ = some (.int .i64 t.mo) ∧ w'.cell? ⟨w7.heap.size, 2, none⟩ = some (.int .i64 t.d) ∧ w'.cell? ⟨w7.heap.size, 3, none⟩ = some (.int .i64 t.h) ∧ w'.cell? ⟨w7.heap.size, 4, none⟩ = some (.int .i64 t.mi) ∧ w'.cell? ⟨w7.heap.size, 5, none⟩ = some (.int .i64 t.s) ∧ w'.cell? ⟨w7.heap.size, 6, none⟩ = some (.int .i64 t.z)) (first | exact q3 | exact q2 | exact q1 | exact q0 | go_keep) (first | (go_at_call 25; refine (no_any _ _).mono ?_; rintro e wn ⟨rfl, rfl⟩) | (go_at_call 17; refine HCU.out.mono ?_; rintro e w9 ⟨rfl, hb9⟩; have hA9 := (hb9.block w.heap.size (lt_of_some HA8.out)).trans HA8.out; have hY9 := (hb9.block w5.heap.size (lt_of_some HY8.out)).trans HY8.out; have hZ9 := (hb9.block w7.heap.size (lt_of_some HZ8.out)).trans HZ8.out; have HB9 := HB8.out.drew.trans (hb9.mono HB8.out.size); have q1 := all3 hA9 hY9 hZ9) | (go_at_call 19; refine (HCA.out _).mono ?_; rintro e w10 ⟨rfl, hb10⟩; have hA10 := (hb10.block w.heap.size (lt_of_some hA9)).trans hA9; have hY10 := (hb10.block w5.heap.size (lt_of_some hY9)).trans hY9; have hZ10 := (hb10.block w7.heap.size (lt_of_some hZ9)).trans hZ9; have HB10 := HB9.trans (hb10.mono HB9.size); have q2 := all3 hA10 hY10 hZ10) | (go_at_call 14; refine (alive_any (HE.out.later HB10)).mono ?_; rintro e w11 ⟨rfl, hb11⟩; have hA11 := (hb11.block w.heap.size (lt_of_some hA10)).trans hA10; have hY11 := (hb11.block w5.heap.size (lt_of_some hY10)).trans hY10; have hZ11 := (hb11.block w7.heap.size (lt_of_some hZ10)).trans hZ10; have HB11 := HB10.trans (hb11.mono HB10.size); have q3 := all3 hA11 hY11 hZ11))
          go_wp2_with fail
          go_ret
          exact ⟨rfl, HB11⟩
    · have CR := HRI.out w3
      rw [decide_eq_false ht] at CR
      refine CR.mono ?_
      clear CR
      rintro e w4 ⟨rfl, hb⟩
      have HB4 := hid (HB3.out.trans (hb.mono HB3.out.size))
      have HA4 := hid ((hb.block w.heap.size (lt_of_some HA3.out)).trans HA3.out)
      have hpv : printV t = [] := by unfold printV; rw [if_neg ht]
      have hq : ((str (printV t)).toList == []) = true := by rw [hpv, toList_str]; rfl
      have CU := HUX.out w4
      rw [show unixV t = 0 by unfold unixV; rw [if_neg ht]] at CU
      have HCU := hid CU
      clear hb hpv ht CU
      clear k0 k1 k2 k3 k4 k5 k6
      obtain ⟨k0, k1, k2, k3, k4, k5, k6⟩ := cA_load HA4.out
      go_wp2_with fail
      refine HCU.out.mono ?_
      rintro e w5 ⟨rfl, hb⟩
      have HB5 := hid (HB4.out.trans (hb.mono HB4.out.size))
      clear hb
      go_wp2_with fail
      refine (alive_any (HE.out.later HB5.out)).mono ?_
      rintro e w6 ⟨rfl, hb⟩
      have HB6 := hid (HB5.out.trans (hb.mono HB5.out.size))
      clear hb
      go_wp2_with fail
      go_ret
      exact ⟨rfl, HB6.out⟩
  · rw [ho, readV_some] at CI
    have HCI := hid CI
    have hpr : printV r = x := by
      unfold internalV at ho
      rcases hr : readP internalP x with _ | r'
      · rw [hr] at ho; cases ho
      · rw [hr] at ho
        simp only at ho
        split at ho
        · rename_i hp; cases ho; exact hp
        · cases ho
    have HPX : Hid (∀ w, Env w → Calls Tryd.prog 23 #[dtV r] w fun e w' => e = .returned (.string (str (printV r))) ∧ Below w.heap.size w w') := fun w h => print_any r h
    have hdr : dtV r = .agg #[.int .i64 r.y, .int .i64 r.mo, .int .i64 r.d, .int .i64 r.h, .int .i64 r.mi, .int .i64 r.s, .int .i64 r.z] := rfl
    rw [hpr, hdr] at HPX
    have hq : ((str x).toList == (str x).toList) = true := by simp
    clear CI ho hpr hdr
    go_enter Tryd.func7, Tryd.ntmps7
    go_wp2_with fail
    refine HCI.out.mono ?_
    rintro e w1 ⟨rfl, hb⟩
    have HB1 := hid ((HB.out.trans (hb.mono HB.out.size)).alloc (by have := HB.out.size; have := hb.size; omega) (.cells (dtL r).toArray 29))
    have HL1 := hid ((hb.block w.heap.size (by simp)).trans HA.out)
    have HA1 : Hid ((w1.alloc (.cells (dtL r).toArray 29)).heap[w.heap.size]? = some (.cells (dtL t).toArray 29 (0, 0))) := (Below.heap_alloc _ _ _ (lt_of_some HL1.out)).trans HL1.out
    clear hb HL1 HCI
    clear k0 k1 k2 k3 k4 k5 k6
    obtain ⟨k0, k1, k2, k3, k4, k5, k6⟩ := cA_load HA1.out
    go_wp2_with (go_at_call 25; refine (no_any _ _).mono ?_; rintro e wn ⟨rfl, rfl⟩)
    refine (HPX.out _ (HE.out.later HB1.out)).mono ?_
    rintro e w2 ⟨rfl, hb⟩
    have HB2 := hid (HB1.out.trans (hb.mono HB1.out.size))
    have HA2 := hid ((hb.block w.heap.size (lt_of_some HA1.out)).trans HA1.out)
    clear hb
    clear k0 k1 k2 k3 k4 k5 k6
    obtain ⟨k0, k1, k2, k3, k4, k5, k6⟩ := cA_load HA2.out
    go_wp2_with fail
    refine (HPR.out _ (HE.out.later HB2.out)).mono ?_
    rintro e w3 ⟨rfl, hb⟩
    have HB3 := hid (HB2.out.trans (hb.mono HB2.out.size))
    have HA3 := hid ((hb.block w.heap.size (lt_of_some HA2.out)).trans HA2.out)
    clear hb
    clear k0 k1 k2 k3 k4 k5 k6
    obtain ⟨k0, k1, k2, k3, k4, k5, k6⟩ := cA_load HA3.out
    go_wp2_with fail
    by_cases ht : RightP t
    · have CR := HRI.out w3
      rw [decide_eq_true ht] at CR
      refine CR.mono ?_
      clear CR
      rintro e w4 ⟨rfl, hb⟩
      have HB4 := hid (HB3.out.trans (hb.mono HB3.out.size))
      have HA4 := hid ((hb.block w.heap.size (lt_of_some HA3.out)).trans HA3.out)
      have HT := hid ht
      have hpv : printV t = printN t 45 := by unfold printV; rw [if_pos ht]
      have hpl := print_len t ht 45
      have HPL := hid hpl
      have HBK := hid (blanked t ht)
      have CI := internals_any (printN t 45) (by rw [hpl]; omega) (HE.out.later HB4.out)
      rw [int_back t ht, readV_some, ← hpv] at CI
      have HCI := hid CI
      have HPV := hid hpv
      clear hb CI hpl hpv ht
      clear k0 k1 k2 k3 k4 k5 k6
      obtain ⟨k0, k1, k2, k3, k4, k5, k6⟩ := cA_load HA4.out
      go_wp2_with fail
      refine HCI.out.mono ?_
      rintro e w5 ⟨rfl, hb⟩
      have HB5 := hid ((HB4.out.trans (hb.mono HB4.out.size)).alloc (by have := HB4.out.size; have := hb.size; omega) (.cells (dtL t).toArray 29))
      have HL5 := hid ((hb.block w.heap.size (lt_of_some HA4.out)).trans HA4.out)
      have HA5 : Hid ((w5.alloc (.cells (dtL t).toArray 29)).heap[w.heap.size]? = some (.cells (dtL t).toArray 29 (0, 0))) := (Below.heap_alloc _ _ _ (lt_of_some HL5.out)).trans HL5.out
      have HY5 := hid (boxed0 t w5)
      have HS5 : Hid ((w5.alloc (.cells (dtL t).toArray 29)).heap.size = w5.heap.size + 1) := by unfold Hid; simp
      have HW5 := hid (lt_of_some HL5.out)
      obtain ⟨W, c, hcv, hu, hbc⟩ := to_bytes (str (printN t 45)) (w5.alloc (.cells (dtL t).toArray 29))
      rw [str_data, HS5.out] at hu
      rw [str_size, HPL.out, HS5.out] at hcv
      rw [HS5.out] at hbc
      rw [HPV.out]
      unfold dtL at hcv
      have HU := hid hu
      have HBC := hid hbc
      clear hb hu hbc HL5 HCI
      go_wp2_with fail
      have hLn := HPL.out
      generalize hLL : printN t 45 = L at HU hLn HBK
      go_loopw [56] (fun i wr => ∃ k : Nat, k ≤ 26 ∧ i = .int .i64 k ∧ UpAt wr (w5.heap.size + 1) (half gB L k) ∧ Below (w5.heap.size + 1) (w5.alloc (.cells (dtL t).toArray 29)) wr) (fun i _ => 26 - (intOf i).toNat)
      case atStart => exact ⟨0, by omega, rfl, HU.out, HBC.out⟩
      case round =>
        obtain ⟨k, hk, rfl, hr, hb⟩ := hrel
        have HR := hid hr
        have HBr := hid hb
        clear hr hb hcv
        by_cases hlt : k < 26
        · have hlt' : (k : Int) < 26 := by omega
          have hkL : k < L.length := by omega
          have hkh : k < (half gB L k).length := by rw [half_len]; exact hkL
          obtain ⟨hc, hf⟩ := HR.out.cell k hkh
          rw [half_at _ _ _ hkL hkh] at hc
          by_cases h45 : L[k] = 45
          · rw [h45] at hc
            by_cases h8 : k < 8
            · have h8' : (k : Int) < 8 := by omega
              have HST : Hid (UpAt (wr.setCell ⟨w5.heap.size + 1, k, none⟩ (.int .u8 32)) (w5.heap.size + 1) (half gB L (k + 1))) := by
                rw [Hid, half_next _ L k hkL, h45, gB_yes k h8]
                exact HR.out.set k hkh 32
              clear h45 hkL hkh
              go_wp2_with fail
              go_roundw
              case rel => exact ⟨k + 1, by omega, by go_num, HST.out, HBr.out.setCell (Nat.le_refl _) _⟩
              case measure => simp [intOf]; omega
            · have h8' : ¬ (k : Int) < 8 := by omega
              have HST : Hid (UpAt wr (w5.heap.size + 1) (half gB L (k + 1))) := by
                rw [Hid, half_same _ L k hkL (gB_no k _ (.inr (by omega)))]
                exact HR.out
              clear h45 hkL hkh
              go_wp2_with fail
              go_roundw
              case rel => exact ⟨k + 1, by omega, by go_num, HST.out, HBr.out⟩
              case measure => simp [intOf]; omega
          · have n45 : ((L[k].toNat : Int) == 45) = false := by
              have : ¬ L[k].toNat = 45 := fun e => h45 ((u8_eq L[k] 45 (by omega)).2 e)
              simp
              omega
            have HST : Hid (UpAt wr (w5.heap.size + 1) (half gB L (k + 1))) := by
              rw [Hid, half_same _ L k hkL (gB_no k _ (.inl h45))]
              exact HR.out
            generalize L[k].toNat = xx at hc n45
            clear h45 hkL hkh
            go_wp2_with fail
            go_roundw
            case rel => exact ⟨k + 1, by omega, by go_num, HST.out, HBr.out⟩
            case measure => simp [intOf]; omega
        · have HH : Hid (half gB L k = printN t 32) := by unfold Hid; rw [half_all _ L k (by omega)]; exact HBK.out
          have hcv : (convert 41 9 (.slice (some ⟨w5.heap.size + 1, 0, none⟩) 26 c)).run Tryd.prog wr = .ok (.string (str (printN t 32))) wr := by
            have := HR.out.conv (c := c)
            rw [half_len, hLn, HH.out] at this
            exact this
          have CM := mails_any (printN t 32) (by rw [print_len t HT.out]; omega) wr
          rw [mail_of t HT.out, readV_some] at CM
          have HCM := hid CM
          have hS5 := HS5.out
          have hAr := (HBr.out.block w.heap.size (by have := HW5.out; omega)).trans HA5.out
          have hYr := (HBr.out.block w5.heap.size (by omega)).trans HY5.out
          have HAr := hid hAr
          have HYr := hid hYr
          have HBW := hid (HB5.out.trans (HBr.out.mono (by have := HW5.out; omega)))
          clear CM hS5 hAr hYr
          go_wp2_with fail
          refine HCM.out.mono ?_
          rintro e w7 ⟨rfl, hb⟩
          have hA7 := (hb.block w.heap.size (lt_of_some HAr.out)).trans HAr.out
          have hY7 := (hb.block w5.heap.size (lt_of_some HYr.out)).trans HYr.out
          have HB7 := hid (HBW.out.trans (hb.mono HBW.out.size))
          have hlA := lt_of_some hA7
          have hlY := lt_of_some hY7
          have hkA := cA_load hA7
          have hkY := cA_load hY7
          have HA8 : Hid ((w7.alloc (.cells (dtL t).toArray 29)).heap[w.heap.size]? = some (.cells (dtL t).toArray 29 (0, 0))) := (Below.heap_alloc _ _ _ hlA).trans hA7
          have HY8 : Hid ((w7.alloc (.cells (dtL t).toArray 29)).heap[w5.heap.size]? = some (.cells (dtL t).toArray 29 (0, 0))) := (Below.heap_alloc _ _ _ hlY).trans hY7
          have HZ8 := hid (boxed0 t w7)
          have HB8 := hid (HB7.out.alloc HB7.out.size (.cells (dtL t).toArray 29))
          have q0 := all3 HA8.out HY8.out HZ8.out
          have CU := HUX.out ((w7.alloc (.cells (dtL t).toArray 29)).drew)
          rw [show unixV t = unixN t by unfold unixV; rw [if_pos HT.out]] at CU
          have HCU := hid CU
          have CA := at_yes (unixN t) t.z t (at_of t HT.out) (unix_range t HT.out).1 (unix_range t HT.out).2 HT.out.2.2.2.2.2.2.2.1 HT.out.2.2.2.2.2.2.2.2
          rw [show dtV t = .agg #[.int .i64 t.y, .int .i64 t.mo, .int .i64 t.d, .int .i64 t.h, .int .i64 t.mi, .int .i64 t.s, .int .i64 t.z] from rfl] at CA
          have HCA := hid CA
          clear CU CA hA7 hY7 hb hkA hkY
          go_wp2_with fail
          go_region_held3 (fun w' => w'.cell? ⟨w.heap.size, 0, none⟩ = some (.int .i64 t.y) ∧ w'.cell? ⟨w.heap.size, 1, none⟩ = some (.int .i64 t.mo) ∧ w'.cell? ⟨w.heap.size, 2, none⟩ = some (.int .i64 t.d) ∧ w'.cell? ⟨w.heap.size, 3, none⟩ = some (.int .i64 t.h) ∧ w'.cell? ⟨w.heap.size, 4, none⟩ = some (.int .i64 t.mi) ∧ w'.cell? ⟨w.heap.size, 5, none⟩ = some (.int .i64 t.s) ∧ w'.cell? ⟨w.heap.size, 6, none⟩ = some (.int .i64 t.z) ∧ w'.cell? ⟨w5.heap.size, 0, none⟩ = some (.int .i64 t.y) ∧ w'.cell? ⟨w5.heap.size, 1, none⟩ = some (.int .i64 t.mo) ∧ w'.cell? ⟨w5.heap.size, 2, none⟩ = some (.int .i64 t.d) ∧ w'.cell? ⟨w5.heap.size, 3, none⟩ = some (.int .i64 t.h) ∧ w'.cell? ⟨w5.heap.size, 4, none⟩ = some (.int .i64 t.mi) ∧ w'.cell? ⟨w5.heap.size, 5, none⟩ = some (.int .i64 t.s) ∧ w'.cell? ⟨w5.heap.size, 6, none⟩ = some (.int .i64 t.z) ∧ w'.cell? ⟨w7.heap.size, 0, none⟩ = some (.int .i64 t.y) ∧ w'.cell? ⟨w7.heap.size, 1, none⟩ = some (.int .i64 t.mo) ∧ w'.cell? ⟨w7.heap.size, 2, none⟩ = some (.int .i64 t.d) ∧ w'.cell? ⟨w7.heap.size, 3, none⟩ = some (.int .i64 t.h) ∧ w'.cell? ⟨w7.heap.size, 4, none⟩ = some (.int .i64 t.mi) ∧ w'.cell? ⟨w7.heap.size, 5, none⟩ = some (.int .i64 t.s) ∧ w'.cell? ⟨w7.heap.size, 6, none⟩ = some (.int .i64 t.z)) (first | exact q3 | exact q2 | exact q1 | exact q0 | go_keep) (first | (go_at_call 25; refine (no_any _ _).mono ?_; rintro e wn ⟨rfl, rfl⟩) | (go_at_call 17; refine HCU.out.mono ?_; rintro e w9 ⟨rfl, hb9⟩; have hA9 := (hb9.block w.heap.size (lt_of_some HA8.out)).trans HA8.out; have hY9 := (hb9.block w5.heap.size (lt_of_some HY8.out)).trans HY8.out; have hZ9 := (hb9.block w7.heap.size (lt_of_some HZ8.out)).trans HZ8.out; have HB9 := HB8.out.drew.trans (hb9.mono HB8.out.size); have q1 := all3 hA9 hY9 hZ9) | (go_at_call 19; refine (HCA.out _).mono ?_; rintro e w10 ⟨rfl, hb10⟩; have hA10 := (hb10.block w.heap.size (lt_of_some hA9)).trans hA9; have hY10 := (hb10.block w5.heap.size (lt_of_some hY9)).trans hY9; have hZ10 := (hb10.block w7.heap.size (lt_of_some hZ9)).trans hZ9; have HB10 := HB9.trans (hb10.mono HB9.size); have q2 := all3 hA10 hY10 hZ10) | (go_at_call 14; refine (alive_any (HE.out.later HB10)).mono ?_; rintro e w11 ⟨rfl, hb11⟩; have hA11 := (hb11.block w.heap.size (lt_of_some hA10)).trans hA10; have hY11 := (hb11.block w5.heap.size (lt_of_some hY10)).trans hY10; have hZ11 := (hb11.block w7.heap.size (lt_of_some hZ10)).trans hZ10; have HB11 := HB10.trans (hb11.mono HB10.size); have q3 := all3 hA11 hY11 hZ11))
          go_wp2_with fail
          go_ret
          exact ⟨rfl, HB11⟩
    · have CR := HRI.out w3
      rw [decide_eq_false ht] at CR
      refine CR.mono ?_
      clear CR
      rintro e w4 ⟨rfl, hb⟩
      have HB4 := hid (HB3.out.trans (hb.mono HB3.out.size))
      have HA4 := hid ((hb.block w.heap.size (lt_of_some HA3.out)).trans HA3.out)
      have hpv : printV t = [] := by unfold printV; rw [if_neg ht]
      have hq : ((str (printV t)).toList == []) = true := by rw [hpv, toList_str]; rfl
      have CU := HUX.out w4
      rw [show unixV t = 0 by unfold unixV; rw [if_neg ht]] at CU
      have HCU := hid CU
      clear hb hpv ht CU
      clear k0 k1 k2 k3 k4 k5 k6
      obtain ⟨k0, k1, k2, k3, k4, k5, k6⟩ := cA_load HA4.out
      go_wp2_with fail
      refine HCU.out.mono ?_
      rintro e w5 ⟨rfl, hb⟩
      have HB5 := hid (HB4.out.trans (hb.mono HB4.out.size))
      clear hb
      go_wp2_with fail
      refine (alive_any (HE.out.later HB5.out)).mono ?_
      rintro e w6 ⟨rfl, hb⟩
      have HB6 := hid (HB5.out.trans (hb.mono HB5.out.size))
      clear hb
      go_wp2_with fail
      go_ret
      exact ⟨rfl, HB6.out⟩

theorem witness (os : Os) {H : Type} (enc : TypeId × Value → H) :
    (OpenSpec.ofChange Rows.dateBackSpec).preRow enc Tryd.prog Tryd.f7 Rows.dateBackRow.domain false Rows.dateBackRow.laid ((laidWorld os).forCall (fun _ _ => 0) ⟨#[], #[.agg #[.int .i64 0, .int .i64 0, .int .i64 0, .int .i64 0, .int .i64 0, .int .i64 0, .int .i64 0], .string ⟨#[]⟩], []⟩).memory #[.agg #[.int .i64 0, .int .i64 0, .int .i64 0, .int .i64 0, .int .i64 0, .int .i64 0, .int .i64 0], .string ⟨#[]⟩] := by
  have hw : (DataW.whole enc Tryd.prog ((laidWorld os).forCall (fun _ _ => 0) ⟨#[], #[.agg #[.int .i64 0, .int .i64 0, .int .i64 0, .int .i64 0, .int .i64 0, .int .i64 0, .int .i64 0], .string ⟨#[]⟩], []⟩).memory Tryd.f7.params.toList Rows.dateBackSpec.vars false (#[.agg #[.int .i64 0, .int .i64 0, .int .i64 0, .int .i64 0, .int .i64 0, .int .i64 0, .int .i64 0], .string ⟨#[]⟩] : Array Value).toList 8).map (fun x => (x.1, x.2.1)) =
      some ([.agg [.lit (.int .i64 0), .lit (.int .i64 0), .lit (.int .i64 0), .lit (.int .i64 0), .lit (.int .i64 0), .lit (.int .i64 0), .lit (.int .i64 0)], .lit (.string [])], []) := by kernel_rfl
  obtain ⟨⟨x1, x2, x3⟩, hx, hx1⟩ := Option.map_eq_some_iff.1 hw
  simp only [Prod.mk.injEq] at hx1
  obtain ⟨rfl, rfl⟩ := hx1
  exact OpenSpec.preRow_of_cond 8 hx (by kernel_rfl) (fun k hk => by cases hk) (by kernel_rfl) (laid_met os _)

set_option maxRecDepth 100000 in
set_option maxHeartbeats 2000000 in
theorem lifted (os : Os) (started : os.Started) (H : Type) (enc : TypeId × Value → H) (F : Stop.Interp) :
    ReturnsInHanded {} Tryd.checked os 7 .any ((OpenSpec.ofChange Rows.dateBackSpec).preRow enc Tryd.prog Tryd.f7 Rows.dateBackRow.domain false Rows.dateBackRow.laid) (((OpenSpec.ofChange Rows.dateBackSpec).at F).post enc Tryd.prog Tryd.f7 false true false false) := by
  refine returnsInHanded_of_row (C := Tryd.checked) (s := OpenSpec.ofChange Rows.dateBackSpec) own started (by kernel_rfl) Tryd.func7
    (witness_row_atRef (enc := enc) (C := Tryd.checked) false (laidWorld os) #[.agg #[.int .i64 0, .int .i64 0, .int .i64 0, .int .i64 0, .int .i64 0, .int .i64 0, .int .i64 0], .string ⟨#[]⟩] rfl (by kernel_rfl) (by kernel_rfl) (by kernel_rfl) (witness os enc)) ?_
  intro W base args ds gs before hval0 hW _ _ _ hL hsh _
  have hval : ∀ (j : Nat) t v, Tryd.f7.params[j]? = some t → args[j]? = some v → Value.okWide Tryd.prog W .any base t v := hval0
  have hW' := hW
  obtain ⟨p, q, hA0, hV, rfl, hfz, hnd⟩ := hW
  have hA : DataW.TrodAll enc Tryd.prog W 0 (fun _ => true) true Tryd.f7.params.toList args.toList ds p := hA0
  rw [Tryd.params7] at hA hval
  obtain ⟨v0, vs0, d0, ds0, p0, q0, hargs, rfl, rfl, h0, r0⟩ := trodAll_cons hA
  obtain ⟨v1, vs1, d1, ds1, p1, q1, rfl, rfl, rfl, h1, r1⟩ := trodAll_cons r0
  obtain ⟨rfl, rfl, rfl⟩ := trodAll_nil r1
  obtain rfl : args = #[v0, v1] := by cases args; simp_all
  obtain ⟨rfl, rfl⟩ := trodVars_none hV
  obtain ⟨cs0, rfl, sz0⟩ := okWide_struct Tryd.underlying29 (hval 0 29 v0 rfl rfl)
  have lt0 : ∀ x ∈ p0, x.block < W.heap.size := by obtain ⟨m, hm⟩ := h0; exact DataW.trod_lt m _ _ _ hm
  obtain ⟨t0, rfl⟩ : ∃ t, cs0 = (dtL t).toArray := by obtain ⟨fuel, hf⟩ := h0; exact open_date (sz0.trans cells29) hf
  obtain ⟨a1, rfl, rfl, rfl, w1⟩ := open_string Tryd.underlying9 (hval 1 9 v1 rfl rfl) h1
  clear hA0 hval0
  refine (walk t0 a1 (env_of hL) w1).mono ?_
  rintro e W' ⟨rfl, bel⟩
  exact ⟨_, rfl, _, _, _, [], _, [], hW', trodAll_mk1 (shut_bool Tryd.underlying4 _), (trodAll_cons_mk (Below.trod laidOut (by kernel_rfl) (of_decide_eq_true (by kernel_rfl)) h0 bel lt0) (trodAll_cons_mk (shut_string Tryd.underlying9 w1) trodAll_mk0)), rfl, bel.frame _, fun h => by cases h⟩

theorem over : Rows.dateBackRow.holds Tryd.pinned (OpenSpec.ofChange Rows.dateBackSpec) :=
  OpenClaim.holds_of_cond 7 Tryd.f7 rfl rfl rfl rfl rfl rfl rfl ⟨rfl, rfl, rfl, rfl, rfl⟩ rfl rfl rfl rfl rfl (by kernel_rfl) Tryd.func7 (by kernel_rfl)
    (of_decide_eq_true (by kernel_rfl)) (by unfold Func.isWrapper; first | (rw [if_pos (by decide +kernel)]; kernel_rfl) | (rw [if_neg (by decide +kernel)]; exact ⟨rfl, rfl⟩))
    (fun os started H enc _ F => by rw [OpenClaim.pre_eq_preRow]; exact lifted os started H enc F)

/-- No parameter wants a stand-in. -/
theorem plain (f : FuncId) (fn : Func) (hf : Tryd.pinned.checked.prog.funcNamed Rows.dateBackRow.func = some f) (hfn : Tryd.pinned.checked.prog.funcs[f]? = some fn) :
    true = Tryd.pinned.checked.prog.looks [] ∧ ∀ (j : Nat) t, fn.params[j]? = some t → Tryd.pinned.checked.prog.wantsStandIn t = false := by
  obtain rfl : f = 7 := Option.some.inj ((show Tryd.prog.funcNamed Rows.dateBackRow.func = some 7 by kernel_rfl).symm.trans hf) |>.symm
  obtain rfl : fn = Tryd.f7 := (Option.some.inj (Tryd.func7.symm.trans hfn)).symm
  refine ⟨by kernel_rfl, fun j t ht => ?_⟩
  rw [Tryd.params7] at ht
  have hm := Array.mem_of_getElem? ht
  simp only [List.mem_toArray, List.mem_cons, List.not_mem_nil, or_false, or_self] at hm
  rcases hm with rfl | rfl
  · exact (show Tryd.prog.wantsStandIn 29 = false by kernel_rfl)
  · exact (show Tryd.prog.wantsStandIn 9 = false by kernel_rfl)
end Go.Proofs.YtnjdgbbdjkhpoaaDoor.dateBack
namespace Go.Proofs.YtnjdgbbdjkhpoaaDoor
/-- THE STATEMENT. -/
theorem dateBack_holds : Rows.DateBackCardSaid :=
  Claim7.holds_tied_plain_at .later [] _ _ _ _ dateBack.over (fun _ h => by cases h) (by kernel_rfl) (fun _ h => by cases h) dateBack_row_tie rfl ⟨rfl, rfl⟩ (by kernel_rfl) rfl dateBack.plain (by kernel_rfl)
#print axioms dateBack_holds
end Go.Proofs.YtnjdgbbdjkhpoaaDoor
