/- What this text holds: bytes that are read one behind the other: the program's rest. -/
import Derived.Test.YtkipigbfbhecjaaN6
import Derived.Laws.BitsAllLaws
import Derived.Lib.ConvBytes
namespace Go.Proofs.Ytkipigbfbhecjaa
open Go.RowKit
set_option linter.unusedVariables false
set_option linter.unusedSimpArgs false

/-- What is left of a content: its bytes, and whether there were too few. -/
structure Rs where
  s : ByteArray
  short : Bool
def Rs.cut (r : Rs) (k : Nat) : ByteArray := if r.s.size < k then ⟨#[]⟩ else r.s.extract 0 k
def Rs.after (r : Rs) (k : Nat) : Rs := if r.s.size < k then ⟨⟨#[]⟩, true⟩ else ⟨r.s.extract k r.s.size, r.short⟩
def Rs.num (r : Rs) (k : Nat) : Int := val (bOf (r.cut k))
/-- It lies in memory. -/
def RsAt (w : World) (b : Nat) (r : Rs) : Prop := w.heap[b]? = some (.cells #[.string r.s, .bool r.short] 89 (0, 0))
theorem RsAt.cells {w : World} {b : Nat} {r : Rs} (h : RsAt w b r) : (w.cell? ⟨b, 0, none⟩ = some (.string r.s) ∧ w.cell? ⟨b, 1, none⟩ = some (.bool r.short)) ∧ ∀ o, w.frozen? ⟨b, o, none⟩ = false := by
  unfold RsAt at h
  refine ⟨?_, fun o => by simp [World.frozen?, h]⟩
  simp only [World.cell?, h]; exact ⟨rfl, rfl⟩
theorem RsAt.set0 {w : World} {b : Nat} {r : Rs} (h : RsAt w b r) (s : ByteArray) : RsAt (w.setCell ⟨b, 0, none⟩ (.string s)) b ⟨s, r.short⟩ := by
  unfold RsAt at h ⊢
  rw [heap_setCell_same _ _ _ _ _ _ h]; rfl
theorem RsAt.set1 {w : World} {b : Nat} {r : Rs} (h : RsAt w b r) (x : Bool) : RsAt (w.setCell ⟨b, 1, none⟩ (.bool x)) b ⟨r.s, x⟩ := by
  unfold RsAt at h ⊢
  rw [heap_setCell_same _ _ _ _ _ _ h]; rfl
theorem RsAt.lt {w : World} {b : Nat} {r : Rs} (h : RsAt w b r) : b < w.heap.size := by
  unfold RsAt at h
  rw [Array.getElem?_eq_some_iff] at h
  exact h.1

set_option maxRecDepth 100000 in
set_option maxHeartbeats 1000000 in
theorem take_any {w : World} {b : Nat} {r : Rs} (h : RsAt w b r) (hs : r.s.size ≤ 20000) (k : Nat) (hk : k ≤ 100000) :
    Calls Try.prog 64 #[.pointer (some ⟨b, 0, none⟩), .int .i64 k] w fun e w' => e = .returned (.string (r.cut k)) ∧ RsAt w' b (r.after k) ∧ Kept [b] w w' := by
  obtain ⟨⟨c0, c1⟩, hf⟩ := h.cells
  have f0 := hf 0
  have f1 := hf 1
  clear hf
  have H := hid h
  clear h
  by_cases hlt : r.s.size < k
  · have hlt' : (r.s.size : Int) < k := by omega
    have H2 := hid ((H.out.set0 ⟨#[]⟩).set1 true)
    have HK := hid ((Kept.setCell [b] w ⟨b, 0, none⟩ (.string ⟨#[]⟩) (by simp)).trans (Kept.setCell [b] _ ⟨b, 1, none⟩ (.bool true) (by simp)) (fun _ _ h => h))
    have E1 := hid (show r.cut k = ⟨#[]⟩ by unfold Rs.cut; rw [if_pos hlt])
    have E2 := hid (show r.after k = ⟨⟨#[]⟩, true⟩ by unfold Rs.after; rw [if_pos hlt])
    go_enter Try.func64, Try.ntmps64
    go_wp2_with fail
    go_ret
    exact ⟨by rw [E1.out]; rfl, by rw [E2.out]; exact H2.out, HK.out⟩
  · have hlt' : ¬ (r.s.size : Int) < k := by omega
    have H2 := hid (H.out.set0 (r.s.extract k r.s.size))
    have HK := hid (Kept.setCell [b] w ⟨b, 0, none⟩ (.string (r.s.extract k r.s.size)) (by simp))
    have E1 := hid (show r.cut k = r.s.extract 0 k by unfold Rs.cut; rw [if_neg hlt])
    have E2 := hid (show r.after k = ⟨r.s.extract k r.s.size, r.short⟩ by unfold Rs.after; rw [if_neg hlt])
    go_enter Try.func64, Try.ntmps64
    go_wp2_with fail
    go_ret
    exact ⟨by rw [E1.out]; rfl, by rw [E2.out]; exact H2.out, HK.out⟩

/-- A string as bytes. -/
theorem conv_made (w : World) (s : ByteArray) : ∃ cap w', (convert 9 78 (.string s)).run Try.prog w = .ok (.slice (some ⟨w.heap.size, 0, none⟩) s.size cap) w' ∧ BAt w' (some ⟨w.heap.size, 0, none⟩) (bOf s) ∧ Below w.heap.size w w' ∧ s.size ≤ cap := by
  refine ⟨grownCap w s.size 0 5, Lib.bytesWorld w 5 s, ?_, ?_, ?_, grownCap_ge w s.size 0 5⟩
  · exact Lib.run_convert_string_bytes w 9 78 5 s Try.underlying9 Try.underlying78 Try.underlying5
  · intro j v hv
    refine ⟨_, rfl, ?_⟩
    rw [Addr.add_mid, Nat.zero_add]
    have hj : j < s.size := by
      have := (List.getElem?_eq_some_iff.1 hv).1
      rw [bOf_length] at this
      exact this
    rw [Lib.bytesWorld_cell w 5 s j hj]
    have e := bOf_at s j hj
    rw [e] at hv
    have hj2 : j < s.data.toList.length := by rw [Array.length_toList]; exact hj
    simp [List.getD, List.getElem?_eq_getElem hj2] at hv ⊢
    exact hv
  · exact ⟨rfl, rfl, rfl, by rw [Lib.bytesWorld_size]; omega, fun k hk => Lib.bytesWorld_at_old w 5 s k hk⟩
theorem i64_or (a b : Int) (h1 : 0 ≤ a) (h2 : a < 4611686018427387904) (h3 : 0 ≤ b) (h4 : b < 4611686018427387904) : bits .or .i64 a b = ((a.toNat ||| b.toNat : Nat) : Int) := by
  obtain ⟨A, rfl⟩ := Int.eq_ofNat_of_zero_le h1
  obtain ⟨B, rfl⟩ := Int.eq_ofNat_of_zero_le h3
  have hx : A ||| B < 2 ^ 62 := Nat.or_lt_two_pow (by omega) (by omega)
  show IntKind.i64.wrap ((BitVec.ofInt 64 (A : Int) ||| BitVec.ofInt 64 (B : Int)).toNat : Int) = _
  rw [BitVec.toNat_or, ofInt_u64 A (by omega), ofInt_u64 B (by omega)]
  simp [IntKind.wrap, IntKind.bits, IntKind.signed]
  omega
theorem or_lowI (x c : Int) (h0 : 0 ≤ x) (h1 : x < 16777216) (hc : 0 ≤ c ∧ c < 256) : bits .or .i64 (x * 256) c = x * 256 + c := by
  rw [i64_or _ _ (by omega) (by omega) hc.1 (by omega)]
  have e3 : (x * 256).toNat = 2 ^ 8 * x.toNat := by omega
  rw [e3, ← Nat.two_pow_add_eq_or_of_lt (by omega)]
  omega

theorem cut_size (r : Rs) (k : Nat) : (r.cut k).size ≤ k := by
  unfold Rs.cut
  split
  · exact Nat.zero_le _
  · rw [ByteArray.size_extract]; omega
theorem num_nonneg (r : Rs) (k : Nat) : 0 ≤ r.num k := by
  have := val_range (bOf (r.cut k)) (bOf_range _) (bOf (r.cut k)).length (Nat.le_refl _)
  rw [List.take_length] at this
  exact this.1
theorem pow_le5 : ∀ a < 5, ∀ b < 5, a ≤ b → (256 : Int) ^ a ≤ 256 ^ b := by decide
theorem num_lt (r : Rs) (k : Nat) (hk : k ≤ 4) : r.num k < 256 ^ k := by
  have := val_range (bOf (r.cut k)) (bOf_range _) (bOf (r.cut k)).length (Nat.le_refl _)
  rw [List.take_length] at this
  refine Int.lt_of_lt_of_le this.2 ?_
  rw [bOf_length]
  have h1 := cut_size r k
  exact pow_le5 _ (by omega) _ (by omega) h1

set_option maxRecDepth 100000 in
set_option maxHeartbeats 1000000 in
theorem rnum_any {w : World} {b : Nat} {r : Rs} (h : RsAt w b r) (hs : r.s.size ≤ 20000) (k : Nat) (hk : k ≤ 4) :
    Calls Try.prog 63 #[.pointer (some ⟨b, 0, none⟩), .int .i64 k] w fun e w' => e = .returned (.int .i64 (r.num k)) ∧ RsAt w' b (r.after k) ∧ Kept [b] w w' := by
  have HT := hid (take_any h hs k (by omega))
  clear h
  go_enter Try.func63, Try.ntmps63
  go_wp2_with fail
  refine HT.out.mono ?_
  rintro e w1 ⟨rfl, h1, hk1⟩
  have hsz := cut_size r k
  have HE := hid (show r.num k = val (bOf (r.cut k)) from rfl)
  have HR := hid (bOf_range (r.cut k))
  have HL := hid (bOf_length (r.cut k))
  obtain ⟨cap, w2, hrun, hba, hb2, hcap⟩ := conv_made w1 (r.cut k)
  have H2 := hid (show RsAt w2 b (r.after k) from (hb2.block b h1.lt).trans h1)
  have HK2 := hid (hk1.trans (Kept.ofBelow hb2 [b]) (fun _ _ h => h))
  have HBA := hid hba
  clear h1 hk1 hba hb2 HT
  generalize r.cut k = t at *
  generalize w1.heap.size = g at *
  go_wp2_with fail
  go_loop [5, 13] (fun n i => ∃ j : Nat, j ≤ t.size ∧ i = .int .i64 j ∧ n = .int .i64 (val ((bOf t).take j))) (fun _ i => t.size - (intOf i).toNat)
  case atStart => exact ⟨0, by omega, rfl, rfl⟩
  case round =>
    obtain ⟨j, hj, rfl, rfl⟩ := hrel
    have s0 := val_range (bOf t) HR.out j (by rw [HL.out]; exact hj)
    by_cases hlt : j < t.size
    · have hlt' : (j : Int) < t.size := by omega
      have hjl : j < (bOf t).length := by rw [HL.out]; exact hlt
      obtain ⟨p, e, hc⟩ := HBA.out j (bOf t)[j] (by simp)
      obtain rfl := Option.some.inj e
      rw [Addr.add_mid, Nat.zero_add] at hc
      have hcb := HR.out _ (List.getElem_mem hjl)
      have HV := hid (val_take (bOf t) j hjl)
      have hlim : val ((bOf t).take j) < 16777216 := by
        have h3 : j ≤ 3 := by omega
        have h4 : (256 : Int) ^ j ≤ 256 ^ 3 := pow_le5 _ (by omega) _ (by omega) h3
        have h5 := s0.2
        omega
      have hor := or_lowI _ _ s0.1 hlim hcb
      have hv0 := s0.1
      generalize val ((bOf t).take j) = V at *
      generalize (bOf t)[j] = c at *
      clear s0
      go_wp2_with fail
      go_round
      case rel => exact ⟨j + 1, by omega, by go_num, by rw [HV.out]⟩
      case measure => simp [intOf]; omega
    · have hlt' : ¬ (j : Int) < t.size := by omega
      obtain rfl : j = t.size := by omega
      clear s0
      have HF := hid (show val ((bOf t).take t.size) = val (bOf t) by rw [List.take_of_length_le (by rw [HL.out]; exact Nat.le_refl _)])
      rw [HF.out]
      go_wp2_with fail
      go_ret
      exact ⟨by rw [HE.out]; rfl, H2.out, HK2.out⟩

def Rs.item (r : Rs) : It := if r.num 1 = 255 then ⟨⟨#[]⟩, (r.after 1).num 4, ((r.after 1).after 4).num 4⟩ else ⟨(r.after 1).cut (r.num 1).toNat, 0, 0⟩
def Rs.afterItem (r : Rs) : Rs := if r.num 1 = 255 then ((r.after 1).after 4).after 4 else (r.after 1).after (r.num 1).toNat
theorem after_size (r : Rs) (k : Nat) : (r.after k).s.size ≤ r.s.size := by
  unfold Rs.after
  split
  · exact Nat.zero_le _
  · show (r.s.extract k r.s.size).size ≤ _
    rw [ByteArray.size_extract]; omega
theorem RsAt.kept {w w' : World} {b : Nat} {r : Rs} {S : List Nat} (h : RsAt w b r) (hk : Kept S w w') (hb : b ∉ S) : RsAt w' b r := (hk.block b h.lt hb).trans h

theorem sizeOf51 : (Try.prog.info? 51).map (·.size) = some 3 := by kernel_rfl
theorem load51 {R : Nat} {x0 x1 x2 : Value} {w : World} (h : w.heap[R]? = some (.cells #[x0, x1, x2] 51 (0, 0))) : (loadVar 51 ⟨R, 0, none⟩).run Try.prog w = .ok (.agg #[x0, x1, x2]) w := by
  have hs := sizeOf51
  cases hq : Try.prog.info? 51 with
  | none => simp [hq] at hs
  | some i =>
    have h1 : i.size = 3 := by simpa [hq] using hs
    have hu : (isAgg 51).run Try.prog w = .ok true w := by kernel_rfl
    have hl := run_loadCells_list (P := Try.prog) w ⟨R, 0, none⟩ [x0, x1, x2] (fun j v hv => by
      rw [Addr.add_mid, Nat.zero_add]
      simp only [World.cell?, h]
      simpa using hv)
    have hl4 : (loadCells ⟨R, 0, none⟩ 3).run Try.prog w = .ok #[x0, x1, x2] w := hl
    simp [loadVar, Sem.run_bind, hu, sizeOf, typeInfo, hq, h1, hl4]
theorem results_cell51 {fn : Func} {p : Tmp} (h : fn.results = #[.cell p 51]) {tmps : Array Value} {w : World} {R : Nat} {x0 x1 x2 : Value} (ht : tmps.getD p undef = .pointer (some ⟨R, 0, none⟩)) (hx : w.heap[R]? = some (.cells #[x0, x1, x2] 51 (0, 0))) :
    (results fn tmps).run Try.prog w = .ok (.agg #[x0, x1, x2]) w := by
  have e : (results fn tmps).run Try.prog w = ((asAddr (tmps.getD p undef)).run Try.prog w).andThen fun a w₁ => (loadVar 51 a).run Try.prog w₁ := by
    simp only [results, h]
    simp [Sem.run_bind, Result.andThen]
  refine e.trans ?_
  generalize tmps.getD p undef = v at ht
  subst ht
  have ha : (asAddr (.pointer (some ⟨R, 0, none⟩))).run Try.prog w = .ok ⟨R, 0, none⟩ w := by simp [asAddr]
  simp only [ha, Result.andThen_ok]
  exact load51 hx
theorem cells3of {w : World} {R : Nat} {x0 x1 x2 : Value} {t : TypeId} (h : w.heap[R]? = some (.cells #[x0, x1, x2] t (0, 0))) :
    (w.cell? ⟨R, 0, none⟩ = some x0 ∧ w.cell? ⟨R, 1, none⟩ = some x1 ∧ w.cell? ⟨R, 2, none⟩ = some x2) ∧ ∀ o, w.frozen? ⟨R, o, none⟩ = false := by
  refine ⟨?_, fun o => by simp [World.frozen?, h]⟩
  simp only [World.cell?, h]; exact ⟨rfl, rfl, rfl⟩
theorem set3 {w : World} {R : Nat} {x0 x1 x2 : Value} {t : TypeId} (h : w.heap[R]? = some (.cells #[x0, x1, x2] t (0, 0))) (y0 y1 y2 : Value) :
    (((w.setCell ⟨R, 0, none⟩ y0).setCell ⟨R, 1, none⟩ y1).setCell ⟨R, 2, none⟩ y2).heap[R]? = some (.cells #[y0, y1, y2] t (0, 0)) := by
  rw [heap_setCell_same _ _ _ _ _ _ (heap_setCell_same _ _ _ _ _ _ (heap_setCell_same _ _ _ _ _ _ h))]
  rfl
theorem kept_set3 (w : World) (R : Nat) (y0 y1 y2 : Value) : Kept [R] w (((w.setCell ⟨R, 0, none⟩ y0).setCell ⟨R, 1, none⟩ y1).setCell ⟨R, 2, none⟩ y2) :=
  ((Kept.setCell [R] w ⟨R, 0, none⟩ y0 (by simp)).trans (Kept.setCell [R] _ ⟨R, 1, none⟩ y1 (by simp)) (fun _ _ h => h)).trans (Kept.setCell [R] _ ⟨R, 2, none⟩ y2 (by simp)) (fun _ _ h => h)

set_option maxRecDepth 100000 in
set_option maxHeartbeats 1000000 in
theorem ritm_any {w : World} {b : Nat} {r : Rs} (h : RsAt w b r) (hs : r.s.size ≤ 20000) :
    Calls Try.prog 65 #[.pointer (some ⟨b, 0, none⟩)] w fun e w' => e = .returned (itv r.item) ∧ RsAt w' b r.afterItem ∧ Kept [b] w w' := by
  have hlt := h.lt
  have H0 := hid (h.kept (Kept.alloc [] w (.cells #[.string ⟨#[]⟩, .int .i64 0, .int .i64 0] 51)) (by simp))
  have HX0 := hid (heap_alloc_new w (.cells #[.string ⟨#[]⟩, .int .i64 0, .int .i64 0] 51))
  have HK0 := hid (Kept.alloc [b] w (.cells #[.string ⟨#[]⟩, .int .i64 0, .int .i64 0] 51))
  have hne : w.heap.size ≠ b := by omega
  clear h
  have HN0 := hid (num_nonneg r 1)
  have HN1 := hid (num_lt r 1 (by omega))
  go_enter Try.func65, Try.ntmps65
  go_wp2_with fail
  generalize w.alloc (.cells #[.string ⟨#[]⟩, .int .i64 0, .int .i64 0] 51) = W at H0 HX0 HK0 ⊢
  generalize hRe : w.heap.size = R at HX0 hne ⊢
  refine (rnum_any H0.out hs 1 (by omega)).mono ?_
  rintro e w1 ⟨rfl, h1, k1⟩
  have HX1 := hid ((k1.block R (by have := HX0.out; rw [Array.getElem?_eq_some_iff] at this; exact this.1) (by simpa using hne)).trans HX0.out)
  have HK1 := hid (HK0.out.trans k1 (fun _ _ h => h))
  have H1 := hid h1
  clear h1 k1 H0 HX0 HK0
  have hs1 : (r.after 1).s.size ≤ 20000 := Nat.le_trans (after_size r 1) hs
  by_cases h255 : r.num 1 = 255
  · have HI := hid (show r.item = ⟨⟨#[]⟩, (r.after 1).num 4, ((r.after 1).after 4).num 4⟩ by unfold Rs.item; rw [if_pos h255])
    have HA := hid (show r.afterItem = ((r.after 1).after 4).after 4 by unfold Rs.afterItem; rw [if_pos h255])
    rw [h255]
    go_wp2_with fail
    refine (rnum_any H1.out hs1 4 (by omega)).mono ?_
    rintro e w2 ⟨rfl, h2, k2⟩
    have HX2 := hid ((k2.block R (by have := HX1.out; rw [Array.getElem?_eq_some_iff] at this; exact this.1) (by simpa using hne)).trans HX1.out)
    have HK2 := hid (HK1.out.trans k2 (fun _ _ h => h))
    have H2 := hid h2
    clear h2 k2
    have hs2 : ((r.after 1).after 4).s.size ≤ 20000 := Nat.le_trans (after_size _ 4) hs1
    go_wp2_with fail
    refine (rnum_any H2.out hs2 4 (by omega)).mono ?_
    rintro e w3 ⟨rfl, h3, k3⟩
    have HX3 := hid ((k3.block R (by have := HX2.out; rw [Array.getElem?_eq_some_iff] at this; exact this.1) (by simpa using hne)).trans HX2.out)
    have HK3 := hid (HK2.out.trans k3 (fun _ _ h => h))
    have H3 := hid h3
    clear h3 k3
    obtain ⟨⟨c0, c1, c2⟩, hf⟩ := cells3of HX3.out
    have f0 := hf 0
    have f1 := hf 1
    have f2 := hf 2
    clear hf
    go_wp2_with fail
    refine bodyPost_ret (results_cell51 rfl rfl (set3 HX3.out _ _ _)) rfl ?_
    refine ⟨by rw [HI.out]; rfl, ?_, ?_⟩
    · rw [HA.out]; exact H3.out.kept (kept_set3 w3 R _ _ _) (by simpa using hne.symm)
    · exact HK3.out.trans ((kept_set3 w3 R _ _ _).mono (T := [b, R]) (fun i _ h => by simp at h; simp [h])) (fun i hi h => by
        simp only [List.mem_cons, List.not_mem_nil, or_false] at h ⊢
        rcases h with h | h
        · exact h
        · rw [← hRe] at h; omega)
  · have h255' : (r.num 1 == 255) = false := beq_eq_false_iff_ne.2 h255
    have HI := hid (show r.item = ⟨(r.after 1).cut (r.num 1).toNat, 0, 0⟩ by unfold Rs.item; rw [if_neg h255])
    have HA := hid (show r.afterItem = (r.after 1).after (r.num 1).toNat by unfold Rs.afterItem; rw [if_neg h255])
    have hn2 : r.num 1 < 256 := HN1.out
    have HT := hid (take_any H1.out hs1 (r.num 1).toNat (by omega))
    have hcast : ((r.num 1).toNat : Int) = r.num 1 := by have := HN0.out; omega
    rw [hcast] at HT
    clear h255 hcast
    go_wp2_with fail
    refine HT.out.mono ?_
    rintro e w3 ⟨rfl, h3, k3⟩
    have HX3 := hid ((k3.block R (by have := HX1.out; rw [Array.getElem?_eq_some_iff] at this; exact this.1) (by simpa using hne)).trans HX1.out)
    have HK3 := hid (HK1.out.trans k3 (fun _ _ h => h))
    have H3 := hid h3
    clear h3 k3 HT
    obtain ⟨⟨c0, c1, c2⟩, hf⟩ := cells3of HX3.out
    have f0 := hf 0
    have f1 := hf 1
    have f2 := hf 2
    clear hf
    go_wp2_with fail
    refine bodyPost_ret (results_cell51 rfl rfl (set3 HX3.out _ _ _)) rfl ?_
    refine ⟨by rw [HI.out]; rfl, ?_, ?_⟩
    · rw [HA.out]; exact H3.out.kept (kept_set3 w3 R _ _ _) (by simpa using hne.symm)
    · exact HK3.out.trans ((kept_set3 w3 R _ _ _).mono (T := [b, R]) (fun i _ h => by simp at h; simp [h])) (fun i hi h => by
        simp only [List.mem_cons, List.not_mem_nil, or_false] at h ⊢
        rcases h with h | h
        · exact h
        · rw [← hRe] at h; omega)
end Go.Proofs.Ytkipigbfbhecjaa
