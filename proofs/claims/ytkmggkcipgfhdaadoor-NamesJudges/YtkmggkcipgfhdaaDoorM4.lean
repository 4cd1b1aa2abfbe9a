/- What this text holds: a text in seven bits: the program's answer. -/
import Derived.Test.YtkmggkcipgfhdaaDoorM3
import Derived.Test.YtkmggkcipgfhdaaDoorShelf
namespace Go.Proofs.YtkmggkcipgfhdaaDoor
open Go.RowKit
set_option linter.unusedVariables false
set_option linter.unusedSimpArgs false

/-- What the library's tables and its one number are. -/
structure Env (w : World) : Prop where
  tabs : Go.Lib.Utf8Tabs 0 1 w
  num : ∃ m, w.cell? ⟨2, 0, none⟩ = some (.int .i64 m)
theorem Env.later {w w' : World} (h : Env w) (hb : Below w.heap.size w w') : Env w' := by
  obtain ⟨m, hm⟩ := h.num
  refine ⟨⟨fun c hc => ?_, fun i hi => ⟨?_, ?_⟩⟩, m, ?_⟩
  · exact (hb.cell (World.block_lt_of_cell? w _ (h.tabs.1 c hc))).trans (h.tabs.1 c hc)
  · exact (hb.cell (World.block_lt_of_cell? w _ (h.tabs.2 i hi).1)).trans (h.tabs.2 i hi).1
  · exact (hb.cell (World.block_lt_of_cell? w _ (h.tabs.2 i hi).2)).trans (h.tabs.2 i hi).2
  · exact (hb.cell (World.block_lt_of_cell? w _ hm)).trans hm
theorem valid_any (s : ByteArray) {w : World} (h : Env w) (hs : s.size ≤ 9223372036854775807) :
    Calls Tryd.prog 33 #[.string s] w fun e w' => e = .returned (.bool (Go.Lib.validD s.data.toList)) ∧ Below w.heap.size w w' := Any.utf8_ValidString Tryd.laysValid s w hs h.tabs

theorem ret_bool {a b : Bool} (h : a = b) : Ending.returned (.bool a) = .returned (.bool b) := by rw [h]
set_option maxRecDepth 100000 in
set_option maxHeartbeats 400000 in
theorem stands_any (r : Nat) (w : World) : Calls Tryd.prog 34 #[.int .i32 r] w fun e w' => e = .returned (.bool (plainR r)) ∧ w' = w := by
  go_enter Tryd.func34, Tryd.ntmps34
  go_wp2
  · go_ret
    refine ⟨ret_bool (b := plainR r) ?_, rfl⟩
    rw [Bool.eq_iff_iff]
    simp [plainR]
    omega
  · go_ret
    refine ⟨ret_bool (b := plainR r) ?_, rfl⟩
    rw [Bool.eq_iff_iff]
    simp [plainR]
    omega
theorem zero_at (w : World) : BAt (w.alloc (.cells #[.slice none 0 0, .int .u32 0, .int .i64 0, .bool false] 47)) w.heap.size w.heap.size St.zero :=
  ⟨⟨.slice none 0 0, 0, heap_alloc_new _ _, ⟨rfl, .inl ⟨rfl, rfl⟩⟩, by omega, by omega, rfl⟩, Nat.le_refl _, fun b hb => by simp [St.zero] at hb⟩

/-- What Encode answers. -/
def encV (s : ByteArray) : Value := if Go.Lib.validD s.data.toList = true then .tuple #[.string (str (encS s.data.toList)), .int .i64 0] else .tuple #[.string ⟨#[]⟩, .int .i64 11]

theorem BAt.iterAt {w : World} {B b : Nat} {s : St} (h : BAt w B b s) {k : Nat} {t : ByteArray} {pos : Nat} (hk : w.heap[k]? = some (.stringIter t pos)) (pos' : Nat) : BAt (w.iterAt k t pos') B b s := by
  obtain ⟨v, x, hb, ho, hx⟩ := h.at_
  have hkb : b ≠ k := by
    intro e1
    rw [e1, hk] at hb
    cases hb
  refine ⟨⟨v, x, (Go.Lib.iterAt_other w k b t pos' hkb).trans hb, ownsRow_block ho (fun g hg => Go.Lib.iterAt_other w k g t pos' ?_), hx⟩, h.base, h.bits⟩
  rintro rfl
  rcases ho.2 with ⟨rfl, _⟩ | ⟨g', cap, cur, rfl, _, h2, _⟩
  · simp [Value.ownBlock] at hg
  · simp only [Value.ownBlock, Option.some.injEq] at hg
    subst hg
    rw [hk] at h2
    cases h2

theorem step_bl (s : St) (r : Nat) (h : s.bl.length < 6) : (s.step r).bl.length < 6 := by
  unfold St.step
  split
  · simp only [St.plain, St.shut]
    split
    · simp
    · exact h
  · simp only [St.units, units]
    split
    · simp only [List.foldl_cons, List.foldl_nil, St.unit]; exact rst_lt _
    · simp only [List.foldl_cons, List.foldl_nil, St.unit]; exact rst_lt _
theorem shut_bl (s : St) (h : s.bl.length < 6) : s.shut.bl.length < 6 ∧ s.shut.out.length ≤ s.out.length + 3 := by
  unfold St.shut
  split
  · have := grp_le (s.bl ++ pad s.bl)
    have hp := pad_len s.bl
    simp only [List.length_append, List.length_nil, List.length_cons] at this ⊢
    omega
  · exact ⟨h, by omega⟩
theorem step_out (s : St) (r : Nat) (h : s.bl.length < 6) : (s.step r).out.length ≤ s.out.length + 10 := by
  unfold St.step
  split
  · have := (shut_bl s h).2
    simp only [St.plain, plainB, List.length_append]
    split <;> simp <;> omega
  · have ho : s.open.out.length ≤ s.out.length + 1 := by
      simp only [St.open]; split <;> simp
    have hb : s.open.bl.length < 6 := h
    simp only [St.units, units]
    split
    · simp only [List.foldl_cons, List.foldl_nil]
      have := unit_out s.open r
      omega
    · simp only [List.foldl_cons, List.foldl_nil]
      have h1 := unit_out s.open (55296 + (r - 65536) / 1024)
      have h2 := unit_out (s.open.unit (55296 + (r - 65536) / 1024)) (56320 + (r - 65536) % 1024)
      have h3 : (s.open.unit (55296 + (r - 65536) / 1024)).bl.length < 6 := rst_lt _
      omega

/-- Letters from a place on. -/
def runesAt (s : ByteArray) (pos : Nat) : List Nat := runes (s.data.toList.drop pos)
theorem runesGo_fuel : ∀ (n m : Nat) (l : List UInt8), l.length ≤ n → l.length ≤ m → runesGo n l = runesGo m l
  | 0, m, l, hn, _ => by
    have : l = [] := List.eq_nil_of_length_eq_zero (by omega)
    subst this
    cases m <;> simp [runesGo]
  | n + 1, 0, l, _, hm => by
    have : l = [] := List.eq_nil_of_length_eq_zero (by omega)
    subst this
    simp [runesGo]
  | n + 1, m + 1, l, hn, hm => by
    unfold runesGo
    by_cases hne : l = []
    · simp [hne]
    · have hw := Go.Lib.decodeL_width l
      have hl : 0 < l.length := List.length_pos_iff.2 hne
      rw [if_neg hne, if_neg hne, runesGo_fuel n m _ (by rw [List.length_drop]; omega) (by rw [List.length_drop]; omega)]
theorem runes_step (l : List UInt8) (hne : l ≠ []) : runes l = (Go.Lib.decodeL l).1 :: runes (l.drop (Go.Lib.decodeL l).2) := by
  have hl : 0 < l.length := List.length_pos_iff.2 hne
  have hw := Go.Lib.decodeL_width l
  obtain ⟨n, hn⟩ : ∃ n, l.length = n + 1 := ⟨l.length - 1, by omega⟩
  unfold runes
  rw [hn]
  show (if l = [] then [] else _) = _
  rw [if_neg hne, runesGo_fuel n (l.drop (Go.Lib.decodeL l).2).length _ (by rw [List.length_drop]; omega) (Nat.le_refl _)]
theorem runesAt_step (s : ByteArray) (pos : Nat) (h : pos < s.size) : runesAt s pos = (Utf8.decode s pos).1 :: runesAt s (pos + (Utf8.decode s pos).2) := by
  unfold runesAt
  rw [runes_step _ (by intro e; have := congrArg List.length e; rw [List.length_drop, ← Go.Lib.size_eq] at this; simp at this; omega), Go.Lib.decodeL_drop, List.drop_drop]
theorem runesAt_end (s : ByteArray) (pos : Nat) (h : ¬ pos < s.size) : runesAt s pos = [] := by
  unfold runesAt
  rw [List.drop_eq_nil_of_le (by rw [← Go.Lib.size_eq]; omega)]
  rfl

theorem width_le (s : ByteArray) (pos : Nat) : (Utf8.decode s pos).2 ≤ 4 := by
  rw [Go.Lib.decode_at]
  unfold Go.Lib.decodeN
  repeat' split
  all_goals simp
/-- How Encode's loop stands. -/
structure EncAt (B b : Nat) (s : ByteArray) (w : World) (pos : Nat) (st : St) : Prop where
  at_ : BAt w B b st
  iter : w.heap[b + 1]? = some (.stringIter s pos)
  rest : (runesAt s pos).foldl St.step st = (runesAt s 0).foldl St.step St.zero
  bl : st.bl.length < 6
  len : st.out.length ≤ 10 * pos
  top : pos ≤ s.size + 4

set_option maxRecDepth 100000 in
set_option maxHeartbeats 1000000 in
theorem enc_any (s : ByteArray) {w : World} (h : Env w) (hs : s.size ≤ 100000) :
    Calls Tryd.prog 11 #[.string s] w fun e w' => e = .returned (encV s) ∧ Below w.heap.size w w' := by
  have HV := hid (valid_any s h (by omega))
  clear h
  rcases Bool.eq_false_or_eq_true (Go.Lib.validD s.data.toList) with hv | hv
  · have HE : Hid (encV s = .tuple #[.string (str (encS s.data.toList)), .int .i64 0]) := by simp [Hid, encV, hv]
    rw [hv] at HV
    clear hv
    go_enter Tryd.func11, Tryd.ntmps11
    go_wp2_with fail
    refine HV.out.mono ?_
    rintro e w1 ⟨rfl, hb1⟩
    have HB1 := hid hb1
    clear hb1
    go_wp2_with fail
    have H0 : Hid (EncAt w1.heap.size w1.heap.size s ((w1.alloc (.cells #[.slice none 0 0, .int .u32 0, .int .i64 0, .bool false] 47)).iter s 0) 0 St.zero ∧ Below w1.heap.size w1 ((w1.alloc (.cells #[.slice none 0 0, .int .u32 0, .int .i64 0, .bool false] 47)).iter s 0)) := by
      have hn : (w1.alloc (.cells #[.slice none 0 0, .int .u32 0, .int .i64 0, .bool false] 47)).heap.size = w1.heap.size + 1 := by simp
      have hi := World.iter_heap (w1.alloc (.cells #[.slice none 0 0, .int .u32 0, .int .i64 0, .bool false] 47)) s 0
      rw [hn] at hi
      refine ⟨⟨(zero_at w1).alloc _, hi, rfl, by simp [St.zero], by simp [St.zero], by omega⟩, ?_⟩
      exact ((Below.refl _ _).alloc (Nat.le_refl _) _).alloc (by simp) _
    generalize (w1.alloc (.cells #[.slice none 0 0, .int .u32 0, .int .i64 0, .bool false] 47)).iter s 0 = w2 at H0 ⊢
    generalize hBe : w1.heap.size = B at H0 ⊢
    have HBe := hid hBe
    clear hBe
    go_loopw [6] (fun _ wr => ∃ pos st, EncAt B B s wr pos st ∧ Below B w1 wr) (fun _ wr => s.size - wr.iterPos (B + 1))
    case atStart => exact ⟨0, St.zero, H0.out.1, H0.out.2⟩
    case round =>
      obtain ⟨pos, st, hE, hbr⟩ := hrel
      have HBr := hid hbr
      clear hbr
      have hit := hE.iter
      by_cases hp : pos < s.size
      · have hnx : ∀ ty, (Instr.next (.pointer (some ⟨B + 1, 0, none⟩)) true ty).run Tryd.prog wr = _ := fun ty => Go.Lib.run_next_any_at wr (B + 1) s pos ty hit hp
        have HIt := hid (Go.Lib.iterAt_heap wr (B + 1) s pos (pos + (Utf8.decode s pos).2) hit)
        have HAt := hid (hE.at_.iterAt hit (pos + (Utf8.decode s pos).2))
        have HBw : Hid (B ≤ (wr.iterAt (B + 1) s (pos + (Utf8.decode s pos).2)).heap.size) := by
          unfold Hid
          rw [Go.Lib.iterAt_size, ← HBe.out]
          exact HBr.out.size
        have HB2 := hid (Go.Lib.below_iterAt HBr.out (show B ≤ B + 1 by omega) s (pos + (Utf8.decode s pos).2))
        have HRest := hid hE.rest
        have hbl := hE.bl
        have hlen := hE.len
        have HPos : Hid (wr.iterPos (B + 1) = pos) := by simp [Hid, World.iterPos, hit]
        have hrw := Go.Lib.width_pos s pos
        have hrl := Go.Lib.rune_le s pos
        have hr4 := width_le s pos
        have HStep := hid (runesAt_step s pos hp)
        clear hE hit
        generalize (Utf8.decode s pos).1 = r at *
        generalize (Utf8.decode s pos).2 = n at *
        generalize hWe : wr.iterAt (B + 1) s (pos + n) = W at *
        clear hWe
        rcases Bool.eq_false_or_eq_true (plainR r) with hpl | hpl
        · have HSt : Hid (st.step r = st.shut.plain r) := by simp [Hid, St.step, hpl]
          have hr : r < 128 := by simp [plainR] at hpl; omega
          have hsh := shut_bl st hbl
          have HSo := hid (step_out st r hbl)
          have HSb := hid (step_bl st r hbl)
          go_wp2_with fail
          refine (stands_any r W).mono ?_
          rw [hpl]
          clear hpl
          rintro e w3 ⟨rfl, rfl⟩
          go_wp2_with fail
          refine (shut_any HAt.out HBw.out hbl (by omega)).mono ?_
          rintro e w4 ⟨rfl, h4, hb4⟩
          have H4 := hid h4
          have HK4 := hid hb4
          clear h4 hb4
          go_wp2_with fail
          refine (plain_any H4.out (by have := HK4.out.size; have := HBw.out; omega) (by omega) r hr).mono ?_
          rintro e w5 ⟨rfl, h5, hb5⟩
          have H5 := hid h5
          have HK5 := hid (HK4.out.trans hb5)
          clear h5 hb5
          go_wp2_with fail
          go_roundw
          case rel =>
            refine ⟨pos + n, st.step r, ⟨?_, ?_, ?_, HSb.out, ?_, by omega⟩, HB2.out.trans HK5.out.below⟩
            · rw [HSt.out]; exact H5.out
            · exact HK5.out.oth.iter HIt.out (by omega)
            · rw [← HRest.out, HStep.out, List.foldl_cons]
            · have := HSo.out; omega
          case measure =>
            have hi5 := HK5.out.oth.iter HIt.out (by omega)
            rw [HPos.out, show w5.iterPos (B + 1) = pos + n by simp [World.iterPos, hi5]]
            omega
        · have HSt : Hid (st.step r = st.open.units r) := by simp [Hid, St.step, hpl]
          have HSo := hid (step_out st r hbl)
          have HSb := hid (step_bl st r hbl)
          have ho : st.open.out.length ≤ st.out.length + 1 := by simp only [St.open]; split <;> simp
          go_wp2_with fail
          refine (stands_any r W).mono ?_
          rw [hpl]
          clear hpl
          rintro e w3 ⟨rfl, rfl⟩
          go_wp2_with fail
          refine (open_any HAt.out HBw.out (by omega)).mono ?_
          rintro e w4 ⟨rfl, h4, hb4⟩
          have H4 := hid h4
          have HK4 := hid hb4
          clear h4 hb4
          go_wp2_with fail
          refine (units_any H4.out (by have := HK4.out.size; have := HBw.out; omega) hbl (by omega) r hrl).mono ?_
          rintro e w5 ⟨rfl, h5, hb5⟩
          have H5 := hid h5
          have HK5 := hid (HK4.out.trans hb5)
          clear h5 hb5
          go_wp2_with fail
          go_roundw
          case rel =>
            refine ⟨pos + n, st.step r, ⟨?_, ?_, ?_, HSb.out, ?_, by omega⟩, HB2.out.trans HK5.out.below⟩
            · rw [HSt.out]; exact H5.out
            · exact HK5.out.oth.iter HIt.out (by omega)
            · rw [← HRest.out, HStep.out, List.foldl_cons]
            · have := HSo.out; omega
          case measure =>
            have hi5 := HK5.out.oth.iter HIt.out (by omega)
            rw [HPos.out, show w5.iterPos (B + 1) = pos + n by simp [World.iterPos, hi5]]
            omega
      · have hnx : ∀ ty, (Instr.next (.pointer (some ⟨B + 1, 0, none⟩)) true ty).run Tryd.prog wr = _ := fun ty => Go.Lib.run_next_end_at wr (B + 1) s pos ty hit hp
        have HX := hid hE
        clear hit hE
        go_wp2_with fail
        refine (shut_any HX.out.at_ (by rw [← HBe.out]; exact HBr.out.size) HX.out.bl (by have := HX.out.len; have := HX.out.top; omega)).mono ?_
        rintro e w4 ⟨rfl, h4, hb4⟩
        have H4 := hid h4
        have HK4 := hid hb4
        clear h4 hb4
        go_wp2_with fail
        refine (text_any H4.out).mono ?_
        rintro e w5 ⟨rfl, rfl⟩
        go_wp2_with fail
        go_ret2
        rw [HE.out]
        have he : st.shut.out = encS s.data.toList := by
          have h1 := HX.out.rest
          rw [runesAt_end s pos hp, List.foldl_nil] at h1
          rw [h1]
          unfold runesAt
          rw [fold_zero]
          rfl
        rw [he]
        refine ⟨rfl, HB1.out.trans ((HBr.out.trans HK4.out.below).mono ?_)⟩
        rw [← HBe.out]
        exact HB1.out.size
  · have HE : Hid (encV s = .tuple #[.string ⟨#[]⟩, .int .i64 11]) := by simp [Hid, encV, hv]
    rw [hv] at HV
    clear hv
    go_enter Tryd.func11, Tryd.ntmps11
    go_wp2_with fail
    refine HV.out.mono ?_
    rintro e w1 ⟨rfl, hb1⟩
    have HB1 := hid hb1
    clear hb1
    go_wp2_with fail
    go_ret2
    rw [HE.out]
    exact ⟨rfl, HB1.out⟩
end Go.Proofs.YtkmggkcipgfhdaaDoor
