/- What this text holds: 'Seal': a page's sector. -/
import Derived.Test.YtambgimfbdecpaaQ06
namespace Go.Proofs.Ytambgimfbdecpaa
open Go.RowKit
set_option linter.unusedVariables false

theorem StripAt.bAt {w : World} {b : Nat} {l : List Int} {next : Nat} (h : StripAt w b l next) : BAt w (some ⟨b, 0, none⟩) l := by
  intro j x hx
  refine ⟨_, rfl, ?_⟩
  have hj : j < l.length := (List.getElem?_eq_some_iff.1 hx).1
  have e : (sc l next)[j]? = some (.int .u8 x) := by
    unfold sc
    rw [List.getElem?_append_left (by rw [bc_length]; exact hj), bc, List.getElem?_map, hx, Option.map_some]
  rw [Addr.add_mid, Nat.zero_add]
  simpa [World.cell?, h.blk] using e

/-- A slice of bytes that a call has made. -/
def NewB (w w' : World) (v : Value) (l : List Int) : Prop :=
  ∃ g c, v = .slice (some ⟨g, 0, none⟩) l.length c ∧ w.heap.size ≤ g ∧ w'.ownsRow w.heap.size 5 1 (.slice (some ⟨g, 0, none⟩) l.length c) l.length (bc l)

theorem slice48 (b : Nat) (w : World) : (Instr.sliceAt 96 (.pointer (some ⟨b, 0, none⟩)) none none none).run Try.prog w = .ok (.slice (some ⟨b, 0, none⟩) 512 512) w := by kernel_rfl

set_option maxRecDepth 100000 in
set_option maxHeartbeats 1000000 in
theorem sector_any {w : World} {b : Nat} {l : List Int} {next : Nat} (h : StripAt w b l next) :
    Calls Try.prog 91 #[.pointer (some ⟨b, 0, none⟩)] w fun e w' => ∃ v, e = .returned v ∧ NewB w w' v l ∧ Below w.heap.size w w' := by
  have hl := h.len
  have H := hid (clone_any (c := 512) h.bAt hl (by omega) (by omega))
  clear h
  go_enter Try.func91, Try.ntmps91
  go_wp2_with (go_at_call 101; refine H.out.mono ?_; rintro e w1 ⟨g, c, rfl, hg, ho, hb⟩)
  go_ret
  refine ⟨_, rfl, ⟨g, c, by rw [hl]; rfl, hg, by rw [hl]; exact ho⟩, hb⟩

/-- What is laid, and noughts behind it. -/
def pad (p : List Int) : List Int := p ++ rep (512 - p.length) 0
theorem pad_length (p : List Int) (h : p.length ≤ 512) : (pad p).length = 512 := by simp [pad, rep_length]; omega
theorem splice_pad (p m : List Int) (n : Nat) (hn : p.length = n) (h : n + m.length ≤ 512) : splice (pad p) n m = pad (p ++ m) := by
  subst hn
  unfold splice pad
  rw [List.take_left, List.drop_append, List.drop_of_length_le (by omega), List.nil_append, rep_drop, List.length_append, List.append_assoc,
    show 512 - p.length - (p.length + m.length - p.length) = 512 - (p.length + m.length) by omega]
theorem pad_noughts (p : List Int) (k : Nat) (h : p.length + k ≤ 512) : pad p = pad (p ++ rep k 0) := by
  unfold pad
  rw [List.length_append, rep_length, List.append_assoc]
  congr 1
  unfold rep
  rw [List.replicate_append_replicate]
  congr 1
  omega

/-- The first twelve bytes of a page's sector. -/
def headL (kind gen : Int) (n : Nat) : List Int := [72, 118] ++ numB 1 kind ++ numB 1 0 ++ numB 2 n ++ numB 6 gen
theorem headL_length (kind gen : Int) (n : Nat) : (headL kind gen n).length = 12 := by simp [headL, numB_length]
/-- A page's sector, with noughts in the sum's place. -/
def bareL (kind gen : Int) (c : List Int) : List Int := headL kind gen c.length ++ (rep 8 0 ++ (c ++ rep (492 - c.length) 0))
/-- A page's sector. -/
def sealL (kind gen : Int) (c : List Int) : List Int := headL kind gen c.length ++ (numB 4 (sumL (bareL kind gen c)) ++ (rep 4 0 ++ (c ++ rep (492 - c.length) 0)))
theorem bareL_length (kind gen : Int) (c : List Int) (h : c.length ≤ 492) : (bareL kind gen c).length = 512 := by simp [bareL, headL_length, rep_length]; omega
theorem sealL_length (kind gen : Int) (c : List Int) (h : c.length ≤ 492) : (sealL kind gen c).length = 512 := by simp [sealL, headL_length, rep_length, numB_length]; omega

theorem bare_pad (kind gen : Int) (c : List Int) (h : c.length ≤ 492) : pad (headL kind gen c.length ++ rep 8 0 ++ c) = bareL kind gen c := by
  unfold pad bareL
  simp only [List.length_append, headL_length, rep_length, List.append_assoc]
  rw [show 512 - (12 + (8 + c.length)) = 492 - c.length by omega]
theorem bare_seal (kind gen : Int) (c : List Int) (h : c.length ≤ 492) : splice (bareL kind gen c) 12 (numB 4 (sumL (bareL kind gen c))) = sealL kind gen c := by
  unfold splice
  rw [numB_length]
  unfold sealL
  generalize sumL (bareL kind gen c) = s
  unfold bareL
  have h12 := headL_length kind gen c.length
  rw [List.take_append_of_le_length (by omega), List.take_of_length_le (by omega), List.drop_append, List.drop_of_length_le (by omega), List.nil_append, h12,
    List.drop_append_of_le_length (by rw [rep_length]; omega), rep_drop]


/-- A draft that holds nothing yet. -/
def zdc : Array Value := Array.replicate 512 (.int .u8 0) ++ #[.int .i64 0]
def zDraft : Value := .agg zdc
theorem Try.info142 : (Try.prog.info? 142).map (fun i => (i.zero, i.size, i.bytes)) = some (some zDraft, 513, 520) := by kernel_rfl
theorem alloc52 (w : World) : (Instr.alloc 142 true (.tuple #[])).run Try.prog w = .ok (.pointer (some ⟨w.heap.size, 0, none⟩)) (w.alloc (.cells zdc 142)) := by
  obtain ⟨i, hi, hz0, hz1, hz2⟩ := info_parts Try.info142
  simp [Instr.alloc, zeroValue, typeInfo, hi, hz0, newVar, newRow, zDraft, Value.cells]
theorem zdc_sc : zdc = (sc (rep 512 0) 0).toArray := by
  unfold zdc sc
  rw [bc_rep]
  apply Array.toList_inj.1
  rw [Array.toList_append, Array.toList_replicate]
  rfl
theorem wpList_alloc52 {ops : Array Oper} {rest : List Oper} {a : Act} {w : World} {Q : Exit → Act → World → Prop} {d : Option Tmp} {ty : TypeId} {pos : String} {af : Array Edge}
    (h : wpList Try.prog ops Q rest (a.put d (.pointer (some ⟨w.heap.size, 0, none⟩))) (w.alloc (.cells zdc 142))) : wpList Try.prog ops Q (⟨d, .alloc 142, ty, pos, af, none⟩ :: rest) a w :=
  wpList_run rfl (exec_v (alloc52 w)) h
theorem strip_new (w : World) : StripAt (w.alloc (.cells zdc 142)) w.heap.size (pad []) 0 := by
  rw [zdc_sc]
  exact ⟨heap_alloc_new _ _, by simp [pad, rep_length]⟩

theorem below_of_kept {w w1 w2 : World} {b : Nat} (h : Below w.heap.size w w1) (k : Kept [b] w1 w2) (hb : w.heap.size ≤ b) : Below w.heap.size w w2 :=
  h.trans (k.below (fun i hi => by simp only [List.mem_singleton] at hi; subst hi; exact hb) h.size)

theorem newB_base {w w1 w' : World} {v : Value} {l : List Int} (h : NewB w1 w' v l) (hs : w.heap.size ≤ w1.heap.size) : NewB w w' v l := by
  obtain ⟨g, c, rfl, hg, ho⟩ := h
  exact ⟨g, c, rfl, Nat.le_trans hs hg, ownsRow_base ho hs⟩
theorem sum_n {w : World} {a : Option Addr} {l : List Int} {n c : Nat} (h : BAt w a l) (hn : l.length = n) (hl : n ≤ 5000) :
    Calls Try.prog 90 #[.slice a n c] w fun e w' => e = .returned (.int .u32 (sumL l)) ∧ w' = w := by
  subst hn
  exact sum_any h hl

set_option maxRecDepth 100000 in
set_option maxHeartbeats 4000000 in
theorem seal_yes (kind gen : Int) (s : ByteArray) (w : World) (hk0 : 0 ≤ kind) (hk1 : kind ≤ 255) (hg0 : 0 ≤ gen) (hg1 : gen ≤ 281474976710655) (hs : s.size ≤ 492) :
    Calls Try.prog 63 #[.int .i64 kind, .int .i64 gen, .string s] w fun e w' => ∃ v, e = .returned (.tuple #[v, .int .i64 0]) ∧ NewB w w' v (sealL kind gen (bOf s)) ∧ Below w.heap.size w w' := by
  go_enter Try.func63, Try.ntmps63
  go_wp2_with (first | (refine wpList_alloc52 ?_))
  have hl2 : (bOf s).length = s.size := bOf_length s
  obtain ⟨b, hbb⟩ : ∃ b, w.heap.size = b := ⟨_, rfl⟩
  have hH := strip_new w
  have hB : Below w.heap.size w (w.alloc (.cells zdc 142)) := (Below.refl _ _).alloc (Nat.le_refl _) _
  generalize w.alloc (.cells zdc 142) = W0 at hH hB ⊢
  rw [hbb] at hH
  rw [hbb]
  have HN : Hid (w.heap.size ≤ b) := by rw [hbb]; exact Nat.le_refl _
  have H := hid hH
  have HB := hid hB
  have HBB := hid hbb
  clear hH hB hbb
  refine (put_text H.out (by decide) (fun w => by kernel_rfl)).mono ?_
  rintro e w1 ⟨rfl, h1, k1⟩
  rw [splice_pad [] _ 0 rfl (by decide)] at h1
  replace H := hid (show StripAt w1 b (pad ([72, 118])) 2 from h1)
  replace HB := hid (below_of_kept HB.out k1 HN.out)
  clear h1 k1
  go_wp2_with fail
  refine (put_number (size := 1) H.out (by omega) (by omega) hk0 (by omega)).mono ?_
  rintro e w2 ⟨rfl, h1, k1⟩
  rw [splice_pad _ _ 2 rfl (by simp [numB_length])] at h1
  replace H := hid h1
  replace HB := hid (below_of_kept HB.out k1 HN.out)
  clear h1 k1
  go_wp2_with fail
  refine (put_number (size := 1) H.out (by omega) (by omega) (n := 0) (by omega) (by omega)).mono ?_
  rintro e w3 ⟨rfl, h1, k1⟩
  rw [splice_pad _ _ 3 (by simp [numB_length]) (by simp [numB_length])] at h1
  replace H := hid h1
  replace HB := hid (below_of_kept HB.out k1 HN.out)
  clear h1 k1
  go_wp2_with fail
  refine (put_number (size := 2) H.out (by omega) (by omega) (n := (s.size : Int)) (by omega) (by omega)).mono ?_
  rintro e w4 ⟨rfl, h1, k1⟩
  rw [splice_pad _ _ 4 (by simp [numB_length]) (by simp [numB_length])] at h1
  replace H := hid h1
  replace HB := hid (below_of_kept HB.out k1 HN.out)
  clear h1 k1
  go_wp2_with fail
  refine (put_number (size := 6) H.out (by omega) (by omega) hg0 (by omega)).mono ?_
  rintro e w5 ⟨rfl, h1, k1⟩
  rw [splice_pad _ _ 6 (by simp [numB_length]) (by simp [numB_length])] at h1
  replace H := hid (show StripAt w5 b (pad (headL kind gen s.size)) 12 from h1)
  replace HB := hid (below_of_kept HB.out k1 HN.out)
  clear h1 k1
  go_wp2_with fail
  refine (noughts_to (at_ := 20) H.out).mono ?_
  rintro e w6 ⟨rfl, h1, k1⟩
  rw [pad_noughts _ 8 (by rw [headL_length]; omega)] at h1
  replace H := hid h1
  replace HB := hid (below_of_kept HB.out k1 HN.out)
  clear h1 k1
  go_wp2_with fail
  refine (put_text (s := s) H.out (by omega) (fun w => by kernel_rfl)).mono ?_
  rintro e w7 ⟨rfl, h1, k1⟩
  rw [splice_pad _ _ 20 (by rw [List.length_append, headL_length, rep_length]) (by omega)] at h1
  have hbp := bare_pad kind gen (bOf s) (by omega)
  rw [hl2] at hbp
  rw [hbp] at h1
  have hc := h1.next_cell
  have hf := h1.free 512
  have h2 := h1.setNext 12
  have hk2 := Kept.setCell [b] w7 ⟨b, 512, none⟩ (.int .i64 12) (by simp)
  replace H := hid h2
  replace HB := hid (below_of_kept (below_of_kept HB.out k1 HN.out) hk2 HN.out)
  clear h1 k1 h2 hk2 hbp
  go_wp2_with fail
  refine (sum_n (n := 512) H.out.bAt (bareL_length _ _ _ (by omega)) (by omega)).mono ?_
  rintro e w8 ⟨rfl, rfl⟩
  have hs0 := sumL_nonneg (bareL kind gen (bOf s))
  have hs1 := sumL_lt (bareL kind gen (bOf s))
  go_wp2_with fail
  refine (put_number (size := 4) H.out (by omega) (by omega) hs0 (by omega)).mono ?_
  rintro e w9 ⟨rfl, h1, k1⟩
  rw [bare_seal _ _ _ (by omega)] at h1
  replace H := hid h1
  replace HB := hid (below_of_kept HB.out k1 HN.out)
  clear h1 k1 hs0 hs1 hc hf
  go_wp2_with fail
  refine (sector_any H.out).mono ?_
  rintro e w10 ⟨v, rfl, hv, hb10⟩
  have hbz := HB.out.size
  have HV := hid hv
  have HB10 := hid hb10
  clear hv hb10
  go_wp2_with fail
  go_ret2
  exact ⟨v, rfl, newB_base HV.out hbz, HB.out.trans (HB10.out.mono hbz)⟩

set_option maxHeartbeats 1000000 in
theorem seal_arg (kind gen : Int) (s : ByteArray) (w : World) (h : ¬ (((0 ≤ kind ∧ kind ≤ 255) ∧ 0 ≤ gen) ∧ gen ≤ 281474976710655)) :
    Calls Try.prog 63 #[.int .i64 kind, .int .i64 gen, .string s] w fun e w' => e = .returned (.tuple #[.slice none 0 0, .int .i64 2]) ∧ w' = w := by
  go_enter Try.func63, Try.ntmps63
  go_wp2_with fail
  all_goals first | (exfalso; omega) | (go_ret2; exact ⟨rfl, rfl⟩)
set_option maxHeartbeats 1000000 in
theorem seal_long (kind gen : Int) (s : ByteArray) (w : World) (hm : s.size ≤ maxLen) (h : ((0 ≤ kind ∧ kind ≤ 255) ∧ 0 ≤ gen) ∧ gen ≤ 281474976710655) (hs : 492 < s.size) :
    Calls Try.prog 63 #[.int .i64 kind, .int .i64 gen, .string s] w fun e w' => e = .returned (.tuple #[.slice none 0 0, .int .i64 4]) ∧ w' = w := by
  unfold maxLen at hm
  have hs' : (492 : Int) < s.size := by omega
  go_enter Try.func63, Try.ntmps63
  go_wp2_with fail
  all_goals first | (exfalso; omega) | (go_ret2; exact ⟨rfl, rfl⟩)

/-- A root's sector. -/
def rootL (gen : Int) (c : List Int) : List Int := numB 8 gen ++ (numB 2 c.length ++ (c ++ (rep (494 - c.length) 0 ++ numB 8 gen)))
theorem rootL_length (gen : Int) (c : List Int) (h : c.length ≤ 494) : (rootL gen c).length = 512 := by simp [rootL, numB_length, rep_length]; omega
theorem root_pad (gen : Int) (c : List Int) (h : c.length ≤ 490) : pad (numB 8 gen ++ numB 2 c.length ++ c ++ rep (494 - c.length) 0 ++ numB 8 gen) = rootL gen c := by
  unfold pad
  simp only [List.length_append, numB_length, rep_length, List.append_assoc]
  rw [show 512 - (8 + (2 + (c.length + (494 - c.length + 8)))) = 0 by omega]
  simp [rep, rootL]

set_option maxRecDepth 100000 in
set_option maxHeartbeats 4000000 in
theorem root_yes (gen : Int) (s : ByteArray) (w : World) (hg0 : 1 ≤ gen) (hg1 : gen ≤ 4611686018427387904) (hs : s.size ≤ 490) :
    Calls Try.prog 66 #[.int .i64 gen, .string s] w fun e w' => ∃ v, e = .returned (.tuple #[v, .int .i64 0]) ∧ NewB w w' v (rootL gen (bOf s)) ∧ Below w.heap.size w w' := by
  go_enter Try.func66, Try.ntmps66
  go_wp2_with (first | (refine wpList_alloc52 ?_))
  have hl2 : (bOf s).length = s.size := bOf_length s
  obtain ⟨b, hbb⟩ : ∃ b, w.heap.size = b := ⟨_, rfl⟩
  have hH := strip_new w
  have hB : Below w.heap.size w (w.alloc (.cells zdc 142)) := (Below.refl _ _).alloc (Nat.le_refl _) _
  generalize w.alloc (.cells zdc 142) = W0 at hH hB ⊢
  rw [hbb] at hH
  rw [hbb]
  have HN : Hid (w.heap.size ≤ b) := by rw [hbb]; exact Nat.le_refl _
  have H := hid hH
  have HB := hid hB
  have HBB := hid hbb
  clear hH hB hbb
  refine (put_number (size := 8) H.out (by omega) (by omega) (n := gen) (by omega) (by omega)).mono ?_
  rintro e w1 ⟨rfl, h1, k1⟩
  rw [splice_pad [] _ 0 rfl (by simp [numB_length])] at h1
  replace H := hid h1
  replace HB := hid (below_of_kept HB.out k1 HN.out)
  clear h1 k1
  go_wp2_with fail
  refine (put_number (size := 2) H.out (by omega) (by omega) (n := (s.size : Int)) (by omega) (by omega)).mono ?_
  rintro e w4 ⟨rfl, h1, k1⟩
  rw [splice_pad _ _ 8 (by simp [numB_length]) (by simp [numB_length])] at h1
  replace H := hid h1
  replace HB := hid (below_of_kept HB.out k1 HN.out)
  clear h1 k1
  go_wp2_with fail
  refine (put_text (next := 10) (s := s) H.out (by omega) (fun w => by kernel_rfl)).mono ?_
  rintro e w7 ⟨rfl, h1, k1⟩
  rw [splice_pad _ _ 10 (by simp [numB_length]) (by omega)] at h1
  replace H := hid h1
  replace HB := hid (below_of_kept HB.out k1 HN.out)
  clear h1 k1
  go_wp2_with fail
  refine (noughts_to (at_ := 504) H.out).mono ?_
  rintro e w6 ⟨rfl, h1, k1⟩
  rw [pad_noughts _ (494 - s.size) (by simp [numB_length]; omega)] at h1
  replace H := hid h1
  replace HB := hid (below_of_kept HB.out k1 HN.out)
  clear h1 k1
  go_wp2_with fail
  refine (put_number (size := 8) H.out (by omega) (by omega) (n := gen) (by omega) (by omega)).mono ?_
  rintro e w9 ⟨rfl, h1, k1⟩
  rw [splice_pad _ _ 504 (by simp [numB_length, rep_length]; omega) (by simp [numB_length])] at h1
  have hrp := root_pad gen (bOf s) (by omega)
  rw [hl2] at hrp
  have h2 : StripAt w9 b (rootL gen (bOf s)) 512 := by rw [← hrp]; exact h1
  replace H := hid h2
  replace HB := hid (below_of_kept HB.out k1 HN.out)
  clear h1 k1 h2 hrp
  go_wp2_with fail
  refine (sector_any H.out).mono ?_
  rintro e w10 ⟨v, rfl, hv, hb10⟩
  have hbz := HB.out.size
  have HV := hid hv
  have HB10 := hid hb10
  clear hv hb10
  go_wp2_with fail
  go_ret2
  exact ⟨v, rfl, newB_base HV.out hbz, HB.out.trans (HB10.out.mono hbz)⟩

set_option maxHeartbeats 1000000 in
theorem root_arg (gen : Int) (s : ByteArray) (w : World) (h : ¬ (1 ≤ gen ∧ gen ≤ 4611686018427387904)) :
    Calls Try.prog 66 #[.int .i64 gen, .string s] w fun e w' => e = .returned (.tuple #[.slice none 0 0, .int .i64 2]) ∧ w' = w := by
  go_enter Try.func66, Try.ntmps66
  go_wp2_with fail
  all_goals first | (exfalso; omega) | (go_ret2; exact ⟨rfl, rfl⟩)
set_option maxHeartbeats 1000000 in
theorem root_long (gen : Int) (s : ByteArray) (w : World) (hm : s.size ≤ maxLen) (h : 1 ≤ gen ∧ gen ≤ 4611686018427387904) (hs : 490 < s.size) :
    Calls Try.prog 66 #[.int .i64 gen, .string s] w fun e w' => e = .returned (.tuple #[.slice none 0 0, .int .i64 4]) ∧ w' = w := by
  unfold maxLen at hm
  have hs' : (490 : Int) < s.size := by omega
  go_enter Try.func66, Try.ntmps66
  go_wp2_with fail
  all_goals first | (exfalso; omega) | (go_ret2; exact ⟨rfl, rfl⟩)
end Go.Proofs.Ytambgimfbdecpaa
