/- What this text holds: 'Open' and 'OpenRoot': what a sector holds. · What this text holds: what was sealed is what it seems to hold. · What this text holds: bytes that are handed in. -/
import Derived.Test.YtambgimfbdecpaaQ07
import Derived.Deep.QuietTactic
import Derived.BigQuiet
import Derived.ChangeSlices
import Derived.OpenShut
namespace Go.Proofs.Ytambgimfbdecpaa
open Go.RowKit
set_option linter.unusedVariables false

theorem strOf_bOf (s : ByteArray) : strOf (bOf s) = s := by
  apply ByteArray.ext
  apply Array.toList_inj.1
  rw [strOf_toList, bOf, List.map_map]
  have e : ((fun n : Int => UInt8.ofNat n.toNat) ∘ fun b : UInt8 => (b.toNat : Int)) = id := by
    funext b
    simp
  rw [e, List.map_id]
theorem bOf_strOf (l : List Int) (h : Byt l) : bOf (strOf l) = l := by
  unfold bOf
  rw [strOf_toList, List.map_map]
  have e : ∀ x ∈ l, ((fun b : UInt8 => (b.toNat : Int)) ∘ fun n : Int => UInt8.ofNat n.toNat) x = x := by
    intro x hx
    have := h x hx
    simp only [Function.comp, UInt8.toNat_ofNat']
    omega
  rw [List.map_congr_left e, List.map_id']

theorem BAt.cells {w : World} {p : Addr} {l : List Int} (h : BAt w (some p) l) : ∀ j v, (bc l)[j]? = some v → w.cell? (p.add j) = some v := by
  intro j v hv
  simp only [bc, List.getElem?_map, Option.map_eq_some_iff] at hv
  obtain ⟨x, hx, rfl⟩ := hv
  obtain ⟨q, hq, hcc⟩ := h j x hx
  obtain rfl := Option.some.inj hq
  exact hcc
/-- Bytes as a string. -/
theorem conv_bytes {w : World} {a : Option Addr} {m c : Nat} {l : List Int} (h : BAt w a l) (hm : l.length = m) :
    (convert 46 9 (.slice a m c)).run Try.prog w = .ok (.string (strOf l)) w := by
  rw [run_convert_bytes_string w 46 9 5 _ _ _ Try.underlying46 Try.underlying5 Try.underlying9]
  cases a with
  | none =>
    have e : l = [] := by
      cases l with
      | nil => rfl
      | cons x l => obtain ⟨p, hp, _⟩ := h 0 x rfl; cases hp
    subst e
    simp [Conv.bytesToString, strOf]
  | some p =>
    have hl := run_loadCells_list (P := Try.prog) w p (bc l) h.cells
    rw [bc_length, hm] at hl
    exact run_bytesToString w p m c l hl
theorem BAt.sub {w : World} {p : Addr} {l : List Int} (h : BAt w (some p) l) (o m : Nat) : BAt w (some (p.add o)) ((l.drop o).take m) := by
  intro j x hx
  rw [List.getElem?_take] at hx
  split at hx
  · rw [List.getElem?_drop] at hx
    obtain ⟨q, hq, hc⟩ := h (o + j) x hx
    obtain rfl := Option.some.inj hq
    exact ⟨_, rfl, by rw [Addr.add_add]; exact hc⟩
  · cases hx
theorem BAt.below {w w' : World} {a : Option Addr} {l : List Int} (h : BAt w a l) (hb : Below w.heap.size w w') : BAt w' a l := by
  intro j x hx
  obtain ⟨p, hp, hc⟩ := h j x hx
  exact ⟨p, hp, (hb.cell (World.block_lt_of_cell? w _ hc)).trans hc⟩
theorem NewB.bAt {w w' : World} {v : Value} {l : List Int} (h : NewB w w' v l) : ∃ g c, v = .slice (some ⟨g, 0, none⟩) l.length c ∧ w.heap.size ≤ g ∧ BAt w' (some ⟨g, 0, none⟩) l := by
  obtain ⟨g, c, rfl, hg, ho⟩ := h
  refine ⟨g, c, rfl, hg, fun j x hx => ⟨_, rfl, ?_⟩⟩
  exact cells_of_owned ho j _ (by rw [bc, List.getElem?_map, hx, Option.map_some])

theorem eq_strOf {l l' : List Int} (h : Byt l) (h' : Byt l') : ((strOf l).toList == (strOf l').toList) = decide (l = l') := by
  by_cases e : l = l'
  · subst e; simp
  · rw [decide_eq_false e, beq_eq_false_iff_ne]
    intro e2
    rw [ByteArray.toList_eq, ByteArray.toList_eq] at e2
    have e3 : strOf l = strOf l' := by
      apply ByteArray.ext
      exact Array.toList_inj.1 e2
    exact e (by rw [← bOf_strOf l h, ← bOf_strOf l' h', e3])

set_option maxRecDepth 100000 in
set_option maxHeartbeats 1000000 in
theorem equal_any {w : World} {a a' : Option Addr} {l l' : List Int} {m m' c c' : Nat} (h : BAt w a l) (h' : BAt w a' l') (hm : l.length = m) (hm' : l'.length = m') (hb : Byt l) (hb' : Byt l') :
    Calls Try.prog 97 #[.slice a m c, .slice a' m' c'] w fun e w' => e = .returned (.bool (decide (l = l'))) ∧ w' = w := by
  have e1 := fun c => conv_bytes (c := c) h hm
  have e2 := fun c => conv_bytes (c := c) h' hm'
  have e3 := hid (eq_strOf hb hb')
  clear h h' hb hb'
  go_enter Try.func97, Try.ntmps97
  go_wp2_with fail
  go_ret
  rw [e3.out]
  exact ⟨rfl, rfl⟩
set_option maxRecDepth 100000 in
set_option maxHeartbeats 1000000 in
theorem text_any {w : World} {p : Addr} {l : List Int} {n c : Nat} {size : Int} (h : BAt w (some p) l) (hn : l.length = n) (hl : n ≤ 5000) (hc : n ≤ c) (h0 : 0 ≤ size) :
    Calls Try.prog 96 #[.int .u64 size, .slice (some p) n c] w fun e w' => e = .returned (.string (strOf (l.take size.toNat))) ∧ w' = w := by
  have h2 : BAt w (some p) (l.take size.toNat) := by
    have := h.sub 0 size.toNat
    rw [List.drop_zero, show p.add 0 = p from rfl] at this
    exact this
  by_cases hz : size ≤ n
  · have hcv := conv_bytes (c := c) h2 (m := size.toNat) (by rw [List.length_take]; omega)
    have hz2 : size ≤ c := by omega
    clear h h2
    go_enter Try.func96, Try.ntmps96
    go_wp2_with fail
    go_ret
    exact ⟨rfl, rfl⟩
  · have hcv := conv_bytes (c := c) h2 (m := n) (by rw [List.length_take]; omega)
    clear h h2
    go_enter Try.func96, Try.ntmps96
    go_wp2_with fail
    go_ret
    exact ⟨rfl, rfl⟩

theorem byt_append {l m : List Int} (h : Byt l) (h' : Byt m) : Byt (l ++ m) := fun x hx => by
  rcases List.mem_append.1 hx with hx | hx
  · exact h x hx
  · exact h' x hx
theorem byt_rep (n : Nat) : Byt (rep n 0) := fun x hx => by
  have := List.eq_of_mem_replicate hx
  omega
theorem byt_num (n : Int) : ∀ k, Byt (numB k n)
  | 0 => fun x hx => by cases hx
  | k + 1 => fun x hx => by
    rcases List.mem_cons.1 hx with hx | hx
    · subst hx; omega
    · exact byt_num n k x hx
theorem byt_head (kind gen : Int) (n : Nat) : Byt (headL kind gen n) :=
  byt_append (byt_append (byt_append (byt_append (fun x hx => by simp only [List.mem_cons, List.not_mem_nil, or_false] at hx; omega) (byt_num _ _)) (byt_num _ _)) (byt_num _ _)) (byt_num _ _)
theorem byt_seal (kind gen : Int) (c : List Int) (hc : Byt c) : Byt (sealL kind gen c) :=
  byt_append (byt_head _ _ _) (byt_append (byt_num _ _) (byt_append (byt_rep _) (byt_append hc (byt_rep _))))
theorem byt_root (gen : Int) (c : List Int) (hc : Byt c) : Byt (rootL gen c) :=
  byt_append (byt_num _ _) (byt_append (byt_num _ _) (byt_append hc (byt_append (byt_rep _) (byt_num _ _))))

/-- What bytes seem to hold, as a page's sector. -/
def kindOf (l : List Int) : Int := l.getD 2 0
def genOf (l : List Int) : Int := val ((l.drop 6).take 6)
def lenOf (l : List Int) : Int := val ((l.drop 4).take 2)
def conOf (l : List Int) : List Int := (l.drop 20).take (lenOf l).toNat
/-- They are a page's sector. -/
def isPage (l : List Int) : Prop := l.length = 512 ∧ sealL (kindOf l) (genOf l) (conOf l) = l

set_option maxHeartbeats 1000000 in
theorem open_len {w : World} (a : Option Addr) (n c : Nat) (hm : n ≤ maxLen) (h : n ≠ 512) :
    Calls Try.prog 72 #[.slice a n c] w fun e w' => e = .returned (.tuple #[.int .i64 0, .int .i64 0, .string ⟨#[]⟩, .int .i64 11]) ∧ w' = w := by
  have hl2 : ((n : Int) != 512) = true := by rw [bne_iff_ne]; omega
  unfold maxLen at hm
  go_enter Try.func72, Try.ntmps72
  go_wp2_with fail
  refine bodyPost_ret (v := .tuple #[.int .i64 0, .int .i64 0, .string ⟨#[]⟩, .int .i64 11]) (by simp [results, Try.results72, go_sem]) rfl ⟨rfl, rfl⟩

theorem val_len {l : List Int} (h : Byt l) {n : Nat} (hn : l.length = n) : 0 ≤ val l ∧ val l < 256 ^ n := by
  subst hn
  have := val_range l h l.length (Nat.le_refl _)
  rwa [List.take_length] at this
theorem kindOf_range {l : List Int} (hb : Byt l) : 0 ≤ kindOf l ∧ kindOf l < 256 := by
  unfold kindOf
  rw [List.getD_eq_getElem?_getD]
  cases h : l[2]? with
  | none => simp
  | some x => exact hb x (List.mem_of_getElem? h)
theorem genOf_range {l : List Int} (hb : Byt l) (hl : l.length = 512) : 0 ≤ genOf l ∧ genOf l ≤ 281474976710655 := by
  have h := val_len ((hb.drop 6).take 6) (n := 6) (by simp [hl])
  unfold genOf
  omega
theorem lenOf_range {l : List Int} (hb : Byt l) (hl : l.length = 512) : 0 ≤ lenOf l ∧ lenOf l ≤ 65535 := by
  have h := val_len ((hb.drop 4).take 2) (n := 2) (by simp [hl])
  unfold lenOf
  omega
theorem conOf_length {l : List Int} (hl : l.length = 512) : (conOf l).length ≤ 492 := by
  unfold conOf
  rw [List.length_take, List.length_drop]
  omega
theorem BAt.alike {w w' : World} {a : Option Addr} {l : List Int} (h : BAt w a l) (hw : w'.heap = w.heap) : BAt w' a l := by
  intro j x hx
  obtain ⟨p, hp, hc⟩ := h j x hx
  exact ⟨p, hp, (World.cell?_of_block (by rw [hw])).trans hc⟩
theorem drewN_heap (w : World) : ∀ n, (w.drewN n).heap = w.heap
  | 0 => rfl
  | n + 1 => drewN_heap w.drew n
theorem below_drewN' : ∀ (n : Nat) (B : Nat) (w : World), Below B w (w.drewN n)
  | 0, B, w => Below.refl _ _
  | n + 1, B, w => (below_drewN' n B w).drew
theorem below_drewN (w : World) (n : Nat) : Below w.heap.size w (w.drewN n) := below_drewN' n _ w
theorem wrap64_fits (x : Int) (h0 : 0 ≤ x) (h1 : x ≤ 9223372036854775807) : wrap64 x = x := by unfold wrap64; omega

instance (l : List Int) : Decidable (isPage l) := by unfold isPage; infer_instance
/-- What Open answers. -/
def openV (l : List Int) : Value :=
  if isPage l then .tuple #[.int .i64 (kindOf l), .int .i64 (genOf l), .string (strOf (conOf l)), .int .i64 0] else .tuple #[.int .i64 0, .int .i64 0, .string ⟨#[]⟩, .int .i64 11]
theorem openV_yes {l : List Int} (h : isPage l) : openV l = .tuple #[.int .i64 (kindOf l), .int .i64 (genOf l), .string (strOf (conOf l)), .int .i64 0] := if_pos h
theorem openV_no {l : List Int} (h : ¬ isPage l) : openV l = .tuple #[.int .i64 0, .int .i64 0, .string ⟨#[]⟩, .int .i64 11] := if_neg h

set_option maxRecDepth 100000 in
set_option maxHeartbeats 4000000 in
theorem open_any {w : World} {p : Addr} {l : List Int} {c : Nat} (h : BAt w (some p) l) (hl : l.length = 512) (hb : Byt l) (hc : 512 ≤ c) (hcm : c ≤ maxLen) :
    Calls Try.prog 72 #[.slice (some p) 512 c] w fun e w' => e = .returned (openV l) ∧ Below w.heap.size w w' := by
  have hc2 : w.cell? ⟨p.block, p.off + 2, none⟩ = some (.int .u8 (kindOf l)) := by
    obtain ⟨q, hq, hcc⟩ := h 2 (kindOf l) (by unfold kindOf; rw [List.getD_eq_getElem?_getD, List.getElem?_eq_getElem (by omega)]; rfl)
    obtain rfl := Option.some.inj hq
    exact hcc
  have hk := kindOf_range hb
  have hg := genOf_range hb hl
  have hn := lenOf_range hb hl
  have hcl := conOf_length hl
  have hw1 := wrap64_fits (kindOf l) (by omega) (by omega)
  have hw2 : wrap64 (val (List.take 6 (List.drop 6 l))) = genOf l := wrap64_fits (genOf l) (by omega) (by omega)
  have hcon : List.take (val (List.take 2 (List.drop 4 l))).toNat (List.take 492 (List.drop 20 l)) = conOf l := by
    rw [List.take_of_length_le (l := List.drop 20 l) (by simp [hl])]
    rfl
  have hSb0 : bOf (strOf (conOf l)) = conOf l := bOf_strOf _ ((hb.drop 20).take _)
  obtain ⟨S, hcs⟩ : ∃ S, S = strOf (conOf l) := ⟨_, rfl⟩
  have hSb : bOf S = conOf l := by rw [hcs]; exact hSb0
  have HCS := hid hcs
  have HSB := hid hSb
  have HCON := hid hcon
  have HCL := hid hcl
  clear hSb0 hcs hSb hcon hcl
  have H := hid h
  have HB := hid hb
  clear h hb
  unfold maxLen at hcm
  go_enter Try.func72, Try.ntmps72
  go_wp2_with fail
  go_quiet ((go_at_call 95; exact Calls.quiet_of_same (number_any (n := 6) (H.out.sub 6 6) ((HB.out.drop 6).take 6) (by simp [hl]) (by omega))))
  rw [hw2]
  have H1 : Hid (BAt (w.drewN nq) (some p) l) := H.out.alike (drewN_heap w nq)
  have HB1 : Hid (Below w.heap.size w (w.drewN nq)) := below_drewN w nq
  clear H hc2 hw1 hw2
  generalize w.drewN nq = W1 at H1 HB1 ⊢
  go_wp2_with fail
  go_quiet ((first | (go_at_call 95; exact Calls.quiet_of_same (number_any (n := 2) (H1.out.sub 4 2) ((HB.out.drop 4).take 2) (by simp [hl]) (by omega))) | (go_at_call 96; exact Calls.quiet_of_same (text_any (n := 492) (l := (l.drop 20).take 492) (H1.out.sub 20 492) (by simp [hl]) (by omega) (by omega) hn.1))))
  rw [HCON.out, ← HCS.out]
  have H2 : Hid (BAt (W1.drewN nq) (some p) l) := H1.out.alike (drewN_heap W1 nq)
  have HB2 : Hid (Below w.heap.size w (W1.drewN nq)) := HB1.out.trans (below_drewN' nq _ W1)
  clear H1 HB1 HCON
  generalize W1.drewN nq = W2 at H2 HB2 ⊢
  have hsz : S.size ≤ 492 := by rw [← bOf_length, HSB.out]; exact HCL.out
  go_wp2_with (first | (go_at_call 63; refine (seal_yes (kindOf l) (genOf l) S _ (by omega) (by omega) (by omega) (by omega) hsz).mono ?_; rw [HSB.out]; rintro e w3 ⟨v, rfl, hv, hb3⟩; obtain ⟨g, cg, rfl, hg3, hbat⟩ := hv.bAt; rw [sealL_length _ _ _ HCL.out]; have H3 := hid hbat; have H3' := hid (H2.out.below hb3); have HB3 := hid (HB2.out.trans (hb3.mono HB2.out.size)); clear hv hb3 hbat))
  refine (equal_any H3.out H3'.out (sealL_length _ _ _ HCL.out) hl (byt_seal _ _ _ ((HB.out.drop 20).take _)) HB.out).mono ?_
  rintro e w4 ⟨rfl, rfl⟩
  have HL := hid hl
  by_cases hp : sealL (kindOf l) (genOf l) (conOf l) = l
  · rw [decide_eq_true hp]
    have HP := hid hp
    clear hp hl
    go_wp2_with fail
    refine bodyPost_ret (v := .tuple #[.int .i64 (kindOf l), .int .i64 (genOf l), .string S, .int .i64 0]) (by simp [results, Try.results72, go_sem]) rfl ⟨?_, HB3.out⟩
    rw [openV_yes ⟨HL.out, HP.out⟩, HCS.out]
  · rw [decide_eq_false hp]
    have HP := hid hp
    clear hp hl
    go_wp2_with fail
    refine bodyPost_ret (v := .tuple #[.int .i64 0, .int .i64 0, .string ⟨#[]⟩, .int .i64 11]) (by simp [results, Try.results72, go_sem]) rfl ⟨?_, HB3.out⟩
    rw [openV_no (fun h => HP.out h.2)]

/-- What bytes seem to hold, as a root's sector. -/
def rgenOf (l : List Int) : Int := wrap64 (val (l.take 8))
def rlenOf (l : List Int) : Int := val ((l.drop 8).take 2)
def rconOf (l : List Int) : List Int := ((l.drop 10).take 494).take (rlenOf l).toNat
/-- They are a root's sector. -/
def isRoot (l : List Int) : Prop := l.length = 512 ∧ (1 ≤ rgenOf l ∧ rgenOf l ≤ 4611686018427387904) ∧ (rconOf l).length ≤ 490 ∧ rootL (rgenOf l) (rconOf l) = l
instance (l : List Int) : Decidable (isRoot l) := by unfold isRoot; infer_instance
/-- What OpenRoot answers. -/
def ropenV (l : List Int) : Value :=
  if isRoot l then .tuple #[.int .i64 (rgenOf l), .string (strOf (rconOf l)), .int .i64 0] else .tuple #[.int .i64 0, .string ⟨#[]⟩, .int .i64 11]
theorem ropenV_yes {l : List Int} (h : isRoot l) : ropenV l = .tuple #[.int .i64 (rgenOf l), .string (strOf (rconOf l)), .int .i64 0] := if_pos h
theorem ropenV_no {l : List Int} (h : ¬ isRoot l) : ropenV l = .tuple #[.int .i64 0, .string ⟨#[]⟩, .int .i64 11] := if_neg h

set_option maxHeartbeats 1000000 in
theorem ropen_len {w : World} (a : Option Addr) (n c : Nat) (hm : n ≤ maxLen) (h : n ≠ 512) :
    Calls Try.prog 71 #[.slice a n c] w fun e w' => e = .returned (.tuple #[.int .i64 0, .string ⟨#[]⟩, .int .i64 11]) ∧ w' = w := by
  have hl2 : ((n : Int) != 512) = true := by rw [bne_iff_ne]; omega
  unfold maxLen at hm
  go_enter Try.func71, Try.ntmps71
  go_wp2_with fail
  refine bodyPost_ret (v := .tuple #[.int .i64 0, .string ⟨#[]⟩, .int .i64 11]) (by simp [results, Try.results71, go_sem]) rfl ⟨rfl, rfl⟩

theorem rlenOf_range {l : List Int} (hb : Byt l) (hl : l.length = 512) : 0 ≤ rlenOf l ∧ rlenOf l ≤ 65535 := by
  have h := val_len ((hb.drop 8).take 2) (n := 2) (by simp [hl])
  unfold rlenOf
  omega
theorem rconOf_length {l : List Int} (hl : l.length = 512) : (rconOf l).length ≤ 494 := by
  unfold rconOf
  rw [List.length_take, List.length_take, List.length_drop]
  omega

set_option maxRecDepth 100000 in
set_option maxHeartbeats 4000000 in
theorem ropen_any {w : World} {p : Addr} {l : List Int} {c : Nat} (h : BAt w (some p) l) (hl : l.length = 512) (hb : Byt l) (hc : 512 ≤ c) (hcm : c ≤ maxLen) :
    Calls Try.prog 71 #[.slice (some p) 512 c] w fun e w' => e = .returned (ropenV l) ∧ Below w.heap.size w w' := by
  have hn := rlenOf_range hb hl
  have hcl := rconOf_length hl
  have hSb0 : bOf (strOf (rconOf l)) = rconOf l := bOf_strOf _ (((hb.drop 10).take _).take _)
  obtain ⟨S, hcs⟩ : ∃ S, S = strOf (rconOf l) := ⟨_, rfl⟩
  have hSb : bOf S = rconOf l := by rw [hcs]; exact hSb0
  have hcon : strOf (List.take (val (List.take 2 (List.drop 8 l))).toNat (List.take 494 (List.drop 10 l))) = S := by rw [hcs]; rfl
  have hgen : wrap64 (val (List.take 8 l)) = rgenOf l := rfl
  have hsz : S.size ≤ 494 := by rw [← bOf_length, hSb]; exact hcl
  have HCS := hid hcs
  have HSB := hid hSb
  have HCON := hid hcon
  have HCL := hid hcl
  have HG := hid hgen
  clear hSb0 hcs hSb hcon hcl hgen
  have H := hid h
  have HB := hid hb
  clear h hb
  unfold maxLen at hcm
  go_enter Try.func71, Try.ntmps71
  go_wp2_with (first | (go_at_call 95; refine (number_any (n := 8) (H.out.sub 0 8) ((HB.out.drop 0).take 8) (by simp [hl]) (by omega)).mono ?_; rw [List.drop_zero]; rintro e w ⟨rfl, rfl⟩))
  go_quiet ((first | (go_at_call 95; exact Calls.quiet_of_same (number_any (n := 2) (H.out.sub 8 2) ((HB.out.drop 8).take 2) (by simp [hl]) (by omega))) | (go_at_call 96; exact Calls.quiet_of_same (text_any (n := 494) (l := (l.drop 10).take 494) (H.out.sub 10 494) (by simp [hl]) (by omega) (by omega) hn.1))))
  rw [HCON.out, HG.out]
  have H2 : Hid (BAt (w.drewN nq) (some p) l) := H.out.alike (drewN_heap w nq)
  have HB2 : Hid (Below w.heap.size w (w.drewN nq)) := below_drewN w nq
  clear H HCON HG
  generalize w.drewN nq = W2 at H2 HB2 ⊢
  have HL := hid hl
  generalize hG : rgenOf l = G
  have HGE := hid hG
  clear hG hl
  by_cases hga : 1 ≤ G ∧ G ≤ 4611686018427387904
  · by_cases hle : S.size ≤ 490
    · go_wp2_with (first | (go_at_call 66; refine (root_yes G S _ (by omega) (by omega) hle).mono ?_; rw [HSB.out]; rintro e w3 ⟨v, rfl, hv, hb3⟩; obtain ⟨g, cg, rfl, hg3, hbat⟩ := hv.bAt; rw [rootL_length _ _ HCL.out]; have H3 := hid hbat; have H3' := hid (H2.out.below hb3); have HB3 := hid (HB2.out.trans (hb3.mono HB2.out.size)); clear hv hb3 hbat))
      refine (equal_any H3.out H3'.out (rootL_length _ _ HCL.out) HL.out (byt_root _ _ (((HB.out.drop 10).take _).take _)) HB.out).mono ?_
      rintro e w4 ⟨rfl, rfl⟩
      by_cases hp : rootL G (rconOf l) = l
      · rw [decide_eq_true hp]
        have HP := hid hp
        clear hp
        go_wp2_with fail
        refine bodyPost_ret (v := .tuple #[.int .i64 G, .string S, .int .i64 0]) (by simp [results, Try.results71, go_sem]) rfl ⟨?_, HB3.out⟩
        rw [ropenV_yes ⟨HL.out, by rw [HGE.out]; exact hga, by rw [← HSB.out, bOf_length]; exact hle, by rw [HGE.out]; exact HP.out⟩, HCS.out, HGE.out]
      · rw [decide_eq_false hp]
        have HP := hid hp
        clear hp
        go_wp2_with fail
        refine bodyPost_ret (v := .tuple #[.int .i64 0, .string ⟨#[]⟩, .int .i64 11]) (by simp [results, Try.results71, go_sem]) rfl ⟨?_, HB3.out⟩
        rw [ropenV_no (fun h => HP.out (by have := h.2.2.2; rw [HGE.out] at this; exact this))]
    · go_wp2_with (first | (go_at_call 66; refine (root_long G S _ (by unfold maxLen; omega) hga (by omega)).mono ?_; rintro e w3 ⟨rfl, rfl⟩))
      refine bodyPost_ret (v := .tuple #[.int .i64 0, .string ⟨#[]⟩, .int .i64 11]) (by simp [results, Try.results71, go_sem]) rfl ⟨?_, HB2.out⟩
      rw [ropenV_no (fun h => by have := h.2.2.1; rw [← HSB.out, bOf_length] at this; omega)]
  · have HGA := hid hga
    clear hga
    go_wp2_with (first | (go_at_call 66; refine (root_arg G S _ HGA.out).mono ?_; rintro e w3 ⟨rfl, rfl⟩))
    refine bodyPost_ret (v := .tuple #[.int .i64 0, .string ⟨#[]⟩, .int .i64 11]) (by simp [results, Try.results71, go_sem]) rfl ⟨?_, HB2.out⟩
    rw [ropenV_no (fun h => HGA.out (by have := h.2.1; rw [HGE.out] at this; exact this))]
end Go.Proofs.Ytambgimfbdecpaa
namespace Go.Proofs.Ytambgimfbdecpaa
open Go.RowKit
set_option linter.unusedVariables false

theorem mid (A B C : List Int) {a b : Nat} (ha : A.length = a) (hb : B.length = b) : ((A ++ (B ++ C)).drop a).take b = B := by
  subst ha; subst hb
  rw [List.drop_left, List.take_left]
theorem val_numB (n : Int) (h0 : 0 ≤ n) : ∀ k, val (numB k n) = n % 256 ^ k := by
  have aux : ∀ k (x : Int), (numB k n).foldl (fun n c => n * 256 + c) x = x * 256 ^ k + n % 256 ^ k := by
    intro k
    induction k with
    | zero => intro x; simp [numB, Int.emod_one]
    | succ k ih =>
      intro x
      rw [numB, List.foldl_cons, ih, Int.pow_succ]
      have e1 : n % (256 ^ k * 256) = n % 256 ^ k + 256 ^ k * (n / 256 ^ k % 256) := by
        obtain ⟨m, rfl⟩ := Int.eq_ofNat_of_zero_le h0
        have h : ((m % (256 ^ k * 256) : Nat) : Int) = ((m % 256 ^ k + 256 ^ k * (m / 256 ^ k % 256) : Nat) : Int) := congrArg _ Nat.mod_mul
        have ep : ((256 ^ k : Nat) : Int) = (256 : Int) ^ k := Int.natCast_pow 256 k
        rw [Int.natCast_emod, Int.natCast_mul, Int.natCast_add, Int.natCast_mul, Int.natCast_emod, Int.natCast_emod, Int.natCast_ediv, ep] at h
        exact h
      rw [e1, Int.add_mul]
      have e2 : x * 256 * 256 ^ k = x * (256 ^ k * 256) := by rw [Int.mul_assoc, Int.mul_comm 256]
      have e3 : n / 256 ^ k % 256 * 256 ^ k = 256 ^ k * (n / 256 ^ k % 256) := Int.mul_comm _ _
      omega
  intro k
  have := aux k 0
  rw [Int.zero_mul, Int.zero_add] at this
  exact this
theorem val_numB' (n : Int) (k : Nat) (h0 : 0 ≤ n) (h1 : n < 256 ^ k) : val (numB k n) = n := by
  rw [val_numB n h0, Int.emod_eq_of_lt h0 h1]

theorem genOf_seal (kind gen : Int) (c : List Int) (h0 : 0 ≤ gen) (h1 : gen ≤ 281474976710655) : genOf (sealL kind gen c) = gen := by
  have e : (sealL kind gen c).drop 6 = ((([72, 118] ++ numB 1 kind ++ numB 1 0 ++ numB 2 c.length) ++ (numB 6 gen ++ (numB 4 (sumL (bareL kind gen c)) ++ (rep 4 0 ++ (c ++ rep (492 - c.length) 0)))))).drop 6 := by
    unfold sealL headL
    simp only [List.append_assoc]
  unfold genOf
  rw [e, mid _ _ _ (by simp [numB_length]) (numB_length _ _)]
  exact val_numB' _ _ h0 (by omega)
theorem lenOf_seal (kind gen : Int) (c : List Int) (h : c.length ≤ 492) : lenOf (sealL kind gen c) = c.length := by
  have e : (sealL kind gen c).drop 4 = (([72, 118] ++ numB 1 kind ++ numB 1 0) ++ (numB 2 c.length ++ (numB 6 gen ++ (numB 4 (sumL (bareL kind gen c)) ++ (rep 4 0 ++ (c ++ rep (492 - c.length) 0)))))).drop 4 := by
    unfold sealL headL
    simp only [List.append_assoc]
  unfold lenOf
  rw [e, mid _ _ _ (by simp [numB_length]) (numB_length _ _)]
  exact val_numB' _ _ (by omega) (by omega)
theorem kindOf_seal (kind gen : Int) (c : List Int) (h0 : 0 ≤ kind) (h1 : kind ≤ 255) : kindOf (sealL kind gen c) = kind := by
  unfold kindOf sealL headL
  simp only [List.cons_append, List.nil_append, numB, List.getD_cons_succ, List.getD_cons_zero]
  simp
  omega
theorem conOf_seal (kind gen : Int) (c : List Int) (h : c.length ≤ 492) : conOf (sealL kind gen c) = c := by
  unfold conOf
  rw [lenOf_seal kind gen c h, Int.toNat_natCast]
  have e : (sealL kind gen c).drop 20 = ((headL kind gen c.length ++ numB 4 (sumL (bareL kind gen c)) ++ rep 4 0) ++ (c ++ rep (492 - c.length) 0)).drop 20 := by
    unfold sealL
    simp only [List.append_assoc]
  rw [e, mid _ _ _ (by simp [numB_length, headL_length, rep_length]) rfl]
theorem isPage_seal (kind gen : Int) (c : List Int) (hk0 : 0 ≤ kind) (hk1 : kind ≤ 255) (hg0 : 0 ≤ gen) (hg1 : gen ≤ 281474976710655) (h : c.length ≤ 492) : isPage (sealL kind gen c) := by
  refine ⟨sealL_length _ _ _ h, ?_⟩
  rw [kindOf_seal _ _ _ hk0 hk1, genOf_seal _ _ _ hg0 hg1, conOf_seal _ _ _ h]

theorem rgenOf_root (gen : Int) (c : List Int) (h0 : 1 ≤ gen) (h1 : gen ≤ 4611686018427387904) : rgenOf (rootL gen c) = gen := by
  unfold rgenOf rootL
  rw [List.take_append_of_le_length (by rw [numB_length]; omega), List.take_of_length_le (by rw [numB_length]; omega), val_numB' _ _ (by omega) (by omega), wrap64_fits _ (by omega) (by omega)]
theorem rlenOf_root (gen : Int) (c : List Int) (h : c.length ≤ 494) : rlenOf (rootL gen c) = c.length := by
  unfold rlenOf rootL
  rw [mid _ _ _ (numB_length _ _) (numB_length _ _)]
  exact val_numB' _ _ (by omega) (by omega)
theorem rconOf_root (gen : Int) (c : List Int) (h : c.length ≤ 494) : rconOf (rootL gen c) = c := by
  unfold rconOf
  rw [rlenOf_root gen c h, Int.toNat_natCast, List.take_take, Nat.min_eq_left h]
  have e : (rootL gen c).drop 10 = ((numB 8 gen ++ numB 2 c.length) ++ (c ++ (rep (494 - c.length) 0 ++ numB 8 gen))).drop 10 := by
    unfold rootL
    simp only [List.append_assoc]
  rw [e, mid _ _ _ (by simp [numB_length]) rfl]
theorem isRoot_root (gen : Int) (c : List Int) (h0 : 1 ≤ gen) (h1 : gen ≤ 4611686018427387904) (h : c.length ≤ 490) : isRoot (rootL gen c) := by
  refine ⟨rootL_length _ _ (by omega), ?_, ?_, ?_⟩
  · rw [rgenOf_root _ _ h0 h1]; exact ⟨h0, h1⟩
  · rw [rconOf_root _ _ (by omega)]; exact h
  · rw [rgenOf_root _ _ h0 h1, rconOf_root _ _ (by omega)]
/-- A new slice: its place, its room, its bytes. -/
theorem NewB.all {w w' : World} {v : Value} {l : List Int} (h : NewB w w' v l) (hl : l.length = 512) : ∃ g c, v = .slice (some ⟨g, 0, none⟩) 512 c ∧ w.heap.size ≤ g ∧ g < w'.heap.size ∧ BAt w' (some ⟨g, 0, none⟩) l ∧ 512 ≤ c ∧ c ≤ maxLen := by
  obtain ⟨g, c, rfl, hg, ho⟩ := h
  have hb : BAt w' (some ⟨g, 0, none⟩) l := fun j x hx => ⟨_, rfl, cells_of_owned ho j _ (by rw [bc, List.getElem?_map, hx, Option.map_some])⟩
  rw [hl] at ho
  refine ⟨g, c, by rw [hl], hg, (ho.lt g rfl).2, hb, ?_⟩
  rcases ho.2 with ⟨h', _⟩ | ⟨g', cap', cur, h', _, _, hnc, hcm, _⟩
  · simp at h'
  · simp only [Value.slice.injEq, Option.some.injEq, Addr.mk.injEq, and_true, true_and] at h'
    obtain ⟨_, rfl⟩ := h'
    exact ⟨hnc, hcm⟩
theorem openV_seal (kind gen : Int) (s : ByteArray) (hk0 : 0 ≤ kind) (hk1 : kind ≤ 255) (hg0 : 0 ≤ gen) (hg1 : gen ≤ 281474976710655) (h : s.size ≤ 492) :
    openV (sealL kind gen (bOf s)) = .tuple #[.int .i64 kind, .int .i64 gen, .string s, .int .i64 0] := by
  have hl : (bOf s).length ≤ 492 := by rw [bOf_length]; exact h
  rw [openV_yes (isPage_seal _ _ _ hk0 hk1 hg0 hg1 hl), kindOf_seal _ _ _ hk0 hk1, genOf_seal _ _ _ hg0 hg1, conOf_seal _ _ _ hl, strOf_bOf]
theorem ropenV_root (gen : Int) (s : ByteArray) (h0 : 1 ≤ gen) (h1 : gen ≤ 4611686018427387904) (h : s.size ≤ 490) :
    ropenV (rootL gen (bOf s)) = .tuple #[.int .i64 gen, .string s, .int .i64 0] := by
  have hl : (bOf s).length ≤ 490 := by rw [bOf_length]; exact h
  rw [ropenV_yes (isRoot_root _ _ h0 h1 hl), rgenOf_root _ _ h0 h1, rconOf_root _ _ (by omega), strOf_bOf]
end Go.Proofs.Ytambgimfbdecpaa
namespace Go.Proofs.Ytambgimfbdecpaa
open Go.RowKit
set_option linter.unusedVariables false

theorem cells5 : Try.prog.cellsOf 5 = 1 := by kernel_rfl
/-- Bytes that are handed in. -/
structure BArg (W : World) (a : Option Addr) (len cap : Nat) (l : List Int) : Prop where
  at_ : BAt W a l
  len_ : l.length = len
  byt : Byt l
  le : len ≤ cap
  max : cap ≤ maxLen
theorem BArg.later {W W' : World} {a : Option Addr} {len cap : Nat} {l : List Int} (h : BArg W a len cap l) (hb : Below W.heap.size W W') : BArg W' a len cap l :=
  { h with at_ := h.at_.below hb }
section
variable {H : Type} {enc : TypeId × Value → H} {W : World} {held : Bool}
theorem open_bytes {fuel : Nat} {a : Option Addr} {len cap : Nat} {x : DataW H × List MemPlace} (h : DataW.trod enc Try.prog W 0 (fun _ => true) held fuel 46 [.slice a len cap] = some x) : ∃ l, BArg W a len cap l := by
  rcases Go.ChangeShapes.open_ints Try.underlying46 Try.underlying5 cells5 h with ⟨hcs, _⟩ | ⟨a', len', cap', zs, hcs, _, hl, hm, hz, _, hc, hw⟩
  · simp only [List.cons.injEq, Value.slice.injEq, and_true] at hcs
    obtain ⟨rfl, rfl, rfl⟩ := hcs
    exact ⟨[], (fun j x hx => by simp at hx), rfl, (fun x hx => nomatch hx), Nat.le_refl _, Nat.zero_le _⟩
  · simp only [List.cons.injEq, Value.slice.injEq, and_true] at hcs
    obtain ⟨rfl, rfl, rfl⟩ := hcs
    simp only [if_true] at hz
    refine ⟨zs.take len, ?_, by rw [List.length_take]; omega, ?_, hl, hm⟩
    · intro j x hx
      rw [List.getElem?_take] at hx
      split at hx
      · have hj : j < zs.length := by omega
        refine ⟨_, rfl, ?_⟩
        rw [hc j hj, List.getD_eq_getElem?_getD, hx]
        rfl
      · cases hx
    · intro x hx
      have := bounds_u8 (hw x (List.mem_of_mem_take hx))
      omega
theorem open_str {fuel : Nat} {s : ByteArray} {x : DataW H × List MemPlace} (h : DataW.trod enc Try.prog W 0 (fun _ => true) held fuel 9 [.string s] = some x) : s.size ≤ maxLen := by
  obtain ⟨s', e, _, hs⟩ := DataW.trod_string Try.underlying9 h
  simp only [List.cons.injEq, Value.string.injEq, and_true] at e
  rw [e]; exact hs
end
end Go.Proofs.Ytambgimfbdecpaa
