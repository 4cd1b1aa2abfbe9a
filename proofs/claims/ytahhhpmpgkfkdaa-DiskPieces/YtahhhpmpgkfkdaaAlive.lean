/- What this text holds: 'alive': the chapter's example. -/
import Derived.Test.YtahhhpmpgkfkdaaReg3
namespace Go.Proofs.Ytahhhpmpgkfkdaa
open Go.RowKit
set_option linter.unusedVariables false

/-- A slice of bytes that lies whole in a block, from place o on, turned into a string. -/
theorem conv_bytes {w : World} {g o m c : Nat} {l : List Int} (h : ∀ j v, (bc l)[j]? = some v → w.cell? ⟨g, o + j, none⟩ = some v) (hm : l.length = m) :
    (convert 40 9 (.slice (some ⟨g, o, none⟩) m c)).run Try.prog w = .ok (.string (strOf l)) w := by
  rw [run_convert_bytes_string w 40 9 5 _ _ _ Try.underlying40 Try.underlying5 Try.underlying9]
  have hl := run_loadCells_list (P := Try.prog) w ⟨g, o, none⟩ (bc l) (fun j v hv => by rw [Addr.add_mid]; exact h j v hv)
  rw [bc_length, hm] at hl
  exact run_bytesToString w ⟨g, o, none⟩ m c l hl
theorem conv_whole {w : World} {g m c : Nat} {l : List Int} {t : TypeId} (h : w.heap[g]? = some (.cells (bc l).toArray t (0, 0))) (hm : l.length = m) :
    (convert 40 9 (.slice (some ⟨g, 0, none⟩) m c)).run Try.prog w = .ok (.string (strOf l)) w :=
  conv_bytes (fun j v hv => by rw [Nat.zero_add]; simp only [World.cell?, h]; simpa using hv) hm

/-- 'Of', its block and its length written out. -/
theorem of_512 (c : Int) (w : World) :
    Calls Try.prog 18 #[.int .u8 c] w fun e w' => ∃ g, e = .returned (.slice (some ⟨g, 0, none⟩) 512 512) ∧ w.heap.size ≤ g ∧ w'.heap[g]? = some (.cells (bc (rep 512 c)).toArray 5 (0, 0)) ∧ Below w.heap.size w w' := by
  refine (of_any c w).mono ?_
  rintro e w' ⟨v, rfl, ⟨g, rfl, h1, h2⟩, hb⟩
  exact ⟨g, by rw [rep_length], h1, h2, hb⟩

theorem DiskAt.ne_bytes {w : World} {B b bs sc g : Nat} {wv : Value} {D : DS} {X : Array Value} {fr : Nat × Nat} (hd : DiskAt w B b bs sc wv D) (h : w.heap[g]? = some (.cells X 5 fr)) : g ≠ b := by
  intro e
  subst e
  have := hd.blk
  rw [h] at this
  simp at this

/-- Three blocks of bytes hold what they hold. -/
structure Mem3 (g4 g6 g9 : Nat) (w : World) : Prop where
  a : w.heap[g4]? = some (.cells (bc (rep 512 120)).toArray 5 (0, 0))
  b : w.heap[g6]? = some (.cells (bc (rep 512 0)).toArray 5 (0, 0))
  c : w.heap[g9]? = some (.cells (bc (rep 3 120 ++ rep 509 0)).toArray 5 (0, 0))
theorem Mem3.drew {g4 g6 g9 : Nat} {w : World} (h : Mem3 g4 g6 g9 w) : Mem3 g4 g6 g9 w.drew := ⟨h.a, h.b, h.c⟩
theorem Mem3.below {g4 g6 g9 : Nat} {w w' : World} (h : Mem3 g4 g6 g9 w) (hb : Below w.heap.size w w') : Mem3 g4 g6 g9 w' :=
  ⟨(hb.block g4 (Array.getElem?_eq_some_iff.1 h.a).1).trans h.a, (hb.block g6 (Array.getElem?_eq_some_iff.1 h.b).1).trans h.b, (hb.block g9 (Array.getElem?_eq_some_iff.1 h.c).1).trans h.c⟩
theorem Mem3.kept {g4 g6 g9 b : Nat} {w w' : World} (h : Mem3 g4 g6 g9 w) (hb : Kept [b] w w') {B bs sc : Nat} {wv : Value} {D : DS} (hd : DiskAt w B b bs sc wv D) : Mem3 g4 g6 g9 w' :=
  ⟨(hb.block g4 (Array.getElem?_eq_some_iff.1 h.a).1 (by simpa using hd.ne_bytes h.a)).trans h.a, (hb.block g6 (Array.getElem?_eq_some_iff.1 h.b).1 (by simpa using hd.ne_bytes h.b)).trans h.b, (hb.block g9 (Array.getElem?_eq_some_iff.1 h.c).1 (by simpa using hd.ne_bytes h.c)).trans h.c⟩

/-- A new block of one byte, and its last 509, as strings. -/
theorem conv_of {w : World} {g : Nat} {c : Int} (h : w.heap[g]? = some (.cells (bc (rep 512 c)).toArray 5 (0, 0))) :
    (convert 40 9 (.slice (some ⟨g, 0, none⟩) 512 512)).run Try.prog w = .ok (.string (strOf (rep 512 c))) w ∧ (convert 40 9 (.slice (some ⟨g, 3, none⟩) 509 509)).run Try.prog w = .ok (.string (strOf (rep 509 c))) w := by
  refine ⟨conv_whole h (rep_length _ _), conv_bytes (fun j v hv => ?_) (rep_length _ _)⟩
  simp only [World.cell?, h]
  have e : rep 512 c = rep 3 c ++ rep 509 c := by unfold rep; rw [List.replicate_append_replicate]
  rw [e, bc_append]
  simp only [List.getElem?_toArray]
  rw [if_neg (by simp), List.getElem?_append_right (by rw [bc_length, rep_length]; omega), bc_length, rep_length, show 3 + j - 3 = j by omega]
  exact hv

theorem strOf_size (l : List Int) : (strOf l).size = l.length := by
  have := congrArg List.length (strOf_toList l)
  rw [List.length_map] at this
  exact this
theorem str_size : (⟨#[120, 120, 120]⟩ : ByteArray).size + (strOf (rep 509 0)).size ≤ 1000000 := by
  rw [strOf_size, rep_length]
  have : (⟨#[120, 120, 120]⟩ : ByteArray).size = 3 := rfl
  omega

theorem below_kept {B : Nat} {w w2 w3 : World} {S : List Nat} (h : Below B w w2) (k : Kept S w2 w3) (hS : ∀ i ∈ S, B ≤ i) (hB : B ≤ w2.heap.size) : Below B w w3 := h.trans (k.below hS hB)

set_option maxRecDepth 100000 in
set_option maxHeartbeats 4000000 in
theorem alive_any (w : World) : Calls Try.prog 12 #[] w fun e w' => e = .returned (.bool true) ∧ Below w.heap.size w w' := by
  go_enter Try.func12, Try.ntmps12
  go_wp2_with fail
  refine (new_yes 4 _ (by omega) (by omega)).mono ?_
  rintro e w1 ⟨b, own, rfl, ⟨bs, sc, wv, hd, rfl⟩, hb⟩
  have HD := hid hd
  have HB := hid hb
  clear hd hb
  go_wp2_with (first | (go_at_call 11; refine (no_any _ _).mono ?_; rintro e w1 ⟨rfl, rfl⟩))
  refine (of_512 120 _).mono ?_
  rintro e w2 ⟨g, rfl, hgB, hgg, hb2⟩
  have hd2 := HD.out.keep (Kept.ofBelow hb2 []) (by simp)
  have hlt := (HD.out.lt b (by simp)).2
  have hlt2 := hd2.lt
  have hwr : Calls Try.prog 17 #[.pointer (some ⟨b, 0, none⟩), .int .i64 1, .slice (some ⟨g, 0, none⟩) 512 512] w2 _ :=
    write_yes hd2 1 ⟨g, 0, none⟩ 512 (rep 512 120) (rep_length _ _) (fun j v hv => by rw [Addr.add_mid, Nat.zero_add]; simp only [World.cell?, hgg]; simpa using hv) (by show g ≠ b; omega) (by decide) (by decide) aD0_step (by decide) (by have := HB.out.size; have := hb2.size; omega)
  have HW := hid hwr
  have HB2 := hid ((HB.out.trans (hb2.mono HB.out.size)))
  clear hd2 hwr hb2 hlt2 hgg
  go_wp2_with fail
  refine HW.out.mono ?_
  rintro e w3 ⟨rfl, wv3, hd3, hk3, _⟩
  have hd3' : DiskAt w3 w.heap.size b bs sc wv3 aD1 := hd3
  have HD3 := hid hd3'
  have HB3 := hid (below_kept HB2.out hk3 (fun i hi => (HD.out.lt i (by simp only [List.mem_cons] at hi ⊢; rcases hi with h | h; exact .inl h; exact .inr (.inr h))).1) HB2.out.size)
  clear hd3 hd3' hk3 HW
  go_wp2_with (first | (go_at_call 11; refine (no_any _ _).mono ?_; rintro e w3 ⟨rfl, rfl⟩))
  have hr4 : Calls Try.prog 26 #[.pointer (some ⟨b, 0, none⟩), .int .i64 1] w3 _ := read_yes HD3.out 1 (by decide) rfl
  refine hr4.mono ?_
  clear hr4
  rintro e w4 ⟨g4, rfl, hg4, hh4, hb4⟩
  rw [aD1_read] at hh4
  have HD4 := hid (HD3.out.keep (Kept.ofBelow hb4 []) (by simp))
  have HB4 := hid (HB3.out.trans (hb4.mono HB3.out.size))
  have HH4 := hid hh4
  clear hh4 hb4 HD3 HB3
  go_wp2_with fail
  refine (crash_none HD4.out none 0).mono ?_
  rintro e w5 ⟨b5, own5, rfl, ⟨bs5, sc5, wv5, hd5, rfl⟩, hb5⟩
  have HD5 := hid hd5
  have HD5d := hid (HD4.out.keep (Kept.ofBelow hb5 []) (by simp))
  have HH5 := hid ((hb5.block g4 (Array.getElem?_eq_some_iff.1 HH4.out).1).trans HH4.out)
  have HB5 := hid (HB4.out.trans (hb5.mono HB4.out.size))
  clear hd5 hb5 HD4 HB4 HH4
  go_wp2_with fail
  have hr6 : Calls Try.prog 26 #[.pointer (some ⟨b5, 0, none⟩), .int .i64 1] w5 _ := read_yes HD5.out 1 (by decide) rfl
  refine hr6.mono ?_
  clear hr6
  rintro e w6 ⟨g6, rfl, hg6, hh6, hb6⟩
  rw [aD1_read0] at hh6
  have HD6 := hid (HD5d.out.keep (Kept.ofBelow hb6 []) (by simp))
  have HH6 := hid ((hb6.block g4 (Array.getElem?_eq_some_iff.1 HH5.out).1).trans HH5.out)
  have HI6 := hid hh6
  have HB6 := hid (HB5.out.trans (hb6.mono HB5.out.size))
  clear hh6 hb6 HD5 HD5d HH5 HB5
  go_wp2_with fail
  have HD7 := hid (HD6.out.keep (Kept.alloc [] w6 (.cells #[.int .i64 0, .int .i64 3] 55)) (by simp))
  have HH7 := hid ((Below.heap_alloc w6 (.cells #[.int .i64 0, .int .i64 3] 55) g4 (Array.getElem?_eq_some_iff.1 HH6.out).1).trans HH6.out)
  have HI7 := hid ((Below.heap_alloc w6 (.cells #[.int .i64 0, .int .i64 3] 55) g6 (Array.getElem?_eq_some_iff.1 HI6.out).1).trans HI6.out)
  have HB7 := hid (HB6.out.alloc HB6.out.size (.cells #[.int .i64 0, .int .i64 3] 55))
  have hks : KeepsAt (w6.alloc (.cells #[.int .i64 0, .int .i64 3] 55)) w6.heap.size 0 [(0, 3)] := fun j hj => by
    have : j = 0 := by simpa using hj
    subst this
    simp
  refine (crash_some HD7.out w6.heap.size 0 1 [(0, 3)] (by decide) hks).mono ?_
  clear HD6 HH6 HI6 HB6 hks
  rintro e w8 ⟨b8, own8, rfl, ⟨bs8, sc8, wv8, hd8, rfl⟩, hb8⟩
  have HD8 := hid hd8
  have HD8d := hid (HD7.out.keep (Kept.ofBelow hb8 []) (by simp))
  have HH8 := hid ((hb8.block g4 (Array.getElem?_eq_some_iff.1 HH7.out).1).trans HH7.out)
  have HI8 := hid ((hb8.block g6 (Array.getElem?_eq_some_iff.1 HI7.out).1).trans HI7.out)
  have HB8 := hid (HB7.out.trans (hb8.mono HB7.out.size))
  clear hd8 hb8 HD7 HH7 HI7 HB7
  go_wp2_with fail
  have hr9 : Calls Try.prog 26 #[.pointer (some ⟨b8, 0, none⟩), .int .i64 1] w8 _ := read_yes HD8.out 1 (by decide) rfl
  refine hr9.mono ?_
  clear hr9
  rintro e w9 ⟨g9, rfl, hg9, hh9, hb9⟩
  rw [aD1_read3] at hh9
  have HD9 := hid (HD8d.out.keep (Kept.ofBelow hb9 []) (by simp))
  have HH9 := hid ((hb9.block g4 (Array.getElem?_eq_some_iff.1 HH8.out).1).trans HH8.out)
  have HI9 := hid ((hb9.block g6 (Array.getElem?_eq_some_iff.1 HI8.out).1).trans HI8.out)
  have HJ9 := hid hh9
  have HB9 := hid (HB8.out.trans (hb9.mono HB8.out.size))
  clear hh9 hb9 HD8 HD8d HH8 HI8 HB8
  go_wp2_with fail
  have hfu := fuse_any HD9.out 0 (by omega)
  refine hfu.mono ?_
  clear hfu
  rintro e w10 ⟨rfl, hd10, hk10⟩
  have hM : Mem3 g4 g6 g9 w10 := Mem3.kept ⟨HH9.out, HI9.out, HJ9.out⟩ hk10 HD9.out
  have HB10 := hid (below_kept HB9.out hk10 (fun i hi => by simp only [List.mem_singleton] at hi; subst hi; exact HD9.out.hB) HB9.out.size)
  have hd11 : DiskAt w10.drew w.heap.size b bs sc wv3 (aD1.fused 0) := hd10.keep (Kept.drew [] w10) (by simp)
  clear hd10 hk10 HD9 HH9 HI9 HJ9 HB9 hg4 hg6 hg9 hgB hlt HB2 HB HD
  have hc4 : ∀ w' : World, Mem3 g4 g6 g9 w' → (convert 40 9 (.slice (some ⟨g4, 0, none⟩) 512 512)).run Try.prog w' = .ok (.string (strOf (rep 512 120))) w' := fun w' h => conv_whole h.a (rep_length _ _)
  have hc6 : ∀ w' : World, Mem3 g4 g6 g9 w' → (convert 40 9 (.slice (some ⟨g6, 0, none⟩) 512 512)).run Try.prog w' = .ok (.string (strOf (rep 512 0))) w' := fun w' h => conv_whole h.b (rep_length _ _)
  have hc9 : ∀ w' : World, Mem3 g4 g6 g9 w' → (convert 40 9 (.slice (some ⟨g9, 0, none⟩) 512 512)).run Try.prog w' = .ok (.string (strOf (rep 3 120 ++ rep 509 0))) w' := fun w' h => conv_whole h.c (by rw [List.length_append, rep_length, rep_length])
  -- REGION
  go_wp2_with fail
  refine wp_region_held_drew (S := fun w' => Mem3 g4 g6 g9 w') (by kernel_rfl) hM.drew ?_
  intro hS
  replace HB10 := hid HB10.out.drew
  refine anyH_takeW 0 ⟨some 48, .move (.tmp 4), _, _, _, none⟩ (.int .i64 0) rfl (by kernel_rfl) (by kernel_rfl) (by kernel_rfl) (by kernel_rfl) (fun _ _ _ h => h) (fun _ _ => rfl) hS ?_
  simp only [Act.put, List.setIfInBounds_toArray, List.set_cons_zero, List.set_cons_succ]
  refine anyH_takeW 2 ⟨some 50, .move (.tmp 6), _, _, _, none⟩ (.int .i64 0) rfl (by kernel_rfl) (by kernel_rfl) (by kernel_rfl) (by kernel_rfl) (fun _ _ _ h => h) (fun _ _ => rfl) hS ?_
  simp only [Act.put, List.setIfInBounds_toArray, List.set_cons_zero, List.set_cons_succ]
  refine anyH_takeW 5 ⟨some 53, .move (.tmp 8), _, _, _, none⟩ (.int .i64 0) rfl (by kernel_rfl) (by kernel_rfl) (by kernel_rfl) (by kernel_rfl) (fun _ _ _ h => h) (fun _ _ => rfl) hS ?_
  simp only [Act.put, List.setIfInBounds_toArray, List.set_cons_zero, List.set_cons_succ]
  refine anyH_callW 1 ⟨some 49, .call { callee := .value (.func 11), args := #[.tmp 48], argTypes := _ }, _, _, _, none⟩ 11 #[.int .i64 0] (by kernel_rfl) rfl (by kernel_rfl) (exec_call11 rfl) ?_
  refine (no_any 0 _).mono ?_
  rintro e w' ⟨rfl, rfl⟩
  refine ⟨_, rfl, hS, ?_⟩
  simp only [Act.put, List.setIfInBounds_toArray, List.set_cons_zero, List.set_cons_succ]
  refine anyH_callW 3 ⟨some 51, .call { callee := .value (.func 11), args := #[.tmp 50], argTypes := _ }, _, _, _, none⟩ 11 #[.int .i64 0] (by kernel_rfl) rfl (by kernel_rfl) (exec_call11 rfl) ?_
  refine (no_any 0 _).mono ?_
  rintro e w' ⟨rfl, rfl⟩
  refine ⟨_, rfl, hS, ?_⟩
  simp only [Act.put, List.setIfInBounds_toArray, List.set_cons_zero, List.set_cons_succ]
  refine anyH_takeW 4 ⟨some 52, .binOp .add 3 (.tmp 49) (.tmp 51) 3, _, _, _, none⟩ (.int .i64 0) rfl (by kernel_rfl) (by kernel_rfl) (by kernel_rfl) (by kernel_rfl) (fun _ _ _ h => h) (fun _ _ => by kernel_rfl) hS ?_
  simp only [Act.put, List.setIfInBounds_toArray, List.set_cons_zero, List.set_cons_succ]
  refine anyH_callW 6 ⟨some 54, .call { callee := .value (.func 11), args := #[.tmp 53], argTypes := _ }, _, _, _, none⟩ 11 #[.int .i64 0] (by kernel_rfl) rfl (by kernel_rfl) (exec_call11 rfl) ?_
  refine (no_any 0 _).mono ?_
  rintro e w' ⟨rfl, rfl⟩
  refine ⟨_, rfl, hS, ?_⟩
  simp only [Act.put, List.setIfInBounds_toArray, List.set_cons_zero, List.set_cons_succ]
  refine anyH_takeW 7 ⟨some 55, .binOp .add 3 (.tmp 52) (.tmp 54) 3, _, _, _, none⟩ (.int .i64 0) rfl (by kernel_rfl) (by kernel_rfl) (by kernel_rfl) (by kernel_rfl) (fun _ _ _ h => h) (fun _ _ => by kernel_rfl) hS ?_
  simp only [Act.put, List.setIfInBounds_toArray, List.set_cons_zero, List.set_cons_succ]
  refine anyH_takeW 8 ⟨some 56, .binOp .eql 3 (.tmp 55) (.const (.int .i64 0)) 3, _, _, _, none⟩ (.bool true) rfl (by kernel_rfl) (by kernel_rfl) (by kernel_rfl) (by kernel_rfl) (fun _ _ _ h => h) (fun _ _ => by kernel_rfl) hS ?_
  simp only [Act.put, List.setIfInBounds_toArray, List.set_cons_zero, List.set_cons_succ]
  refine anyH_takeW 9 ⟨some 57, .move (.tmp 56), _, _, _, none⟩ (.bool true) rfl (by kernel_rfl) (by kernel_rfl) (by kernel_rfl) (by kernel_rfl) (fun _ _ _ h => h) (fun _ _ => rfl) hS ?_
  simp only [Act.put, List.setIfInBounds_toArray, List.set_cons_zero, List.set_cons_succ]
  refine anyH_takeW 10 ⟨some 58, .move (.tmp 3), _, _, _, (some (9, true))⟩ (.slice (some ⟨g4, 0, none⟩) 512 512) rfl (by kernel_rfl) (by kernel_rfl) (by kernel_rfl) (by kernel_rfl) (fun _ _ _ h => h) (fun _ _ => rfl) hS ?_
  simp only [Act.put, List.setIfInBounds_toArray, List.set_cons_zero, List.set_cons_succ]
  refine anyH_takeW 11 ⟨some 59, .convert 40 9 (.tmp 58), _, _, _, (some (9, true))⟩ (.string (strOf (rep 512 120))) rfl (by kernel_rfl) (by kernel_rfl) (by kernel_rfl) (by kernel_rfl) (fun _ _ _ h => h) (fun w' h => exec_v (hc4 w' h)) hS ?_
  simp only [Act.put, List.setIfInBounds_toArray, List.set_cons_zero, List.set_cons_succ]
  refine anyH_callW 12 ⟨some 60, .call { callee := .value (.func 18), args := #[.const (.int .u8 120)], argTypes := _ }, _, _, _, (some (9, true))⟩ 18 #[.int .u8 120] (by kernel_rfl) rfl (by kernel_rfl) (exec_call18 rfl) ?_
  refine (of_512 120 _).mono ?_
  rintro e wq1 ⟨gq1, rfl, hgq1, hqq1, hbq1⟩
  replace hS := Mem3.below hS hbq1
  replace hd11 := DiskAt.keep hd11 (Kept.ofBelow hbq1 []) (by simp)
  replace HB10 := hid (HB10.out.trans (hbq1.mono HB10.out.size))
  refine ⟨_, rfl, hS, ?_⟩
  simp only [Act.put, List.setIfInBounds_toArray, List.set_cons_zero, List.set_cons_succ]
  refine anyH_oneW 13 ⟨some 61, .convert 40 9 (.tmp 60), _, _, _, (some (9, true))⟩ (.string (strOf (rep 512 120))) _ (by kernel_rfl) rfl (by kernel_rfl) (exec_v (conv_of hqq1).1) hS ?_
  simp only [Act.put, List.setIfInBounds_toArray, List.set_cons_zero, List.set_cons_succ]
  refine anyH_takeW 14 ⟨some 62, .binOp .eql 9 (.tmp 59) (.tmp 61) 9, _, _, _, (some (9, true))⟩ (.bool true) rfl (by kernel_rfl) (by kernel_rfl) (by kernel_rfl) (by kernel_rfl) (fun _ _ _ h => h) (fun _ _ => exec_eqlStr rfl rfl rfl) hS ?_
  simp only [Act.put, List.setIfInBounds_toArray, List.set_cons_zero, List.set_cons_succ]
  refine anyH_takeW 15 ⟨some 63, .pick (.tmp 57) (.tmp 62) (.const (.bool false)), _, _, _, none⟩ (.bool true) rfl (by kernel_rfl) (by kernel_rfl) (by kernel_rfl) (by kernel_rfl) (fun _ _ _ h => h) (fun _ _ => rfl) hS ?_
  simp only [Act.put, List.setIfInBounds_toArray, List.set_cons_zero, List.set_cons_succ]
  refine anyH_takeW 16 ⟨some 64, .move (.tmp 63), _, _, _, none⟩ (.bool true) rfl (by kernel_rfl) (by kernel_rfl) (by kernel_rfl) (by kernel_rfl) (fun _ _ _ h => h) (fun _ _ => rfl) hS ?_
  simp only [Act.put, List.setIfInBounds_toArray, List.set_cons_zero, List.set_cons_succ]
  refine anyH_takeW 17 ⟨some 65, .move (.tmp 5), _, _, _, (some (16, true))⟩ (.slice (some ⟨g6, 0, none⟩) 512 512) rfl (by kernel_rfl) (by kernel_rfl) (by kernel_rfl) (by kernel_rfl) (fun _ _ _ h => h) (fun _ _ => rfl) hS ?_
  simp only [Act.put, List.setIfInBounds_toArray, List.set_cons_zero, List.set_cons_succ]
  refine anyH_takeW 18 ⟨some 66, .convert 40 9 (.tmp 65), _, _, _, (some (16, true))⟩ (.string (strOf (rep 512 0))) rfl (by kernel_rfl) (by kernel_rfl) (by kernel_rfl) (by kernel_rfl) (fun _ _ _ h => h) (fun w' h => exec_v (hc6 w' h)) hS ?_
  simp only [Act.put, List.setIfInBounds_toArray, List.set_cons_zero, List.set_cons_succ]
  refine anyH_callW 19 ⟨some 67, .call { callee := .value (.func 18), args := #[.const (.int .u8 0)], argTypes := _ }, _, _, _, (some (16, true))⟩ 18 #[.int .u8 0] (by kernel_rfl) rfl (by kernel_rfl) (exec_call18 rfl) ?_
  refine (of_512 0 _).mono ?_
  rintro e wq2 ⟨gq2, rfl, hgq2, hqq2, hbq2⟩
  replace hS := Mem3.below hS hbq2
  replace hd11 := DiskAt.keep hd11 (Kept.ofBelow hbq2 []) (by simp)
  replace HB10 := hid (HB10.out.trans (hbq2.mono HB10.out.size))
  refine ⟨_, rfl, hS, ?_⟩
  simp only [Act.put, List.setIfInBounds_toArray, List.set_cons_zero, List.set_cons_succ]
  refine anyH_oneW 20 ⟨some 68, .convert 40 9 (.tmp 67), _, _, _, (some (16, true))⟩ (.string (strOf (rep 512 0))) _ (by kernel_rfl) rfl (by kernel_rfl) (exec_v (conv_of hqq2).1) hS ?_
  simp only [Act.put, List.setIfInBounds_toArray, List.set_cons_zero, List.set_cons_succ]
  refine anyH_takeW 21 ⟨some 69, .binOp .eql 9 (.tmp 66) (.tmp 68) 9, _, _, _, (some (16, true))⟩ (.bool true) rfl (by kernel_rfl) (by kernel_rfl) (by kernel_rfl) (by kernel_rfl) (fun _ _ _ h => h) (fun _ _ => exec_eqlStr rfl rfl rfl) hS ?_
  simp only [Act.put, List.setIfInBounds_toArray, List.set_cons_zero, List.set_cons_succ]
  refine anyH_takeW 22 ⟨some 70, .pick (.tmp 64) (.tmp 69) (.const (.bool false)), _, _, _, none⟩ (.bool true) rfl (by kernel_rfl) (by kernel_rfl) (by kernel_rfl) (by kernel_rfl) (fun _ _ _ h => h) (fun _ _ => rfl) hS ?_
  simp only [Act.put, List.setIfInBounds_toArray, List.set_cons_zero, List.set_cons_succ]
  refine anyH_takeW 23 ⟨some 71, .move (.tmp 70), _, _, _, none⟩ (.bool true) rfl (by kernel_rfl) (by kernel_rfl) (by kernel_rfl) (by kernel_rfl) (fun _ _ _ h => h) (fun _ _ => rfl) hS ?_
  simp only [Act.put, List.setIfInBounds_toArray, List.set_cons_zero, List.set_cons_succ]
  refine anyH_takeW 24 ⟨some 72, .move (.tmp 7), _, _, _, (some (23, true))⟩ (.slice (some ⟨g9, 0, none⟩) 512 512) rfl (by kernel_rfl) (by kernel_rfl) (by kernel_rfl) (by kernel_rfl) (fun _ _ _ h => h) (fun _ _ => rfl) hS ?_
  simp only [Act.put, List.setIfInBounds_toArray, List.set_cons_zero, List.set_cons_succ]
  refine anyH_takeW 25 ⟨some 73, .convert 40 9 (.tmp 72), _, _, _, (some (23, true))⟩ (.string (strOf (rep 3 120 ++ rep 509 0))) rfl (by kernel_rfl) (by kernel_rfl) (by kernel_rfl) (by kernel_rfl) (fun _ _ _ h => h) (fun w' h => exec_v (hc9 w' h)) hS ?_
  simp only [Act.put, List.setIfInBounds_toArray, List.set_cons_zero, List.set_cons_succ]
  refine anyH_callW 26 ⟨some 74, .call { callee := .value (.func 18), args := #[.const (.int .u8 0)], argTypes := _ }, _, _, _, (some (23, true))⟩ 18 #[.int .u8 0] (by kernel_rfl) rfl (by kernel_rfl) (exec_call18 rfl) ?_
  refine (of_512 0 _).mono ?_
  rintro e wq3 ⟨gq3, rfl, hgq3, hqq3, hbq3⟩
  replace hS := Mem3.below hS hbq3
  replace hd11 := DiskAt.keep hd11 (Kept.ofBelow hbq3 []) (by simp)
  replace HB10 := hid (HB10.out.trans (hbq3.mono HB10.out.size))
  refine ⟨_, rfl, hS, ?_⟩
  simp only [Act.put, List.setIfInBounds_toArray, List.set_cons_zero, List.set_cons_succ]
  refine anyH_takeW 27 ⟨some 75, .slice 40 (.tmp 74) (some (.const (.int .i64 3))) none none, _, _, _, (some (23, true))⟩ (.slice (some ⟨gq3, 3, none⟩) 509 509) rfl (by kernel_rfl) (by kernel_rfl) (by kernel_rfl) (by kernel_rfl) (fun _ _ _ h => h) (fun w' _ => exec_v (slice40 gq3 w')) hS ?_
  simp only [Act.put, List.setIfInBounds_toArray, List.set_cons_zero, List.set_cons_succ]
  refine anyH_oneW 28 ⟨some 76, .convert 40 9 (.tmp 75), _, _, _, (some (23, true))⟩ (.string (strOf (rep 509 0))) _ (by kernel_rfl) rfl (by kernel_rfl) (exec_v (conv_of hqq3).2) hS ?_
  simp only [Act.put, List.setIfInBounds_toArray, List.set_cons_zero, List.set_cons_succ]
  refine anyH_takeW 29 ⟨some 77, .binOp .add 9 (.const (.string ⟨#[120, 120, 120]⟩)) (.tmp 76) 9, _, _, _, (some (23, true))⟩ (.string (⟨#[120, 120, 120]⟩ ++ strOf (rep 509 0))) rfl (by kernel_rfl) (by kernel_rfl) (by kernel_rfl) (by kernel_rfl) (fun _ _ _ h => h) (fun _ _ => exec_addStr rfl rfl str_size) hS ?_
  simp only [Act.put, List.setIfInBounds_toArray, List.set_cons_zero, List.set_cons_succ]
  refine anyH_takeW 30 ⟨some 78, .binOp .eql 9 (.tmp 73) (.tmp 77) 9, _, _, _, (some (23, true))⟩ (.bool true) rfl (by kernel_rfl) (by kernel_rfl) (by kernel_rfl) (by kernel_rfl) (fun _ _ _ h => h) (fun _ _ => exec_eqlStr rfl rfl str_xxx.symm) hS ?_
  simp only [Act.put, List.setIfInBounds_toArray, List.set_cons_zero, List.set_cons_succ]
  refine anyH_takeW 31 ⟨some 79, .pick (.tmp 71) (.tmp 78) (.const (.bool false)), _, _, _, none⟩ (.bool true) rfl (by kernel_rfl) (by kernel_rfl) (by kernel_rfl) (by kernel_rfl) (fun _ _ _ h => h) (fun _ _ => rfl) hS ?_
  simp only [Act.put, List.setIfInBounds_toArray, List.set_cons_zero, List.set_cons_succ]
  refine anyH_takeW 32 ⟨some 80, .move (.tmp 79), _, _, _, none⟩ (.bool true) rfl (by kernel_rfl) (by kernel_rfl) (by kernel_rfl) (by kernel_rfl) (fun _ _ _ h => h) (fun _ _ => rfl) hS ?_
  simp only [Act.put, List.setIfInBounds_toArray, List.set_cons_zero, List.set_cons_succ]
  refine anyH_takeW 33 ⟨some 81, .move (.tmp 1), _, _, _, (some (32, true))⟩ (.pointer (some ⟨b, 0, none⟩)) rfl (by kernel_rfl) (by kernel_rfl) (by kernel_rfl) (by kernel_rfl) (fun _ _ _ h => h) (fun _ _ => rfl) hS ?_
  simp only [Act.put, List.setIfInBounds_toArray, List.set_cons_zero, List.set_cons_succ]
  refine anyH_callW 34 ⟨some 82, .call { callee := .value (.func 23), args := #[.tmp 81], argTypes := _ }, _, _, _, (some (32, true))⟩ 23 #[.pointer (some ⟨b, 0, none⟩)] (by kernel_rfl) rfl (by kernel_rfl) (exec_call23 rfl) ?_
  refine (flush_power hd11 (by decide) rfl).mono ?_
  rintro e w13 ⟨rfl, hd13, hk13⟩
  replace hS := Mem3.kept hS hk13 hd11
  replace HB10 := hid (below_kept HB10.out hk13 (fun i hi => by simp only [List.mem_singleton] at hi; subst hi; exact hd11.hB) HB10.out.size)
  refine ⟨_, rfl, hS, ?_⟩
  simp only [Act.put, List.setIfInBounds_toArray, List.set_cons_zero, List.set_cons_succ]
  refine anyH_callW 35 ⟨some 83, .call { callee := .value (.func 11), args := #[.tmp 82], argTypes := _ }, _, _, _, (some (32, true))⟩ 11 #[.int .i64 9] (by kernel_rfl) rfl (by kernel_rfl) (exec_call11 rfl) ?_
  refine (no_any 9 _).mono ?_
  rintro e w' ⟨rfl, rfl⟩
  refine ⟨_, rfl, hS, ?_⟩
  simp only [Act.put, List.setIfInBounds_toArray, List.set_cons_zero, List.set_cons_succ]
  refine anyH_takeW 36 ⟨some 84, .binOp .eql 3 (.tmp 83) (.const (.int .i64 9)) 3, _, _, _, (some (32, true))⟩ (.bool true) rfl (by kernel_rfl) (by kernel_rfl) (by kernel_rfl) (by kernel_rfl) (fun _ _ _ h => h) (fun _ _ => by kernel_rfl) hS ?_
  simp only [Act.put, List.setIfInBounds_toArray, List.set_cons_zero, List.set_cons_succ]
  refine anyH_takeW 37 ⟨some 85, .pick (.tmp 80) (.tmp 84) (.const (.bool false)), _, _, _, none⟩ (.bool true) rfl (by kernel_rfl) (by kernel_rfl) (by kernel_rfl) (by kernel_rfl) (fun _ _ _ h => h) (fun _ _ => rfl) hS ?_
  simp only [Act.put, List.setIfInBounds_toArray, List.set_cons_zero, List.set_cons_succ]
  refine anyH_takeW 38 ⟨some 0, .assign (.tmp 85), _, _, _, none⟩ (.bool true) rfl (by kernel_rfl) (by kernel_rfl) (by kernel_rfl) (by kernel_rfl) (fun _ _ _ h => h) (fun _ _ => rfl) hS ?_
  simp only [Act.put, List.setIfInBounds_toArray, List.set_cons_zero]
  refine wpAnyH_done (by kernel_rfl) ?_ _
  go_wp2
  go_ret
  exact ⟨rfl, HB10.out⟩
end Go.Proofs.Ytahhhpmpgkfkdaa
