/- What this text holds: 'Clone' of sectors and of writes, and 'another'. · What this text holds: 'Read': what a disk answers for a sector. · What this text holds: operations on one write, by their runs. · What this text holds: small moves for a region that leaves its order open, taken by hand. -/
import Derived.Test.YtambgimfbdecpaaQ01
namespace Go.Proofs.Ytambgimfbdecpaa
open Go.RowKit
set_option linter.unusedVariables false

theorem hid {p : Prop} (h : p) : Hid p := h

theorem ownsRow_some {w : World} {B n size : Nat} {e : TypeId} {v : Value} {xs : List Value} (h : w.ownsRow B e size v n xs) (h1 : 1 ≤ n) : ∃ g c, v = .slice (some ⟨g, 0, none⟩) n c ∧ B ≤ g := by
  rcases h.2 with ⟨_, h'⟩ | ⟨g, cap, cur, h', hb, _⟩
  · omega
  · exact ⟨g, cap, h', hb⟩

theorem ownsRow_base {w : World} {B B' n size : Nat} {e : TypeId} {v : Value} {xs : List Value} (h : w.ownsRow B e size v n xs) (hB : B' ≤ B) : w.ownsRow B' e size v n xs := by
  refine ⟨h.1, ?_⟩
  rcases h.2 with h' | ⟨g, cap, cur, h', hb, r⟩
  · exact .inl h'
  · exact .inr ⟨g, cap, cur, h', Nat.le_trans hB hb, r⟩

theorem cells_of_owned {w : World} {B bs n sc size : Nat} {e : TypeId} {xs : List Value} (h : w.ownsRow B e size (.slice (some ⟨bs, 0, none⟩) n sc) n xs) :
    ∀ j v, xs[j]? = some v → w.cell? ((⟨bs, 0, none⟩ : Addr).add j) = some v := h.cells rfl

set_option maxRecDepth 100000 in
set_option maxHeartbeats 1000000 in
theorem cloneSecs {w : World} {B bs n sc : Nat} {l : List Int} (h : w.ownsRow B 96 512 (.slice (some ⟨bs, 0, none⟩) n sc) n (bc l)) (h1 : 1 ≤ n) (h2 : n ≤ 4096) :
    Calls Try.prog 80 #[.slice (some ⟨bs, 0, none⟩) n sc] w fun e w' => ∃ g c, e = .returned (.slice (some ⟨g, 0, none⟩) n c) ∧ w.heap.size ≤ g ∧
      w'.ownsRow w.heap.size 96 512 (.slice (some ⟨g, 0, none⟩) n c) n (bc l) ∧ Below w.heap.size w w' := by
  obtain ⟨i, hi, hz0, hz1, hz2⟩ := info_parts Try.info96
  have hnil := fun w : World => Lib.run_eql_slice_nil (P := Try.prog) w
  have hown0 : (w.alloc (.cells #[] 96)).ownsRow w.heap.size 96 512 (.slice (some ⟨w.heap.size, 0, none⟩) 0 0) 0 [] := World.ownsRow_made w #[] 0 (Nat.le_refl _) (by unfold maxLen; omega) (by simp)
  have hc1 := cells_of_owned (h.alloc (.cells #[] 96))
  have hl := h.1
  have HO := hid hown0
  have HC := hid hc1
  have HLn := hid hl
  clear hown0 hc1 hl h
  go_enter Try.func80, Try.ntmps80
  go_wp2_with (at_builtin; refine wpList_append_own _ rfl (.tmp 5) (.tmp 6) 77 rfl w.heap.size 96 i zSec 512 512 Try.underlying77 hi hz0 hz1 hz2 zSec_size (by omega) (.slice (some ⟨w.heap.size, 0, none⟩) 0 0) 0 [] rfl HO.out ⟨bs, 0, none⟩ n sc (bc l) rfl HLn.out HC.out (bc_oneCell _) (by unfold maxLen; omega) (by omega) (by simp) ?_; intro v' w' ho hg hn)
  go_ret
  rw [Nat.zero_add, List.nil_append] at ho
  obtain ⟨g, c, rfl, hgB⟩ := ownsRow_some ho h1
  refine ⟨g, c, rfl, hgB, ho, ?_⟩
  exact ((Below.refl _ _).alloc (Nat.le_refl _) _).grown hg (by simp) (fun k hk => by simp only [Value.ownBlock, Option.some.injEq] at hk; omega)

theorem wcs_oneCell (l : List (Int × List Int)) : ∀ v ∈ wcs l, v.oneCell' = true := by
  intro v hv
  simp only [wcs, List.mem_flatMap, List.mem_cons] at hv
  obtain ⟨x, _, h | h⟩ := hv
  · subst h; rfl
  · exact bc_oneCell _ _ h

set_option maxRecDepth 100000 in
set_option maxHeartbeats 1000000 in
theorem another_any {w : World} {B b bs n sc : Nat} {l : List Int} (h0 : w.cell? ⟨b, 0, none⟩ = some (.slice (some ⟨bs, 0, none⟩) n sc))
    (h : w.ownsRow B 96 512 (.slice (some ⟨bs, 0, none⟩) n sc) n (bc l)) (h1 : 1 ≤ n) (h2 : n ≤ 4096) :
    Calls Try.prog 46 #[.pointer (some ⟨b, 0, none⟩)] w fun e w' => ∃ g c, e = .returned (.agg #[.slice (some ⟨g, 0, none⟩) n c]) ∧ w.heap.size ≤ g ∧
      w'.ownsRow w.heap.size 96 512 (.slice (some ⟨g, 0, none⟩) n c) n (bc l) ∧ Below w.heap.size w w' := by
  have h0' : ∀ O : Obj, (w.alloc O).cell? ⟨b, 0, none⟩ = some (.slice (some ⟨bs, 0, none⟩) n sc) := fun O => by rw [World.cell?_alloc_some _ _ _ (by simp [h0]), h0]
  have H := hid h
  clear h
  go_enter Try.func46, Try.ntmps46
  go_wp2_with (go_at_call 80; refine (cloneSecs (H.out.alloc _) h1 h2).mono ?_; rintro e w1 ⟨g, c, rfl, hg, ho, hb⟩; have hcc : w1.cell? ⟨w.heap.size, 0, none⟩ = some (.slice none 0 0) := (hb.cell (by simp)).trans (by simp); have hff : w1.frozen? ⟨w.heap.size, 0, none⟩ = false := (hb.frozen (by simp)).trans (by simp))
  refine bodyPost_ret (v := .agg #[.slice (some ⟨g, 0, none⟩) n c]) (by simp [results, Try.results46, go_sem, hcc]) rfl ⟨g, c, rfl, ?_, ?_, ?_⟩
  · simp at hg; omega
  · exact ownsRow_base (ownsRow_setCell_below ho (by simp) _) (by simp)
  · exact (((Below.refl _ _).alloc (Nat.le_refl _) _).trans (hb.mono (by simp))).setCell (Nat.le_refl _) _
end Go.Proofs.Ytambgimfbdecpaa
namespace Go.Proofs.Ytambgimfbdecpaa
open Go.RowKit
set_option linter.unusedVariables false

/-- What the last of some writes to sector i has; d: there is none. -/
def lastW (l : List (Int × List Int)) (i : Int) (d : List Int) : List Int := l.foldl (fun a x => if x.1 = i then x.2 else a) d
/-- What is read. -/
def DS.read (D : DS) (i : Nat) : List Int := lastW D.waits i (sec D.secs i)

theorem lastW_append (l m : List (Int × List Int)) (i : Int) (d : List Int) : lastW (l ++ m) i d = lastW m i (lastW l i d) := by simp [lastW]
theorem lastW_none (l : List (Int × List Int)) (i : Int) (d : List Int) (h : ∀ x ∈ l, x.1 ≠ i) : lastW l i d = d := by
  induction l generalizing d with
  | nil => rfl
  | cons x l ih =>
    show lastW l i (if x.1 = i then x.2 else d) = d
    rw [if_neg (h x (by simp))]
    exact ih d (fun y hy => h y (by simp [hy]))
/-- The k-th is the last one. -/
theorem lastW_at (l : List (Int × List Int)) (i : Int) (d : List Int) (k : Nat) (hk : k < l.length) (h1 : (l[k]).1 = i) (h2 : ∀ j (hj : j < l.length), k < j → (l[j]).1 ≠ i) : lastW l i d = (l[k]).2 := by
  have e : l = l.take k ++ (l[k] :: l.drop (k + 1)) := by simp
  have e2 : lastW l i d = lastW (l.take k ++ (l[k] :: l.drop (k + 1))) i d := congrArg (fun q => lastW q i d) e
  rw [e2, lastW_append]
  show lastW (l.drop (k + 1)) i (if (l[k]).1 = i then (l[k]).2 else lastW (l.take k) i d) = _
  rw [if_pos h1, lastW_none]
  · intro x hx
    obtain ⟨j, hj, rfl⟩ := List.getElem_of_mem hx
    simp only [List.length_drop] at hj
    rw [List.getElem_drop]
    exact h2 _ _ (by omega)

theorem wcs_length (l : List (Int × List Int)) (h : ∀ x ∈ l, x.2.length = 512) : (wcs l).length = l.length * 513 := by
  induction l with
  | nil => rfl
  | cons x l ih =>
    have := ih (fun y hy => h y (by simp [hy]))
    have hx := h x (by simp)
    simp only [wcs, List.flatMap_cons, List.length_append, List.length_cons, bc_length, hx] at this ⊢
    omega
theorem wcs_drop (l : List (Int × List Int)) (h : ∀ x ∈ l, x.2.length = 512) (k : Nat) : (wcs l).drop (k * 513) = wcs (l.drop k) := by
  induction l generalizing k with
  | nil => simp [wcs]
  | cons x l ih =>
    cases k with
    | zero => simp
    | succ k =>
      have hx := h x (by simp)
      rw [List.drop_succ_cons, ← ih (fun y hy => h y (by simp [hy])) k]
      have e : wcs (x :: l) = (.int .i64 x.1 :: bc x.2) ++ wcs l := by simp [wcs]
      have hl : (Value.int .i64 x.1 :: bc x.2).length = 513 := by simp [bc_length, hx]
      have e9 : (k + 1) * 513 - 513 = k * 513 := by omega
      rw [e, List.drop_append, List.drop_of_length_le (by omega), hl, List.nil_append, e9]

/-- The cells of the k-th write. -/
theorem wcs_at (l : List (Int × List Int)) (h : ∀ x ∈ l, x.2.length = 512) (k : Nat) (hk : k < l.length) :
    (wcs l)[k * 513]? = some (.int .i64 (l[k]).1) ∧ ∀ j, j < 512 → (wcs l)[k * 513 + 1 + j]? = (bc (l[k]).2)[j]? := by
  have e := wcs_drop l h k
  have e2 : l.drop k = l[k] :: l.drop (k + 1) := List.drop_eq_getElem_cons hk
  have hx : (l[k]).2.length = 512 := h _ (List.getElem_mem hk)
  rw [e2] at e
  have e3 : wcs (l[k] :: l.drop (k + 1)) = .int .i64 (l[k]).1 :: (bc (l[k]).2 ++ wcs (l.drop (k + 1))) := rfl
  rw [e3] at e
  constructor
  · have : ((wcs l).drop (k * 513))[0]? = some (.int .i64 (l[k]).1) := by rw [e]; rfl
    simpa using this
  · intro j hj
    have : ((wcs l).drop (k * 513))[1 + j]? = (bc (l[k]).2)[j]? := by
      rw [e, Nat.add_comm 1 j, List.getElem?_cons_succ, List.getElem?_append_left (by rw [bc_length, hx]; exact hj)]
    rw [List.getElem?_drop, ← Nat.add_assoc] at this
    exact this

/-- The cells of the k-th write, in memory. -/
theorem wait_cells {w : World} {B b bs sc : Nat} {wv : Value} {D : DS} (h : DiskAt w B b bs sc wv D) (k : Nat) (hk : k < D.waits.length) :
    ∃ bw wc, wv = .slice (some ⟨bw, 0, none⟩) D.waits.length wc ∧ w.cell? ⟨bw, k * 513, none⟩ = some (.int .i64 (D.waits[k]).1) ∧
      ∀ j v, (bc (D.waits[k]).2)[j]? = some v → w.cell? ((⟨bw, k * 513 + 1, none⟩ : Addr).add j) = some v := by
  obtain ⟨bw, wc, e, _⟩ := ownsRow_some h.waits (by omega)
  subst e
  have hw : ∀ x ∈ D.waits, x.2.length = 512 := fun x hx => (h.good.w x hx).2.2
  obtain ⟨h1, h2⟩ := wcs_at D.waits hw k hk
  refine ⟨bw, wc, rfl, ?_, ?_⟩
  · rw [h.waits.cellAt _ (by omega), h1]
  · intro j v hv
    have hj : j < 512 := by
      obtain ⟨h3, _⟩ := List.getElem?_eq_some_iff.1 hv
      rw [bc_length, hw _ (List.getElem_mem hk)] at h3
      exact h3
    rw [Addr.add_mid, h.waits.cellAt _ (by omega), h2 j hj, hv]

set_option maxRecDepth 100000 in
set_option maxHeartbeats 1000000 in
theorem read_range {w : World} {B b bs sc : Nat} {wv : Value} {D : DS} (h : DiskAt w B b bs sc wv D) (i : Int) (hi : ¬ (0 ≤ i ∧ i < D.n)) :
    Calls Try.prog 70 #[.pointer (some ⟨b, 0, none⟩), .int .i64 i] w fun e w' => e = .returned (.tuple #[.slice none 0 0, .int .i64 3]) ∧ w' = w := by
  obtain ⟨c0, c1, c2, c3, c4⟩ := h.cells
  have hn := h.good.n2
  have HH := hid h
  have HI := hid hi
  clear h hi
  go_enter Try.func70, Try.ntmps70
  go_wp2_with (go_at_call 48; refine (has_no b _ _ _ i _ hn c0 HI.out).mono ?_; rintro e w ⟨rfl, rfl⟩)
  go_ret2
  exact ⟨rfl, rfl⟩

set_option maxRecDepth 100000 in
set_option maxHeartbeats 1000000 in
theorem read_gone {w : World} {B b bs sc : Nat} {wv : Value} {D : DS} (h : DiskAt w B b bs sc wv D) (i : Nat) (hi : i < D.n) (hg : D.gone = true) :
    Calls Try.prog 70 #[.pointer (some ⟨b, 0, none⟩), .int .i64 i] w fun e w' => e = .returned (.tuple #[.slice none 0 0, .int .i64 9]) ∧ w' = w := by
  obtain ⟨c0, c1, c2, c3, c4⟩ := h.cells
  have hn := h.good.n2
  have HH := hid h
  clear h
  go_enter Try.func70, Try.ntmps70
  go_wp2_with (go_at_call 48; refine (has_yes b _ _ _ i _ hn c0 (by omega) (by omega)).mono ?_; rintro e w ⟨rfl, rfl⟩)
  go_ret2
  exact ⟨rfl, rfl⟩

set_option maxRecDepth 100000 in
set_option maxHeartbeats 1000000 in
theorem read_yes {w : World} {B b bs sc : Nat} {wv : Value} {D : DS} (h : DiskAt w B b bs sc wv D) (i : Nat) (hi : i < D.n) (hg : D.gone = false) :
    Calls Try.prog 70 #[.pointer (some ⟨b, 0, none⟩), .int .i64 i] w fun e w' => ∃ g, e = .returned (.tuple #[.slice (some ⟨g, 0, none⟩) 512 512, .int .i64 0]) ∧ w.heap.size ≤ g ∧
      w'.heap[g]? = some (.cells (bc (D.read i)).toArray 5 (0, 0)) ∧ Below w.heap.size w w' := by
  obtain ⟨a, c, rfl⟩ := h.wvSlice
  obtain ⟨c0, c1, c2, c3, c4⟩ := h.cells
  have hn := h.good.n2
  have hwl := h.good.wl
  have HH := hid h
  clear h
  go_enter Try.func70, Try.ntmps70
  go_wp2_with (first | (go_at_call 48; refine (has_yes b _ _ _ i _ hn c0 (by omega) (by omega)).mono ?_; rintro e w ⟨rfl, rfl⟩) | (go_at_call 94; refine (held_any c0 HH.out.secs i hi hn).mono ?_; rintro e w1 ⟨v, rfl, ⟨g, rfl, hgB, hgg⟩, hb⟩; have hlen := sec_length D.secs i D.n HH.out.good.len hi; rw [hlen]; have h1 := HH.out.keep (Kept.ofBelow hb []) (by simp); obtain ⟨d0, d1, d2, d3, d4⟩ := h1.cells; have H1 := hid h1; clear h1 hlen))
  go_loop [7] (fun q => ∃ k : Nat, k ≤ D.waits.length ∧ q = .int .i64 ((k : Int) - 1) ∧ Hid (∀ j (hj : j < D.waits.length), k ≤ j → (D.waits[j]).1 ≠ i)) (fun q => (intOf q + 1).toNat)
  case atStart => exact ⟨D.waits.length, Nat.le_refl _, rfl, fun j hj hk => by omega⟩
  case round =>
    obtain ⟨k, hk, rfl, hrest⟩ := hrel
    by_cases hk0 : k = 0
    · subst hk0
      go_wp2
      go_ret2
      refine ⟨g, rfl, hgB, ?_, hb⟩
      have e : D.read i = sec D.secs i := lastW_none _ _ _ (fun x hx => by
        obtain ⟨j, hj, rfl⟩ := List.getElem_of_mem hx
        exact hrest.out j hj (Nat.zero_le _))
      rw [e]; exact hgg
    · obtain ⟨k, rfl⟩ : ∃ k', k = k' + 1 := ⟨k - 1, by omega⟩
      have hkl : k < D.waits.length := by omega
      obtain ⟨bw, wc, e, hc1, hc2⟩ := wait_cells H1.out k hkl
      simp only [Value.slice.injEq, true_and] at e
      obtain ⟨rfl, rfl⟩ := e
      have ek : ((k + 1 : Nat) : Int) - 1 = k := by omega
      rw [ek]
      have hx : (D.waits[k]).2.length = 512 := (HH.out.good.w _ (List.getElem_mem hkl)).2.2
      have hcp : (Builtin.copy_ #[46, 46] 3 #[.slice (some ⟨g, 0, none⟩) 512 512, .slice (some ⟨bw, k * 513 + 1, none⟩) 512 512]).run Try.prog w1 = .ok (goInt 512) (w1.setRow g (bc (D.waits[k]).2).toArray) := by
        have hr := run_copy_row (P := Try.prog) w1 46 46 3 5 g 0 512 512 ⟨bw, k * 513 + 1, none⟩ 512 512 _ 5 (bc (D.waits[k]).2) Try.underlying46 (by kernel_rfl) hgg
          (by rw [bc_length, hx]; rfl) hc2 (by simp [bc_length, hx, sec_length D.secs i D.n HH.out.good.len hi]) (bc_oneCell _)
        have hdr : List.drop 512 (bc (sec D.secs i)) = [] := List.drop_of_length_le (by rw [bc_length, sec_length D.secs i D.n HH.out.good.len hi]; exact Nat.le_refl _)
        rw [hr, bc_length, hx]
        simp [hdr]
      have HX := hid hx
      clear hc2 hx
      by_cases hat : (D.waits[k]).1 = i
      · have hat2 : ((D.waits[k]).1 == (i : Int)) = true := by simp [hat]
        have HA := hid hat
        clear hat
        go_wp2
        go_ret2
        refine ⟨g, rfl, hgB, ?_, below_setRow hb hgB _⟩
        have e : D.read i = (D.waits[k]).2 := lastW_at _ _ _ k hkl HA.out (fun j hj hkj => hrest.out j hj hkj)
        rw [e]
        exact setRow_heap _ _ _ _ _ _ hgg
      · have hat2 : ((D.waits[k]).1 == (i : Int)) = false := by simp [hat]
        have HA := hid hat
        clear hat
        go_wp2
        go_round
        case rel =>
          refine ⟨k, by omega, rfl, fun j hj hkj => ?_⟩
          by_cases e : j = k
          · subst e; exact HA.out
          · exact hrest.out j hj (by omega)
        case measure => simp [intOf]

end Go.Proofs.Ytambgimfbdecpaa
namespace Go.Proofs.Ytambgimfbdecpaa
open Go.RowKit
set_option linter.unusedVariables false

/-- The cells of one write. -/
def wcell (at_ : Int) (b : List Int) : List Value := .int .i64 at_ :: bc b
theorem wcell_length (at_ : Int) (b : List Int) : (wcell at_ b).length = b.length + 1 := by simp [wcell, bc_length]
theorem wcs_snoc (l : List (Int × List Int)) (at_ : Int) (b : List Int) : wcs (l ++ [(at_, b)]) = wcs l ++ wcell at_ b := by simp [wcs, wcell]
theorem wcell_oneCell (at_ : Int) (b : List Int) : ∀ v ∈ wcell at_ b, v.oneCell' = true := by
  intro v hv
  simp only [wcell, List.mem_cons] at hv
  rcases hv with rfl | hv
  · rfl
  · exact bc_oneCell _ _ hv

/-- An operation by its run. -/
theorem wpList_run {P : Program} {ops : Array Oper} {rest : List Oper} {o : Oper} {a : Act} {w w' : World} {Q : Exit → Act → World → Prop} {v : Value} (hgd : o.guard = none) (hrun : (execOp a.eval o).run P w = .ok (.value v) w')
    (h : wpList P ops Q rest (a.put o.dst v) w') : wpList P ops Q (o :: rest) a w :=
  wpList_plain hgd fun K hK => by unfold Oper.wp; rw [hrun]; exact hK _ _ h
theorem exec_v {P : Program} {s : Sem Value} {w w' : World} {v : Value} (h : s.run P w = .ok v w') : (do pure (Next.value (← s)) : Sem Next).run P w = .ok (.value v) w' := by
  simp [h]

theorem alloc75 (w : World) : (Instr.alloc 98 true (.tuple #[])).run Try.prog w = .ok (.pointer (some ⟨w.heap.size, 0, none⟩)) (w.alloc (.cells zwc 98)) := by
  obtain ⟨i, hi, hz0, hz1, hz2⟩ := info_parts Try.info98
  simp [Instr.alloc, zeroValue, typeInfo, hi, hz0, newVar, newRow, zWrite, Value.cells]
theorem size75 : (Try.prog.info? 98).map (·.size) = some 513 := by kernel_rfl
theorem build75 (at_ : Int) (w : World) : (Instr.build 98 #[(0, .int .i64 at_)]).run Try.prog w = .ok (.agg (wcell at_ (rep 512 0)).toArray) w := by kernel_rfl


theorem wpList_build75 {ops : Array Oper} {rest : List Oper} {a : Act} {w : World} {Q : Exit → Act → World → Prop} {d : Option Tmp} {x : Operand} {ty : TypeId} {pos : String} {af : Array Edge} (i : Int) (hx : a.eval x = .int .i64 i)
    (h : wpList Try.prog ops Q rest (a.put d (.agg (wcell i (rep 512 0)).toArray)) w) : wpList Try.prog ops Q (⟨d, .build 98 #[(0, x)], ty, pos, af, none⟩ :: rest) a w :=
  wpList_run rfl (exec_v (by simp only [List.map_toArray, List.map_cons, List.map_nil, hx]; exact build75 i w)) h
theorem wpList_alloc75 {ops : Array Oper} {rest : List Oper} {a : Act} {w : World} {Q : Exit → Act → World → Prop} {d : Option Tmp} {ty : TypeId} {pos : String} {af : Array Edge}
    (h : wpList Try.prog ops Q rest (a.put d (.pointer (some ⟨w.heap.size, 0, none⟩))) (w.alloc (.cells zwc 98))) : wpList Try.prog ops Q (⟨d, .alloc 98, ty, pos, af, none⟩ :: rest) a w :=
  wpList_run rfl (exec_v (alloc75 w)) h
theorem wpList_store75 {ops : Array Oper} {rest : List Oper} {a : Act} {w : World} {Q : Exit → Act → World → Prop} {x y : Operand} {ty : TypeId} {pos : String} {af : Array Edge} (i : Int)
    (hx : a.eval x = .pointer (some ⟨w.heap.size, 0, none⟩)) (hy : a.eval y = .agg (wcell i (rep 512 0)).toArray)
    (h : wpList Try.prog ops Q rest a (w.alloc (.cells (wcell i (rep 512 0)).toArray 98))) : wpList Try.prog ops Q (⟨none, .store 98 x y, ty, pos, af, none⟩ :: rest) a (w.alloc (.cells zwc 98)) := by
  refine wpList_store_row rfl 98 x y rfl w.heap.size _ hx hy 98 zwc (heap_alloc_new _ _) (by rw [size75]; simp [wcell_length, rep_length]) (by simp [zwc, wcell_length, rep_length]) (all_oneCell_toArray (wcell_oneCell _ _)) ?_
  rw [World.setRow_alloc_new]
  exact h
end Go.Proofs.Ytambgimfbdecpaa
namespace Go.Proofs.Ytambgimfbdecpaa
open Go.RowKit
set_option linter.unusedVariables false

section
variable {P : Program} {ops : Array Oper} {Q : Exit → Act → World → Prop} {md : Region.Mode} {S : World → Prop}

/-- An operation that comes up, by its run. -/
theorem wpOp_run {i : Nat} {o : Oper} {K : Act → World → Prop} {a : Act} {w w' : World} {v : Value} (ho : ops[i]? = some o) (hg : o.guard = none) (hrun : (execOp a.eval o).run P w = .ok (.value v) w')
    (h : K (a.put o.dst v) w') : wpOp P ops Q i K a w := by
  refine wpOp_step ho fun K' hK => ?_
  rw [if_pos (by simp [Region.wanted, hg])]
  unfold Oper.wp
  rw [hrun]
  exact hK _ _ h
theorem wpOp_skip {i : Nat} {o : Oper} {K : Act → World → Prop} {a : Act} {w w' : World} (ho : ops[i]? = some o) (hg : o.guard = none) (hrun : (execOp a.eval o).run P w = .ok .skip w')
    (h : K (a.put o.dst undef) w') : wpOp P ops Q i K a w := by
  refine wpOp_step ho fun K' hK => ?_
  rw [if_pos (by simp [Region.wanted, hg])]
  unfold Oper.wp
  rw [hrun]
  exact hK _ _ h

theorem anyH_take (i : Nat) (o : Oper) (v : Value) {fuel : Nat} {listed : Array Bool} {a : Act} {w : World} (hi : ops[i]? = some o) (hg : o.guard = none)
    (hs : Region.noSelect ops = true) (hf : Region.free md ops listed i = true) (hr : (Region.ready md ops listed).contains i = true)
    (hQ : ∀ c a w, Q (.panic c) (a.put o.dst v) w → Q (.panic c) a w) (hrun : ∀ w, S w → (execOp a.eval o).run P w = .ok (.value v) w) (hS : S w)
    (h : wpAnyH P md ops Q S fuel (listed.setIfInBounds i true) (a.put o.dst v) w) : wpAnyH P md ops Q S (fuel + 1) listed a w :=
  wpAnyH_take hi hs hf hr hQ (.inl ⟨by simp [Region.wanted, hg], hrun⟩) hS h

theorem anyH_one (i : Nat) (o : Oper) (v : Value) (w' : World) {fuel : Nat} {listed : Array Bool} {a : Act} {w : World} (hr : Region.ready md ops listed = [i]) (hi : ops[i]? = some o) (hg : o.guard = none)
    (hrun : (execOp a.eval o).run P w = .ok (.value v) w') (hS : S w')
    (h : wpAnyH P md ops Q S fuel (listed.setIfInBounds i true) (a.put o.dst v) w') : wpAnyH P md ops Q S (fuel + 1) listed a w := by
  refine wpAnyH_all hr (by simp) fun j hj => ?_
  obtain rfl := List.mem_singleton.1 hj
  exact wpOp_run hi hg hrun ⟨hS, h⟩
theorem anyH_oneSkip (i : Nat) (o : Oper) (w' : World) {fuel : Nat} {listed : Array Bool} {a : Act} {w : World} (hr : Region.ready md ops listed = [i]) (hi : ops[i]? = some o) (hg : o.guard = none)
    (hrun : (execOp a.eval o).run P w = .ok .skip w') (hS : S w')
    (h : wpAnyH P md ops Q S fuel (listed.setIfInBounds i true) (a.put o.dst undef) w') : wpAnyH P md ops Q S (fuel + 1) listed a w := by
  refine wpAnyH_all hr (by simp) fun j hj => ?_
  obtain rfl := List.mem_singleton.1 hj
  exact wpOp_skip hi hg hrun ⟨hS, h⟩
theorem anyH_two (i j : Nat) {fuel : Nat} {listed : Array Bool} {a : Act} {w : World} (hr : Region.ready md ops listed = [i, j])
    (h1 : wpOp P ops Q i (fun a' w' => S w' ∧ wpAnyH P md ops Q S fuel (listed.setIfInBounds i true) a' w') a w)
    (h2 : wpOp P ops Q j (fun a' w' => S w' ∧ wpAnyH P md ops Q S fuel (listed.setIfInBounds j true) a' w') a w) : wpAnyH P md ops Q S (fuel + 1) listed a w := by
  refine wpAnyH_all hr (by simp) fun k hk => ?_
  simp only [List.mem_cons, List.not_mem_nil, or_false] at hk
  rcases hk with rfl | rfl
  · exact h1
  · exact h2
end

theorem Kept.cell {S : List Nat} {w w' : World} (k : Kept S w w') {p : Addr} {v : Value} (h : w.cell? p = some v) (hp : p.block ∉ S) : w'.cell? p = some v :=
  (World.cell?_of_block (k.block p.block (World.block_lt_of_cell? w p h) hp)).trans h

/-- A write's bytes are laid over those of a new one. -/
theorem copy75 (w : World) (i : Int) (a : Addr) (cap : Nat) (bytes : List Int) (hbl : bytes.length = 512) (hsrc : ∀ j v, (bc bytes)[j]? = some v → w.cell? (a.add j) = some v) :
    (Builtin.copy_ #[46, 46] 3 #[.slice (some ⟨w.heap.size, 1, none⟩) 512 512, .slice (some a) 512 cap]).run Try.prog (w.alloc (.cells (wcell i (rep 512 0)).toArray 98)) =
      .ok (goInt 512) (w.alloc (.cells (wcell i bytes).toArray 98)) := by
  have hr := run_copy_row (P := Try.prog) (w.alloc (.cells (wcell i (rep 512 0)).toArray 98)) 46 46 3 5 w.heap.size 1 512 512 a 512 cap (wcell i (rep 512 0)).toArray 98 (bc bytes) Try.underlying46 (by kernel_rfl) (heap_alloc_new _ _)
    (by rw [bc_length, hbl]; rfl) (fun j v hv => by have := hsrc j v hv; rw [World.cell?_alloc_some _ _ _ (by simp [this]), this]) (by simp [bc_length, hbl, wcell_length, rep_length]) (bc_oneCell _)
  have hdr : List.drop 512 (bc (rep 512 0)) = [] := List.drop_of_length_le (by rw [bc_length, rep_length]; exact Nat.le_refl _)
  rw [hr, bc_length, hbl, World.setRow_alloc_new]
  simp [wcell, hdr]

/-- A write is loaded whole. -/
theorem load75 {w : World} {g : Nat} {i : Int} {bytes : List Int} (hbl : bytes.length = 512) (h : w.heap[g]? = some (.cells (wcell i bytes).toArray 98 (0, 0))) :
    (Instr.loadAt 98 (.pointer (some ⟨g, 0, none⟩))).run Try.prog w = .ok (.agg (wcell i bytes).toArray) w := by
  simp only [Instr.loadAt, Instr.sureAddr, Sem.run_bind, Sem.run_pure, Result.andThen_ok]
  exact run_loadVar_row w g 98 98 _ (0, 0) _ h Try.underlying98 rfl (by rw [size75]; simp [wcell_length, hbl])

theorem foldl_set (l : List Value) : ∀ (k : Nat) (cs : Array Value) (m : Nat), ((l.zipIdx k).foldl (fun (cs : Array Value) (x : Value × Nat) => cs.setIfInBounds x.2 x.1) cs)[m]? =
    if k ≤ m ∧ m < k + l.length ∧ m < cs.size then l[m - k]? else cs[m]? := by
  induction l with
  | nil => intro k cs m; simp; omega
  | cons v l ih =>
    intro k cs m
    rw [List.zipIdx_cons, List.foldl_cons, ih]
    simp only [Array.size_setIfInBounds, List.length_cons, Array.getElem?_setIfInBounds]
    by_cases hm : m < cs.size
    · by_cases h1 : k = m
      · subst h1
        rw [if_neg (by omega), if_pos rfl, if_pos hm, if_pos ⟨by omega, by omega, hm⟩]
        simp
      · by_cases h2 : k + 1 ≤ m ∧ m < k + 1 + l.length
        · rw [if_pos ⟨h2.1, h2.2, hm⟩, if_pos ⟨by omega, by omega, hm⟩, show m - k = (m - (k + 1)) + 1 by omega, List.getElem?_cons_succ]
        · have e1 : ¬ (k + 1 ≤ m ∧ m < k + 1 + l.length ∧ m < cs.size) := fun h => h2 ⟨h.1, h.2.1⟩
          have e2 : ¬ (k ≤ m ∧ m < k + (l.length + 1) ∧ m < cs.size) := fun h => h2 (by omega)
          rw [if_neg e1, if_neg h1, if_neg e2]
    · have e1 : ¬ (k + 1 ≤ m ∧ m < k + 1 + l.length ∧ m < cs.size) := fun h => hm h.2.2
      have e2 : ¬ (k ≤ m ∧ m < k + (l.length + 1) ∧ m < cs.size) := fun h => hm h.2.2
      rw [if_neg e1, if_neg e2]
      by_cases h1 : k = m
      · subst h1; rw [if_pos rfl, if_neg hm, Array.getElem?_eq_none (by omega)]
      · rw [if_neg h1]

theorem fill_whole (X zero : Array Value) (size : Nat) (hx : X.size = size) (hz : zero.size = size) : Instr.fill (fun i => some (i * size, size)) zero [(0, .agg X)] = some X := by
  subst hx
  simp only [Instr.fill, Value.cells, Nat.zero_mul, Nat.zero_add]
  rw [if_neg (by simp [hz])]
  congr 1
  apply Array.ext_getElem?
  intro m
  have h := foldl_set X.toList 0 zero m
  rw [← Array.foldl_toList, Array.toList_zipIdx]
  simp only [Nat.zero_add, Nat.sub_zero, Nat.zero_le, true_and, Array.length_toList, hz, Array.getElem?_toList] at h
  rw [h]
  split
  · rfl
  · rename_i hn
    rw [Array.getElem?_eq_none (by omega), Array.getElem?_eq_none (by omega)]

/-- One write, as a slice of its own. -/
theorem slice75 {w : World} {i : Int} {bytes : List Int} (hbl : bytes.length = 512) :
    (Instr.buildSlice 81 1 #[(0, .agg (wcell i bytes).toArray)]).run Try.prog w = .ok (.slice (some ⟨w.heap.size, 0, none⟩) 1 1) (w.alloc (.cells (wcell i bytes).toArray 98)) := by
  obtain ⟨inf, hi, hz0, hz1, hz2⟩ := info_parts Try.info98
  have hf := fill_whole (wcell i bytes).toArray ((Array.range (1 * 513)).map (zwc[· % zwc.size]!)) 513 (by simp [wcell_length, hbl]) (by simp)
  simp [Instr.buildSlice, run_underlying Try.underlying81, sizeOf, typeInfo, zeroValue, hi, hz0, hz1, zWrite, Value.cells, newRow, hf]
end Go.Proofs.Ytambgimfbdecpaa
