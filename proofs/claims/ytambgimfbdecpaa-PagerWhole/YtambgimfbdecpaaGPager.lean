/- What this text holds: words for a pager that lies in memory, what keeps it as it was, and its small functions. -/
import Derived.Test.YtambgimfbdecpaaGPins
namespace Go.Proofs.Ytambgimfbdecpaa
open Go.RowKit Go.Maps
set_option linter.unusedVariables false

/-- All bytes of a disk are bytes. -/
structure DS.byt (D : DS) : Prop where
  s : Byt D.secs
  w : ∀ x ∈ D.waits, Byt x.2

/-- A pager as plain data. -/
structure PS where
  D : DS
  st : List (Int × Int)
  pins : List Int
  pm : Nat
  gen : Int
  root : ByteArray
  dead : Bool

structure PAt (w : World) (B b db gs mb : Nat) (own : List Nat) (P : PS) : Prop where
  blk : w.heap[b]? = some (.cells #[.pointer (some ⟨db, 0, none⟩), .slice (some ⟨gs, 0, none⟩) P.D.n P.D.n, .map (some mb), .int .i64 P.gen, .string P.root, .bool P.dead] 114 (0, 0))
  sh : w.heap[gs]? = some (.cells (shc P.st).toArray 118 (0, 0))
  len : P.st.length = P.D.n
  pins : PinsAt w mb P.pm P.pins
  disk : Disk w B db own P.D
  byt : P.D.byt
  nb : b ∉ own
  ngs : gs ∉ own
  nmb : mb ∉ own
  n1 : gs ≠ b
  n2 : gs ≠ mb
  n3 : mb ≠ b
  hb : B ≤ b
  hgs : B ≤ gs
  hmb : B ≤ mb
  g0 : 0 ≤ P.gen
  g1 : P.gen ≤ 4611686018427387904
  n4 : 4 ≤ P.D.n

/-- The same, its blocks in a list. -/
def Pgr (w : World) (B b db : Nat) (all : List Nat) (P : PS) : Prop := ∃ gs mb own, PAt w B b db gs mb own P ∧ all = b :: gs :: mb :: own

theorem PAt.cells {w : World} {B b db gs mb : Nat} {own : List Nat} {P : PS} (h : PAt w B b db gs mb own P) :
    w.cell? ⟨b, 0, none⟩ = some (.pointer (some ⟨db, 0, none⟩)) ∧ w.cell? ⟨b, 1, none⟩ = some (.slice (some ⟨gs, 0, none⟩) P.D.n P.D.n) ∧ w.cell? ⟨b, 2, none⟩ = some (.map (some mb)) ∧
    w.cell? ⟨b, 3, none⟩ = some (.int .i64 P.gen) ∧ w.cell? ⟨b, 4, none⟩ = some (.string P.root) ∧ w.cell? ⟨b, 5, none⟩ = some (.bool P.dead) := by
  simp [World.cell?, h.blk]
theorem PAt.free {w : World} {B b db gs mb : Nat} {own : List Nat} {P : PS} (h : PAt w B b db gs mb own P) (k : Nat) : w.frozen? ⟨b, k, none⟩ = false := by simp [World.frozen?, h.blk]
theorem PAt.max {w : World} {B b db gs mb : Nat} {own : List Nat} {P : PS} (h : PAt w B b db gs mb own P) : P.D.n ≤ 4096 := h.disk.good.n2
theorem PAt.shAt {w : World} {B b db gs mb : Nat} {own : List Nat} {P : PS} (h : PAt w B b db gs mb own P) : ShAt w b gs P.D.n P.st := ⟨h.cells.2.1, h.sh, h.len, h.max⟩
theorem PAt.keep {w w' : World} {B b db gs mb : Nat} {own : List Nat} {P : PS} (h : PAt w B b db gs mb own P) {S : List Nat} (k : Kept S w w') (hS : ∀ i ∈ b :: gs :: mb :: own, i ∉ S) : PAt w' B b db gs mb own P :=
  { h with
    blk := by rw [k.block b (Array.getElem?_eq_some_iff.1 h.blk).1 (hS b (by simp))]; exact h.blk
    sh := by rw [k.block gs (Array.getElem?_eq_some_iff.1 h.sh).1 (hS gs (by simp))]; exact h.sh
    pins := h.pins.keep k (hS mb (by simp))
    disk := h.disk.keep k (fun i hi => hS i (by simp [hi])) }
theorem PAt.lt {w : World} {B b db gs mb : Nat} {own : List Nat} {P : PS} (h : PAt w B b db gs mb own P) : ∀ i ∈ b :: gs :: mb :: own, B ≤ i ∧ i < w.heap.size := by
  intro i hi
  simp only [List.mem_cons] at hi
  rcases hi with rfl | rfl | rfl | hi
  · exact ⟨h.hb, (Array.getElem?_eq_some_iff.1 h.blk).1⟩
  · exact ⟨h.hgs, (Array.getElem?_eq_some_iff.1 h.sh).1⟩
  · exact ⟨h.hmb, h.pins.lt⟩
  · exact h.disk.lt i hi
theorem Pgr.lt {w : World} {B b db : Nat} {all : List Nat} {P : PS} (h : Pgr w B b db all P) : ∀ i ∈ all, B ≤ i ∧ i < w.heap.size := by
  obtain ⟨gs, mb, own, h, rfl⟩ := h
  exact h.lt
theorem Pgr.keep {w w' : World} {B b db : Nat} {all : List Nat} {P : PS} (h : Pgr w B b db all P) {S : List Nat} (k : Kept S w w') (hS : ∀ i ∈ all, i ∉ S) : Pgr w' B b db all P := by
  obtain ⟨gs, mb, own, h, rfl⟩ := h
  exact ⟨gs, mb, own, h.keep k hS, rfl⟩
theorem Pgr.later {w w' : World} {B b db : Nat} {all : List Nat} {P : PS} (h : Pgr w B b db all P) (hb : Below w.heap.size w w') : Pgr w' B b db all P := h.keep (Kept.ofBelow hb []) (by simp)
theorem PAt.later {w w' : World} {B b db gs mb : Nat} {own : List Nat} {P : PS} (h : PAt w B b db gs mb own P) (hb : Below w.heap.size w w') : PAt w' B b db gs mb own P := h.keep (Kept.ofBelow hb []) (by simp)

/-- The disk beneath a pager has turned. -/
theorem PAt.setDisk {w w' : World} {B b db gs mb : Nat} {own own' : List Nat} {P : PS} {D' : DS} (h : PAt w B b db gs mb own P) (hd : Disk w' B db own' D') (hk : Kept own w w') (hn : ∀ k ∈ own', k ∈ own ∨ w.heap.size ≤ k) (he : D'.n = P.D.n) (hby : D'.byt) :
    PAt w' B b db gs mb own' { P with D := D' } :=
  { blk := by rw [hk.block b (h.lt b (by simp)).2 h.nb, h.blk, he]
    sh := by rw [hk.block gs (h.lt gs (by simp)).2 h.ngs]; exact h.sh
    len := by rw [he]; exact h.len
    pins := h.pins.keep hk h.nmb
    disk := hd
    byt := hby
    nb := fun e => by rcases hn b e with h' | h'; exact h.nb h'; have := (h.lt b (by simp)).2; omega
    ngs := fun e => by rcases hn gs e with h' | h'; exact h.ngs h'; have := (h.lt gs (by simp)).2; omega
    nmb := fun e => by rcases hn mb e with h' | h'; exact h.nmb h'; have := (h.lt mb (by simp)).2; omega
    n1 := h.n1, n2 := h.n2, n3 := h.n3, hb := h.hb, hgs := h.hgs, hmb := h.hmb, g0 := h.g0, g1 := h.g1, n4 := by rw [he]; exact h.n4 }
/-- Its sheets have. -/
theorem PAt.setSt {w w' : World} {B b db gs mb : Nat} {own : List Nat} {P : PS} {st' : List (Int × Int)} (h : PAt w B b db gs mb own P) (hs : ShAt w' b gs P.D.n st') (hk : Kept [gs] w w') : PAt w' B b db gs mb own { P with st := st' } :=
  { blk := by rw [hk.block b (h.lt b (by simp)).2 (by simpa using fun e => h.n1 e.symm)]; exact h.blk
    sh := hs.blk
    len := hs.len
    pins := h.pins.keep hk (by simpa using fun e => h.n2 e.symm)
    disk := h.disk.keep hk (fun i hi => by simp only [List.mem_singleton]; exact fun e => h.ngs (e ▸ hi))
    byt := h.byt, nb := h.nb, ngs := h.ngs, nmb := h.nmb, n1 := h.n1, n2 := h.n2, n3 := h.n3, hb := h.hb, hgs := h.hgs, hmb := h.hmb, g0 := h.g0, g1 := h.g1, n4 := h.n4 }
/-- It is dead. -/
theorem PAt.setDead {w : World} {B b db gs mb : Nat} {own : List Nat} {P : PS} (h : PAt w B b db gs mb own P) : PAt (w.setCell ⟨b, 5, none⟩ (.bool true)) B b db gs mb own { P with dead := true } := by
  have hk := Kept.setCell [b] w ⟨b, 5, none⟩ (.bool true) (by simp)
  refine { blk := ?_, sh := ?_, len := h.len, pins := h.pins.keep hk (by simpa using h.n3), disk := h.disk.keep hk (fun i hi => by simp only [List.mem_singleton]; exact fun e => h.nb (e ▸ hi)), byt := h.byt, nb := h.nb, ngs := h.ngs, nmb := h.nmb, n1 := h.n1, n2 := h.n2, n3 := h.n3, hb := h.hb, hgs := h.hgs, hmb := h.hmb, g0 := h.g0, g1 := h.g1, n4 := h.n4 }
  · simp [World.setCell, Array.getElem?_modify, h.blk]
  · rw [hk.block gs (h.lt gs (by simp)).2 (by simpa using h.n1)]; exact h.sh
/-- It has another root. -/
theorem PAt.setRoot {w : World} {B b db gs mb : Nat} {own : List Nat} {P : PS} (h : PAt w B b db gs mb own P) (g : Int) (r : ByteArray) (h0 : 0 ≤ g) (h1 : g ≤ 4611686018427387904) :
    PAt ((w.setCell ⟨b, 3, none⟩ (.int .i64 g)).setCell ⟨b, 4, none⟩ (.string r)) B b db gs mb own { P with gen := g, root := r } := by
  have hk := (Kept.setCell [b] w ⟨b, 3, none⟩ (.int .i64 g) (by simp)).trans (Kept.setCell [b] _ ⟨b, 4, none⟩ (.string r) (by simp)) (fun _ _ h => h)
  refine { blk := ?_, sh := ?_, len := h.len, pins := h.pins.keep hk (by simpa using h.n3), disk := h.disk.keep hk (fun i hi => by simp only [List.mem_singleton]; exact fun e => h.nb (e ▸ hi)), byt := h.byt, nb := h.nb, ngs := h.ngs, nmb := h.nmb, n1 := h.n1, n2 := h.n2, n3 := h.n3, hb := h.hb, hgs := h.hgs, hmb := h.hmb, g0 := h0, g1 := h1, n4 := h.n4 }
  · simp [World.setCell, Array.getElem?_modify, h.blk]
  · rw [hk.block gs (h.lt gs (by simp)).2 (by simpa using h.n1)]; exact h.sh
/-- Its pins have turned. -/
theorem PAt.setPins {w w' : World} {B b db gs mb m : Nat} {own : List Nat} {P : PS} {pins : List Int} (h : PAt w B b db gs mb own P) (hp : PinsAt w' mb m pins) (hk : Kept [mb] w w') : PAt w' B b db gs mb own { P with pins := pins, pm := m } :=
  { blk := by rw [hk.block b (h.lt b (by simp)).2 (by simpa using fun e => h.n3 e.symm)]; exact h.blk
    sh := by rw [hk.block gs (h.lt gs (by simp)).2 (by simpa using h.n2)]; exact h.sh
    len := h.len
    pins := hp
    disk := h.disk.keep hk (fun i hi => by simp only [List.mem_singleton]; exact fun e => h.nmb (e ▸ hi))
    byt := h.byt, nb := h.nb, ngs := h.ngs, nmb := h.nmb, n1 := h.n1, n2 := h.n2, n3 := h.n3, hb := h.hb, hgs := h.hgs, hmb := h.hmb, g0 := h.g0, g1 := h.g1, n4 := h.n4 }

section
variable {w : World} {B b db gs mb : Nat} {own : List Nat} {P : PS}

set_option maxHeartbeats 400000 in
theorem none_any (h : PAt w B b db gs mb own P) : Calls Try.prog 59 #[.pointer (some ⟨b, 0, none⟩)] w fun e w' => e = .returned (.bool false) ∧ w' = w := by
  obtain ⟨c0, c1, c2, c3, c4, c5⟩ := h.cells
  clear h
  go_enter Try.func59, Try.ntmps59
  go_wp2
  go_ret
  exact ⟨rfl, rfl⟩
set_option maxHeartbeats 400000 in
theorem none_nil (w : World) : Calls Try.prog 59 #[.pointer none] w fun e w' => e = .returned (.bool true) ∧ w' = w := by
  go_enter Try.func59, Try.ntmps59
  go_wp2
  go_ret
  exact ⟨rfl, rfl⟩

set_option maxHeartbeats 400000 in
theorem ready_any (h : PAt w B b db gs mb own P) : Calls Try.prog 61 #[.pointer (some ⟨b, 0, none⟩)] w fun e w' => e = .returned (.int .i64 (if P.dead then 9 else 0)) ∧ w' = w := by
  obtain ⟨c0, c1, c2, c3, c4, c5⟩ := h.cells
  have HN := hid (none_any h)
  clear h
  cases hd : P.dead with
  | true =>
    rw [hd] at c5
    go_enter Try.func61, Try.ntmps61
    go_wp2_with (go_at_call 59; refine HN.out.mono ?_; rintro e w ⟨rfl, rfl⟩)
    go_ret
    exact ⟨rfl, rfl⟩
  | false =>
    rw [hd] at c5
    go_enter Try.func61, Try.ntmps61
    go_wp2_with (go_at_call 59; refine HN.out.mono ?_; rintro e w ⟨rfl, rfl⟩)
    go_ret
    exact ⟨rfl, rfl⟩
set_option maxHeartbeats 400000 in
theorem ready_nil (w : World) : Calls Try.prog 61 #[.pointer none] w fun e w' => e = .returned (.int .i64 1) ∧ w' = w := by
  go_enter Try.func61, Try.ntmps61
  go_wp2_with (go_at_call 59; refine (none_nil _).mono ?_; rintro e w ⟨rfl, rfl⟩)
  go_ret
  exact ⟨rfl, rfl⟩

/-- What is heard. -/
def PS.hear (P : PS) (e : Int) : PS := if e = 9 then { P with dead := true } else P
set_option maxHeartbeats 400000 in
theorem heard_any (h : PAt w B b db gs mb own P) (e : Int) : Calls Try.prog 65 #[.pointer (some ⟨b, 0, none⟩), .int .i64 e] w fun r w' => r = .returned (.int .i64 e) ∧ PAt w' B b db gs mb own (P.hear e) ∧ Kept [b] w w' := by
  obtain ⟨c0, c1, c2, c3, c4, c5⟩ := h.cells
  have hf := h.free 5
  have HH := hid h
  clear h
  unfold PS.hear
  by_cases he : e = 9
  · rw [if_pos he]
    have he' : (e == 9) = true := by rw [beq_iff_eq]; exact he
    clear he
    go_enter Try.func65, Try.ntmps65
    go_wp2
    go_ret
    exact ⟨rfl, HH.out.setDead, Kept.setCell [b] w _ _ (by simp)⟩
  · rw [if_neg he]
    have he' : (e == 9) = false := by rw [beq_eq_false_iff_ne]; exact he
    clear he
    go_enter Try.func65, Try.ntmps65
    go_wp2
    go_ret
    exact ⟨rfl, HH.out, Kept.refl _ _⟩

set_option maxHeartbeats 400000 in
theorem gen_at (h : PAt w B b db gs mb own P) : Calls Try.prog 24 #[.pointer (some ⟨b, 0, none⟩)] w fun e w' => e = .returned (.int .i64 P.gen) ∧ w' = w := by
  obtain ⟨c0, c1, c2, c3, c4, c5⟩ := h.cells
  have HN := hid (none_any h)
  clear h
  go_enter Try.func24, Try.ntmps24
  go_wp2_with (go_at_call 59; refine HN.out.mono ?_; rintro e w ⟨rfl, rfl⟩)
  go_ret
  exact ⟨rfl, rfl⟩
set_option maxHeartbeats 400000 in
theorem root_at (h : PAt w B b db gs mb own P) : Calls Try.prog 25 #[.pointer (some ⟨b, 0, none⟩)] w fun e w' => e = .returned (.string P.root) ∧ w' = w := by
  obtain ⟨c0, c1, c2, c3, c4, c5⟩ := h.cells
  have HN := hid (none_any h)
  clear h
  go_enter Try.func25, Try.ntmps25
  go_wp2_with (go_at_call 59; refine HN.out.mono ?_; rintro e w ⟨rfl, rfl⟩)
  go_ret
  exact ⟨rfl, rfl⟩
set_option maxHeartbeats 400000 in
theorem free_at (h : PAt w B b db gs mb own P) : Calls Try.prog 26 #[.pointer (some ⟨b, 0, none⟩)] w fun e w' => e = .returned (.int .i64 (cntFree P.st)) ∧ w' = w := by
  obtain ⟨c0, c1, c2, c3, c4, c5⟩ := h.cells
  have HN := hid (none_any h)
  have HC := hid (countFree_any h.shAt)
  clear h
  go_enter Try.func26, Try.ntmps26
  go_wp2_with (first | (go_at_call 59; refine HN.out.mono ?_; rintro e w ⟨rfl, rfl⟩) | (go_at_call 60; refine HC.out.mono ?_; rintro e w ⟨rfl, rfl⟩))
  go_ret
  exact ⟨rfl, rfl⟩
end

theorem gen_any {w : World} {B b db : Nat} {all : List Nat} {P : PS} (h : Pgr w B b db all P) : Calls Try.prog 24 #[.pointer (some ⟨b, 0, none⟩)] w fun e w' => e = .returned (.int .i64 P.gen) ∧ w' = w := by
  obtain ⟨gs, mb, own, h, rfl⟩ := h
  exact gen_at h
theorem rootc_any {w : World} {B b db : Nat} {all : List Nat} {P : PS} (h : Pgr w B b db all P) : Calls Try.prog 25 #[.pointer (some ⟨b, 0, none⟩)] w fun e w' => e = .returned (.string P.root) ∧ w' = w := by
  obtain ⟨gs, mb, own, h, rfl⟩ := h
  exact root_at h
theorem free_any {w : World} {B b db : Nat} {all : List Nat} {P : PS} (h : Pgr w B b db all P) : Calls Try.prog 26 #[.pointer (some ⟨b, 0, none⟩)] w fun e w' => e = .returned (.int .i64 (cntFree P.st)) ∧ w' = w := by
  obtain ⟨gs, mb, own, h, rfl⟩ := h
  exact free_at h
end Go.Proofs.Ytambgimfbdecpaa
