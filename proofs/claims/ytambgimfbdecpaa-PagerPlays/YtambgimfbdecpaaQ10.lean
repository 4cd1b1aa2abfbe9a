/- What this text holds: a pager's pins, and 'release'. · What this text holds: words for a pager that lies in memory, what keeps it as it was, and its small functions. · What this text holds: plain facts about a disk: how much it grows, and that its bytes are bytes. · What this text holds: Drop, Abort, Put and Read of a pager. -/
import Derived.Test.YtambgimfbdecpaaQ09
import Derived.Maps.RangeWalk
import Derived.Maps.OwnSet
import Derived.Maps.OwnOps
namespace Go.Proofs.Ytambgimfbdecpaa
open Go.RowKit Go.Maps
set_option linter.unusedVariables false

theorem law3 : Keyed Try.prog 3 := int_keyed Try.underlying3
theorem zero3 (w : World) : (zeroValue 3).run Try.prog w = .ok (.int .i64 0) w := by kernel_rfl

/-- Block mb is a map that tells how often each gen stands among the pins. -/
structure PinsD (w : World) (mb m : Nat) (pins : List Int) (D : DataW Unit) : Prop where
  own : w.ownsMap Try.prog 3 (plainElem (H := Unit) Try.prog 3) mb m D
  has : ∀ x : Int, Maps.has D (.int .i64 x) = decide (x ∈ pins)
  cnt : ∀ x : Int, D.atKey (.int .i64 x) (.lit (.int .i64 0)) = .lit (.int .i64 (pins.count x))
def PinsAt (w : World) (mb m : Nat) (pins : List Int) : Prop := ∃ D, PinsD w mb m pins D

theorem PinsD.keep {w w' : World} {mb m : Nat} {pins : List Int} {D : DataW Unit} (h : PinsD w mb m pins D) {S : List Nat} (k : Kept S w w') (hS : mb ∉ S) : PinsD w' mb m pins D := by
  obtain ⟨es, clock, hb, r⟩ := h.own
  exact ⟨⟨es, clock, (k.block mb (Array.getElem?_eq_some_iff.1 hb).1 hS).trans hb, r⟩, h.has, h.cnt⟩
theorem PinsAt.keep {w w' : World} {mb m : Nat} {pins : List Int} (h : PinsAt w mb m pins) {S : List Nat} (k : Kept S w w') (hS : mb ∉ S) : PinsAt w' mb m pins := by
  obtain ⟨D, h⟩ := h
  exact ⟨D, h.keep k hS⟩
theorem PinsAt.lt {w : World} {mb m : Nat} {pins : List Int} (h : PinsAt w mb m pins) : mb < w.heap.size := by
  obtain ⟨D, h⟩ := h
  exact h.own.lt
theorem PinsAt.new (w : World) : PinsAt (w.alloc (.map #[] 0)) w.heap.size 0 [] :=
  ⟨_, World.ownsMap_made w Try.prog 3 _, fun x => by simp [Maps.has], fun x => by simp [DataW.atKey]⟩

/-- The lowest of the gen and the pins. -/
def lowPin (pins : List Int) (g : Int) : Int := pins.foldl min g
theorem lowPin_le (pins : List Int) : ∀ g : Int, lowPin pins g ≤ g ∧ (∀ x ∈ pins, lowPin pins g ≤ x) ∧ (lowPin pins g = g ∨ lowPin pins g ∈ pins) := by
  induction pins with
  | nil => intro g; simp [lowPin]
  | cons y l ih =>
    intro g
    obtain ⟨h1, h2, h3⟩ := ih (min g y)
    have e : lowPin (y :: l) g = lowPin l (min g y) := rfl
    rw [e]
    refine ⟨by omega, ?_, ?_⟩
    · intro x hx
      rcases List.mem_cons.1 hx with rfl | hx
      · omega
      · exact h2 x hx
    · rcases h3 with h | h
      · rcases (by omega : min g y = g ∨ min g y = y) with h' | h'
        · left; omega
        · right; rw [h, h']; simp
      · right; simp [h]
theorem lowPin_eq {pins : List Int} {g L : Int} (h1 : L ≤ g) (h2 : ∀ x ∈ pins, L ≤ x) (h3 : L = g ∨ L ∈ pins) : lowPin pins g = L := by
  obtain ⟨k1, k2, k3⟩ := lowPin_le pins g
  have a : lowPin pins g ≤ L := by
    rcases h3 with h | h
    · omega
    · exact k2 L h
  have b : L ≤ lowPin pins g := by
    rcases k3 with h | h
    · omega
    · exact h2 _ h
  omega

set_option maxRecDepth 100000 in
set_option maxHeartbeats 2000000 in
theorem release_any {w : World} {b gs n mb m : Nat} {st : List (Int × Int)} {pins : List Int} {g : Int} (h : ShAt w b gs n st) (hp : PinsAt w mb m pins) (hne : gs ≠ b) (hmb : gs ≠ mb)
    (c2 : w.cell? ⟨b, 2, none⟩ = some (.map (some mb))) (c3 : w.cell? ⟨b, 3, none⟩ = some (.int .i64 g)) :
    Calls Try.prog 69 #[.pointer (some ⟨b, 0, none⟩)] w fun e w' => e = .returned (.tuple #[]) ∧ ShAt w' b gs n (st.map (relF (lowPin pins g))) ∧ Kept [gs] w w' := by
  obtain ⟨D, hD⟩ := hp
  have hown := hD.own
  have HD := hid hD
  have HH := hid h
  have HN := hid hne
  clear h hD hne
  go_enter Try.func69, Try.ntmps69
  go_wp2_with (first
    | (at_range; refine wpList_range_own _ rfl _ 112 rfl 3 3 law3 Try.underlying112 _ mb m _ rfl hown ?_; intro w0 hrg0 hg0 hs0)
    | go_in)
  go_frame
  go_loopw [2] (fun q wr => ∃ (L : Int) (left : Lit → Bool) (cnt : Nat), q = .int .i64 L ∧ wr.ranges Try.prog 3 (plainElem (H := Unit) Try.prog 3) mb w.heap.size m D left cnt ∧ w.grownBy wr none ∧ L ≤ g ∧ (L = g ∨ L ∈ pins) ∧ (∀ x ∈ pins, left (.int .i64 x) = false → L ≤ x))
    (fun _ wr => wr.rangeLeft mb w.heap.size)
  case atStart =>
    refine ⟨g, _, _, rfl, hrg0, hg0, Int.le_refl _, .inl rfl, fun x hx hl => ?_⟩
    rw [HD.out.has x] at hl
    simp [hx] at hl
  case round =>
    obtain ⟨L, left, cnt, rfl, hrg, hgw, hL1, hL2, hL3⟩ := hrel
    have cc1 : wr.cell? ⟨b, 1, none⟩ = some (.slice (some ⟨gs, 0, none⟩) n n) := hgw.cell HH.out.c (by simp)
    have HSh := hid (HH.out.keep (Kept.ofGrown hgw [] (fun k h => by cases h)) (by simp) (by simp))
    have HL3 := hid hL3
    clear hL3
    go_wp2_with (first
      | (at_next; refine wpList_next_ranges_ii _ rfl _ rfl 3 3 .i64 .i64 law3 Try.underlying3 Try.underlying3 mb w.heap.size m _ _ _ rfl hrg ?_ ?_)
      | go_in)
    · intro _ hl0
      go_wp2_with (go_at_call 93; refine (releaseUpTo_any HSh.out HN.out L).mono ?_; rintro e w1 ⟨rfl, hsh, hk⟩)
      go_end0
      have e : lowPin pins g = L := lowPin_eq hL1 (fun x hx => HL3.out x hx (hl0 _)) hL2
      rw [e]
      exact ⟨rfl, hsh, (Kept.ofGrown hgw [gs] (fun k h => by cases h)).trans hk (fun _ _ h => h)⟩
    · intro x c w1 cnt1 hwx hwc hlx hat hrg1 hlt hg1 hs1 hen
      have hgw1 := hgw.andThen hg1 (fun j hj => by cases hj; exact Or.inl (Nat.le_refl _))
      have hxp : x ∈ pins := by
        have := has_true_of_atKey hat
        rw [HD.out.has x] at this
        simpa using this
      go_wp2_with go_in
      go_roundw
      case rel =>
        refine ⟨_, _, cnt1, rfl, hrg1, hgw1, by split <;> omega, ?_, ?_⟩
        · split
          · exact .inr hxp
          · exact hL2
        · intro y hy hl
          by_cases e : y = x
          · subst e; split <;> omega
          · have hne : (Lit.int .i64 y).sameKey (.int .i64 x) = false := Maps.sameKey_ne (fun h => e (by injection h))
            rw [hne] at hl
            have := HL3.out y hy (by simpa using hl)
            split <;> omega
      case measure => rw [hrg1.left_eq, hrg.left_eq]; exact hlt
end Go.Proofs.Ytambgimfbdecpaa
namespace Go.Proofs.Ytambgimfbdecpaa
open Go.RowKit Go.Maps
set_option linter.unusedVariables false

/-- All bytes of a disk are bytes. -/
structure DS.byt (D : DS) : Prop where
  s : Byt D.secs
  w : ∀ x ∈ D.waits, Byt x.2

/-- A pager as plain data. -/
structure PS where
  D : DS
  st : List (Int × Int)
  pins : List Int
  pm : Nat
  gen : Int
  root : ByteArray
  dead : Bool

structure PAt (w : World) (B b db gs mb : Nat) (own : List Nat) (P : PS) : Prop where
  blk : w.heap[b]? = some (.cells #[.pointer (some ⟨db, 0, none⟩), .slice (some ⟨gs, 0, none⟩) P.D.n P.D.n, .map (some mb), .int .i64 P.gen, .string P.root, .bool P.dead] 114 (0, 0))
  sh : w.heap[gs]? = some (.cells (shc P.st).toArray 118 (0, 0))
  len : P.st.length = P.D.n
  pins : PinsAt w mb P.pm P.pins
  disk : Disk w B db own P.D
  byt : P.D.byt
  nb : b ∉ own
  ngs : gs ∉ own
  nmb : mb ∉ own
  n1 : gs ≠ b
  n2 : gs ≠ mb
  n3 : mb ≠ b
  hb : B ≤ b
  hgs : B ≤ gs
  hmb : B ≤ mb
  g0 : 0 ≤ P.gen
  g1 : P.gen ≤ 4611686018427387904
  n4 : 4 ≤ P.D.n

/-- The same, its blocks in a list. -/
def Pgr (w : World) (B b db : Nat) (all : List Nat) (P : PS) : Prop := ∃ gs mb own, PAt w B b db gs mb own P ∧ all = b :: gs :: mb :: own

theorem PAt.cells {w : World} {B b db gs mb : Nat} {own : List Nat} {P : PS} (h : PAt w B b db gs mb own P) :
    w.cell? ⟨b, 0, none⟩ = some (.pointer (some ⟨db, 0, none⟩)) ∧ w.cell? ⟨b, 1, none⟩ = some (.slice (some ⟨gs, 0, none⟩) P.D.n P.D.n) ∧ w.cell? ⟨b, 2, none⟩ = some (.map (some mb)) ∧
    w.cell? ⟨b, 3, none⟩ = some (.int .i64 P.gen) ∧ w.cell? ⟨b, 4, none⟩ = some (.string P.root) ∧ w.cell? ⟨b, 5, none⟩ = some (.bool P.dead) := by
  simp [World.cell?, h.blk]
theorem PAt.free {w : World} {B b db gs mb : Nat} {own : List Nat} {P : PS} (h : PAt w B b db gs mb own P) (k : Nat) : w.frozen? ⟨b, k, none⟩ = false := by simp [World.frozen?, h.blk]
theorem PAt.max {w : World} {B b db gs mb : Nat} {own : List Nat} {P : PS} (h : PAt w B b db gs mb own P) : P.D.n ≤ 4096 := h.disk.good.n2
theorem PAt.shAt {w : World} {B b db gs mb : Nat} {own : List Nat} {P : PS} (h : PAt w B b db gs mb own P) : ShAt w b gs P.D.n P.st := ⟨h.cells.2.1, h.sh, h.len, h.max⟩
theorem PAt.keep {w w' : World} {B b db gs mb : Nat} {own : List Nat} {P : PS} (h : PAt w B b db gs mb own P) {S : List Nat} (k : Kept S w w') (hS : ∀ i ∈ b :: gs :: mb :: own, i ∉ S) : PAt w' B b db gs mb own P :=
  { h with
    blk := by rw [k.block b (Array.getElem?_eq_some_iff.1 h.blk).1 (hS b (by simp))]; exact h.blk
    sh := by rw [k.block gs (Array.getElem?_eq_some_iff.1 h.sh).1 (hS gs (by simp))]; exact h.sh
    pins := h.pins.keep k (hS mb (by simp))
    disk := h.disk.keep k (fun i hi => hS i (by simp [hi])) }
theorem PAt.lt {w : World} {B b db gs mb : Nat} {own : List Nat} {P : PS} (h : PAt w B b db gs mb own P) : ∀ i ∈ b :: gs :: mb :: own, B ≤ i ∧ i < w.heap.size := by
  intro i hi
  simp only [List.mem_cons] at hi
  rcases hi with rfl | rfl | rfl | hi
  · exact ⟨h.hb, (Array.getElem?_eq_some_iff.1 h.blk).1⟩
  · exact ⟨h.hgs, (Array.getElem?_eq_some_iff.1 h.sh).1⟩
  · exact ⟨h.hmb, h.pins.lt⟩
  · exact h.disk.lt i hi
theorem Pgr.lt {w : World} {B b db : Nat} {all : List Nat} {P : PS} (h : Pgr w B b db all P) : ∀ i ∈ all, B ≤ i ∧ i < w.heap.size := by
  obtain ⟨gs, mb, own, h, rfl⟩ := h
  exact h.lt
theorem Pgr.keep {w w' : World} {B b db : Nat} {all : List Nat} {P : PS} (h : Pgr w B b db all P) {S : List Nat} (k : Kept S w w') (hS : ∀ i ∈ all, i ∉ S) : Pgr w' B b db all P := by
  obtain ⟨gs, mb, own, h, rfl⟩ := h
  exact ⟨gs, mb, own, h.keep k hS, rfl⟩
theorem Pgr.later {w w' : World} {B b db : Nat} {all : List Nat} {P : PS} (h : Pgr w B b db all P) (hb : Below w.heap.size w w') : Pgr w' B b db all P := h.keep (Kept.ofBelow hb []) (by simp)
theorem PAt.later {w w' : World} {B b db gs mb : Nat} {own : List Nat} {P : PS} (h : PAt w B b db gs mb own P) (hb : Below w.heap.size w w') : PAt w' B b db gs mb own P := h.keep (Kept.ofBelow hb []) (by simp)

/-- The disk beneath a pager has turned. -/
theorem PAt.setDisk {w w' : World} {B b db gs mb : Nat} {own own' : List Nat} {P : PS} {D' : DS} (h : PAt w B b db gs mb own P) (hd : Disk w' B db own' D') (hk : Kept own w w') (hn : ∀ k ∈ own', k ∈ own ∨ w.heap.size ≤ k) (he : D'.n = P.D.n) (hby : D'.byt) :
    PAt w' B b db gs mb own' { P with D := D' } :=
  { blk := by rw [hk.block b (h.lt b (by simp)).2 h.nb, h.blk, he]
    sh := by rw [hk.block gs (h.lt gs (by simp)).2 h.ngs]; exact h.sh
    len := by rw [he]; exact h.len
    pins := h.pins.keep hk h.nmb
    disk := hd
    byt := hby
    nb := fun e => by rcases hn b e with h' | h'; exact h.nb h'; have := (h.lt b (by simp)).2; omega
    ngs := fun e => by rcases hn gs e with h' | h'; exact h.ngs h'; have := (h.lt gs (by simp)).2; omega
    nmb := fun e => by rcases hn mb e with h' | h'; exact h.nmb h'; have := (h.lt mb (by simp)).2; omega
    n1 := h.n1, n2 := h.n2, n3 := h.n3, hb := h.hb, hgs := h.hgs, hmb := h.hmb, g0 := h.g0, g1 := h.g1, n4 := by rw [he]; exact h.n4 }
/-- Its sheets have. -/
theorem PAt.setSt {w w' : World} {B b db gs mb : Nat} {own : List Nat} {P : PS} {st' : List (Int × Int)} (h : PAt w B b db gs mb own P) (hs : ShAt w' b gs P.D.n st') (hk : Kept [gs] w w') : PAt w' B b db gs mb own { P with st := st' } :=
  { blk := by rw [hk.block b (h.lt b (by simp)).2 (by simpa using fun e => h.n1 e.symm)]; exact h.blk
    sh := hs.blk
    len := hs.len
    pins := h.pins.keep hk (by simpa using fun e => h.n2 e.symm)
    disk := h.disk.keep hk (fun i hi => by simp only [List.mem_singleton]; exact fun e => h.ngs (e ▸ hi))
    byt := h.byt, nb := h.nb, ngs := h.ngs, nmb := h.nmb, n1 := h.n1, n2 := h.n2, n3 := h.n3, hb := h.hb, hgs := h.hgs, hmb := h.hmb, g0 := h.g0, g1 := h.g1, n4 := h.n4 }
/-- It is dead. -/
theorem PAt.setDead {w : World} {B b db gs mb : Nat} {own : List Nat} {P : PS} (h : PAt w B b db gs mb own P) : PAt (w.setCell ⟨b, 5, none⟩ (.bool true)) B b db gs mb own { P with dead := true } := by
  have hk := Kept.setCell [b] w ⟨b, 5, none⟩ (.bool true) (by simp)
  refine { blk := ?_, sh := ?_, len := h.len, pins := h.pins.keep hk (by simpa using h.n3), disk := h.disk.keep hk (fun i hi => by simp only [List.mem_singleton]; exact fun e => h.nb (e ▸ hi)), byt := h.byt, nb := h.nb, ngs := h.ngs, nmb := h.nmb, n1 := h.n1, n2 := h.n2, n3 := h.n3, hb := h.hb, hgs := h.hgs, hmb := h.hmb, g0 := h.g0, g1 := h.g1, n4 := h.n4 }
  · simp [World.setCell, Array.getElem?_modify, h.blk]
  · rw [hk.block gs (h.lt gs (by simp)).2 (by simpa using h.n1)]; exact h.sh
/-- It has another root. -/
theorem PAt.setRoot {w : World} {B b db gs mb : Nat} {own : List Nat} {P : PS} (h : PAt w B b db gs mb own P) (g : Int) (r : ByteArray) (h0 : 0 ≤ g) (h1 : g ≤ 4611686018427387904) :
    PAt ((w.setCell ⟨b, 3, none⟩ (.int .i64 g)).setCell ⟨b, 4, none⟩ (.string r)) B b db gs mb own { P with gen := g, root := r } := by
  have hk := (Kept.setCell [b] w ⟨b, 3, none⟩ (.int .i64 g) (by simp)).trans (Kept.setCell [b] _ ⟨b, 4, none⟩ (.string r) (by simp)) (fun _ _ h => h)
  refine { blk := ?_, sh := ?_, len := h.len, pins := h.pins.keep hk (by simpa using h.n3), disk := h.disk.keep hk (fun i hi => by simp only [List.mem_singleton]; exact fun e => h.nb (e ▸ hi)), byt := h.byt, nb := h.nb, ngs := h.ngs, nmb := h.nmb, n1 := h.n1, n2 := h.n2, n3 := h.n3, hb := h.hb, hgs := h.hgs, hmb := h.hmb, g0 := h0, g1 := h1, n4 := h.n4 }
  · simp [World.setCell, Array.getElem?_modify, h.blk]
  · rw [hk.block gs (h.lt gs (by simp)).2 (by simpa using h.n1)]; exact h.sh
/-- Its pins have turned. -/
theorem PAt.setPins {w w' : World} {B b db gs mb m : Nat} {own : List Nat} {P : PS} {pins : List Int} (h : PAt w B b db gs mb own P) (hp : PinsAt w' mb m pins) (hk : Kept [mb] w w') : PAt w' B b db gs mb own { P with pins := pins, pm := m } :=
  { blk := by rw [hk.block b (h.lt b (by simp)).2 (by simpa using fun e => h.n3 e.symm)]; exact h.blk
    sh := by rw [hk.block gs (h.lt gs (by simp)).2 (by simpa using h.n2)]; exact h.sh
    len := h.len
    pins := hp
    disk := h.disk.keep hk (fun i hi => by simp only [List.mem_singleton]; exact fun e => h.nmb (e ▸ hi))
    byt := h.byt, nb := h.nb, ngs := h.ngs, nmb := h.nmb, n1 := h.n1, n2 := h.n2, n3 := h.n3, hb := h.hb, hgs := h.hgs, hmb := h.hmb, g0 := h.g0, g1 := h.g1, n4 := h.n4 }

section
variable {w : World} {B b db gs mb : Nat} {own : List Nat} {P : PS}

set_option maxHeartbeats 400000 in
theorem none_any (h : PAt w B b db gs mb own P) : Calls Try.prog 59 #[.pointer (some ⟨b, 0, none⟩)] w fun e w' => e = .returned (.bool false) ∧ w' = w := by
  obtain ⟨c0, c1, c2, c3, c4, c5⟩ := h.cells
  clear h
  go_enter Try.func59, Try.ntmps59
  go_wp2
  go_ret
  exact ⟨rfl, rfl⟩
set_option maxHeartbeats 400000 in
theorem none_nil (w : World) : Calls Try.prog 59 #[.pointer none] w fun e w' => e = .returned (.bool true) ∧ w' = w := by
  go_enter Try.func59, Try.ntmps59
  go_wp2
  go_ret
  exact ⟨rfl, rfl⟩

set_option maxHeartbeats 400000 in
theorem ready_any (h : PAt w B b db gs mb own P) : Calls Try.prog 61 #[.pointer (some ⟨b, 0, none⟩)] w fun e w' => e = .returned (.int .i64 (if P.dead then 9 else 0)) ∧ w' = w := by
  obtain ⟨c0, c1, c2, c3, c4, c5⟩ := h.cells
  have HN := hid (none_any h)
  clear h
  cases hd : P.dead with
  | true =>
    rw [hd] at c5
    go_enter Try.func61, Try.ntmps61
    go_wp2_with (go_at_call 59; refine HN.out.mono ?_; rintro e w ⟨rfl, rfl⟩)
    go_ret
    exact ⟨rfl, rfl⟩
  | false =>
    rw [hd] at c5
    go_enter Try.func61, Try.ntmps61
    go_wp2_with (go_at_call 59; refine HN.out.mono ?_; rintro e w ⟨rfl, rfl⟩)
    go_ret
    exact ⟨rfl, rfl⟩
set_option maxHeartbeats 400000 in
theorem ready_nil (w : World) : Calls Try.prog 61 #[.pointer none] w fun e w' => e = .returned (.int .i64 1) ∧ w' = w := by
  go_enter Try.func61, Try.ntmps61
  go_wp2_with (go_at_call 59; refine (none_nil _).mono ?_; rintro e w ⟨rfl, rfl⟩)
  go_ret
  exact ⟨rfl, rfl⟩

/-- What is heard. -/
def PS.hear (P : PS) (e : Int) : PS := if e = 9 then { P with dead := true } else P
set_option maxHeartbeats 400000 in
theorem heard_any (h : PAt w B b db gs mb own P) (e : Int) : Calls Try.prog 65 #[.pointer (some ⟨b, 0, none⟩), .int .i64 e] w fun r w' => r = .returned (.int .i64 e) ∧ PAt w' B b db gs mb own (P.hear e) ∧ Kept [b] w w' := by
  obtain ⟨c0, c1, c2, c3, c4, c5⟩ := h.cells
  have hf := h.free 5
  have HH := hid h
  clear h
  unfold PS.hear
  by_cases he : e = 9
  · rw [if_pos he]
    have he' : (e == 9) = true := by rw [beq_iff_eq]; exact he
    clear he
    go_enter Try.func65, Try.ntmps65
    go_wp2
    go_ret
    exact ⟨rfl, HH.out.setDead, Kept.setCell [b] w _ _ (by simp)⟩
  · rw [if_neg he]
    have he' : (e == 9) = false := by rw [beq_eq_false_iff_ne]; exact he
    clear he
    go_enter Try.func65, Try.ntmps65
    go_wp2
    go_ret
    exact ⟨rfl, HH.out, Kept.refl _ _⟩

set_option maxHeartbeats 400000 in
theorem gen_at (h : PAt w B b db gs mb own P) : Calls Try.prog 24 #[.pointer (some ⟨b, 0, none⟩)] w fun e w' => e = .returned (.int .i64 P.gen) ∧ w' = w := by
  obtain ⟨c0, c1, c2, c3, c4, c5⟩ := h.cells
  have HN := hid (none_any h)
  clear h
  go_enter Try.func24, Try.ntmps24
  go_wp2_with (go_at_call 59; refine HN.out.mono ?_; rintro e w ⟨rfl, rfl⟩)
  go_ret
  exact ⟨rfl, rfl⟩
set_option maxHeartbeats 400000 in
theorem root_at (h : PAt w B b db gs mb own P) : Calls Try.prog 25 #[.pointer (some ⟨b, 0, none⟩)] w fun e w' => e = .returned (.string P.root) ∧ w' = w := by
  obtain ⟨c0, c1, c2, c3, c4, c5⟩ := h.cells
  have HN := hid (none_any h)
  clear h
  go_enter Try.func25, Try.ntmps25
  go_wp2_with (go_at_call 59; refine HN.out.mono ?_; rintro e w ⟨rfl, rfl⟩)
  go_ret
  exact ⟨rfl, rfl⟩
set_option maxHeartbeats 400000 in
theorem free_at (h : PAt w B b db gs mb own P) : Calls Try.prog 26 #[.pointer (some ⟨b, 0, none⟩)] w fun e w' => e = .returned (.int .i64 (cntFree P.st)) ∧ w' = w := by
  obtain ⟨c0, c1, c2, c3, c4, c5⟩ := h.cells
  have HN := hid (none_any h)
  have HC := hid (countFree_any h.shAt)
  clear h
  go_enter Try.func26, Try.ntmps26
  go_wp2_with (first | (go_at_call 59; refine HN.out.mono ?_; rintro e w ⟨rfl, rfl⟩) | (go_at_call 60; refine HC.out.mono ?_; rintro e w ⟨rfl, rfl⟩))
  go_ret
  exact ⟨rfl, rfl⟩
end

theorem gen_any {w : World} {B b db : Nat} {all : List Nat} {P : PS} (h : Pgr w B b db all P) : Calls Try.prog 24 #[.pointer (some ⟨b, 0, none⟩)] w fun e w' => e = .returned (.int .i64 P.gen) ∧ w' = w := by
  obtain ⟨gs, mb, own, h, rfl⟩ := h
  exact gen_at h
theorem rootc_any {w : World} {B b db : Nat} {all : List Nat} {P : PS} (h : Pgr w B b db all P) : Calls Try.prog 25 #[.pointer (some ⟨b, 0, none⟩)] w fun e w' => e = .returned (.string P.root) ∧ w' = w := by
  obtain ⟨gs, mb, own, h, rfl⟩ := h
  exact root_at h
theorem free_any {w : World} {B b db : Nat} {all : List Nat} {P : PS} (h : Pgr w B b db all P) : Calls Try.prog 26 #[.pointer (some ⟨b, 0, none⟩)] w fun e w' => e = .returned (.int .i64 (cntFree P.st)) ∧ w' = w := by
  obtain ⟨gs, mb, own, h, rfl⟩ := h
  exact free_at h
end Go.Proofs.Ytambgimfbdecpaa
namespace Go.Proofs.Ytambgimfbdecpaa
open Go.RowKit
set_option linter.unusedVariables false

theorem step_steps (D : DS) : D.step.2.steps ≤ D.steps + 1 ∧ D.step.2.n = D.n ∧ D.step.2.waits = D.waits := by
  refine ⟨?_, DS.step_n D, DS.step_waits D⟩
  unfold DS.step
  split
  · simp; omega
  · simp
theorem flush_grow (D : DS) : D.flush.2.n = D.n ∧ D.flush.2.steps ≤ D.steps + 1 ∧ D.flush.2.waits.length ≤ D.waits.length ∧ (D.flush.1 = 0 → D.flush.2.waits = []) := by
  obtain ⟨h1, h2, h3⟩ := step_steps D
  unfold DS.flush
  split
  · exact ⟨h2, h1, by simp [DS.flushed], fun _ => rfl⟩
  · exact ⟨h2, h1, by rw [h3]; exact Nat.le_refl _, fun h => by simp at h⟩
theorem flush_err (D : DS) : D.flush.1 = 0 ∨ D.flush.1 = 9 := by
  unfold DS.flush
  split
  · exact .inl rfl
  · exact .inr rfl
theorem write_grow (D : DS) (i : Int) (l : List Int) : (D.write i l).2.n = D.n ∧ (D.write i l).2.steps ≤ D.steps + 1 ∧ (D.write i l).2.waits.length ≤ D.waits.length + 1 := by
  obtain ⟨h1, h2, h3⟩ := step_steps D
  unfold DS.write
  split
  · exact ⟨rfl, by simp; omega, by simp⟩
  · split
    · exact ⟨rfl, by simp; omega, by simp⟩
    · split
      · exact ⟨h2, h1, by simp [h3]⟩
      · exact ⟨h2, h1, by simp only [h3]; omega⟩

theorem byt_splice {l b : List Int} {o : Nat} (h : Byt l) (hb : Byt b) : Byt (splice l o b) := by
  intro x hx
  simp only [splice, List.mem_append] at hx
  rcases hx with hx | hx | hx
  · exact h x (List.mem_of_mem_take hx)
  · exact hb x hx
  · exact h x (List.mem_of_mem_drop hx)
theorem byt_layS {l b : List Int} {i : Nat} (h : Byt l) (hb : Byt b) : Byt (layS l i b) := byt_splice h hb
theorem byt_layAll (ws : List (Int × List Int)) : ∀ l : List Int, Byt l → (∀ x ∈ ws, Byt x.2) → Byt (layAll l ws) := by
  induction ws with
  | nil => intro l h _; exact h
  | cons x ws ih => intro l h hw; exact ih _ (byt_layS h (hw x (by simp))) (fun y hy => hw y (by simp [hy]))
theorem step_secs (D : DS) : D.step.2.secs = D.secs := DS.step_secs D
theorem DS.byt.step {D : DS} (h : D.byt) : D.step.2.byt := ⟨by rw [DS.step_secs]; exact h.s, by rw [DS.step_waits]; exact h.w⟩
theorem DS.byt.flush {D : DS} (h : D.byt) : D.flush.2.byt := by
  unfold DS.flush
  split
  · exact ⟨byt_layAll _ _ h.step.s h.step.w, fun x hx => by simp [DS.flushed] at hx⟩
  · exact h.step
theorem DS.byt.write {D : DS} (h : D.byt) (i : Int) (l : List Int) (hl : Byt l) : (D.write i l).2.byt := by
  unfold DS.write
  split
  · exact h
  · split
    · exact h
    · split
      · refine ⟨h.step.s, fun x hx => ?_⟩
        simp only [List.mem_append, List.mem_singleton] at hx
        rcases hx with hx | rfl
        · exact h.step.w x hx
        · exact hl
      · exact h.step
theorem DS.byt.fused {D : DS} (h : D.byt) (n : Int) : (D.fused n).byt := ⟨h.s, h.w⟩
theorem DS.byt.blank (n : Nat) : (DS.blank n).byt := ⟨byt_rep _, fun x hx => by simp [DS.blank] at hx⟩
theorem byt_keep1 {ws : List (Int × List Int)} {s : List Int} {k : Int × Int} (h : Byt s) (hw : ∀ x ∈ ws, Byt x.2) : Byt (keep1 ws s k) := by
  unfold keep1
  split
  · rename_i hk
    exact byt_layS h ((hw _ (List.getElem_mem hk.2)).take _)
  · exact h
theorem DS.byt.crash {D : DS} (h : D.byt) (ks : List (Int × Int)) : (D.crash ks).byt := by
  refine ⟨?_, fun x hx => by simp [DS.crash] at hx⟩
  show Byt (ks.foldl (keep1 D.waits) D.secs)
  have hs := h.s
  generalize D.secs = s at hs
  induction ks generalizing s with
  | nil => exact hs
  | cons k ks ih => exact ih _ (byt_keep1 hs h.w)
theorem byt_lastW (ws : List (Int × List Int)) (i : Int) : ∀ d : List Int, Byt d → (∀ x ∈ ws, Byt x.2) → Byt (lastW ws i d) := by
  induction ws with
  | nil => intro d h _; exact h
  | cons x ws ih =>
    intro d h hw
    show Byt (lastW ws i (if x.1 = i then x.2 else d))
    refine ih _ ?_ (fun y hy => hw y (by simp [hy]))
    split
    · exact hw x (by simp)
    · exact h
theorem DS.byt.read {D : DS} (h : D.byt) (i : Nat) : Byt (D.read i) := byt_lastW _ _ _ ((h.s.drop _).take _) h.w
theorem lastW_length (ws : List (Int × List Int)) (i : Int) : ∀ d : List Int, d.length = 512 → (∀ x ∈ ws, x.2.length = 512) → (lastW ws i d).length = 512 := by
  induction ws with
  | nil => intro d h _; exact h
  | cons x ws ih =>
    intro d h hw
    show (lastW ws i (if x.1 = i then x.2 else d)).length = 512
    refine ih _ ?_ (fun y hy => hw y (by simp [hy]))
    split
    · exact hw x (by simp)
    · exact h
theorem DS.good.read {D : DS} (h : D.good) (i : Nat) (hi : i < D.n) : (D.read i).length = 512 :=
  lastW_length _ _ _ (sec_length D.secs i D.n h.len hi) (fun x hx => (h.w x hx).2.2)

/-- Read, all its answers in one. -/
def DS.reads (D : DS) (i : Int) : Int := if ¬ (0 ≤ i ∧ i < D.n) then 3 else if D.gone then 9 else 0
theorem read_ok {w : World} {B b : Nat} {own : List Nat} {D : DS} (h : Disk w B b own D) (hy : D.byt) (i : Nat) (hi : i < D.n) (hg : D.gone = false) :
    Calls Try.prog 70 #[.pointer (some ⟨b, 0, none⟩), .int .i64 i] w fun e w' => ∃ g, e = .returned (.tuple #[.slice (some ⟨g, 0, none⟩) 512 512, .int .i64 0]) ∧ w.heap.size ≤ g ∧
      BAt w' (some ⟨g, 0, none⟩) (D.read i) ∧ Below w.heap.size w w' := by
  obtain ⟨bs, sc, wv, hd, rfl⟩ := h
  refine (read_yes hd i hi hg).mono ?_
  rintro e w' ⟨g, rfl, h1, h2, h3⟩
  refine ⟨g, rfl, h1, fun j x hx => ⟨_, rfl, ?_⟩, h3⟩
  rw [Addr.add_mid, Nat.zero_add]
  simp only [World.cell?, h2]
  have : (bc (D.read i))[j]? = some (.int .u8 x) := by rw [bc, List.getElem?_map, hx]; rfl
  simpa using this
theorem read_nopower {w : World} {B b : Nat} {own : List Nat} {D : DS} (h : Disk w B b own D) (i : Nat) (hi : i < D.n) (hg : D.gone = true) :
    Calls Try.prog 70 #[.pointer (some ⟨b, 0, none⟩), .int .i64 i] w fun e w' => e = .returned (.tuple #[.slice none 0 0, .int .i64 9]) ∧ w' = w := by
  obtain ⟨bs, sc, wv, hd, rfl⟩ := h
  exact read_gone hd i hi hg
theorem size_all {w : World} {B b : Nat} {own : List Nat} {D : DS} (h : Disk w B b own D) : Calls Try.prog 74 #[.pointer (some ⟨b, 0, none⟩)] w fun e w' => e = .returned (.int .i64 D.n) ∧ w' = w := by
  obtain ⟨bs, sc, wv, hd, rfl⟩ := h
  exact size_any hd
end Go.Proofs.Ytambgimfbdecpaa
namespace Go.Proofs.Ytambgimfbdecpaa
open Go.RowKit Go.Maps
set_option linter.unusedVariables false

/-- A call of a pager has answered v, and the pager is P' now; nothing but its own blocks has turned. -/
def DidP (w : World) (B b db : Nat) (all : List Nat) (v : Value) (P' : PS) (e : Ending) (w' : World) : Prop :=
  e = .returned v ∧ ∃ all', Pgr w' B b db all' P' ∧ Kept all w w' ∧ ∀ k ∈ all', k ∈ all ∨ w.heap.size ≤ k

theorem DidP.at {w w' : World} {B b db gs mb : Nat} {own : List Nat} {P' : PS} {v : Value} (h : PAt w' B b db gs mb own P') (hk : Kept (b :: gs :: mb :: own) w w') : DidP w B b db (b :: gs :: mb :: own) v P' (.returned v) w' :=
  ⟨rfl, _, ⟨gs, mb, own, h, rfl⟩, hk, fun k hk => .inl hk⟩
theorem DidP.same {w : World} {B b db gs mb : Nat} {own : List Nat} {P : PS} {v : Value} (h : PAt w B b db gs mb own P) : DidP w B b db (b :: gs :: mb :: own) v P (.returned v) w := DidP.at h (Kept.refl _ _)

/-- Drop. -/
def PS.drop (P : PS) (n : Int) : Int × PS :=
  if P.dead then (9, P) else if usedP P.st n = false then (3, P)
  else if stOf P.st n.toNat = 2 then (0, { P with st := P.st.set n.toNat (0, 0) })
  else if stOf P.st n.toNat = 1 then (0, { P with st := P.st.set n.toNat (3, 0) }) else (3, P)

theorem usedP_yes {st : List (Int × Int)} {i : Int} (h : usedP st i = true) : ∃ k : Nat, i = k ∧ 2 ≤ k ∧ k < st.length ∧ stOf st k ≠ 0 := by
  unfold usedP at h
  simp only [Bool.and_eq_true, decide_eq_true_eq, bne_iff_ne] at h
  refine ⟨i.toNat, by omega, by omega, by omega, h.2⟩

set_option maxRecDepth 100000 in
set_option maxHeartbeats 1000000 in
theorem drop_at {w : World} {B b db gs mb : Nat} {own : List Nat} {P : PS} (h : PAt w B b db gs mb own P) (n : Int) :
    Calls Try.prog 29 #[.pointer (some ⟨b, 0, none⟩), .int .i64 n] w (DidP w B b db (b :: gs :: mb :: own) (.int .i64 (P.drop n).1) (P.drop n).2) := by
  obtain ⟨c0, c1, c2, c3, c4, c5⟩ := h.cells
  have HR := hid (ready_any h)
  have HU := hid (isUsed_any h.shAt n)
  have HH := hid h
  have hm := h.max
  unfold PS.drop
  by_cases hd : P.dead = true
  · rw [if_pos hd] at HR ⊢
    clear h
    go_enter Try.func29, Try.ntmps29
    go_wp2_with (go_at_call 61; refine HR.out.mono ?_; rintro e w ⟨rfl, rfl⟩)
    go_ret
    exact DidP.same HH.out
  · rw [if_neg hd] at HR ⊢
    by_cases hu : usedP P.st n = false
    · rw [if_pos hu]
      rw [hu] at HU
      clear h hu
      go_enter Try.func29, Try.ntmps29
      go_wp2_with (first | (go_at_call 61; refine HR.out.mono ?_; rintro e w ⟨rfl, rfl⟩) | (go_at_call 62; refine HU.out.mono ?_; rintro e w ⟨rfl, rfl⟩))
      go_ret
      exact DidP.same HH.out
    · rw [if_neg hu]
      have hu' : usedP P.st n = true := by simpa using hu
      rw [hu'] at HU
      obtain ⟨k, rfl, hk2, hkl, hk0⟩ := usedP_yes hu'
      have hkn : k < P.D.n := by rw [← h.len]; exact hkl
      have hkn' : (k : Int) < P.D.n := by omega
      obtain ⟨y, d2⟩ : ∃ y, w.cell? ⟨gs, k * 2 + 1, none⟩ = some (.int .i64 y) := ⟨_, (h.shAt.at_ k hkn).2⟩
      have ds := h.shAt.st k hkn
      have hf1 := h.shAt.free (k * 2)
      have hf2 := h.shAt.free (k * 2 + 1)
      rw [Int.toNat_natCast]
      clear h hu hu' hk0
      have HSet := hid fun x => HH.out.setSt (HH.out.shAt.set HH.out.n1 k hkn x) (setSh_kept w gs k x)
      have HKp := hid fun x => (setSh_kept w gs k x).mono (T := b :: gs :: mb :: own) (fun i _ hi => by simp only [List.mem_singleton] at hi; simp [hi])
      by_cases h2 : stOf P.st k = 2
      · rw [if_pos h2]
        rw [h2] at ds
        clear h2
        go_enter Try.func29, Try.ntmps29
        go_wp2_with (first | (go_at_call 61; refine HR.out.mono ?_; rintro e w ⟨rfl, rfl⟩) | (go_at_call 62; refine HU.out.mono ?_; rintro e w ⟨rfl, rfl⟩))
        go_ret
        exact DidP.at (HSet.out (0, 0)) (HKp.out (0, 0))
      · rw [if_neg h2]
        have h2' : (stOf P.st k == 2) = false := by rw [beq_eq_false_iff_ne]; exact h2
        by_cases h1 : stOf P.st k = 1
        · rw [if_pos h1]
          rw [h1] at ds
          clear h2 h2' h1
          go_enter Try.func29, Try.ntmps29
          go_wp2_with (first | (go_at_call 61; refine HR.out.mono ?_; rintro e w ⟨rfl, rfl⟩) | (go_at_call 62; refine HU.out.mono ?_; rintro e w ⟨rfl, rfl⟩))
          go_ret
          exact DidP.at (HSet.out (3, 0)) (HKp.out (3, 0))
        · rw [if_neg h1]
          have h1' : (stOf P.st k == 1) = false := by rw [beq_eq_false_iff_ne]; exact h1
          clear h2 h1
          go_enter Try.func29, Try.ntmps29
          go_wp2_with (first | (go_at_call 61; refine HR.out.mono ?_; rintro e w ⟨rfl, rfl⟩) | (go_at_call 62; refine HU.out.mono ?_; rintro e w ⟨rfl, rfl⟩))
          go_ret
          exact DidP.same HH.out

/-- Abort. -/
def PS.abort (P : PS) : PS := { P with st := (P.st.map (turnF 2 (0, 0))).map (turnF 3 (1, 0)) }
set_option maxRecDepth 100000 in
set_option maxHeartbeats 1000000 in
theorem abort_at {w : World} {B b db gs mb : Nat} {own : List Nat} {P : PS} (h : PAt w B b db gs mb own P) :
    Calls Try.prog 38 #[.pointer (some ⟨b, 0, none⟩)] w (DidP w B b db (b :: gs :: mb :: own) (.tuple #[]) P.abort) := by
  have HN := hid (none_any h)
  have HH := hid h
  clear h
  go_enter Try.func38, Try.ntmps38
  go_wp2_with (first | (go_at_call 59; refine HN.out.mono ?_; rintro e w ⟨rfl, rfl⟩))
  refine (turn_any HH.out.shAt HH.out.n1 2 0 0).mono ?_
  rintro e w1 ⟨rfl, hs1, hk1⟩
  have H1 := hid (HH.out.setSt hs1 hk1)
  have HK1 := hid hk1
  clear hs1 hk1
  go_wp2_with fail
  refine (turn_any H1.out.shAt H1.out.n1 3 1 0).mono ?_
  rintro e w2 ⟨rfl, hs2, hk2⟩
  have H2 := hid (H1.out.setSt hs2 hk2)
  have HK2 := hid hk2
  clear hs2 hk2
  go_wp2_with fail
  go_end0
  exact DidP.at H2.out ((HK1.out.trans HK2.out (fun _ _ h => h)).mono (fun i _ hi => by simp only [List.mem_singleton] at hi; simp [hi]))
end Go.Proofs.Ytambgimfbdecpaa
