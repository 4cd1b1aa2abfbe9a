/- What this text holds: kids of a key, one after another, as the program asks them. · What this text holds: whether one of a key's kids matches, or does not. · What this text holds: some of a key's kids, with how deep they lie. · What this text holds: keys that deny, or join, others. -/
import Derived.Test.YtaniljfjmbifnaaGreatDoorKX6
import Derived.Test.YtaniljfjmbifnaaGreatDoorK21
namespace Go.Proofs.YtaniljfjmbifnaaGreatDoor.H
open Go.RowKit
set_option linter.unusedVariables false
set_option linter.unusedSimpArgs false

/-- How a message lies behind what was handed in. -/
structure Stt (W0 : World) (b : Nat) (L : Lk) (w : World) : Prop where
  bel : Below W0.heap.size W0 w
  hb : W0.heap.size ≤ b
  at_ : LkAt w b L
  fs : FsOk w L
theorem Stt.later {W0 w w' : World} {b : Nat} {L : Lk} (h : Stt W0 b L w) (hb : Below w.heap.size w w') : Stt W0 b L w' := ⟨h.bel.trans (hb.mono h.bel.size), h.hb, h.at_.later hb, fun hr => (h.fs hr).later hb⟩
theorem Stt.kept {W0 w w' : World} {b : Nat} {L : Lk} (h : Stt W0 b L w) (hk : Kept [b] w w') (hs : Seen2 w' b L) : ∃ rd fs, Stt W0 b { L with rd := rd, fs := fs } w' := by
  obtain ⟨rd, fs, h1, h2⟩ := hs
  exact ⟨rd, fs, below_of_kept h.bel hk h.hb, h.hb, h1, h2⟩
/-- What a key answers, whenever it is asked. -/
def Asks (W0 : World) (b : Nat) (L : Lk) (r : Ky) (z : Bool) : Prop := ∀ (w1 : World) (L1 : Lk), (∃ rd fs, L1 = { L with rd := rd, fs := fs }) → Stt W0 b L1 w1 →
  Calls Tryz.prog 23 #[.pointer (some ⟨b, 0, none⟩), kyV r] w1 fun e w' => Seen2 w' b L1 ∧ e = .returned (.bool z) ∧ Kept [b] w1 w'
theorem Asks.other {W0 : World} {b : Nat} {L : Lk} {r : Ky} {z : Bool} (h : Asks W0 b L r z) (rd : Bool) (fs : Option Addr × Nat × Nat) : Asks W0 b { L with rd := rd, fs := fs } r z := fun w1 L1 ⟨rd', fs', e⟩ hs => h w1 L1 ⟨rd', fs', e⟩ hs
/-- What the closure of a kid leans on. -/
def NineZ (b mb xb kb : Nat) (op t f : Bs) (n : Int) (a : Option Addr) (p c : Nat) (d : Option Addr) (q g : Nat) (z : Bool) (w : World) : Prop :=
  w.cell? ⟨mb, 0, none⟩ = some (.pointer (some ⟨b, 0, none⟩)) ∧ w.cell? ⟨xb, 0, none⟩ = some (.bool z) ∧ w.cell? ⟨b, 18, none⟩ = some (.bool false) ∧ w.cell? ⟨kb, 0, none⟩ = some (.string (str op)) ∧ w.cell? ⟨kb, 1, none⟩ = some (.string (str t)) ∧ w.cell? ⟨kb, 2, none⟩ = some (.string (str f)) ∧ w.cell? ⟨kb, 3, none⟩ = some (.int .i64 n) ∧ w.cell? ⟨kb, 4, none⟩ = some (.slice a p c) ∧ w.cell? ⟨kb, 5, none⟩ = some (.slice d q g)
set_option maxRecDepth 100000 in
set_option maxHeartbeats 4000000 in
theorem kid_truetrue {W0 w : World} {b mb xb : Nat} {L : Lk} (hS : Stt W0 b L w) (hlo : L.lost = false) (hm : w.cell? ⟨mb, 0, none⟩ = some (.pointer (some ⟨b, 0, none⟩))) (hmb : mb ≠ b) (hml : mb < w.heap.size) (hx : w.cell? ⟨xb, 0, none⟩ = some (.bool true)) (hxb : xb ≠ b) (hxl : xb < w.heap.size)
    (op t f : Bs) (n : Int) (a : Option Addr) (p c : Nat) (d : Option Addr) (q g : Nat) (HQ : Asks W0 b L ⟨op, t, f, n, (a, p, c), (d, q, g)⟩ true) :
    Calls Tryz.prog 80 #[.agg #[.string (str op), .string (str t), .string (str f), .int .i64 n, .slice a p c, .slice d q g], .pointer (some ⟨mb, 0, none⟩), .pointer (some ⟨xb, 0, none⟩)] w fun e w' => Seen2 w' b L ∧ e = .returned (.bool (true == true)) ∧ Kept [b] w w' := by
  have ha : Below w.heap.size w (w.alloc (.cells #[.string (str op), .string (str t), .string (str f), .int .i64 n, .slice a p c, .slice d q g] 28)) := (Below.refl _ _).alloc (Nat.le_refl _) _
  obtain ⟨w1, hw1⟩ : ∃ w1, w.alloc (.cells #[.string (str op), .string (str t), .string (str f), .int .i64 n, .slice a p c, .slice d q g] 28) = w1 := ⟨_, rfl⟩
  have HKy : Hid (KyAt w1 w.heap.size ⟨op, t, f, n, (a, p, c), (d, q, g)⟩) := by rw [← hw1]; exact KyAt.new w ⟨op, t, f, n, (a, p, c), (d, q, g)⟩
  rw [hw1] at ha
  have hbl := hS.at_.lt
  have HC := hid (fun (w0 : World) (h0 : Below w.heap.size w w0) => HQ w0 L ⟨L.rd, L.fs, rfl⟩ (hS.later h0))
  simp only [kyV, Ky.c, sv] at HC
  have hF := fldk b
  have f7 := fun w => (hF w).2.2.2.2.2.2.2.1
  have l18 := (hS.at_.later ha).cell 18
  have k0 := HKy.out.cell 0
  have k1 := HKy.out.cell 1
  have k2 := HKy.out.cell 2
  have k3 := HKy.out.cell 3
  have k4 := HKy.out.cell 4
  have k5 := HKy.out.cell 5
  simp only [Lk.c, Ky.c, sv, List.getElem?_cons_succ, List.getElem?_cons_zero] at l18 k0 k1 k2 k3 k4 k5
  rw [hlo] at l18
  have m1 := (World.cell?_of_block (ha.block mb hml)).trans hm
  have x1 := (World.cell?_of_block (ha.block xb hxl)).trans hx
  have HB1 := hid ha
  have HBs : Hid (w.heap.size < w1.heap.size) := HKy.out.lt
  clear hS HQ hF
  have q0 : NineZ b mb xb w.heap.size op t f n a p c d q g true w1 := ⟨m1, x1, l18, k0, k1, k2, k3, k4, k5⟩
  have HNine : Hid (∀ w0 w' : World, NineZ b mb xb w.heap.size op t f n a p c d q g true w0 → Below w.heap.size w w0 → w.heap.size < w0.heap.size → Kept [b] w0 w' → Seen2 w' b L → NineZ b mb xb w.heap.size op t f n a p c d q g true w') := by
    intro w0 w' h0 hb hs hk ⟨rd, fs, hsn, _⟩
    obtain ⟨e1, e2, e3, e4, e5, e6, e7, e8, e9⟩ := h0
    have hz := hb.size
    have c18 := hsn.cell 18
    simp only [Lk.c, List.getElem?_cons_succ, List.getElem?_cons_zero] at c18
    rw [hlo] at c18
    exact ⟨cell_kept e1 (by omega) hk hmb, cell_kept e2 (by omega) hk hxb, c18, cell_kept e4 hs hk (by omega), cell_kept e5 hs hk (by omega), cell_kept e6 hs hk (by omega), cell_kept e7 hs hk (by omega), cell_kept e8 hs hk (by omega), cell_kept e9 hs hk (by omega)⟩
  clear hm hx ha l18 hxl hml
  obtain ⟨y1, y2, y3, y4, y5, y6, y7, y8, y9⟩ := q0
  go_enter Tryz.func80, Tryz.ntmps80
  go_wp2_with fail
  have qc : w1.cell? ⟨mb, 0, none⟩ = some (.pointer (some ⟨b, 0, none⟩)) ∧ w1.cell? ⟨xb, 0, none⟩ = some (.bool true) ∧ w1.cell? ⟨b, 18, none⟩ = some (.bool false) ∧ w1.cell? ⟨w.heap.size, 0, none⟩ = some (.string (str op)) ∧ w1.cell? ⟨w.heap.size, 1, none⟩ = some (.string (str t)) ∧ w1.cell? ⟨w.heap.size, 2, none⟩ = some (.string (str f)) ∧ w1.cell? ⟨w.heap.size, 3, none⟩ = some (.int .i64 n) ∧ w1.cell? ⟨w.heap.size, 4, none⟩ = some (.slice a p c) ∧ w1.cell? ⟨w.heap.size, 5, none⟩ = some (.slice d q g) := ⟨y1, y2, y3, y4, y5, y6, y7, y8, y9⟩
  clear y1 y2 y3 y4 y5 y6 y7 y8 y9 k0 k1 k2 k3 k4 k5 m1 x1
  go_region_held3 (fun w' => w'.cell? ⟨mb, 0, none⟩ = some (.pointer (some ⟨b, 0, none⟩)) ∧ w'.cell? ⟨xb, 0, none⟩ = some (.bool true) ∧ w'.cell? ⟨b, 18, none⟩ = some (.bool false) ∧ w'.cell? ⟨w.heap.size, 0, none⟩ = some (.string (str op)) ∧ w'.cell? ⟨w.heap.size, 1, none⟩ = some (.string (str t)) ∧ w'.cell? ⟨w.heap.size, 2, none⟩ = some (.string (str f)) ∧ w'.cell? ⟨w.heap.size, 3, none⟩ = some (.int .i64 n) ∧ w'.cell? ⟨w.heap.size, 4, none⟩ = some (.slice a p c) ∧ w'.cell? ⟨w.heap.size, 5, none⟩ = some (.slice d q g)) (first | exact qc | go_keep) (first
    | (go_at_call 23; refine (HC.out _ (by repeat (first | exact HB1.out | refine Below.drew ?_))).mono ?_; rintro e wk ⟨hsn, rfl, hkp⟩; have hkk : Kept [b] w1 wk := (by first | exact hkp | exact kept_t (Kept.drew [b] w1) hkp); have qc := HNine.out w1 wk qc HB1.out HBs.out hkk hsn; have HS5 : Seen2 wk b L := hsn; have HK5 : Kept [b] w wk := kept_t (Kept.ofBelow HB1.out [b]) hkk; clear hkk hkp hsn))
  go_wp2_with fail
  go_ret
  exact ⟨HS5, rfl, HK5⟩
set_option maxRecDepth 100000 in
set_option maxHeartbeats 4000000 in
theorem kid_truefalse {W0 w : World} {b mb xb : Nat} {L : Lk} (hS : Stt W0 b L w) (hlo : L.lost = false) (hm : w.cell? ⟨mb, 0, none⟩ = some (.pointer (some ⟨b, 0, none⟩))) (hmb : mb ≠ b) (hml : mb < w.heap.size) (hx : w.cell? ⟨xb, 0, none⟩ = some (.bool true)) (hxb : xb ≠ b) (hxl : xb < w.heap.size)
    (op t f : Bs) (n : Int) (a : Option Addr) (p c : Nat) (d : Option Addr) (q g : Nat) (HQ : Asks W0 b L ⟨op, t, f, n, (a, p, c), (d, q, g)⟩ false) :
    Calls Tryz.prog 80 #[.agg #[.string (str op), .string (str t), .string (str f), .int .i64 n, .slice a p c, .slice d q g], .pointer (some ⟨mb, 0, none⟩), .pointer (some ⟨xb, 0, none⟩)] w fun e w' => Seen2 w' b L ∧ e = .returned (.bool (false == true)) ∧ Kept [b] w w' := by
  have ha : Below w.heap.size w (w.alloc (.cells #[.string (str op), .string (str t), .string (str f), .int .i64 n, .slice a p c, .slice d q g] 28)) := (Below.refl _ _).alloc (Nat.le_refl _) _
  obtain ⟨w1, hw1⟩ : ∃ w1, w.alloc (.cells #[.string (str op), .string (str t), .string (str f), .int .i64 n, .slice a p c, .slice d q g] 28) = w1 := ⟨_, rfl⟩
  have HKy : Hid (KyAt w1 w.heap.size ⟨op, t, f, n, (a, p, c), (d, q, g)⟩) := by rw [← hw1]; exact KyAt.new w ⟨op, t, f, n, (a, p, c), (d, q, g)⟩
  rw [hw1] at ha
  have hbl := hS.at_.lt
  have HC := hid (fun (w0 : World) (h0 : Below w.heap.size w w0) => HQ w0 L ⟨L.rd, L.fs, rfl⟩ (hS.later h0))
  simp only [kyV, Ky.c, sv] at HC
  have hF := fldk b
  have f7 := fun w => (hF w).2.2.2.2.2.2.2.1
  have l18 := (hS.at_.later ha).cell 18
  have k0 := HKy.out.cell 0
  have k1 := HKy.out.cell 1
  have k2 := HKy.out.cell 2
  have k3 := HKy.out.cell 3
  have k4 := HKy.out.cell 4
  have k5 := HKy.out.cell 5
  simp only [Lk.c, Ky.c, sv, List.getElem?_cons_succ, List.getElem?_cons_zero] at l18 k0 k1 k2 k3 k4 k5
  rw [hlo] at l18
  have m1 := (World.cell?_of_block (ha.block mb hml)).trans hm
  have x1 := (World.cell?_of_block (ha.block xb hxl)).trans hx
  have HB1 := hid ha
  have HBs : Hid (w.heap.size < w1.heap.size) := HKy.out.lt
  clear hS HQ hF
  have q0 : NineZ b mb xb w.heap.size op t f n a p c d q g true w1 := ⟨m1, x1, l18, k0, k1, k2, k3, k4, k5⟩
  have HNine : Hid (∀ w0 w' : World, NineZ b mb xb w.heap.size op t f n a p c d q g true w0 → Below w.heap.size w w0 → w.heap.size < w0.heap.size → Kept [b] w0 w' → Seen2 w' b L → NineZ b mb xb w.heap.size op t f n a p c d q g true w') := by
    intro w0 w' h0 hb hs hk ⟨rd, fs, hsn, _⟩
    obtain ⟨e1, e2, e3, e4, e5, e6, e7, e8, e9⟩ := h0
    have hz := hb.size
    have c18 := hsn.cell 18
    simp only [Lk.c, List.getElem?_cons_succ, List.getElem?_cons_zero] at c18
    rw [hlo] at c18
    exact ⟨cell_kept e1 (by omega) hk hmb, cell_kept e2 (by omega) hk hxb, c18, cell_kept e4 hs hk (by omega), cell_kept e5 hs hk (by omega), cell_kept e6 hs hk (by omega), cell_kept e7 hs hk (by omega), cell_kept e8 hs hk (by omega), cell_kept e9 hs hk (by omega)⟩
  clear hm hx ha l18 hxl hml
  obtain ⟨y1, y2, y3, y4, y5, y6, y7, y8, y9⟩ := q0
  go_enter Tryz.func80, Tryz.ntmps80
  go_wp2_with fail
  have qc : w1.cell? ⟨mb, 0, none⟩ = some (.pointer (some ⟨b, 0, none⟩)) ∧ w1.cell? ⟨xb, 0, none⟩ = some (.bool true) ∧ w1.cell? ⟨b, 18, none⟩ = some (.bool false) ∧ w1.cell? ⟨w.heap.size, 0, none⟩ = some (.string (str op)) ∧ w1.cell? ⟨w.heap.size, 1, none⟩ = some (.string (str t)) ∧ w1.cell? ⟨w.heap.size, 2, none⟩ = some (.string (str f)) ∧ w1.cell? ⟨w.heap.size, 3, none⟩ = some (.int .i64 n) ∧ w1.cell? ⟨w.heap.size, 4, none⟩ = some (.slice a p c) ∧ w1.cell? ⟨w.heap.size, 5, none⟩ = some (.slice d q g) := ⟨y1, y2, y3, y4, y5, y6, y7, y8, y9⟩
  clear y1 y2 y3 y4 y5 y6 y7 y8 y9 k0 k1 k2 k3 k4 k5 m1 x1
  go_region_held3 (fun w' => w'.cell? ⟨mb, 0, none⟩ = some (.pointer (some ⟨b, 0, none⟩)) ∧ w'.cell? ⟨xb, 0, none⟩ = some (.bool true) ∧ w'.cell? ⟨b, 18, none⟩ = some (.bool false) ∧ w'.cell? ⟨w.heap.size, 0, none⟩ = some (.string (str op)) ∧ w'.cell? ⟨w.heap.size, 1, none⟩ = some (.string (str t)) ∧ w'.cell? ⟨w.heap.size, 2, none⟩ = some (.string (str f)) ∧ w'.cell? ⟨w.heap.size, 3, none⟩ = some (.int .i64 n) ∧ w'.cell? ⟨w.heap.size, 4, none⟩ = some (.slice a p c) ∧ w'.cell? ⟨w.heap.size, 5, none⟩ = some (.slice d q g)) (first | exact qc | go_keep) (first
    | (go_at_call 23; refine (HC.out _ (by repeat (first | exact HB1.out | refine Below.drew ?_))).mono ?_; rintro e wk ⟨hsn, rfl, hkp⟩; have hkk : Kept [b] w1 wk := (by first | exact hkp | exact kept_t (Kept.drew [b] w1) hkp); have qc := HNine.out w1 wk qc HB1.out HBs.out hkk hsn; have HS5 : Seen2 wk b L := hsn; have HK5 : Kept [b] w wk := kept_t (Kept.ofBelow HB1.out [b]) hkk; clear hkk hkp hsn))
  go_wp2_with fail
  go_ret
  exact ⟨HS5, rfl, HK5⟩
set_option maxRecDepth 100000 in
set_option maxHeartbeats 4000000 in
theorem kid_falsetrue {W0 w : World} {b mb xb : Nat} {L : Lk} (hS : Stt W0 b L w) (hlo : L.lost = false) (hm : w.cell? ⟨mb, 0, none⟩ = some (.pointer (some ⟨b, 0, none⟩))) (hmb : mb ≠ b) (hml : mb < w.heap.size) (hx : w.cell? ⟨xb, 0, none⟩ = some (.bool false)) (hxb : xb ≠ b) (hxl : xb < w.heap.size)
    (op t f : Bs) (n : Int) (a : Option Addr) (p c : Nat) (d : Option Addr) (q g : Nat) (HQ : Asks W0 b L ⟨op, t, f, n, (a, p, c), (d, q, g)⟩ true) :
    Calls Tryz.prog 80 #[.agg #[.string (str op), .string (str t), .string (str f), .int .i64 n, .slice a p c, .slice d q g], .pointer (some ⟨mb, 0, none⟩), .pointer (some ⟨xb, 0, none⟩)] w fun e w' => Seen2 w' b L ∧ e = .returned (.bool (true == false)) ∧ Kept [b] w w' := by
  have ha : Below w.heap.size w (w.alloc (.cells #[.string (str op), .string (str t), .string (str f), .int .i64 n, .slice a p c, .slice d q g] 28)) := (Below.refl _ _).alloc (Nat.le_refl _) _
  obtain ⟨w1, hw1⟩ : ∃ w1, w.alloc (.cells #[.string (str op), .string (str t), .string (str f), .int .i64 n, .slice a p c, .slice d q g] 28) = w1 := ⟨_, rfl⟩
  have HKy : Hid (KyAt w1 w.heap.size ⟨op, t, f, n, (a, p, c), (d, q, g)⟩) := by rw [← hw1]; exact KyAt.new w ⟨op, t, f, n, (a, p, c), (d, q, g)⟩
  rw [hw1] at ha
  have hbl := hS.at_.lt
  have HC := hid (fun (w0 : World) (h0 : Below w.heap.size w w0) => HQ w0 L ⟨L.rd, L.fs, rfl⟩ (hS.later h0))
  simp only [kyV, Ky.c, sv] at HC
  have hF := fldk b
  have f7 := fun w => (hF w).2.2.2.2.2.2.2.1
  have l18 := (hS.at_.later ha).cell 18
  have k0 := HKy.out.cell 0
  have k1 := HKy.out.cell 1
  have k2 := HKy.out.cell 2
  have k3 := HKy.out.cell 3
  have k4 := HKy.out.cell 4
  have k5 := HKy.out.cell 5
  simp only [Lk.c, Ky.c, sv, List.getElem?_cons_succ, List.getElem?_cons_zero] at l18 k0 k1 k2 k3 k4 k5
  rw [hlo] at l18
  have m1 := (World.cell?_of_block (ha.block mb hml)).trans hm
  have x1 := (World.cell?_of_block (ha.block xb hxl)).trans hx
  have HB1 := hid ha
  have HBs : Hid (w.heap.size < w1.heap.size) := HKy.out.lt
  clear hS HQ hF
  have q0 : NineZ b mb xb w.heap.size op t f n a p c d q g false w1 := ⟨m1, x1, l18, k0, k1, k2, k3, k4, k5⟩
  have HNine : Hid (∀ w0 w' : World, NineZ b mb xb w.heap.size op t f n a p c d q g false w0 → Below w.heap.size w w0 → w.heap.size < w0.heap.size → Kept [b] w0 w' → Seen2 w' b L → NineZ b mb xb w.heap.size op t f n a p c d q g false w') := by
    intro w0 w' h0 hb hs hk ⟨rd, fs, hsn, _⟩
    obtain ⟨e1, e2, e3, e4, e5, e6, e7, e8, e9⟩ := h0
    have hz := hb.size
    have c18 := hsn.cell 18
    simp only [Lk.c, List.getElem?_cons_succ, List.getElem?_cons_zero] at c18
    rw [hlo] at c18
    exact ⟨cell_kept e1 (by omega) hk hmb, cell_kept e2 (by omega) hk hxb, c18, cell_kept e4 hs hk (by omega), cell_kept e5 hs hk (by omega), cell_kept e6 hs hk (by omega), cell_kept e7 hs hk (by omega), cell_kept e8 hs hk (by omega), cell_kept e9 hs hk (by omega)⟩
  clear hm hx ha l18 hxl hml
  obtain ⟨y1, y2, y3, y4, y5, y6, y7, y8, y9⟩ := q0
  go_enter Tryz.func80, Tryz.ntmps80
  go_wp2_with fail
  have qc : w1.cell? ⟨mb, 0, none⟩ = some (.pointer (some ⟨b, 0, none⟩)) ∧ w1.cell? ⟨xb, 0, none⟩ = some (.bool false) ∧ w1.cell? ⟨b, 18, none⟩ = some (.bool false) ∧ w1.cell? ⟨w.heap.size, 0, none⟩ = some (.string (str op)) ∧ w1.cell? ⟨w.heap.size, 1, none⟩ = some (.string (str t)) ∧ w1.cell? ⟨w.heap.size, 2, none⟩ = some (.string (str f)) ∧ w1.cell? ⟨w.heap.size, 3, none⟩ = some (.int .i64 n) ∧ w1.cell? ⟨w.heap.size, 4, none⟩ = some (.slice a p c) ∧ w1.cell? ⟨w.heap.size, 5, none⟩ = some (.slice d q g) := ⟨y1, y2, y3, y4, y5, y6, y7, y8, y9⟩
  clear y1 y2 y3 y4 y5 y6 y7 y8 y9 k0 k1 k2 k3 k4 k5 m1 x1
  go_region_held3 (fun w' => w'.cell? ⟨mb, 0, none⟩ = some (.pointer (some ⟨b, 0, none⟩)) ∧ w'.cell? ⟨xb, 0, none⟩ = some (.bool false) ∧ w'.cell? ⟨b, 18, none⟩ = some (.bool false) ∧ w'.cell? ⟨w.heap.size, 0, none⟩ = some (.string (str op)) ∧ w'.cell? ⟨w.heap.size, 1, none⟩ = some (.string (str t)) ∧ w'.cell? ⟨w.heap.size, 2, none⟩ = some (.string (str f)) ∧ w'.cell? ⟨w.heap.size, 3, none⟩ = some (.int .i64 n) ∧ w'.cell? ⟨w.heap.size, 4, none⟩ = some (.slice a p c) ∧ w'.cell? ⟨w.heap.size, 5, none⟩ = some (.slice d q g)) (first | exact qc | go_keep) (first
    | (go_at_call 23; refine (HC.out _ (by repeat (first | exact HB1.out | refine Below.drew ?_))).mono ?_; rintro e wk ⟨hsn, rfl, hkp⟩; have hkk : Kept [b] w1 wk := (by first | exact hkp | exact kept_t (Kept.drew [b] w1) hkp); have qc := HNine.out w1 wk qc HB1.out HBs.out hkk hsn; have HS5 : Seen2 wk b L := hsn; have HK5 : Kept [b] w wk := kept_t (Kept.ofBelow HB1.out [b]) hkk; clear hkk hkp hsn))
  go_wp2_with fail
  go_ret
  exact ⟨HS5, rfl, HK5⟩
set_option maxRecDepth 100000 in
set_option maxHeartbeats 4000000 in
theorem kid_falsefalse {W0 w : World} {b mb xb : Nat} {L : Lk} (hS : Stt W0 b L w) (hlo : L.lost = false) (hm : w.cell? ⟨mb, 0, none⟩ = some (.pointer (some ⟨b, 0, none⟩))) (hmb : mb ≠ b) (hml : mb < w.heap.size) (hx : w.cell? ⟨xb, 0, none⟩ = some (.bool false)) (hxb : xb ≠ b) (hxl : xb < w.heap.size)
    (op t f : Bs) (n : Int) (a : Option Addr) (p c : Nat) (d : Option Addr) (q g : Nat) (HQ : Asks W0 b L ⟨op, t, f, n, (a, p, c), (d, q, g)⟩ false) :
    Calls Tryz.prog 80 #[.agg #[.string (str op), .string (str t), .string (str f), .int .i64 n, .slice a p c, .slice d q g], .pointer (some ⟨mb, 0, none⟩), .pointer (some ⟨xb, 0, none⟩)] w fun e w' => Seen2 w' b L ∧ e = .returned (.bool (false == false)) ∧ Kept [b] w w' := by
  have ha : Below w.heap.size w (w.alloc (.cells #[.string (str op), .string (str t), .string (str f), .int .i64 n, .slice a p c, .slice d q g] 28)) := (Below.refl _ _).alloc (Nat.le_refl _) _
  obtain ⟨w1, hw1⟩ : ∃ w1, w.alloc (.cells #[.string (str op), .string (str t), .string (str f), .int .i64 n, .slice a p c, .slice d q g] 28) = w1 := ⟨_, rfl⟩
  have HKy : Hid (KyAt w1 w.heap.size ⟨op, t, f, n, (a, p, c), (d, q, g)⟩) := by rw [← hw1]; exact KyAt.new w ⟨op, t, f, n, (a, p, c), (d, q, g)⟩
  rw [hw1] at ha
  have hbl := hS.at_.lt
  have HC := hid (fun (w0 : World) (h0 : Below w.heap.size w w0) => HQ w0 L ⟨L.rd, L.fs, rfl⟩ (hS.later h0))
  simp only [kyV, Ky.c, sv] at HC
  have hF := fldk b
  have f7 := fun w => (hF w).2.2.2.2.2.2.2.1
  have l18 := (hS.at_.later ha).cell 18
  have k0 := HKy.out.cell 0
  have k1 := HKy.out.cell 1
  have k2 := HKy.out.cell 2
  have k3 := HKy.out.cell 3
  have k4 := HKy.out.cell 4
  have k5 := HKy.out.cell 5
  simp only [Lk.c, Ky.c, sv, List.getElem?_cons_succ, List.getElem?_cons_zero] at l18 k0 k1 k2 k3 k4 k5
  rw [hlo] at l18
  have m1 := (World.cell?_of_block (ha.block mb hml)).trans hm
  have x1 := (World.cell?_of_block (ha.block xb hxl)).trans hx
  have HB1 := hid ha
  have HBs : Hid (w.heap.size < w1.heap.size) := HKy.out.lt
  clear hS HQ hF
  have q0 : NineZ b mb xb w.heap.size op t f n a p c d q g false w1 := ⟨m1, x1, l18, k0, k1, k2, k3, k4, k5⟩
  have HNine : Hid (∀ w0 w' : World, NineZ b mb xb w.heap.size op t f n a p c d q g false w0 → Below w.heap.size w w0 → w.heap.size < w0.heap.size → Kept [b] w0 w' → Seen2 w' b L → NineZ b mb xb w.heap.size op t f n a p c d q g false w') := by
    intro w0 w' h0 hb hs hk ⟨rd, fs, hsn, _⟩
    obtain ⟨e1, e2, e3, e4, e5, e6, e7, e8, e9⟩ := h0
    have hz := hb.size
    have c18 := hsn.cell 18
    simp only [Lk.c, List.getElem?_cons_succ, List.getElem?_cons_zero] at c18
    rw [hlo] at c18
    exact ⟨cell_kept e1 (by omega) hk hmb, cell_kept e2 (by omega) hk hxb, c18, cell_kept e4 hs hk (by omega), cell_kept e5 hs hk (by omega), cell_kept e6 hs hk (by omega), cell_kept e7 hs hk (by omega), cell_kept e8 hs hk (by omega), cell_kept e9 hs hk (by omega)⟩
  clear hm hx ha l18 hxl hml
  obtain ⟨y1, y2, y3, y4, y5, y6, y7, y8, y9⟩ := q0
  go_enter Tryz.func80, Tryz.ntmps80
  go_wp2_with fail
  have qc : w1.cell? ⟨mb, 0, none⟩ = some (.pointer (some ⟨b, 0, none⟩)) ∧ w1.cell? ⟨xb, 0, none⟩ = some (.bool false) ∧ w1.cell? ⟨b, 18, none⟩ = some (.bool false) ∧ w1.cell? ⟨w.heap.size, 0, none⟩ = some (.string (str op)) ∧ w1.cell? ⟨w.heap.size, 1, none⟩ = some (.string (str t)) ∧ w1.cell? ⟨w.heap.size, 2, none⟩ = some (.string (str f)) ∧ w1.cell? ⟨w.heap.size, 3, none⟩ = some (.int .i64 n) ∧ w1.cell? ⟨w.heap.size, 4, none⟩ = some (.slice a p c) ∧ w1.cell? ⟨w.heap.size, 5, none⟩ = some (.slice d q g) := ⟨y1, y2, y3, y4, y5, y6, y7, y8, y9⟩
  clear y1 y2 y3 y4 y5 y6 y7 y8 y9 k0 k1 k2 k3 k4 k5 m1 x1
  go_region_held3 (fun w' => w'.cell? ⟨mb, 0, none⟩ = some (.pointer (some ⟨b, 0, none⟩)) ∧ w'.cell? ⟨xb, 0, none⟩ = some (.bool false) ∧ w'.cell? ⟨b, 18, none⟩ = some (.bool false) ∧ w'.cell? ⟨w.heap.size, 0, none⟩ = some (.string (str op)) ∧ w'.cell? ⟨w.heap.size, 1, none⟩ = some (.string (str t)) ∧ w'.cell? ⟨w.heap.size, 2, none⟩ = some (.string (str f)) ∧ w'.cell? ⟨w.heap.size, 3, none⟩ = some (.int .i64 n) ∧ w'.cell? ⟨w.heap.size, 4, none⟩ = some (.slice a p c) ∧ w'.cell? ⟨w.heap.size, 5, none⟩ = some (.slice d q g)) (first | exact qc | go_keep) (first
    | (go_at_call 23; refine (HC.out _ (by repeat (first | exact HB1.out | refine Below.drew ?_))).mono ?_; rintro e wk ⟨hsn, rfl, hkp⟩; have hkk : Kept [b] w1 wk := (by first | exact hkp | exact kept_t (Kept.drew [b] w1) hkp); have qc := HNine.out w1 wk qc HB1.out HBs.out hkk hsn; have HS5 : Seen2 wk b L := hsn; have HK5 : Kept [b] w wk := kept_t (Kept.ofBelow HB1.out [b]) hkk; clear hkk hkp hsn))
  go_wp2_with fail
  go_ret
  exact ⟨HS5, rfl, HK5⟩
theorem kidg_any {W0 w : World} {b mb xb : Nat} {L : Lk} (hS : Stt W0 b L w) (hlo : L.lost = false) {z : Bool} (hm : w.cell? ⟨mb, 0, none⟩ = some (.pointer (some ⟨b, 0, none⟩))) (hmb : mb ≠ b) (hml : mb < w.heap.size) (hx : w.cell? ⟨xb, 0, none⟩ = some (.bool z)) (hxb : xb ≠ b) (hxl : xb < w.heap.size)
    (op t f : Bs) (n : Int) (a : Option Addr) (p c : Nat) (d : Option Addr) (q g : Nat) {x : Bool} (HQ : Asks W0 b L ⟨op, t, f, n, (a, p, c), (d, q, g)⟩ x) :
    Calls Tryz.prog 80 #[.agg #[.string (str op), .string (str t), .string (str f), .int .i64 n, .slice a p c, .slice d q g], .pointer (some ⟨mb, 0, none⟩), .pointer (some ⟨xb, 0, none⟩)] w fun e w' => Seen2 w' b L ∧ e = .returned (.bool (x == z)) ∧ Kept [b] w w' := by
  cases z <;> cases x
  · exact kid_falsefalse hS hlo hm hmb hml hx hxb hxl op t f n a p c d q g HQ
  · exact kid_falsetrue hS hlo hm hmb hml hx hxb hxl op t f n a p c d q g HQ
  · exact kid_truefalse hS hlo hm hmb hml hx hxb hxl op t f n a p c d q g HQ
  · exact kid_truetrue hS hlo hm hmb hml hx hxb hxl op t f n a p c d q g HQ
end Go.Proofs.YtaniljfjmbifnaaGreatDoor.H
namespace Go.Proofs.YtaniljfjmbifnaaGreatDoor.H
open Go.RowKit
set_option linter.unusedVariables false
set_option linter.unusedSimpArgs false

theorem ga_six {w : World} {g o : Nat} {l : List Ky} (h : S.GA eK w g o l) (j : Nat) (r : Ky) (hr : l[j]? = some r) :
    w.cell? ⟨g, o + j * 6, none⟩ = some (.string (str r.op)) ∧ w.cell? ⟨g, o + j * 6 + 1, none⟩ = some (.string (str r.text)) ∧ w.cell? ⟨g, o + j * 6 + 2, none⟩ = some (.string (str r.field)) ∧ w.cell? ⟨g, o + j * 6 + 3, none⟩ = some (.int .i64 r.n) ∧ w.cell? ⟨g, o + j * 6 + 4, none⟩ = some (.slice r.set.1 r.set.2.1 r.set.2.2) ∧ w.cell? ⟨g, o + j * 6 + 5, none⟩ = some (.slice r.kids.1 r.kids.2.1 r.kids.2.2) :=
  ⟨h j 0 r _ hr rfl, h j 1 r _ hr rfl, h j 2 r _ hr rfl, h j 3 r _ hr rfl, h j 4 r _ hr rfl, h j 5 r _ hr rfl⟩
set_option maxRecDepth 100000 in
set_option maxHeartbeats 4000000 in
theorem kidsx_any {W0 w : World} {b mb xb : Nat} {L : Lk} (hS : Stt W0 b L w) (hlo : L.lost = false) {z : Bool} (hm : w.cell? ⟨mb, 0, none⟩ = some (.pointer (some ⟨b, 0, none⟩))) (hmb : mb ≠ b) (hml : mb < w.heap.size) (hx : w.cell? ⟨xb, 0, none⟩ = some (.bool z)) (hxb : xb ≠ b) (hxl : xb < w.heap.size)
    (Q : Bs → Bs → Bs → Int → List S.Sp → Bool) {u : Value} {rows : List (Ky × Kv)} (hG : S.GL eK W0 u (rows.map (·.1))) (hl : rows.length ≤ 1000) (HQ : ∀ r ∈ rows, Asks W0 b L r.1 (matchB Q r.2)) :
    Calls Tryz.prog 117 #[u, .func (.func 80) #[] #[.pointer (some ⟨mb, 0, none⟩), .pointer (some ⟨xb, 0, none⟩)]] w fun e w' => (∃ i : Int, e = .returned (.int .i64 i) ∧ decide (0 ≤ i) = someB Q z (rows.map (·.2))) ∧ Seen2 w' b L ∧ Kept [b] w w' := by
  obtain ⟨ad, cp, rfl, hc, hr⟩ := hG
  rw [List.length_map] at *
  have HM := hid hm
  have HX := hid hx
  have HMl := hid hml
  have HXl := hid hxl
  have HLo := hid hlo
  have HSt := hid hS
  have HQ := hid HQ
  have HMb := hid hmb
  have HXb := hid hxb
  rcases hr with hr | ⟨og, oo, rfl, hr, hg⟩
  · have : rows = [] := by simpa using hr
    subst this
    clear hS hm hx hlo hmb hml hxb hxl
    go_enter Tryz.func117, Tryz.ntmps117
    go_wp2_with fail
    go_loopw [8] (fun i wr => i = .int .i64 0 ∧ wr = w) (fun _ _ => 0)
    case atStart => exact ⟨rfl, rfl⟩
    case round =>
      obtain ⟨rfl, rfl⟩ := hrel
      go_wp2_with fail
      go_ret
      exact ⟨⟨-1, rfl, by rw [List.map_nil, someB_nil]; rfl⟩, Seen2.of HSt.out.at_ HSt.out.fs, Kept.refl _ _⟩
  · have HR := hid hr
    clear hr hS hm hx hlo hmb hml hxb hxl
    go_enter Tryz.func117, Tryz.ntmps117
    go_wp2_with fail
    go_loopw [8] (fun i wr => ∃ k : Nat, k ≤ rows.length ∧ i = .int .i64 k ∧ someB Q z ((rows.take k).map (·.2)) = false ∧ Seen2 wr b L ∧ Kept [b] w wr) (fun i _ => rows.length - (intOf i).toNat)
    case atStart => exact ⟨0, by omega, rfl, by rw [List.take_zero, List.map_nil, someB_nil], Seen2.of HSt.out.at_ HSt.out.fs, Kept.refl _ _⟩
    case round =>
      obtain ⟨k, hk, rfl, hno, hsn, hkp⟩ := hrel
      have HNo := hid hno
      have HSn := hid hsn
      have HKp := hid hkp
      clear hno hsn hkp
      by_cases hlt : k < rows.length
      · have hlt' : (k : Int) < rows.length := by omega
        obtain ⟨rd, fs, hst⟩ := HSt.out.kept HKp.out HSn.out
        have hrec : (rows.map (·.1))[k]? = some rows[k].1 := by rw [List.getElem?_map, List.getElem?_eq_getElem hlt]; rfl
        obtain ⟨c0, c1, c2, c3, c4, c5⟩ := ga_six (HR.out.later hst.bel) k _ hrec
        have HN2 : Hid (someB Q z ((rows.take (k + 1)).map (·.2)) = (matchB Q rows[k].2 == z)) := by
          have h1 := HNo.out
          unfold Hid
          rw [someB_any] at h1 ⊢
          rw [List.take_succ_eq_append_getElem hlt, List.map_append, List.any_append, h1]
          simp
        have HA : Hid ((matchB Q rows[k].2 == z) = true → someB Q z (rows.map (·.2)) = true) := by
          intro h
          rw [someB_any]
          exact List.any_eq_true.2 ⟨rows[k].2, List.mem_map.2 ⟨rows[k], List.getElem_mem hlt, rfl⟩, h⟩
        have HAk := (HQ.out rows[k] (List.getElem_mem hlt)).other rd fs
        have C := kidg_any (L := { L with rd := rd, fs := fs }) hst HLo.out (cell_kept HM.out HMl.out HKp.out HMb.out) HMb.out (Nat.lt_of_lt_of_le HMl.out HKp.out.size) (cell_kept HX.out HXl.out HKp.out HXb.out) HXb.out (Nat.lt_of_lt_of_le HXl.out HKp.out.size) rows[k].1.op rows[k].1.text rows[k].1.field rows[k].1.n rows[k].1.set.1 rows[k].1.set.2.1 rows[k].1.set.2.2 rows[k].1.kids.1 rows[k].1.kids.2.1 rows[k].1.kids.2.2 HAk
        clear hrec HAk hst
        generalize rows[k] = r at *
        generalize (matchB Q r.2 == z) = y at *
        cases y
        · go_wp2_with fail
          refine C.mono ?_
          rintro e w3 ⟨hs3, rfl, k3⟩
          have HK3 := hid (kept_t HKp.out k3)
          have HS3 := hid hs3
          clear hs3 k3 C c0 c1 c2 c3 c4 c5
          go_wp2_with fail
          go_roundw
          case rel => exact ⟨k + 1, by omega, by go_num, HN2.out, HS3.out, HK3.out⟩
          case measure => simp [intOf]; omega
        · go_wp2_with fail
          refine C.mono ?_
          rintro e w3 ⟨hs3, rfl, k3⟩
          have HK3 := hid (kept_t HKp.out k3)
          have HS3 := hid hs3
          clear hs3 k3 C c0 c1 c2 c3 c4 c5
          go_wp2_with fail
          go_ret
          refine ⟨⟨k, rfl, ?_⟩, HS3.out, HK3.out⟩
          rw [HA.out (by simp)]
          simp
      · have hlt' : ¬ (k : Int) < rows.length := by omega
        have HN : Hid (someB Q z (rows.map (·.2)) = false) := by
          have := HNo.out
          rw [List.take_of_length_le (by omega)] at this
          exact this
        go_wp2_with fail
        go_ret
        refine ⟨⟨-1, rfl, ?_⟩, HSn.out, HKp.out⟩
        rw [HN.out]
        rfl
set_option maxRecDepth 100000 in
set_option maxHeartbeats 1000000 in
theorem kids_any {W0 w : World} {b mb xb : Nat} {L : Lk} (hS : Stt W0 b L w) (hlo : L.lost = false) {z : Bool} (hm : w.cell? ⟨mb, 0, none⟩ = some (.pointer (some ⟨b, 0, none⟩))) (hmb : mb ≠ b) (hml : mb < w.heap.size) (hx : w.cell? ⟨xb, 0, none⟩ = some (.bool z)) (hxb : xb ≠ b) (hxl : xb < w.heap.size)
    (Q : Bs → Bs → Bs → Int → List S.Sp → Bool) {u : Value} {rows : List (Ky × Kv)} (hG : S.GL eK W0 u (rows.map (·.1))) (hl : rows.length ≤ 1000) (HQ : ∀ r ∈ rows, Asks W0 b L r.1 (matchB Q r.2)) :
    Calls Tryz.prog 79 #[u, .func (.func 80) #[] #[.pointer (some ⟨mb, 0, none⟩), .pointer (some ⟨xb, 0, none⟩)]] w fun e w' => Seen2 w' b L ∧ e = .returned (.bool (someB Q z (rows.map (·.2)))) ∧ Kept [b] w w' := by
  have C := kidsx_any hS hlo hm hmb hml hx hxb hxl Q hG hl HQ
  obtain ⟨ad, cp, rfl, hc, _⟩ := hG
  clear hS hm hx HQ hlo hmb hml hxb hxl
  rw [List.length_map] at C ⊢
  go_enter Tryz.func79, Tryz.ntmps79
  go_wp2_with fail
  refine C.mono ?_
  rintro e w2 ⟨⟨i, rfl, hi⟩, hs, hk⟩
  have HS := hid hs
  have HK := hid hk
  clear hs hk
  go_wp2_with fail
  go_ret
  exact ⟨HS.out, by rw [← hi]; rfl, HK.out⟩
end Go.Proofs.YtaniljfjmbifnaaGreatDoor.H
namespace Go.Proofs.YtaniljfjmbifnaaGreatDoor.H
open Go.RowKit
set_option linter.unusedVariables false
set_option linter.unusedSimpArgs false

set_option maxRecDepth 100000 in
set_option maxHeartbeats 4000000 in
theorem some_false {W0 w : World} {b : Nat} {L : Lk} (hS : Stt W0 b L w) (hlo : L.lost = false) (hd0 : 0 ≤ L.deep) (hd1 : L.deep ≤ 1000)
    (Q : Bs → Bs → Bs → Int → List S.Sp → Bool) {u : Value} {rows : List (Ky × Kv)} (hG : S.GL eK W0 u (rows.map (·.1))) (hl : rows.length ≤ 1000) (HQ : ∀ r ∈ rows, Asks W0 b { L with deep := L.deep + 1 } r.1 (matchB Q r.2)) :
    Calls Tryz.prog 44 #[.pointer (some ⟨b, 0, none⟩), u, .bool false] w fun e w' => Seen2 w' b L ∧ e = .returned (.bool (someB Q false (rows.map (·.2)))) ∧ Kept [b] w w' := by
  have ha : Below w.heap.size w ((w.alloc (.cells #[.pointer (some ⟨b, 0, none⟩)] 59)).alloc (.cells #[.bool false] 4)) := ((Below.refl _ _).alloc (Nat.le_refl _) _).alloc (by simp) _
  obtain ⟨w1, hw1⟩ : ∃ w1, (w.alloc (.cells #[.pointer (some ⟨b, 0, none⟩)] 59)).alloc (.cells #[.bool false] 4) = w1 := ⟨_, rfl⟩
  have hmc : w1.cell? ⟨w.heap.size, 0, none⟩ = some (.pointer (some ⟨b, 0, none⟩)) := by
    rw [← hw1]
    have : ((w.alloc (.cells #[.pointer (some ⟨b, 0, none⟩)] 59)).alloc (.cells #[.bool false] 4)).heap[w.heap.size]? = some (.cells #[.pointer (some ⟨b, 0, none⟩)] 59 (0, 0)) := by
      rw [show ((w.alloc (.cells #[.pointer (some ⟨b, 0, none⟩)] 59)).alloc (.cells #[.bool false] 4)).heap[w.heap.size]? = (w.alloc (.cells #[.pointer (some ⟨b, 0, none⟩)] 59)).heap[w.heap.size]? from ((Below.refl (w.alloc (.cells #[.pointer (some ⟨b, 0, none⟩)] 59)).heap.size (w.alloc (.cells #[.pointer (some ⟨b, 0, none⟩)] 59))).alloc (Nat.le_refl _) _).block _ (by simp)]
      exact heap_alloc_new _ _
    simp [World.cell?, this]
  have hxc : w1.cell? ⟨w.heap.size + 1, 0, none⟩ = some (.bool false) := by
    rw [← hw1]
    have := heap_alloc_new (w.alloc (.cells #[.pointer (some ⟨b, 0, none⟩)] 59)) (.cells #[.bool false] 4)
    rw [show (w.alloc (.cells #[.pointer (some ⟨b, 0, none⟩)] 59)).heap.size = w.heap.size + 1 by simp] at this
    unfold World.cell?
    simp only [this]
    rfl
  have hsz : w1.heap.size = w.heap.size + 2 := by rw [← hw1]; simp
  rw [hw1] at ha
  have HB := hid ha
  have HLt := hid hS.at_.lt
  have HS0 := hid hS
  have HA := hid (hS.at_.later ha)
  have HFs : Hid (FsOk w1 L) := fun hr => (hS.fs hr).later ha
  have HM := hid hmc
  have HX := hid hxc
  have HSz := hid hsz
  have HG := hid hG
  have HQ := hid HQ
  have HLo := hid hlo
  have l17 := HA.out.cell 17
  have l18 := HA.out.cell 18
  have z17 := HA.out.fz 17
  simp only [Lk.c, List.getElem?_cons_succ, List.getElem?_cons_zero] at l17 l18
  rw [hlo] at l18
  have hdl : ¬ (131072 : Int) < L.deep + 1 := by omega
  have hF := fldk b
  have f6 := fun w => (hF w).2.2.2.2.2.2.1
  have f7 := fun w => (hF w).2.2.2.2.2.2.2.1
  clear hS hF ha hG hlo
  generalize hDD : L.deep = DD at *
  have HDD := hid hDD
  have HDc : Hid (decide ((131072 : Int) < DD + 1) = false) := decide_eq_false hdl
  clear hDD
  go_enter Tryz.func44, Tryz.ntmps44
  go_wp2_with fail
  obtain ⟨w2, hw2⟩ : ∃ w2, w1.setCell ⟨b, 17, none⟩ (.int .i64 (DD + 1)) = w2 := ⟨_, rfl⟩
  have HA2 : Hid (LkAt w2 b { L with deep := DD + 1 }) := by rw [← hw2]; exact HA.out.set17 (DD + 1)
  have HK2 : Hid (Kept [b] w1 w2) := by rw [← hw2]; exact Kept.setCell [b] w1 ⟨b, 17, none⟩ _ (by simp)
  rw [hw2]
  clear hw2 l17 l18 z17
  have m2 := cell_kept HM.out (by have := HSz.out; omega) HK2.out (by have := HLt.out; omega)
  have l17 := HA2.out.cell 17
  have l18 := HA2.out.cell 18
  have z18 := HA2.out.fz 18
  simp only [Lk.c, List.getElem?_cons_succ, List.getElem?_cons_zero] at l17 l18
  rw [HLo.out] at l18
  have qc : w2.cell? ⟨w.heap.size, 0, none⟩ = some (.pointer (some ⟨b, 0, none⟩)) ∧ w2.cell? ⟨b, 17, none⟩ = some (.int .i64 (DD + 1)) ∧ w2.cell? ⟨b, 18, none⟩ = some (.bool false) := ⟨m2, l17, l18⟩
  have HSt : Hid (∀ w' : World, LkAt w' b { L with deep := DD + 1 } → w'.cell? ⟨w.heap.size, 0, none⟩ = some (.pointer (some ⟨b, 0, none⟩)) → (w'.setCell ⟨b, 18, none⟩ (.bool (decide (131072 < DD + 1)))).cell? ⟨w.heap.size, 0, none⟩ = some (.pointer (some ⟨b, 0, none⟩)) ∧ (w'.setCell ⟨b, 18, none⟩ (.bool (decide (131072 < DD + 1)))).cell? ⟨b, 17, none⟩ = some (.int .i64 (DD + 1)) ∧ (w'.setCell ⟨b, 18, none⟩ (.bool (decide (131072 < DD + 1)))).cell? ⟨b, 18, none⟩ = some (.bool false)) := by
    intro w' hl hmm
    rw [HDc.out]
    have hs := hl.set18 false
    have s17 := hs.cell 17
    have s18 := hs.cell 18
    simp only [Lk.c, List.getElem?_cons_succ, List.getElem?_cons_zero] at s17 s18
    refine ⟨?_, s17, s18⟩
    exact (World.cell?_of_block ((Kept.setCell [b] w' ⟨b, 18, none⟩ (.bool false) (by simp)).block w.heap.size (by
      by_cases hlt : w.heap.size < w'.heap.size
      · exact hlt
      · simp [World.cell?, show w'.heap[w.heap.size]? = none from Array.getElem?_eq_none (by omega)] at hmm) (by have := HLt.out; simp; omega))).trans hmm
  clear m2 l17 l18
  go_region_held3 (fun w' => w'.cell? ⟨w.heap.size, 0, none⟩ = some (.pointer (some ⟨b, 0, none⟩)) ∧ w'.cell? ⟨b, 17, none⟩ = some (.int .i64 (DD + 1)) ∧ w'.cell? ⟨b, 18, none⟩ = some (.bool false)) (first | exact qc | exact HSt.out _ HA2.out qc.1 | go_keep) (fail)
  obtain ⟨w3, hw3⟩ : ∃ w3, (w2.setCell ⟨b, 18, none⟩ (.bool (decide (131072 < DD + 1)))).drew = w3 := ⟨_, rfl⟩
  have HA3 : Hid (LkAt w3 b { L with deep := DD + 1, lost := false }) := by rw [← hw3, HDc.out]; exact HA2.out.set18 false
  have HK3 : Hid (Kept [b] w1 w3) := by rw [← hw3]; exact kept_t (kept_t HK2.out (Kept.setCell [b] w2 ⟨b, 18, none⟩ _ (by simp))) (Kept.drew [b] _)
  rw [hw3]
  clear hw3 qc z18 HSt
  have hsz2 := HSz.out
  have hbl := HLt.out
  have hz3 := HK3.out.size
  have eL : ({ L with deep := DD + 1, lost := false } : Lk) = { L with deep := DD + 1 } := by have := HLo.out; cases L; simp_all
  have hA3 := HA3.out
  rw [eL] at hA3
  have hS3 : Stt W0 b { L with deep := DD + 1 } w3 := ⟨below_of_kept (HS0.out.bel.trans (HB.out.mono HS0.out.bel.size)) HK3.out HS0.out.hb, HS0.out.hb, hA3, fun hr => rl_kept (HFs.out hr) HA.out HK3.out⟩
  have C := kids_any (L := { L with deep := DD + 1 }) hS3 HLo.out (mb := w.heap.size) (xb := w.heap.size + 1) (z := false) (cell_kept HM.out (by omega) HK3.out (by omega)) (by omega) (by omega) (cell_kept HX.out (by omega) HK3.out (by omega)) (by omega) (by omega) Q HG.out hl HQ.out
  have m3 := cell_kept HM.out (by omega) HK3.out (by omega)
  clear hsz2 hbl hz3 hmc hxc hsz hS3 hA3
  generalize hZ : someB Q false (rows.map (·.2)) = Z at *
  have HZ := hid hZ
  clear hZ
  go_wp2_with fail
  refine C.mono ?_
  rintro e w4 ⟨⟨rd, fs, hl4, hf4⟩, rfl, hk4⟩
  have m4 := cell_kept m3 (by have := HSz.out; have := HK3.out.size; omega) hk4 (by have := HLt.out; omega)
  have HA4 := hid hl4
  have HF4 := hid hf4
  have HK4 := hid (kept_t HK3.out hk4)
  have l17 := hl4.cell 17
  have z17 := hl4.fz 17
  simp only [Lk.c, List.getElem?_cons_succ, List.getElem?_cons_zero] at l17
  clear hl4 hf4 hk4 C m3
  go_wp2_with fail
  go_ret
  have hq := HA4.out.set17 DD
  have e1 : ({ L with deep := DD, rd := rd, fs := fs } : Lk) = { L with rd := rd, fs := fs } := by have := HDD.out; cases L; simp_all
  refine ⟨⟨rd, fs, ?_, ?_⟩, by first | rfl | (rw [HZ.out]; rfl), ?_⟩
  · rw [← e1]; exact hq
  · intro hr
    exact rl_kept (HF4.out hr) HA4.out (Kept.setCell [b] w4 ⟨b, 17, none⟩ (.int .i64 DD) (by simp))
  · exact kept_t (kept_t (Kept.ofBelow HB.out [b]) HK4.out) (Kept.setCell [b] w4 ⟨b, 17, none⟩ (.int .i64 DD) (by simp))
set_option maxRecDepth 100000 in
set_option maxHeartbeats 4000000 in
theorem some_true {W0 w : World} {b : Nat} {L : Lk} (hS : Stt W0 b L w) (hlo : L.lost = false) (hd0 : 0 ≤ L.deep) (hd1 : L.deep ≤ 1000)
    (Q : Bs → Bs → Bs → Int → List S.Sp → Bool) {u : Value} {rows : List (Ky × Kv)} (hG : S.GL eK W0 u (rows.map (·.1))) (hl : rows.length ≤ 1000) (HQ : ∀ r ∈ rows, Asks W0 b { L with deep := L.deep + 1 } r.1 (matchB Q r.2)) :
    Calls Tryz.prog 44 #[.pointer (some ⟨b, 0, none⟩), u, .bool true] w fun e w' => Seen2 w' b L ∧ e = .returned (.bool (someB Q true (rows.map (·.2)))) ∧ Kept [b] w w' := by
  have ha : Below w.heap.size w ((w.alloc (.cells #[.pointer (some ⟨b, 0, none⟩)] 59)).alloc (.cells #[.bool true] 4)) := ((Below.refl _ _).alloc (Nat.le_refl _) _).alloc (by simp) _
  obtain ⟨w1, hw1⟩ : ∃ w1, (w.alloc (.cells #[.pointer (some ⟨b, 0, none⟩)] 59)).alloc (.cells #[.bool true] 4) = w1 := ⟨_, rfl⟩
  have hmc : w1.cell? ⟨w.heap.size, 0, none⟩ = some (.pointer (some ⟨b, 0, none⟩)) := by
    rw [← hw1]
    have : ((w.alloc (.cells #[.pointer (some ⟨b, 0, none⟩)] 59)).alloc (.cells #[.bool true] 4)).heap[w.heap.size]? = some (.cells #[.pointer (some ⟨b, 0, none⟩)] 59 (0, 0)) := by
      rw [show ((w.alloc (.cells #[.pointer (some ⟨b, 0, none⟩)] 59)).alloc (.cells #[.bool true] 4)).heap[w.heap.size]? = (w.alloc (.cells #[.pointer (some ⟨b, 0, none⟩)] 59)).heap[w.heap.size]? from ((Below.refl (w.alloc (.cells #[.pointer (some ⟨b, 0, none⟩)] 59)).heap.size (w.alloc (.cells #[.pointer (some ⟨b, 0, none⟩)] 59))).alloc (Nat.le_refl _) _).block _ (by simp)]
      exact heap_alloc_new _ _
    simp [World.cell?, this]
  have hxc : w1.cell? ⟨w.heap.size + 1, 0, none⟩ = some (.bool true) := by
    rw [← hw1]
    have := heap_alloc_new (w.alloc (.cells #[.pointer (some ⟨b, 0, none⟩)] 59)) (.cells #[.bool true] 4)
    rw [show (w.alloc (.cells #[.pointer (some ⟨b, 0, none⟩)] 59)).heap.size = w.heap.size + 1 by simp] at this
    unfold World.cell?
    simp only [this]
    rfl
  have hsz : w1.heap.size = w.heap.size + 2 := by rw [← hw1]; simp
  rw [hw1] at ha
  have HB := hid ha
  have HLt := hid hS.at_.lt
  have HS0 := hid hS
  have HA := hid (hS.at_.later ha)
  have HFs : Hid (FsOk w1 L) := fun hr => (hS.fs hr).later ha
  have HM := hid hmc
  have HX := hid hxc
  have HSz := hid hsz
  have HG := hid hG
  have HQ := hid HQ
  have HLo := hid hlo
  have l17 := HA.out.cell 17
  have l18 := HA.out.cell 18
  have z17 := HA.out.fz 17
  simp only [Lk.c, List.getElem?_cons_succ, List.getElem?_cons_zero] at l17 l18
  rw [hlo] at l18
  have hdl : ¬ (131072 : Int) < L.deep + 1 := by omega
  have hF := fldk b
  have f6 := fun w => (hF w).2.2.2.2.2.2.1
  have f7 := fun w => (hF w).2.2.2.2.2.2.2.1
  clear hS hF ha hG hlo
  generalize hDD : L.deep = DD at *
  have HDD := hid hDD
  have HDc : Hid (decide ((131072 : Int) < DD + 1) = false) := decide_eq_false hdl
  clear hDD
  go_enter Tryz.func44, Tryz.ntmps44
  go_wp2_with fail
  obtain ⟨w2, hw2⟩ : ∃ w2, w1.setCell ⟨b, 17, none⟩ (.int .i64 (DD + 1)) = w2 := ⟨_, rfl⟩
  have HA2 : Hid (LkAt w2 b { L with deep := DD + 1 }) := by rw [← hw2]; exact HA.out.set17 (DD + 1)
  have HK2 : Hid (Kept [b] w1 w2) := by rw [← hw2]; exact Kept.setCell [b] w1 ⟨b, 17, none⟩ _ (by simp)
  rw [hw2]
  clear hw2 l17 l18 z17
  have m2 := cell_kept HM.out (by have := HSz.out; omega) HK2.out (by have := HLt.out; omega)
  have l17 := HA2.out.cell 17
  have l18 := HA2.out.cell 18
  have z18 := HA2.out.fz 18
  simp only [Lk.c, List.getElem?_cons_succ, List.getElem?_cons_zero] at l17 l18
  rw [HLo.out] at l18
  have qc : w2.cell? ⟨w.heap.size, 0, none⟩ = some (.pointer (some ⟨b, 0, none⟩)) ∧ w2.cell? ⟨b, 17, none⟩ = some (.int .i64 (DD + 1)) ∧ w2.cell? ⟨b, 18, none⟩ = some (.bool false) := ⟨m2, l17, l18⟩
  have HSt : Hid (∀ w' : World, LkAt w' b { L with deep := DD + 1 } → w'.cell? ⟨w.heap.size, 0, none⟩ = some (.pointer (some ⟨b, 0, none⟩)) → (w'.setCell ⟨b, 18, none⟩ (.bool (decide (131072 < DD + 1)))).cell? ⟨w.heap.size, 0, none⟩ = some (.pointer (some ⟨b, 0, none⟩)) ∧ (w'.setCell ⟨b, 18, none⟩ (.bool (decide (131072 < DD + 1)))).cell? ⟨b, 17, none⟩ = some (.int .i64 (DD + 1)) ∧ (w'.setCell ⟨b, 18, none⟩ (.bool (decide (131072 < DD + 1)))).cell? ⟨b, 18, none⟩ = some (.bool false)) := by
    intro w' hl hmm
    rw [HDc.out]
    have hs := hl.set18 false
    have s17 := hs.cell 17
    have s18 := hs.cell 18
    simp only [Lk.c, List.getElem?_cons_succ, List.getElem?_cons_zero] at s17 s18
    refine ⟨?_, s17, s18⟩
    exact (World.cell?_of_block ((Kept.setCell [b] w' ⟨b, 18, none⟩ (.bool false) (by simp)).block w.heap.size (by
      by_cases hlt : w.heap.size < w'.heap.size
      · exact hlt
      · simp [World.cell?, show w'.heap[w.heap.size]? = none from Array.getElem?_eq_none (by omega)] at hmm) (by have := HLt.out; simp; omega))).trans hmm
  clear m2 l17 l18
  go_region_held3 (fun w' => w'.cell? ⟨w.heap.size, 0, none⟩ = some (.pointer (some ⟨b, 0, none⟩)) ∧ w'.cell? ⟨b, 17, none⟩ = some (.int .i64 (DD + 1)) ∧ w'.cell? ⟨b, 18, none⟩ = some (.bool false)) (first | exact qc | exact HSt.out _ HA2.out qc.1 | go_keep) (fail)
  obtain ⟨w3, hw3⟩ : ∃ w3, (w2.setCell ⟨b, 18, none⟩ (.bool (decide (131072 < DD + 1)))).drew = w3 := ⟨_, rfl⟩
  have HA3 : Hid (LkAt w3 b { L with deep := DD + 1, lost := false }) := by rw [← hw3, HDc.out]; exact HA2.out.set18 false
  have HK3 : Hid (Kept [b] w1 w3) := by rw [← hw3]; exact kept_t (kept_t HK2.out (Kept.setCell [b] w2 ⟨b, 18, none⟩ _ (by simp))) (Kept.drew [b] _)
  rw [hw3]
  clear hw3 qc z18 HSt
  have hsz2 := HSz.out
  have hbl := HLt.out
  have hz3 := HK3.out.size
  have eL : ({ L with deep := DD + 1, lost := false } : Lk) = { L with deep := DD + 1 } := by have := HLo.out; cases L; simp_all
  have hA3 := HA3.out
  rw [eL] at hA3
  have hS3 : Stt W0 b { L with deep := DD + 1 } w3 := ⟨below_of_kept (HS0.out.bel.trans (HB.out.mono HS0.out.bel.size)) HK3.out HS0.out.hb, HS0.out.hb, hA3, fun hr => rl_kept (HFs.out hr) HA.out HK3.out⟩
  have C := kids_any (L := { L with deep := DD + 1 }) hS3 HLo.out (mb := w.heap.size) (xb := w.heap.size + 1) (z := true) (cell_kept HM.out (by omega) HK3.out (by omega)) (by omega) (by omega) (cell_kept HX.out (by omega) HK3.out (by omega)) (by omega) (by omega) Q HG.out hl HQ.out
  have m3 := cell_kept HM.out (by omega) HK3.out (by omega)
  clear hsz2 hbl hz3 hmc hxc hsz hS3 hA3
  generalize hZ : someB Q true (rows.map (·.2)) = Z at *
  have HZ := hid hZ
  clear hZ
  go_wp2_with fail
  refine C.mono ?_
  rintro e w4 ⟨⟨rd, fs, hl4, hf4⟩, rfl, hk4⟩
  have m4 := cell_kept m3 (by have := HSz.out; have := HK3.out.size; omega) hk4 (by have := HLt.out; omega)
  have HA4 := hid hl4
  have HF4 := hid hf4
  have HK4 := hid (kept_t HK3.out hk4)
  have l17 := hl4.cell 17
  have z17 := hl4.fz 17
  simp only [Lk.c, List.getElem?_cons_succ, List.getElem?_cons_zero] at l17
  clear hl4 hf4 hk4 C m3
  go_wp2_with fail
  go_ret
  have hq := HA4.out.set17 DD
  have e1 : ({ L with deep := DD, rd := rd, fs := fs } : Lk) = { L with rd := rd, fs := fs } := by have := HDD.out; cases L; simp_all
  refine ⟨⟨rd, fs, ?_, ?_⟩, by first | rfl | (rw [HZ.out]; rfl), ?_⟩
  · rw [← e1]; exact hq
  · intro hr
    exact rl_kept (HF4.out hr) HA4.out (Kept.setCell [b] w4 ⟨b, 17, none⟩ (.int .i64 DD) (by simp))
  · exact kept_t (kept_t (Kept.ofBelow HB.out [b]) HK4.out) (Kept.setCell [b] w4 ⟨b, 17, none⟩ (.int .i64 DD) (by simp))
end Go.Proofs.YtaniljfjmbifnaaGreatDoor.H
namespace Go.Proofs.YtaniljfjmbifnaaGreatDoor.H
open Go.RowKit
set_option linter.unusedVariables false
set_option linter.unusedSimpArgs false

theorem gl_take {W : World} {d : Option Addr} {q g : Nat} {l : List Ky} (h : S.GL eK W (.slice d q g) l) : S.GL eK W (.slice d (min 1 q) g) (l.take 1) := by
  obtain ⟨ad, cp, e, hc, hr⟩ := h
  simp only [Value.slice.injEq] at e
  obtain ⟨rfl, rfl, rfl⟩ := e
  refine ⟨d, g, by rw [List.length_take], by rw [List.length_take]; omega, ?_⟩
  rcases hr with rfl | ⟨og, oo, rfl, hr, hg⟩
  · exact .inl rfl
  · refine .inr ⟨og, oo, rfl, fun j i x v h1 h2 => hr j i x v ?_ h2, hg⟩
    rw [List.getElem?_take] at h1
    split at h1
    · exact h1
    · cases h1
theorem gl_len {W : World} {d : Option Addr} {q g : Nat} {l : List Ky} (h : S.GL eK W (.slice d q g) l) : q = l.length ∧ q ≤ g := by
  obtain ⟨ad, cp, e, hc, hr⟩ := h
  simp only [Value.slice.injEq] at e
  obtain ⟨rfl, rfl, rfl⟩ := e
  exact ⟨rfl, hc⟩
set_option maxRecDepth 100000 in
set_option maxHeartbeats 4000000 in
theorem not_any {W0 w : World} {b : Nat} {L : Lk} (hS : Stt W0 b L w) (hlo : L.lost = false) (hd0 : 0 ≤ L.deep) (hd1 : L.deep ≤ 1000)
    (Q : Bs → Bs → Bs → Int → List S.Sp → Bool) {rows : List (Ky × Kv)} (op t f : Bs) (n : Int) (a : Option Addr) (p c : Nat) (d : Option Addr) (q g : Nat) (hG : S.GL eK W0 (.slice d q g) (rows.map (·.1))) (hl : rows.length ≤ 1000) (HQ : ∀ r ∈ rows, Asks W0 b { L with deep := L.deep + 1 } r.1 (matchB Q r.2)) (hop : op = [78, 79, 84]) :
    Calls Tryz.prog 23 #[.pointer (some ⟨b, 0, none⟩), .agg #[.string (str op), .string (str t), .string (str f), .int .i64 n, .slice a p c, .slice d q g]] w fun e w' => Seen2 w' b L ∧ e = .returned (.bool (nots Q (rows.map (·.2)))) ∧ Kept [b] w w' := by
  have q0 : ((str op).toList == ([65, 76, 76] : Bs)) = false := by rw [toL, hop]; decide
  have q1 : ((str op).toList == ([65, 78, 83, 87, 69, 82, 69, 68] : Bs)) = false := by rw [toL, hop]; decide
  have q2 : ((str op).toList == ([68, 69, 76, 69, 84, 69, 68] : Bs)) = false := by rw [toL, hop]; decide
  have q3 : ((str op).toList == ([68, 82, 65, 70, 84] : Bs)) = false := by rw [toL, hop]; decide
  have q4 : ((str op).toList == ([70, 76, 65, 71, 71, 69, 68] : Bs)) = false := by rw [toL, hop]; decide
  have q5 : ((str op).toList == ([83, 69, 69, 78] : Bs)) = false := by rw [toL, hop]; decide
  have q6 : ((str op).toList == ([85, 78, 65, 78, 83, 87, 69, 82, 69, 68] : Bs)) = false := by rw [toL, hop]; decide
  have q7 : ((str op).toList == ([85, 78, 68, 69, 76, 69, 84, 69, 68] : Bs)) = false := by rw [toL, hop]; decide
  have q8 : ((str op).toList == ([85, 78, 68, 82, 65, 70, 84] : Bs)) = false := by rw [toL, hop]; decide
  have q9 : ((str op).toList == ([85, 78, 70, 76, 65, 71, 71, 69, 68] : Bs)) = false := by rw [toL, hop]; decide
  have q10 : ((str op).toList == ([85, 78, 83, 69, 69, 78] : Bs)) = false := by rw [toL, hop]; decide
  have q11 : ((str op).toList == ([75, 69, 89, 87, 79, 82, 68] : Bs)) = false := by rw [toL, hop]; decide
  have q12 : ((str op).toList == ([85, 78, 75, 69, 89, 87, 79, 82, 68] : Bs)) = false := by rw [toL, hop]; decide
  have q13 : ((str op).toList == ([66, 67, 67] : Bs)) = false := by rw [toL, hop]; decide
  have q14 : ((str op).toList == ([67, 67] : Bs)) = false := by rw [toL, hop]; decide
  have q15 : ((str op).toList == ([70, 82, 79, 77] : Bs)) = false := by rw [toL, hop]; decide
  have q16 : ((str op).toList == ([83, 85, 66, 74, 69, 67, 84] : Bs)) = false := by rw [toL, hop]; decide
  have q17 : ((str op).toList == ([84, 79] : Bs)) = false := by rw [toL, hop]; decide
  have q18 : ((str op).toList == ([72, 69, 65, 68, 69, 82] : Bs)) = false := by rw [toL, hop]; decide
  have q19 : ((str op).toList == ([66, 79, 68, 89] : Bs)) = false := by rw [toL, hop]; decide
  have q20 : ((str op).toList == ([84, 69, 88, 84] : Bs)) = false := by rw [toL, hop]; decide
  have q21 : ((str op).toList == ([66, 69, 70, 79, 82, 69] : Bs)) = false := by rw [toL, hop]; decide
  have q22 : ((str op).toList == ([79, 78] : Bs)) = false := by rw [toL, hop]; decide
  have q23 : ((str op).toList == ([83, 73, 78, 67, 69] : Bs)) = false := by rw [toL, hop]; decide
  have q24 : ((str op).toList == ([83, 69, 78, 84, 66, 69, 70, 79, 82, 69] : Bs)) = false := by rw [toL, hop]; decide
  have q25 : ((str op).toList == ([83, 69, 78, 84, 79, 78] : Bs)) = false := by rw [toL, hop]; decide
  have q26 : ((str op).toList == ([83, 69, 78, 84, 83, 73, 78, 67, 69] : Bs)) = false := by rw [toL, hop]; decide
  have q27 : ((str op).toList == ([76, 65, 82, 71, 69, 82] : Bs)) = false := by rw [toL, hop]; decide
  have q28 : ((str op).toList == ([83, 77, 65, 76, 76, 69, 82] : Bs)) = false := by rw [toL, hop]; decide
  have q29 : ((str op).toList == ([83, 69, 81] : Bs)) = false := by rw [toL, hop]; decide
  have q30 : ((str op).toList == ([85, 73, 68] : Bs)) = false := by rw [toL, hop]; decide
  have q99 : ((str op).toList == ([78, 79, 84] : Bs)) = true := by rw [toL, hop]; decide
  clear hop
  have ha : Below w.heap.size w (w.alloc (.cells #[.string (str op), .string (str t), .string (str f), .int .i64 n, .slice a p c, .slice d q g] 28)) := (Below.refl _ _).alloc (Nat.le_refl _) _
  obtain ⟨w1, hw1⟩ : ∃ w1, w.alloc (.cells #[.string (str op), .string (str t), .string (str f), .int .i64 n, .slice a p c, .slice d q g] 28) = w1 := ⟨_, rfl⟩
  have HKy : Hid (KyAt w1 w.heap.size ⟨op, t, f, n, (a, p, c), (d, q, g)⟩) := by rw [← hw1]; exact KyAt.new w ⟨op, t, f, n, (a, p, c), (d, q, g)⟩
  rw [hw1] at ha
  obtain ⟨hq, hqg⟩ := gl_len hG
  rw [List.length_map] at hq
  have hG1 := gl_take hG
  rw [← List.map_take] at hG1
  have C := some_false (hS.later ha) hlo hd0 hd1 Q (u := .slice d (min 1 q) g) (rows := rows.take 1) hG1 (by rw [List.length_take]; omega) (fun r hr => HQ r (List.mem_of_mem_take hr))
  rw [List.map_take, ← nots_take] at C
  have emin : (min 1 (q : Int)).toNat = min 1 q := by omega
  rw [← emin] at C
  clear emin
  have HB := hid ha
  have k0 := HKy.out.cell 0
  have k5 := HKy.out.cell 5
  simp only [Ky.c, sv, List.getElem?_cons_succ, List.getElem?_cons_zero] at k0 k5
  have hqb : (q : Int) ≤ 1000 := by omega
  clear hS HQ ha hG hq
  generalize hZ : nots Q (rows.map (·.2)) = Z at *
  have HZ := hid hZ
  clear hZ
  go_enter Tryz.func23, Tryz.ntmps23
  go_wp2_with fail
  clear hw1
  refine C.mono ?_
  rintro e w2 ⟨hs, rfl, hk2⟩
  have HS := hid hs
  have HK2 := hid (kept_t (Kept.ofBelow HB.out [b]) hk2)
  clear hs hk2 C k0 k5
  go_wp2_with fail
  go_ret
  exact ⟨HS.out, by first | rfl | (rw [HZ.out]; rfl) | (rw [HZ.out]), HK2.out⟩
set_option maxRecDepth 100000 in
set_option maxHeartbeats 4000000 in
theorem or_any {W0 w : World} {b : Nat} {L : Lk} (hS : Stt W0 b L w) (hlo : L.lost = false) (hd0 : 0 ≤ L.deep) (hd1 : L.deep ≤ 1000)
    (Q : Bs → Bs → Bs → Int → List S.Sp → Bool) {rows : List (Ky × Kv)} (op t f : Bs) (n : Int) (a : Option Addr) (p c : Nat) (d : Option Addr) (q g : Nat) (hG : S.GL eK W0 (.slice d q g) (rows.map (·.1))) (hl : rows.length ≤ 1000) (HQ : ∀ r ∈ rows, Asks W0 b { L with deep := L.deep + 1 } r.1 (matchB Q r.2)) (hop : op = [79, 82]) :
    Calls Tryz.prog 23 #[.pointer (some ⟨b, 0, none⟩), .agg #[.string (str op), .string (str t), .string (str f), .int .i64 n, .slice a p c, .slice d q g]] w fun e w' => Seen2 w' b L ∧ e = .returned (.bool (someB Q true (rows.map (·.2)))) ∧ Kept [b] w w' := by
  have q0 : ((str op).toList == ([65, 76, 76] : Bs)) = false := by rw [toL, hop]; decide
  have q1 : ((str op).toList == ([65, 78, 83, 87, 69, 82, 69, 68] : Bs)) = false := by rw [toL, hop]; decide
  have q2 : ((str op).toList == ([68, 69, 76, 69, 84, 69, 68] : Bs)) = false := by rw [toL, hop]; decide
  have q3 : ((str op).toList == ([68, 82, 65, 70, 84] : Bs)) = false := by rw [toL, hop]; decide
  have q4 : ((str op).toList == ([70, 76, 65, 71, 71, 69, 68] : Bs)) = false := by rw [toL, hop]; decide
  have q5 : ((str op).toList == ([83, 69, 69, 78] : Bs)) = false := by rw [toL, hop]; decide
  have q6 : ((str op).toList == ([85, 78, 65, 78, 83, 87, 69, 82, 69, 68] : Bs)) = false := by rw [toL, hop]; decide
  have q7 : ((str op).toList == ([85, 78, 68, 69, 76, 69, 84, 69, 68] : Bs)) = false := by rw [toL, hop]; decide
  have q8 : ((str op).toList == ([85, 78, 68, 82, 65, 70, 84] : Bs)) = false := by rw [toL, hop]; decide
  have q9 : ((str op).toList == ([85, 78, 70, 76, 65, 71, 71, 69, 68] : Bs)) = false := by rw [toL, hop]; decide
  have q10 : ((str op).toList == ([85, 78, 83, 69, 69, 78] : Bs)) = false := by rw [toL, hop]; decide
  have q11 : ((str op).toList == ([75, 69, 89, 87, 79, 82, 68] : Bs)) = false := by rw [toL, hop]; decide
  have q12 : ((str op).toList == ([85, 78, 75, 69, 89, 87, 79, 82, 68] : Bs)) = false := by rw [toL, hop]; decide
  have q13 : ((str op).toList == ([66, 67, 67] : Bs)) = false := by rw [toL, hop]; decide
  have q14 : ((str op).toList == ([67, 67] : Bs)) = false := by rw [toL, hop]; decide
  have q15 : ((str op).toList == ([70, 82, 79, 77] : Bs)) = false := by rw [toL, hop]; decide
  have q16 : ((str op).toList == ([83, 85, 66, 74, 69, 67, 84] : Bs)) = false := by rw [toL, hop]; decide
  have q17 : ((str op).toList == ([84, 79] : Bs)) = false := by rw [toL, hop]; decide
  have q18 : ((str op).toList == ([72, 69, 65, 68, 69, 82] : Bs)) = false := by rw [toL, hop]; decide
  have q19 : ((str op).toList == ([66, 79, 68, 89] : Bs)) = false := by rw [toL, hop]; decide
  have q20 : ((str op).toList == ([84, 69, 88, 84] : Bs)) = false := by rw [toL, hop]; decide
  have q21 : ((str op).toList == ([66, 69, 70, 79, 82, 69] : Bs)) = false := by rw [toL, hop]; decide
  have q22 : ((str op).toList == ([79, 78] : Bs)) = false := by rw [toL, hop]; decide
  have q23 : ((str op).toList == ([83, 73, 78, 67, 69] : Bs)) = false := by rw [toL, hop]; decide
  have q24 : ((str op).toList == ([83, 69, 78, 84, 66, 69, 70, 79, 82, 69] : Bs)) = false := by rw [toL, hop]; decide
  have q25 : ((str op).toList == ([83, 69, 78, 84, 79, 78] : Bs)) = false := by rw [toL, hop]; decide
  have q26 : ((str op).toList == ([83, 69, 78, 84, 83, 73, 78, 67, 69] : Bs)) = false := by rw [toL, hop]; decide
  have q27 : ((str op).toList == ([76, 65, 82, 71, 69, 82] : Bs)) = false := by rw [toL, hop]; decide
  have q28 : ((str op).toList == ([83, 77, 65, 76, 76, 69, 82] : Bs)) = false := by rw [toL, hop]; decide
  have q29 : ((str op).toList == ([83, 69, 81] : Bs)) = false := by rw [toL, hop]; decide
  have q30 : ((str op).toList == ([85, 73, 68] : Bs)) = false := by rw [toL, hop]; decide
  have q31 : ((str op).toList == ([78, 79, 84] : Bs)) = false := by rw [toL, hop]; decide
  have q99 : ((str op).toList == ([79, 82] : Bs)) = true := by rw [toL, hop]; decide
  clear hop
  have ha : Below w.heap.size w (w.alloc (.cells #[.string (str op), .string (str t), .string (str f), .int .i64 n, .slice a p c, .slice d q g] 28)) := (Below.refl _ _).alloc (Nat.le_refl _) _
  obtain ⟨w1, hw1⟩ : ∃ w1, w.alloc (.cells #[.string (str op), .string (str t), .string (str f), .int .i64 n, .slice a p c, .slice d q g] 28) = w1 := ⟨_, rfl⟩
  have HKy : Hid (KyAt w1 w.heap.size ⟨op, t, f, n, (a, p, c), (d, q, g)⟩) := by rw [← hw1]; exact KyAt.new w ⟨op, t, f, n, (a, p, c), (d, q, g)⟩
  rw [hw1] at ha
  obtain ⟨hq, hqg⟩ := gl_len hG
  rw [List.length_map] at hq
  have C := some_true (hS.later ha) hlo hd0 hd1 Q hG hl HQ
  have HB := hid ha
  have k0 := HKy.out.cell 0
  have k5 := HKy.out.cell 5
  simp only [Ky.c, sv, List.getElem?_cons_succ, List.getElem?_cons_zero] at k0 k5
  have hqb : (q : Int) ≤ 1000 := by omega
  clear hS HQ ha hG hq
  generalize hZ : someB Q true (rows.map (·.2)) = Z at *
  have HZ := hid hZ
  clear hZ
  go_enter Tryz.func23, Tryz.ntmps23
  go_wp2_with fail
  clear hw1
  refine C.mono ?_
  rintro e w2 ⟨hs, rfl, hk2⟩
  have HS := hid hs
  have HK2 := hid (kept_t (Kept.ofBelow HB.out [b]) hk2)
  clear hs hk2 C k0 k5
  go_wp2_with fail
  go_ret
  exact ⟨HS.out, by first | rfl | (rw [HZ.out]; rfl) | (rw [HZ.out]), HK2.out⟩
set_option maxRecDepth 100000 in
set_option maxHeartbeats 4000000 in
theorem and_any {W0 w : World} {b : Nat} {L : Lk} (hS : Stt W0 b L w) (hlo : L.lost = false) (hd0 : 0 ≤ L.deep) (hd1 : L.deep ≤ 1000)
    (Q : Bs → Bs → Bs → Int → List S.Sp → Bool) {rows : List (Ky × Kv)} (op t f : Bs) (n : Int) (a : Option Addr) (p c : Nat) (d : Option Addr) (q g : Nat) (hG : S.GL eK W0 (.slice d q g) (rows.map (·.1))) (hl : rows.length ≤ 1000) (HQ : ∀ r ∈ rows, Asks W0 b { L with deep := L.deep + 1 } r.1 (matchB Q r.2)) (hop : op = [65, 78, 68]) :
    Calls Tryz.prog 23 #[.pointer (some ⟨b, 0, none⟩), .agg #[.string (str op), .string (str t), .string (str f), .int .i64 n, .slice a p c, .slice d q g]] w fun e w' => Seen2 w' b L ∧ e = .returned (.bool (!someB Q false (rows.map (·.2)))) ∧ Kept [b] w w' := by
  have q0 : ((str op).toList == ([65, 76, 76] : Bs)) = false := by rw [toL, hop]; decide
  have q1 : ((str op).toList == ([65, 78, 83, 87, 69, 82, 69, 68] : Bs)) = false := by rw [toL, hop]; decide
  have q2 : ((str op).toList == ([68, 69, 76, 69, 84, 69, 68] : Bs)) = false := by rw [toL, hop]; decide
  have q3 : ((str op).toList == ([68, 82, 65, 70, 84] : Bs)) = false := by rw [toL, hop]; decide
  have q4 : ((str op).toList == ([70, 76, 65, 71, 71, 69, 68] : Bs)) = false := by rw [toL, hop]; decide
  have q5 : ((str op).toList == ([83, 69, 69, 78] : Bs)) = false := by rw [toL, hop]; decide
  have q6 : ((str op).toList == ([85, 78, 65, 78, 83, 87, 69, 82, 69, 68] : Bs)) = false := by rw [toL, hop]; decide
  have q7 : ((str op).toList == ([85, 78, 68, 69, 76, 69, 84, 69, 68] : Bs)) = false := by rw [toL, hop]; decide
  have q8 : ((str op).toList == ([85, 78, 68, 82, 65, 70, 84] : Bs)) = false := by rw [toL, hop]; decide
  have q9 : ((str op).toList == ([85, 78, 70, 76, 65, 71, 71, 69, 68] : Bs)) = false := by rw [toL, hop]; decide
  have q10 : ((str op).toList == ([85, 78, 83, 69, 69, 78] : Bs)) = false := by rw [toL, hop]; decide
  have q11 : ((str op).toList == ([75, 69, 89, 87, 79, 82, 68] : Bs)) = false := by rw [toL, hop]; decide
  have q12 : ((str op).toList == ([85, 78, 75, 69, 89, 87, 79, 82, 68] : Bs)) = false := by rw [toL, hop]; decide
  have q13 : ((str op).toList == ([66, 67, 67] : Bs)) = false := by rw [toL, hop]; decide
  have q14 : ((str op).toList == ([67, 67] : Bs)) = false := by rw [toL, hop]; decide
  have q15 : ((str op).toList == ([70, 82, 79, 77] : Bs)) = false := by rw [toL, hop]; decide
  have q16 : ((str op).toList == ([83, 85, 66, 74, 69, 67, 84] : Bs)) = false := by rw [toL, hop]; decide
  have q17 : ((str op).toList == ([84, 79] : Bs)) = false := by rw [toL, hop]; decide
  have q18 : ((str op).toList == ([72, 69, 65, 68, 69, 82] : Bs)) = false := by rw [toL, hop]; decide
  have q19 : ((str op).toList == ([66, 79, 68, 89] : Bs)) = false := by rw [toL, hop]; decide
  have q20 : ((str op).toList == ([84, 69, 88, 84] : Bs)) = false := by rw [toL, hop]; decide
  have q21 : ((str op).toList == ([66, 69, 70, 79, 82, 69] : Bs)) = false := by rw [toL, hop]; decide
  have q22 : ((str op).toList == ([79, 78] : Bs)) = false := by rw [toL, hop]; decide
  have q23 : ((str op).toList == ([83, 73, 78, 67, 69] : Bs)) = false := by rw [toL, hop]; decide
  have q24 : ((str op).toList == ([83, 69, 78, 84, 66, 69, 70, 79, 82, 69] : Bs)) = false := by rw [toL, hop]; decide
  have q25 : ((str op).toList == ([83, 69, 78, 84, 79, 78] : Bs)) = false := by rw [toL, hop]; decide
  have q26 : ((str op).toList == ([83, 69, 78, 84, 83, 73, 78, 67, 69] : Bs)) = false := by rw [toL, hop]; decide
  have q27 : ((str op).toList == ([76, 65, 82, 71, 69, 82] : Bs)) = false := by rw [toL, hop]; decide
  have q28 : ((str op).toList == ([83, 77, 65, 76, 76, 69, 82] : Bs)) = false := by rw [toL, hop]; decide
  have q29 : ((str op).toList == ([83, 69, 81] : Bs)) = false := by rw [toL, hop]; decide
  have q30 : ((str op).toList == ([85, 73, 68] : Bs)) = false := by rw [toL, hop]; decide
  have q31 : ((str op).toList == ([78, 79, 84] : Bs)) = false := by rw [toL, hop]; decide
  have q32 : ((str op).toList == ([79, 82] : Bs)) = false := by rw [toL, hop]; decide
  have q99 : ((str op).toList == ([65, 78, 68] : Bs)) = true := by rw [toL, hop]; decide
  clear hop
  have ha : Below w.heap.size w (w.alloc (.cells #[.string (str op), .string (str t), .string (str f), .int .i64 n, .slice a p c, .slice d q g] 28)) := (Below.refl _ _).alloc (Nat.le_refl _) _
  obtain ⟨w1, hw1⟩ : ∃ w1, w.alloc (.cells #[.string (str op), .string (str t), .string (str f), .int .i64 n, .slice a p c, .slice d q g] 28) = w1 := ⟨_, rfl⟩
  have HKy : Hid (KyAt w1 w.heap.size ⟨op, t, f, n, (a, p, c), (d, q, g)⟩) := by rw [← hw1]; exact KyAt.new w ⟨op, t, f, n, (a, p, c), (d, q, g)⟩
  rw [hw1] at ha
  obtain ⟨hq, hqg⟩ := gl_len hG
  rw [List.length_map] at hq
  have C := some_false (hS.later ha) hlo hd0 hd1 Q hG hl HQ
  have HB := hid ha
  have k0 := HKy.out.cell 0
  have k5 := HKy.out.cell 5
  simp only [Ky.c, sv, List.getElem?_cons_succ, List.getElem?_cons_zero] at k0 k5
  have hqb : (q : Int) ≤ 1000 := by omega
  clear hS HQ ha hG hq
  generalize hZ : someB Q false (rows.map (·.2)) = Z at *
  have HZ := hid hZ
  clear hZ
  go_enter Tryz.func23, Tryz.ntmps23
  go_wp2_with fail
  clear hw1
  refine C.mono ?_
  rintro e w2 ⟨hs, rfl, hk2⟩
  have HS := hid hs
  have HK2 := hid (kept_t (Kept.ofBelow HB.out [b]) hk2)
  clear hs hk2 C k0 k5
  go_wp2_with fail
  go_ret
  exact ⟨HS.out, by first | rfl | (rw [HZ.out]; rfl) | (rw [HZ.out]), HK2.out⟩
end Go.Proofs.YtaniljfjmbifnaaGreatDoor.H
