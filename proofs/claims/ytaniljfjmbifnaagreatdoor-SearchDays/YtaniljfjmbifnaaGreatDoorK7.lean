/- What this text holds: a key that is denied: one kid that asks for a subject. -/
import Derived.Test.YtaniljfjmbifnaaGreatDoorK6
namespace Go.Proofs.YtaniljfjmbifnaaGreatDoor.H
open Go.RowKit
set_option linter.unusedVariables false
set_option linter.unusedSimpArgs false

/-- The message behind a look at its fields. -/
def Seen (w : World) (b : Nat) (L : Lk) : Prop := ∃ fs, LkAt w b { L with rd := true, fs := fs } ∧ FsOk w { L with rd := true, fs := fs }
theorem env_kept {w w' : World} {b : Nat} (he : Env w) (hb : 0 < b) (hbw : b < w.heap.size) (hk : Kept [b] w w') : Env w' := by
  obtain ⟨m, hm⟩ := he
  exact ⟨m, (World.cell?_of_block (hk.block 0 (by omega) (by simp; omega))).trans hm⟩
theorem cell_kept {w w' : World} {b r o : Nat} {v : Value} (h : w.cell? ⟨r, o, none⟩ = some v) (hr : r < w.heap.size) (hk : Kept [b] w w') (hne : r ≠ b) : w'.cell? ⟨r, o, none⟩ = some v :=
  (World.cell?_of_block (hk.block r hr (by simpa using hne))).trans h
/-- What the closure of a denied kid leans on. -/
def Nine (b mb xb kb : Nat) (op t f : Bs) (n : Int) (a : Option Addr) (p c : Nat) (d : Option Addr) (q g : Nat) (w : World) : Prop :=
  w.cell? ⟨mb, 0, none⟩ = some (.pointer (some ⟨b, 0, none⟩)) ∧ w.cell? ⟨xb, 0, none⟩ = some (.bool false) ∧ w.cell? ⟨b, 18, none⟩ = some (.bool false) ∧
  w.cell? ⟨kb, 0, none⟩ = some (.string (str op)) ∧ w.cell? ⟨kb, 1, none⟩ = some (.string (str t)) ∧ w.cell? ⟨kb, 2, none⟩ = some (.string (str f)) ∧ w.cell? ⟨kb, 3, none⟩ = some (.int .i64 n) ∧ w.cell? ⟨kb, 4, none⟩ = some (.slice a p c) ∧ w.cell? ⟨kb, 5, none⟩ = some (.slice d q g)
set_option maxRecDepth 100000 in
set_option maxHeartbeats 4000000 in
theorem denied_any {w : World} {b mb xb : Nat} {L : Lk} (he : Env w) (hb0 : 0 < b) (h : LkAt w b L) (hf : FsOk w L) (ht : L.text.length ≤ 1000000) (hlo : L.lost = false) (hm : w.cell? ⟨mb, 0, none⟩ = some (.pointer (some ⟨b, 0, none⟩))) (hmb : mb ≠ b) (hml : mb < w.heap.size) (hx : w.cell? ⟨xb, 0, none⟩ = some (.bool false)) (hxb : xb ≠ b) (hxl : xb < w.heap.size)
    (op t f : Bs) (n : Int) (a : Option Addr) (p c : Nat) (d : Option Addr) (q g : Nat) (htl : t.length ≤ 10000000) (hop : op = subj)
    (hv : ∀ v ∈ valsL L.text op, (W.joined [v]).length ≤ 1000000 ∧ (wordW v).length ≤ 10000000) :
    Calls Tryz.prog 80 #[.agg #[.string (str op), .string (str t), .string (str f), .int .i64 n, .slice a p c, .slice d q g], .pointer (some ⟨mb, 0, none⟩), .pointer (some ⟨xb, 0, none⟩)] w fun e w' => Seen w' b L ∧ e = .returned (.bool (!asksB (valsL L.text op) t)) ∧ Kept [b] w w' := by
  have ha : Below w.heap.size w (w.alloc (.cells #[.string (str op), .string (str t), .string (str f), .int .i64 n, .slice a p c, .slice d q g] 28)) := (Below.refl _ _).alloc (Nat.le_refl _) _
  obtain ⟨w1, hw1⟩ : ∃ w1, w.alloc (.cells #[.string (str op), .string (str t), .string (str f), .int .i64 n, .slice a p c, .slice d q g] 28) = w1 := ⟨_, rfl⟩
  have HKy : Hid (KyAt w1 w.heap.size ⟨op, t, f, n, (a, p, c), (d, q, g)⟩) := by rw [← hw1]; exact KyAt.new w ⟨op, t, f, n, (a, p, c), (d, q, g)⟩
  rw [hw1] at ha
  have hbl := h.lt
  have HLt := hid hbl
  have HC := hid (fun (w0 : World) (h0 : Below w.heap.size w w0) => subject_any (he.later h0) hb0 (h.later h0) (fun hr => (hf hr).later h0) ht op t f n a p c d q g htl hop hv)
  have hF := fldk b
  have f7 := fun w => (hF w).2.2.2.2.2.2.2.1
  have l18 := (h.later ha).cell 18
  have k0 := HKy.out.cell 0
  have k1 := HKy.out.cell 1
  have k2 := HKy.out.cell 2
  have k3 := HKy.out.cell 3
  have k4 := HKy.out.cell 4
  have k5 := HKy.out.cell 5
  simp only [Lk.c, Ky.c, sv, List.getElem?_cons_succ, List.getElem?_cons_zero] at l18 k0 k1 k2 k3 k4 k5
  rw [hlo] at l18
  have m1 := (World.cell?_of_block (ha.block mb hml)).trans hm
  have x1 := (World.cell?_of_block (ha.block xb hxl)).trans hx
  have q0 : Nine b mb xb w.heap.size op t f n a p c d q g w1 := ⟨m1, x1, l18, k0, k1, k2, k3, k4, k5⟩
  have HB1 := hid ha
  have HBs : Hid (w.heap.size < w1.heap.size) := HKy.out.lt
  have HNine : Hid (∀ w0 w' : World, Nine b mb xb w.heap.size op t f n a p c d q g w0 → Below w.heap.size w w0 → w.heap.size < w0.heap.size → Kept [b] w0 w' → Seen w' b L → Nine b mb xb w.heap.size op t f n a p c d q g w') := by
    intro w0 w' h0 hb hs hk ⟨fs, hsn, _⟩
    obtain ⟨e1, e2, e3, e4, e5, e6, e7, e8, e9⟩ := h0
    have hz := hb.size
    have c18 := hsn.cell 18
    simp only [Lk.c, List.getElem?_cons_succ, List.getElem?_cons_zero] at c18
    rw [hlo] at c18
    exact ⟨cell_kept e1 (by omega) hk hmb, cell_kept e2 (by omega) hk hxb, c18, cell_kept e4 hs hk (by omega), cell_kept e5 hs hk (by omega), cell_kept e6 hs hk (by omega), cell_kept e7 hs hk (by omega), cell_kept e8 hs hk (by omega), cell_kept e9 hs hk (by omega)⟩
  have HM := hid hm
  clear he h hf hv hop hF hx hm ha l18 hxl hml
  generalize asksB (valsL L.text op) t = z at *
  obtain ⟨y1, y2, y3, y4, y5, y6, y7, y8, y9⟩ := q0
  go_enter Tryz.func80, Tryz.ntmps80
  go_wp2_with fail
  have qc : w1.cell? ⟨mb, 0, none⟩ = some (.pointer (some ⟨b, 0, none⟩)) ∧ w1.cell? ⟨xb, 0, none⟩ = some (.bool false) ∧ w1.cell? ⟨b, 18, none⟩ = some (.bool false) ∧
  w1.cell? ⟨w.heap.size, 0, none⟩ = some (.string (str op)) ∧ w1.cell? ⟨w.heap.size, 1, none⟩ = some (.string (str t)) ∧ w1.cell? ⟨w.heap.size, 2, none⟩ = some (.string (str f)) ∧ w1.cell? ⟨w.heap.size, 3, none⟩ = some (.int .i64 n) ∧ w1.cell? ⟨w.heap.size, 4, none⟩ = some (.slice a p c) ∧ w1.cell? ⟨w.heap.size, 5, none⟩ = some (.slice d q g) := ⟨y1, y2, y3, y4, y5, y6, y7, y8, y9⟩
  clear y1 y2 y3 y4 y5 y6 y7 y8 y9 k0 k1 k2 k3 k4 k5 m1 x1
  go_region_held3 (fun w' => w'.cell? ⟨mb, 0, none⟩ = some (.pointer (some ⟨b, 0, none⟩)) ∧ w'.cell? ⟨xb, 0, none⟩ = some (.bool false) ∧ w'.cell? ⟨b, 18, none⟩ = some (.bool false) ∧
  w'.cell? ⟨w.heap.size, 0, none⟩ = some (.string (str op)) ∧ w'.cell? ⟨w.heap.size, 1, none⟩ = some (.string (str t)) ∧ w'.cell? ⟨w.heap.size, 2, none⟩ = some (.string (str f)) ∧ w'.cell? ⟨w.heap.size, 3, none⟩ = some (.int .i64 n) ∧ w'.cell? ⟨w.heap.size, 4, none⟩ = some (.slice a p c) ∧ w'.cell? ⟨w.heap.size, 5, none⟩ = some (.slice d q g)) (first | exact qc | go_keep) (first
    | (go_at_call 23; refine (HC.out _ (by repeat (first | exact HB1.out | refine Below.drew ?_))).mono ?_; rintro e wk ⟨hsn, rfl, hkp⟩; have hkk : Kept [b] w1 wk := (by first | exact hkp | exact kept_t (Kept.drew [b] w1) hkp); have qc := HNine.out w1 wk qc HB1.out HBs.out hkk hsn; have HS5 : Seen wk b L := hsn; have HK5 : Kept [b] w wk := kept_t (Kept.ofBelow HB1.out [b]) hkk; clear hkk hkp hsn))
  go_wp2_with fail
  go_ret
  exact ⟨HS5, rfl, HK5⟩
end Go.Proofs.YtaniljfjmbifnaaGreatDoor.H
