/- What this text holds: a key that is denied: one kid that asks for a subject. · What this text holds: a denied kid, as the program asks it. · What this text holds: a kid that is denied, with how deep it lies; a key that denies; a match. · What this text holds: a key that denies one that asks for a subject; a match. -/
import Derived.Test.YtaniljfjmbifnaaGreatDoorKY0
namespace Go.Proofs.YtaniljfjmbifnaaGreatDoor.H
open Go.RowKit
set_option linter.unusedVariables false
set_option linter.unusedSimpArgs false

/-- The message behind a look at its fields. -/
def Seen (w : World) (b : Nat) (L : Lk) : Prop := ∃ fs, LkAt w b { L with rd := true, fs := fs } ∧ FsOk w { L with rd := true, fs := fs }
theorem env_kept {w w' : World} {b : Nat} (he : Env w) (hb : 0 < b) (hbw : b < w.heap.size) (hk : Kept [b] w w') : Env w' := by
  obtain ⟨m, hm⟩ := he
  exact ⟨m, (World.cell?_of_block (hk.block 0 (by omega) (by simp; omega))).trans hm⟩
theorem cell_kept {w w' : World} {b r o : Nat} {v : Value} (h : w.cell? ⟨r, o, none⟩ = some v) (hr : r < w.heap.size) (hk : Kept [b] w w') (hne : r ≠ b) : w'.cell? ⟨r, o, none⟩ = some v :=
  (World.cell?_of_block (hk.block r hr (by simpa using hne))).trans h
/-- What the closure of a denied kid leans on. -/
def Nine (b mb xb kb : Nat) (op t f : Bs) (n : Int) (a : Option Addr) (p c : Nat) (d : Option Addr) (q g : Nat) (w : World) : Prop :=
  w.cell? ⟨mb, 0, none⟩ = some (.pointer (some ⟨b, 0, none⟩)) ∧ w.cell? ⟨xb, 0, none⟩ = some (.bool false) ∧ w.cell? ⟨b, 18, none⟩ = some (.bool false) ∧
  w.cell? ⟨kb, 0, none⟩ = some (.string (str op)) ∧ w.cell? ⟨kb, 1, none⟩ = some (.string (str t)) ∧ w.cell? ⟨kb, 2, none⟩ = some (.string (str f)) ∧ w.cell? ⟨kb, 3, none⟩ = some (.int .i64 n) ∧ w.cell? ⟨kb, 4, none⟩ = some (.slice a p c) ∧ w.cell? ⟨kb, 5, none⟩ = some (.slice d q g)
set_option maxRecDepth 100000 in
set_option maxHeartbeats 4000000 in
theorem denied_any {w : World} {b mb xb : Nat} {L : Lk} (he : Env w) (hb0 : 0 < b) (h : LkAt w b L) (hf : FsOk w L) (ht : L.text.length ≤ 1000000) (hlo : L.lost = false) (hm : w.cell? ⟨mb, 0, none⟩ = some (.pointer (some ⟨b, 0, none⟩))) (hmb : mb ≠ b) (hml : mb < w.heap.size) (hx : w.cell? ⟨xb, 0, none⟩ = some (.bool false)) (hxb : xb ≠ b) (hxl : xb < w.heap.size)
    (op t f : Bs) (n : Int) (a : Option Addr) (p c : Nat) (d : Option Addr) (q g : Nat) (htl : t.length ≤ 10000000) (hop : op = subj)
    (hv : ∀ v ∈ valsL L.text op, (W.joined [v]).length ≤ 1000000 ∧ (wordW v).length ≤ 10000000) :
    Calls Tryz.prog 80 #[.agg #[.string (str op), .string (str t), .string (str f), .int .i64 n, .slice a p c, .slice d q g], .pointer (some ⟨mb, 0, none⟩), .pointer (some ⟨xb, 0, none⟩)] w fun e w' => Seen w' b L ∧ e = .returned (.bool (!asksB (valsL L.text op) t)) ∧ Kept [b] w w' := by
  have ha : Below w.heap.size w (w.alloc (.cells #[.string (str op), .string (str t), .string (str f), .int .i64 n, .slice a p c, .slice d q g] 28)) := (Below.refl _ _).alloc (Nat.le_refl _) _
  obtain ⟨w1, hw1⟩ : ∃ w1, w.alloc (.cells #[.string (str op), .string (str t), .string (str f), .int .i64 n, .slice a p c, .slice d q g] 28) = w1 := ⟨_, rfl⟩
  have HKy : Hid (KyAt w1 w.heap.size ⟨op, t, f, n, (a, p, c), (d, q, g)⟩) := by rw [← hw1]; exact KyAt.new w ⟨op, t, f, n, (a, p, c), (d, q, g)⟩
  rw [hw1] at ha
  have hbl := h.lt
  have HLt := hid hbl
  have HC := hid (fun (w0 : World) (h0 : Below w.heap.size w w0) => subject_any (he.later h0) hb0 (h.later h0) (fun hr => (hf hr).later h0) ht op t f n a p c d q g htl hop hv)
  have hF := fldk b
  have f7 := fun w => (hF w).2.2.2.2.2.2.2.1
  have l18 := (h.later ha).cell 18
  have k0 := HKy.out.cell 0
  have k1 := HKy.out.cell 1
  have k2 := HKy.out.cell 2
  have k3 := HKy.out.cell 3
  have k4 := HKy.out.cell 4
  have k5 := HKy.out.cell 5
  simp only [Lk.c, Ky.c, sv, List.getElem?_cons_succ, List.getElem?_cons_zero] at l18 k0 k1 k2 k3 k4 k5
  rw [hlo] at l18
  have m1 := (World.cell?_of_block (ha.block mb hml)).trans hm
  have x1 := (World.cell?_of_block (ha.block xb hxl)).trans hx
  have q0 : Nine b mb xb w.heap.size op t f n a p c d q g w1 := ⟨m1, x1, l18, k0, k1, k2, k3, k4, k5⟩
  have HB1 := hid ha
  have HBs : Hid (w.heap.size < w1.heap.size) := HKy.out.lt
  have HNine : Hid (∀ w0 w' : World, Nine b mb xb w.heap.size op t f n a p c d q g w0 → Below w.heap.size w w0 → w.heap.size < w0.heap.size → Kept [b] w0 w' → Seen w' b L → Nine b mb xb w.heap.size op t f n a p c d q g w') := by
    intro w0 w' h0 hb hs hk ⟨fs, hsn, _⟩
    obtain ⟨e1, e2, e3, e4, e5, e6, e7, e8, e9⟩ := h0
    have hz := hb.size
    have c18 := hsn.cell 18
    simp only [Lk.c, List.getElem?_cons_succ, List.getElem?_cons_zero] at c18
    rw [hlo] at c18
    exact ⟨cell_kept e1 (by omega) hk hmb, cell_kept e2 (by omega) hk hxb, c18, cell_kept e4 hs hk (by omega), cell_kept e5 hs hk (by omega), cell_kept e6 hs hk (by omega), cell_kept e7 hs hk (by omega), cell_kept e8 hs hk (by omega), cell_kept e9 hs hk (by omega)⟩
  have HM := hid hm
  clear he h hf hv hop hF hx hm ha l18 hxl hml
  generalize asksB (valsL L.text op) t = z at *
  obtain ⟨y1, y2, y3, y4, y5, y6, y7, y8, y9⟩ := q0
  go_enter Tryz.func80, Tryz.ntmps80
  go_wp2_with fail
  have qc : w1.cell? ⟨mb, 0, none⟩ = some (.pointer (some ⟨b, 0, none⟩)) ∧ w1.cell? ⟨xb, 0, none⟩ = some (.bool false) ∧ w1.cell? ⟨b, 18, none⟩ = some (.bool false) ∧
  w1.cell? ⟨w.heap.size, 0, none⟩ = some (.string (str op)) ∧ w1.cell? ⟨w.heap.size, 1, none⟩ = some (.string (str t)) ∧ w1.cell? ⟨w.heap.size, 2, none⟩ = some (.string (str f)) ∧ w1.cell? ⟨w.heap.size, 3, none⟩ = some (.int .i64 n) ∧ w1.cell? ⟨w.heap.size, 4, none⟩ = some (.slice a p c) ∧ w1.cell? ⟨w.heap.size, 5, none⟩ = some (.slice d q g) := ⟨y1, y2, y3, y4, y5, y6, y7, y8, y9⟩
  clear y1 y2 y3 y4 y5 y6 y7 y8 y9 k0 k1 k2 k3 k4 k5 m1 x1
  go_region_held3 (fun w' => w'.cell? ⟨mb, 0, none⟩ = some (.pointer (some ⟨b, 0, none⟩)) ∧ w'.cell? ⟨xb, 0, none⟩ = some (.bool false) ∧ w'.cell? ⟨b, 18, none⟩ = some (.bool false) ∧
  w'.cell? ⟨w.heap.size, 0, none⟩ = some (.string (str op)) ∧ w'.cell? ⟨w.heap.size, 1, none⟩ = some (.string (str t)) ∧ w'.cell? ⟨w.heap.size, 2, none⟩ = some (.string (str f)) ∧ w'.cell? ⟨w.heap.size, 3, none⟩ = some (.int .i64 n) ∧ w'.cell? ⟨w.heap.size, 4, none⟩ = some (.slice a p c) ∧ w'.cell? ⟨w.heap.size, 5, none⟩ = some (.slice d q g)) (first | exact qc | go_keep) (first
    | (go_at_call 23; refine (HC.out _ (by repeat (first | exact HB1.out | refine Below.drew ?_))).mono ?_; rintro e wk ⟨hsn, rfl, hkp⟩; have hkk : Kept [b] w1 wk := (by first | exact hkp | exact kept_t (Kept.drew [b] w1) hkp); have qc := HNine.out w1 wk qc HB1.out HBs.out hkk hsn; have HS5 : Seen wk b L := hsn; have HK5 : Kept [b] w wk := kept_t (Kept.ofBelow HB1.out [b]) hkk; clear hkk hkp hsn))
  go_wp2_with fail
  go_ret
  exact ⟨HS5, rfl, HK5⟩
end Go.Proofs.YtaniljfjmbifnaaGreatDoor.H
namespace Go.Proofs.YtaniljfjmbifnaaGreatDoor.H
open Go.RowKit
set_option linter.unusedVariables false
set_option linter.unusedSimpArgs false

set_option maxRecDepth 100000 in
set_option maxHeartbeats 4000000 in
theorem kidx_any {w : World} {b mb xb : Nat} {L : Lk} (he : Env w) (hb0 : 0 < b) (h : LkAt w b L) (hf : FsOk w L) (ht : L.text.length ≤ 1000000) (hlo : L.lost = false) (hm : w.cell? ⟨mb, 0, none⟩ = some (.pointer (some ⟨b, 0, none⟩))) (hmb : mb ≠ b) (hml : mb < w.heap.size) (hx : w.cell? ⟨xb, 0, none⟩ = some (.bool false)) (hxb : xb ≠ b) (hxl : xb < w.heap.size)
    (op t f : Bs) (n : Int) (a : Option Addr) (p c : Nat) (d : Option Addr) (q g : Nat) (htl : t.length ≤ 10000000) (hop : op = subj)
    (hv : ∀ v ∈ valsL L.text op, (W.joined [v]).length ≤ 1000000 ∧ (wordW v).length ≤ 10000000) {kb : Nat} (hk : KyAt w kb ⟨op, t, f, n, (a, p, c), (d, q, g)⟩) :
    Calls Tryz.prog 117 #[.slice (some ⟨kb, 0, none⟩) 1 1, .func (.func 80) #[] #[.pointer (some ⟨mb, 0, none⟩), .pointer (some ⟨xb, 0, none⟩)]] w fun e w' => Seen w' b L ∧ e = .returned (.int .i64 (if asksB (valsL L.text op) t then -1 else 0)) ∧ Kept [b] w w' := by
  have C := denied_any he hb0 h hf ht hlo hm hmb hml hx hxb hxl op t f n a p c d q g htl hop hv
  have k0 := hk.cell 0
  have k1 := hk.cell 1
  have k2 := hk.cell 2
  have k3 := hk.cell 3
  have k4 := hk.cell 4
  have k5 := hk.cell 5
  simp only [Ky.c, sv, List.getElem?_cons_succ, List.getElem?_cons_zero] at k0 k1 k2 k3 k4 k5
  clear he h hf hv hop hm hx hk
  rcases hz : asksB (valsL L.text op) t with _ | _
  · rw [hz] at C
    clear hz
    go_enter Tryz.func117, Tryz.ntmps117
    go_wp2_with fail
    go_loopw [8] (fun i wr => i = .int .i64 0 ∧ wr = w) (fun _ _ => 0)
    case atStart => exact ⟨rfl, rfl⟩
    case round =>
      obtain ⟨rfl, rfl⟩ := hrel
      go_wp2_with fail
      refine C.mono ?_
      rintro e w2 ⟨hs, rfl, hk2⟩
      have HS := hid hs
      clear hs
      go_wp2_with fail
      go_ret
      exact ⟨HS.out, rfl, hk2⟩
  · rw [hz] at C
    clear hz
    go_enter Tryz.func117, Tryz.ntmps117
    go_wp2_with fail
    go_loopw [8] (fun i wr => (i = .int .i64 0 ∧ wr = w) ∨ (i = .int .i64 1 ∧ Seen wr b L ∧ Kept [b] w wr)) (fun i _ => 2 - (intOf i).toNat)
    case atStart => exact .inl ⟨rfl, rfl⟩
    case round =>
      rcases hrel with ⟨rfl, rfl⟩ | ⟨rfl, hs, hkp⟩
      · go_wp2_with fail
        refine C.mono ?_
        rintro e w2 ⟨hs, rfl, hk2⟩
        have HS := hid hs
        clear hs
        go_wp2_with fail
        go_roundw
        case rel => exact .inr ⟨rfl, HS.out, hk2⟩
        case measure => simp [intOf]
      · have HS := hid hs
        clear hs
        go_wp2_with fail
        go_ret
        exact ⟨HS.out, rfl, hkp⟩
set_option maxRecDepth 100000 in
set_option maxHeartbeats 1000000 in
theorem kid_any {w : World} {b mb xb : Nat} {L : Lk} (he : Env w) (hb0 : 0 < b) (h : LkAt w b L) (hf : FsOk w L) (ht : L.text.length ≤ 1000000) (hlo : L.lost = false) (hm : w.cell? ⟨mb, 0, none⟩ = some (.pointer (some ⟨b, 0, none⟩))) (hmb : mb ≠ b) (hml : mb < w.heap.size) (hx : w.cell? ⟨xb, 0, none⟩ = some (.bool false)) (hxb : xb ≠ b) (hxl : xb < w.heap.size)
    (op t f : Bs) (n : Int) (a : Option Addr) (p c : Nat) (d : Option Addr) (q g : Nat) (htl : t.length ≤ 10000000) (hop : op = subj)
    (hv : ∀ v ∈ valsL L.text op, (W.joined [v]).length ≤ 1000000 ∧ (wordW v).length ≤ 10000000) {kb : Nat} (hk : KyAt w kb ⟨op, t, f, n, (a, p, c), (d, q, g)⟩) :
    Calls Tryz.prog 79 #[.slice (some ⟨kb, 0, none⟩) 1 1, .func (.func 80) #[] #[.pointer (some ⟨mb, 0, none⟩), .pointer (some ⟨xb, 0, none⟩)]] w fun e w' => Seen w' b L ∧ e = .returned (.bool (!asksB (valsL L.text op) t)) ∧ Kept [b] w w' := by
  have C := kidx_any he hb0 h hf ht hlo hm hmb hml hx hxb hxl op t f n a p c d q g htl hop hv hk
  clear he h hf hv hop hm hx hk
  generalize asksB (valsL L.text op) t = z at *
  cases z
  · go_enter Tryz.func79, Tryz.ntmps79
    go_wp2_with fail
    refine C.mono ?_
    rintro e w2 ⟨hs, rfl, hk2⟩
    have HS := hid hs
    clear hs
    go_wp2_with fail
    go_ret
    exact ⟨HS.out, rfl, hk2⟩
  · go_enter Tryz.func79, Tryz.ntmps79
    go_wp2_with fail
    refine C.mono ?_
    rintro e w2 ⟨hs, rfl, hk2⟩
    have HS := hid hs
    clear hs
    go_wp2_with fail
    go_ret
    exact ⟨HS.out, rfl, hk2⟩
end Go.Proofs.YtaniljfjmbifnaaGreatDoor.H
namespace Go.Proofs.YtaniljfjmbifnaaGreatDoor.H
open Go.RowKit
set_option linter.unusedVariables false
set_option linter.unusedSimpArgs false

theorem str_at {L : Lk} {j : Nat} {x : ByteArray} (h : L.c[j]? = some (.string x)) : j = 9 := by
  have hj : j < 19 := by
    have := (List.getElem?_eq_some_iff.1 h).1
    simpa [Lk.c] using this
  rcases (by omega : j = 0 ∨ j = 1 ∨ j = 2 ∨ j = 3 ∨ j = 4 ∨ j = 5 ∨ j = 6 ∨ j = 7 ∨ j = 8 ∨ j = 9 ∨ j = 10 ∨ j = 11 ∨ j = 12 ∨ j = 13 ∨ j = 14 ∨ j = 15 ∨ j = 16 ∨ j = 17 ∨ j = 18) with rfl | rfl | rfl | rfl | rfl | rfl | rfl | rfl | rfl | rfl | rfl | rfl | rfl | rfl | rfl | rfl | rfl | rfl | rfl <;> simp_all [Lk.c, sv]
/-- Fields stay, where the block of the message alone is turned. -/
theorem rl_kept {w w' : World} {b : Nat} {L : Lk} {v : Value} {l : List (List Bs)} (h : RL w v 2 l) (hl : LkAt w b L) (hk : Kept [b] w w') : RL w' v 2 l := by
  obtain ⟨hw, a, c, rfl, hc, hr⟩ := h
  refine ⟨hw, a, c, rfl, hc, ?_⟩
  rcases hr with hr | ⟨g, o, rfl, hr, hg⟩
  · exact .inl hr
  · by_cases hgb : g = b
    · cases l with
      | nil => exact .inl rfl
      | cons r l =>
        exfalso
        have hr2 := hw r (List.mem_cons_self ..)
        match r, hr2 with
        | [x, y], _ =>
          have c0 := hr 0 0 [x, y] x rfl rfl
          have c1 := hr 0 1 [x, y] y rfl rfl
          rw [hgb, hl.cell] at c0 c1
          have e0 := str_at c0
          have e1 := str_at c1
          omega
    · exact .inr ⟨g, o, rfl, fun j i r p h1 h2 => cell_kept (hr j i r p h1 h2) hg hk hgb, Nat.lt_of_lt_of_le hg hk.size⟩
theorem LkAt.fs17 {w : World} {b : Nat} {L : Lk} (h : LkAt w b L) : w.frozen? ⟨b, 17, none⟩ = false := h.fz 17
set_option maxRecDepth 100000 in
set_option maxHeartbeats 4000000 in
theorem some_any {w : World} {b : Nat} {L : Lk} (he : Env w) (hb0 : 0 < b) (h : LkAt w b L) (hf : FsOk w L) (ht : L.text.length ≤ 1000000) (hlo : L.lost = false) (hde : L.deep = 0)
    (op t f : Bs) (n : Int) (a : Option Addr) (p c : Nat) (d : Option Addr) (q g : Nat) (htl : t.length ≤ 10000000) (hop : op = subj)
    (hv : ∀ v ∈ valsL L.text op, (W.joined [v]).length ≤ 1000000 ∧ (wordW v).length ≤ 10000000) {kb : Nat} (hk : KyAt w kb ⟨op, t, f, n, (a, p, c), (d, q, g)⟩) (hkb : kb ≠ b) :
    Calls Tryz.prog 44 #[.pointer (some ⟨b, 0, none⟩), .slice (some ⟨kb, 0, none⟩) 1 1, .bool false] w fun e w' => Seen w' b L ∧ e = .returned (.bool (!asksB (valsL L.text op) t)) ∧ Kept [b] w w' := by
  have ha : Below w.heap.size w ((w.alloc (.cells #[.pointer (some ⟨b, 0, none⟩)] 59)).alloc (.cells #[.bool false] 4)) := ((Below.refl _ _).alloc (Nat.le_refl _) _).alloc (by simp) _
  obtain ⟨w1, hw1⟩ : ∃ w1, (w.alloc (.cells #[.pointer (some ⟨b, 0, none⟩)] 59)).alloc (.cells #[.bool false] 4) = w1 := ⟨_, rfl⟩
  have hmc : w1.cell? ⟨w.heap.size, 0, none⟩ = some (.pointer (some ⟨b, 0, none⟩)) := by
    rw [← hw1]
    have : ((w.alloc (.cells #[.pointer (some ⟨b, 0, none⟩)] 59)).alloc (.cells #[.bool false] 4)).heap[w.heap.size]? = some (.cells #[.pointer (some ⟨b, 0, none⟩)] 59 (0, 0)) := by
      rw [show ((w.alloc (.cells #[.pointer (some ⟨b, 0, none⟩)] 59)).alloc (.cells #[.bool false] 4)).heap[w.heap.size]? = (w.alloc (.cells #[.pointer (some ⟨b, 0, none⟩)] 59)).heap[w.heap.size]? from ((Below.refl (w.alloc (.cells #[.pointer (some ⟨b, 0, none⟩)] 59)).heap.size (w.alloc (.cells #[.pointer (some ⟨b, 0, none⟩)] 59))).alloc (Nat.le_refl _) _).block _ (by simp)]
      exact heap_alloc_new _ _
    simp [World.cell?, this]
  have hxc : w1.cell? ⟨w.heap.size + 1, 0, none⟩ = some (.bool false) := by
    rw [← hw1]
    have := heap_alloc_new (w.alloc (.cells #[.pointer (some ⟨b, 0, none⟩)] 59)) (.cells #[.bool false] 4)
    rw [show (w.alloc (.cells #[.pointer (some ⟨b, 0, none⟩)] 59)).heap.size = w.heap.size + 1 by simp] at this
    unfold World.cell?
    simp only [this]
    rfl
  have hsz : w1.heap.size = w.heap.size + 2 := by rw [← hw1]; simp
  rw [hw1] at ha
  have HB := hid ha
  have HLt := hid h.lt
  have HE := hid (he.later ha)
  have HA := hid (h.later ha)
  have HFs : Hid (FsOk w1 L) := fun hr => (hf hr).later ha
  have HK := hid (hk.later ha)
  have HKl := hid hk.lt
  have HM := hid hmc
  have HX := hid hxc
  have HT := hid ht
  have HTL := hid htl
  have HV := hid hv
  have HOp := hid hop
  have HSz := hid hsz
  have l17 := HA.out.cell 17
  have l18 := HA.out.cell 18
  have z17 := HA.out.fz 17
  simp only [Lk.c, List.getElem?_cons_succ, List.getElem?_cons_zero] at l17 l18
  rw [hlo] at l18
  rw [hde] at l17
  have hF := fldk b
  have f6 := fun w => (hF w).2.2.2.2.2.2.1
  have f7 := fun w => (hF w).2.2.2.2.2.2.2.1
  clear he h hf hv hop hF hk ha ht htl
  go_enter Tryz.func44, Tryz.ntmps44
  go_wp2_with fail
  obtain ⟨w2, hw2⟩ : ∃ w2, w1.setCell ⟨b, 17, none⟩ (.int .i64 1) = w2 := ⟨_, rfl⟩
  have HA2 : Hid (LkAt w2 b { L with deep := 1 }) := by rw [← hw2]; exact HA.out.set17 1
  have HK2 : Hid (Kept [b] w1 w2) := by rw [← hw2]; exact Kept.setCell [b] w1 ⟨b, 17, none⟩ _ (by simp)
  rw [hw2]
  clear hw2 l17 l18 z17
  have m2 := cell_kept HM.out (by have := HSz.out; omega) HK2.out (by have := HLt.out; omega)
  have l17 := HA2.out.cell 17
  have l18 := HA2.out.cell 18
  have z18 := HA2.out.fz 18
  simp only [Lk.c, List.getElem?_cons_succ, List.getElem?_cons_zero] at l17 l18
  rw [hlo] at l18
  have qc : w2.cell? ⟨w.heap.size, 0, none⟩ = some (.pointer (some ⟨b, 0, none⟩)) ∧ w2.cell? ⟨b, 17, none⟩ = some (.int .i64 1) ∧ w2.cell? ⟨b, 18, none⟩ = some (.bool false) := ⟨m2, l17, l18⟩
  have HSt : Hid (∀ w' : World, LkAt w' b { L with deep := 1 } → w'.cell? ⟨w.heap.size, 0, none⟩ = some (.pointer (some ⟨b, 0, none⟩)) → (w'.setCell ⟨b, 18, none⟩ (.bool false)).cell? ⟨w.heap.size, 0, none⟩ = some (.pointer (some ⟨b, 0, none⟩)) ∧ (w'.setCell ⟨b, 18, none⟩ (.bool false)).cell? ⟨b, 17, none⟩ = some (.int .i64 1) ∧ (w'.setCell ⟨b, 18, none⟩ (.bool false)).cell? ⟨b, 18, none⟩ = some (.bool false)) := by
    intro w' hl hmm
    have hs := hl.set18 false
    have s17 := hs.cell 17
    have s18 := hs.cell 18
    simp only [Lk.c, List.getElem?_cons_succ, List.getElem?_cons_zero] at s17 s18
    refine ⟨?_, s17, s18⟩
    exact (World.cell?_of_block ((Kept.setCell [b] w' ⟨b, 18, none⟩ (.bool false) (by simp)).block w.heap.size (by
      by_cases hlt : w.heap.size < w'.heap.size
      · exact hlt
      · simp [World.cell?, show w'.heap[w.heap.size]? = none from Array.getElem?_eq_none (by omega)] at hmm) (by have := HLt.out; simp; omega))).trans hmm
  clear m2 l17 l18
  go_region_held3 (fun w' => w'.cell? ⟨w.heap.size, 0, none⟩ = some (.pointer (some ⟨b, 0, none⟩)) ∧ w'.cell? ⟨b, 17, none⟩ = some (.int .i64 1) ∧ w'.cell? ⟨b, 18, none⟩ = some (.bool false)) (first | exact qc | exact HSt.out _ HA2.out qc.1 | go_keep) (fail)
  obtain ⟨w3, hw3⟩ : ∃ w3, (w2.setCell ⟨b, 18, none⟩ (.bool false)).drew = w3 := ⟨_, rfl⟩
  have HA3 : Hid (LkAt w3 b { L with deep := 1, lost := false }) := by rw [← hw3]; exact HA2.out.set18 false
  have HK3 : Hid (Kept [b] w1 w3) := by rw [← hw3]; exact kept_t (kept_t HK2.out (Kept.setCell [b] w2 ⟨b, 18, none⟩ _ (by simp))) (Kept.drew [b] _)
  rw [hw3]
  clear hw3 qc z18 HSt
  have hsz2 := HSz.out
  have hbl := HLt.out
  have hz3 := HK3.out.size
  have C := kid_any (env_kept HE.out hb0 (by omega) HK3.out) hb0 HA3.out (fun hr => by
      have h1 := HFs.out hr
      exact rl_kept h1 HA.out HK3.out) HT.out rfl (mb := w.heap.size) (xb := w.heap.size + 1) (cell_kept HM.out (by omega) HK3.out (by omega)) (by omega) (by omega) (cell_kept HX.out (by omega) HK3.out (by omega)) (by omega) (by omega) op t f n a p c d q g HTL.out HOp.out HV.out (HK.out.kept HK3.out (by simpa using hkb))
  have m3 := cell_kept HM.out (by omega) HK3.out (by omega)
  clear hsz2 hbl hz3 hmc hxc hsz
  go_wp2_with fail
  refine C.mono ?_
  rintro e w4 ⟨⟨fs, hl4, hf4⟩, rfl, hk4⟩
  have m4 := cell_kept m3 (by have := HSz.out; have := HK3.out.size; omega) hk4 (by have := HLt.out; omega)
  have HA4 := hid hl4
  have HF4 := hid hf4
  have HK4 := hid (kept_t HK3.out hk4)
  have l17 := hl4.cell 17
  have z17 := hl4.fz 17
  simp only [Lk.c, List.getElem?_cons_succ, List.getElem?_cons_zero] at l17
  clear hl4 hf4 hk4 C m3
  go_wp2_with fail
  go_ret
  have hq := HA4.out.set17 0
  have e1 : ({ L with deep := 0, lost := false, rd := true, fs := fs } : Lk) = { L with rd := true, fs := fs } := by cases L; simp_all
  refine ⟨⟨fs, ?_, ?_⟩, rfl, ?_⟩
  · rw [← e1]; exact hq
  · intro hr
    exact rl_kept (HF4.out rfl) HA4.out (Kept.setCell [b] w4 ⟨b, 17, none⟩ (.int .i64 0) (by simp))
  · exact kept_t (kept_t (Kept.ofBelow HB.out [b]) HK4.out) (Kept.setCell [b] w4 ⟨b, 17, none⟩ (.int .i64 0) (by simp))
end Go.Proofs.YtaniljfjmbifnaaGreatDoor.H
namespace Go.Proofs.YtaniljfjmbifnaaGreatDoor.H
open Go.RowKit
set_option linter.unusedVariables false
set_option linter.unusedSimpArgs false

def notO : Bs := [78, 79, 84]
set_option maxRecDepth 100000 in
set_option maxHeartbeats 4000000 in
theorem deny_any {w : World} {b : Nat} {L : Lk} (he : Env w) (hb0 : 0 < b) (h : LkAt w b L) (hf : FsOk w L) (ht : L.text.length ≤ 1000000) (hlo : L.lost = false) (hde : L.deep = 0)
    (op t f : Bs) (n : Int) (a : Option Addr) (p c : Nat) (d : Option Addr) (q g : Nat) (htl : t.length ≤ 10000000) (hop : op = subj)
    (hv : ∀ v ∈ valsL L.text op, (W.joined [v]).length ≤ 1000000 ∧ (wordW v).length ≤ 10000000) {kb : Nat} (hk : KyAt w kb ⟨op, t, f, n, (a, p, c), (d, q, g)⟩) (hkb : kb ≠ b)
    (no t' f' : Bs) (n' : Int) (a' : Option Addr) (p' c' : Nat) (hno : no = notO) :
    Calls Tryz.prog 23 #[.pointer (some ⟨b, 0, none⟩), .agg #[.string (str no), .string (str t'), .string (str f'), .int .i64 n', .slice a' p' c', .slice (some ⟨kb, 0, none⟩) 1 1]] w fun e w' => Seen w' b L ∧ e = .returned (.bool (!asksB (valsL L.text op) t)) ∧ Kept [b] w w' := by
  have q0 : ((str no).toList == ([65, 76, 76] : Bs)) = false := by rw [toL, hno]; decide
  have q1 : ((str no).toList == ([65, 78, 83, 87, 69, 82, 69, 68] : Bs)) = false := by rw [toL, hno]; decide
  have q2 : ((str no).toList == ([68, 69, 76, 69, 84, 69, 68] : Bs)) = false := by rw [toL, hno]; decide
  have q3 : ((str no).toList == ([68, 82, 65, 70, 84] : Bs)) = false := by rw [toL, hno]; decide
  have q4 : ((str no).toList == ([70, 76, 65, 71, 71, 69, 68] : Bs)) = false := by rw [toL, hno]; decide
  have q5 : ((str no).toList == ([83, 69, 69, 78] : Bs)) = false := by rw [toL, hno]; decide
  have q6 : ((str no).toList == ([85, 78, 65, 78, 83, 87, 69, 82, 69, 68] : Bs)) = false := by rw [toL, hno]; decide
  have q7 : ((str no).toList == ([85, 78, 68, 69, 76, 69, 84, 69, 68] : Bs)) = false := by rw [toL, hno]; decide
  have q8 : ((str no).toList == ([85, 78, 68, 82, 65, 70, 84] : Bs)) = false := by rw [toL, hno]; decide
  have q9 : ((str no).toList == ([85, 78, 70, 76, 65, 71, 71, 69, 68] : Bs)) = false := by rw [toL, hno]; decide
  have q10 : ((str no).toList == ([85, 78, 83, 69, 69, 78] : Bs)) = false := by rw [toL, hno]; decide
  have q11 : ((str no).toList == ([75, 69, 89, 87, 79, 82, 68] : Bs)) = false := by rw [toL, hno]; decide
  have q12 : ((str no).toList == ([85, 78, 75, 69, 89, 87, 79, 82, 68] : Bs)) = false := by rw [toL, hno]; decide
  have q13 : ((str no).toList == ([66, 67, 67] : Bs)) = false := by rw [toL, hno]; decide
  have q14 : ((str no).toList == ([67, 67] : Bs)) = false := by rw [toL, hno]; decide
  have q15 : ((str no).toList == ([70, 82, 79, 77] : Bs)) = false := by rw [toL, hno]; decide
  have q16 : ((str no).toList == ([83, 85, 66, 74, 69, 67, 84] : Bs)) = false := by rw [toL, hno]; decide
  have q17 : ((str no).toList == ([84, 79] : Bs)) = false := by rw [toL, hno]; decide
  have q18 : ((str no).toList == ([72, 69, 65, 68, 69, 82] : Bs)) = false := by rw [toL, hno]; decide
  have q19 : ((str no).toList == ([66, 79, 68, 89] : Bs)) = false := by rw [toL, hno]; decide
  have q20 : ((str no).toList == ([84, 69, 88, 84] : Bs)) = false := by rw [toL, hno]; decide
  have q21 : ((str no).toList == ([66, 69, 70, 79, 82, 69] : Bs)) = false := by rw [toL, hno]; decide
  have q22 : ((str no).toList == ([79, 78] : Bs)) = false := by rw [toL, hno]; decide
  have q23 : ((str no).toList == ([83, 73, 78, 67, 69] : Bs)) = false := by rw [toL, hno]; decide
  have q24 : ((str no).toList == ([83, 69, 78, 84, 66, 69, 70, 79, 82, 69] : Bs)) = false := by rw [toL, hno]; decide
  have q25 : ((str no).toList == ([83, 69, 78, 84, 79, 78] : Bs)) = false := by rw [toL, hno]; decide
  have q26 : ((str no).toList == ([83, 69, 78, 84, 83, 73, 78, 67, 69] : Bs)) = false := by rw [toL, hno]; decide
  have q27 : ((str no).toList == ([76, 65, 82, 71, 69, 82] : Bs)) = false := by rw [toL, hno]; decide
  have q28 : ((str no).toList == ([83, 77, 65, 76, 76, 69, 82] : Bs)) = false := by rw [toL, hno]; decide
  have q29 : ((str no).toList == ([83, 69, 81] : Bs)) = false := by rw [toL, hno]; decide
  have q30 : ((str no).toList == ([85, 73, 68] : Bs)) = false := by rw [toL, hno]; decide
  have q99 : ((str no).toList == ([78, 79, 84] : Bs)) = true := by rw [toL, hno]; decide
  clear hno
  have ha : Below w.heap.size w (w.alloc (.cells #[.string (str no), .string (str t'), .string (str f'), .int .i64 n', .slice a' p' c', .slice (some ⟨kb, 0, none⟩) 1 1] 28)) := (Below.refl _ _).alloc (Nat.le_refl _) _
  obtain ⟨w1, hw1⟩ : ∃ w1, w.alloc (.cells #[.string (str no), .string (str t'), .string (str f'), .int .i64 n', .slice a' p' c', .slice (some ⟨kb, 0, none⟩) 1 1] 28) = w1 := ⟨_, rfl⟩
  have HKy : Hid (KyAt w1 w.heap.size ⟨no, t', f', n', (a', p', c'), (some ⟨kb, 0, none⟩, 1, 1)⟩) := by rw [← hw1]; exact KyAt.new w ⟨no, t', f', n', (a', p', c'), (some ⟨kb, 0, none⟩, 1, 1)⟩
  rw [hw1] at ha
  have C := some_any (he.later ha) hb0 (h.later ha) (fun hr => (hf hr).later ha) ht hlo hde op t f n a p c d q g htl hop hv (hk.later ha) hkb
  have HB := hid ha
  have k0 := HKy.out.cell 0
  have k5 := HKy.out.cell 5
  simp only [Ky.c, sv, List.getElem?_cons_succ, List.getElem?_cons_zero] at k0 k5
  clear he h hf hv hk ha hop
  generalize asksB (valsL L.text op) t = z at *
  go_enter Tryz.func23, Tryz.ntmps23
  go_wp2_with fail
  clear hw1
  refine C.mono ?_
  rintro e w2 ⟨hs, rfl, hk2⟩
  have HS := hid hs
  have HK2 := hid (kept_t (Kept.ofBelow HB.out [b]) hk2)
  clear hs hk2 C k0 k5
  go_wp2_with fail
  go_ret
  exact ⟨HS.out, rfl, HK2.out⟩
theorem cell_of {w : World} {b j : Nat} {cs : Array Value} {T : TypeId} {v : Value} (h : w.heap[b]? = some (.cells cs T (0, 0))) (hv : cs[j]? = some v) : w.cell? ⟨b, j, none⟩ = some v := by
  simp [World.cell?, h, hv]
theorem below_of_kept {w w1 w2 : World} {b : Nat} (h : Below w.heap.size w w1) (hk : Kept [b] w1 w2) (hb : w.heap.size ≤ b) : Below w.heap.size w w2 :=
  h.trans (hk.below (by simpa using hb) h.size)
def rowK (w : World) (A : Nat) (L : Lk) : World := w.setRow A L.c.toArray
theorem rowK_is {w : World} {A : Nat} {L' : Lk} (h : LkAt w A L') (L : Lk) : LkAt (rowK w A L) A L := setRow_heap w A _ _ 48 _ h
theorem rowK_self (w : World) (A : Nat) (L : Lk) : Kept [A] w (rowK w A L) := ⟨rfl, rfl, rfl, by simp [rowK], fun k _ hk => setRow_other w A k _ (fun e => hk (by simp [e]))⟩
theorem exec_store48 {a : Act} {x y : Operand} {A : Nat} {L L' : Lk} {w : World} {ds : Option Tmp} {ty : Nat} {pos : String} {af : Array Edge} {gd : Option (Nat × Bool)}
    (hx : a.eval x = .pointer (some ⟨A, 0, none⟩)) (hy : a.eval y = .agg L.c.toArray) (hA : LkAt w A L') :
    (execOp a.eval ⟨ds, .store 48 x y, ty, pos, af, gd⟩).run Tryz.prog w = .ok .skip (rowK w A L) := by
  have h := run_storeVar_row (P := Tryz.prog) w A 48 48 _ L.c.toArray hA (by kernel_rfl) rfl (by simp [Lk.c, Value.oneCell', sv])
  simp [execOp, hx, hy, Instr.storeAt, Instr.sureAddr, h, rowK]
theorem wpList_store48 {ops : Array Oper} {rest : List Oper} {Q : Exit → Act → World → Prop} {a : Act} {x y : Operand} {A : Nat} {L L' : Lk} {w : World} {ty : Nat} {pos : String} {af : Array Edge}
    (hx : a.eval x = .pointer (some ⟨A, 0, none⟩)) (hy : a.eval y = .agg L.c.toArray) (hA : LkAt w A L')
    (h : wpList Tryz.prog ops Q rest a (rowK w A L)) : wpList Tryz.prog ops Q (⟨none, .store 48 x y, ty, pos, af, none⟩ :: rest) a w := by
  refine wpList_plain rfl fun K hK => ?_
  unfold Oper.wp
  rw [exec_store48 hx hy hA]
  exact hK _ _ h
def zLk : Lk := ⟨0, (none, 0, 0), 0, 0, 0, 0, 0, 0, 0, [], 0, 0, 0, 0, 0, false, (none, 0, 0), 0, false⟩
/-- What a match answers, when its key is gone through. -/
def Fresh (L : Lk) : Prop := L.rd = false ∧ L.deep = 0 ∧ L.lost = false ∧ L.fs = (none, 0, 0)
theorem LkAt.new (w : World) (L : Lk) : LkAt (w.alloc (.cells L.c.toArray 48)) w.heap.size L := heap_alloc_new _ _
set_option maxRecDepth 100000 in
set_option maxHeartbeats 4000000 in
theorem match_any {w : World} (op t f : Bs) (n : Int) (a : Option Addr) (p c : Nat) (d : Option Addr) (q g : Nat) (uid : Int) (fa : Option Addr) (fn fc : Nat) (d1 d2 d3 d4 d5 d6 d7 : Int) (text : Bs) (size id seq most mu : Int) (z : Bool)
    (C : ∀ w1 b, w.heap.size ≤ b → LkAt w1 b ⟨uid, (fa, fn, fc), d1, d2, d3, d4, d5, d6, d7, text, size, id, seq, most, mu, false, (none, 0, 0), 0, false⟩ → Below w.heap.size w w1 →
      Calls Tryz.prog 23 #[.pointer (some ⟨b, 0, none⟩), .agg #[.string (str op), .string (str t), .string (str f), .int .i64 n, .slice a p c, .slice d q g]] w1 fun e w' => Seen w' b ⟨uid, (fa, fn, fc), d1, d2, d3, d4, d5, d6, d7, text, size, id, seq, most, mu, false, (none, 0, 0), 0, false⟩ ∧ e = .returned (.bool z) ∧ Kept [b] w1 w') :
    Calls Tryz.prog 11 #[.agg #[.string (str op), .string (str t), .string (str f), .int .i64 n, .slice a p c, .slice d q g], .agg #[.int .i64 uid, .slice fa fn fc, .int .i64 d1, .int .i64 d2, .int .i64 d3, .int .i64 d4, .int .i64 d5, .int .i64 d6, .int .i64 d7, .string (str text), .int .i64 size, .int .i64 id], .int .i64 seq, .int .i64 most, .int .i64 mu] w fun e w' => e = .returned (.bool z) ∧ Below w.heap.size w w' := by
  obtain ⟨wa, hwa⟩ : ∃ wa, w.alloc (.cells #[.string (str op), .string (str t), .string (str f), .int .i64 n, .slice a p c, .slice d q g] 28) = wa := ⟨_, rfl⟩
  have ba : Below w.heap.size w wa := by rw [← hwa]; exact (Below.refl _ _).alloc (Nat.le_refl _) _
  have sa : wa.heap.size = w.heap.size + 1 := by rw [← hwa]; simp
  have hka : wa.heap[w.heap.size]? = some (.cells #[.string (str op), .string (str t), .string (str f), .int .i64 n, .slice a p c, .slice d q g] 28 (0, 0)) := by rw [← hwa]; exact heap_alloc_new _ _
  obtain ⟨wb, hwb⟩ : ∃ wb, wa.alloc (.cells #[.int .i64 uid, .slice fa fn fc, .int .i64 d1, .int .i64 d2, .int .i64 d3, .int .i64 d4, .int .i64 d5, .int .i64 d6, .int .i64 d7, .string (str text), .int .i64 size, .int .i64 id] 33) = wb := ⟨_, rfl⟩
  have bb : Below wa.heap.size wa wb := by rw [← hwb]; exact (Below.refl _ _).alloc (Nat.le_refl _) _
  have sb : wb.heap.size = wa.heap.size + 1 := by rw [← hwb]; simp
  have hmb : wb.heap[wa.heap.size]? = some (.cells #[.int .i64 uid, .slice fa fn fc, .int .i64 d1, .int .i64 d2, .int .i64 d3, .int .i64 d4, .int .i64 d5, .int .i64 d6, .int .i64 d7, .string (str text), .int .i64 size, .int .i64 id] 33 (0, 0)) := by rw [← hwb]; exact heap_alloc_new _ _
  obtain ⟨wz, hwz⟩ : ∃ wz, wb.alloc (.cells #[.int .i64 0, .slice none 0 0, .int .i64 0, .int .i64 0, .int .i64 0, .int .i64 0, .int .i64 0, .int .i64 0, .int .i64 0, .string ⟨#[]⟩, .int .i64 0, .int .i64 0, .int .i64 0, .int .i64 0, .int .i64 0, .bool false, .slice none 0 0, .int .i64 0, .bool false] 48) = wz := ⟨_, rfl⟩
  have bz : Below wb.heap.size wb wz := by rw [← hwz]; exact (Below.refl _ _).alloc (Nat.le_refl _) _
  have hz1 : LkAt wz wb.heap.size zLk := by rw [← hwz]; exact LkAt.new wb zLk
  have hmz : wz.heap[wa.heap.size]? = some (.cells #[.int .i64 uid, .slice fa fn fc, .int .i64 d1, .int .i64 d2, .int .i64 d3, .int .i64 d4, .int .i64 d5, .int .i64 d6, .int .i64 d7, .string (str text), .int .i64 size, .int .i64 id] 33 (0, 0)) := (bz.block _ (by omega)).trans hmb
  have hkz : wz.heap[w.heap.size]? = some (.cells #[.string (str op), .string (str t), .string (str f), .int .i64 n, .slice a p c, .slice d q g] 28 (0, 0)) := ((bz.block _ (by omega)).trans (bb.block _ (by omega))).trans hka
  obtain ⟨wc, hwc⟩ : ∃ wc, rowK wz wb.heap.size ⟨uid, (fa, fn, fc), d1, d2, d3, d4, d5, d6, d7, text, size, id, seq, most, mu, false, (none, 0, 0), 0, false⟩ = wc := ⟨_, rfl⟩
  have hl1 : LkAt wc wb.heap.size ⟨uid, (fa, fn, fc), d1, d2, d3, d4, d5, d6, d7, text, size, id, seq, most, mu, false, (none, 0, 0), 0, false⟩ := by rw [← hwc]; exact rowK_is hz1 _
  have kc := rowK_self wz wb.heap.size ⟨uid, (fa, fn, fc), d1, d2, d3, d4, d5, d6, d7, text, size, id, seq, most, mu, false, (none, 0, 0), 0, false⟩
  rw [hwc] at kc
  have hz2 := hz1.lt
  have hkc : wc.heap[w.heap.size]? = some (.cells #[.string (str op), .string (str t), .string (str f), .int .i64 n, .slice a p c, .slice d q g] 28 (0, 0)) := (kc.block _ (by omega) (by simp; omega)).trans hkz
  have hb1 : Below w.heap.size w wc := ((ba.trans (bb.mono (by omega))).trans (bz.mono (by omega))).trans (kc.below (by simp; omega) (by omega))
  have m0 : wb.cell? ⟨wa.heap.size, 0, none⟩ = some (.int .i64 uid) := cell_of hmb rfl
  have m1 : wb.cell? ⟨wa.heap.size, 1, none⟩ = some (.slice fa fn fc) := cell_of hmb rfl
  have m2 : wb.cell? ⟨wa.heap.size, 2, none⟩ = some (.int .i64 d1) := cell_of hmb rfl
  have m3 : wb.cell? ⟨wa.heap.size, 3, none⟩ = some (.int .i64 d2) := cell_of hmb rfl
  have m4 : wb.cell? ⟨wa.heap.size, 4, none⟩ = some (.int .i64 d3) := cell_of hmb rfl
  have m5 : wb.cell? ⟨wa.heap.size, 5, none⟩ = some (.int .i64 d4) := cell_of hmb rfl
  have m6 : wb.cell? ⟨wa.heap.size, 6, none⟩ = some (.int .i64 d5) := cell_of hmb rfl
  have m7 : wb.cell? ⟨wa.heap.size, 7, none⟩ = some (.int .i64 d6) := cell_of hmb rfl
  have m8 : wb.cell? ⟨wa.heap.size, 8, none⟩ = some (.int .i64 d7) := cell_of hmb rfl
  have m9 : wb.cell? ⟨wa.heap.size, 9, none⟩ = some (.string (str text)) := cell_of hmb rfl
  have m10 : wb.cell? ⟨wa.heap.size, 10, none⟩ = some (.int .i64 size) := cell_of hmb rfl
  have m11 : wb.cell? ⟨wa.heap.size, 11, none⟩ = some (.int .i64 id) := cell_of hmb rfl
  have mz0 : wz.cell? ⟨wa.heap.size, 0, none⟩ = some (.int .i64 uid) := cell_of hmz rfl
  have mz1 : wz.cell? ⟨wa.heap.size, 1, none⟩ = some (.slice fa fn fc) := cell_of hmz rfl
  have mz2 : wz.cell? ⟨wa.heap.size, 2, none⟩ = some (.int .i64 d1) := cell_of hmz rfl
  have mz3 : wz.cell? ⟨wa.heap.size, 3, none⟩ = some (.int .i64 d2) := cell_of hmz rfl
  have mz4 : wz.cell? ⟨wa.heap.size, 4, none⟩ = some (.int .i64 d3) := cell_of hmz rfl
  have mz5 : wz.cell? ⟨wa.heap.size, 5, none⟩ = some (.int .i64 d4) := cell_of hmz rfl
  have mz6 : wz.cell? ⟨wa.heap.size, 6, none⟩ = some (.int .i64 d5) := cell_of hmz rfl
  have mz7 : wz.cell? ⟨wa.heap.size, 7, none⟩ = some (.int .i64 d6) := cell_of hmz rfl
  have mz8 : wz.cell? ⟨wa.heap.size, 8, none⟩ = some (.int .i64 d7) := cell_of hmz rfl
  have mz9 : wz.cell? ⟨wa.heap.size, 9, none⟩ = some (.string (str text)) := cell_of hmz rfl
  have mz10 : wz.cell? ⟨wa.heap.size, 10, none⟩ = some (.int .i64 size) := cell_of hmz rfl
  have mz11 : wz.cell? ⟨wa.heap.size, 11, none⟩ = some (.int .i64 id) := cell_of hmz rfl
  have k0 : wc.cell? ⟨w.heap.size, 0, none⟩ = some (.string (str op)) := cell_of hkc rfl
  have k1 : wc.cell? ⟨w.heap.size, 1, none⟩ = some (.string (str t)) := cell_of hkc rfl
  have k2 : wc.cell? ⟨w.heap.size, 2, none⟩ = some (.string (str f)) := cell_of hkc rfl
  have k3 : wc.cell? ⟨w.heap.size, 3, none⟩ = some (.int .i64 n) := cell_of hkc rfl
  have k4 : wc.cell? ⟨w.heap.size, 4, none⟩ = some (.slice a p c) := cell_of hkc rfl
  have k5 : wc.cell? ⟨w.heap.size, 5, none⟩ = some (.slice d q g) := cell_of hkc rfl
  have D := C wc wb.heap.size (by omega) hl1 hb1
  have HB1 := hid hb1
  have HS1 : Hid (w.heap.size ≤ wb.heap.size) := by unfold Hid; omega
  have hF := fldk wb.heap.size
  have f7 := fun w => (hF w).2.2.2.2.2.2.2.1
  have HZ1 := hid hz1
  clear C hF hl1 hkc hmb hka ba bb bz sa sb hb1 hmz hkz kc hz2 hz1
  go_enter Tryz.func11, Tryz.ntmps11
  go_wp2_with (refine wpList_store48 (L := ⟨uid, (fa, fn, fc), d1, d2, d3, d4, d5, d6, d7, text, size, id, seq, most, mu, false, (none, 0, 0), 0, false⟩) rfl rfl HZ1.out ?_)
  refine D.mono ?_
  rintro e w2 ⟨⟨fs, hs, _⟩, rfl, hk⟩
  have l18 := hs.cell 18
  simp only [Lk.c, List.getElem?_cons_succ, List.getElem?_cons_zero] at l18
  have HB2 := hid (below_of_kept HB1.out hk HS1.out)
  clear hs hk D
  cases z
  · go_wp2_with fail
    go_ret
    exact ⟨rfl, HB2.out⟩
  · go_wp2_with fail
    go_ret
    exact ⟨rfl, HB2.out⟩
end Go.Proofs.YtaniljfjmbifnaaGreatDoor.H
