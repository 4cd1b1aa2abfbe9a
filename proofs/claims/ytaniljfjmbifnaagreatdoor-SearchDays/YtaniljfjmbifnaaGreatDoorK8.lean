/- What this text holds: a denied kid, as the program asks it. -/
import Derived.Test.YtaniljfjmbifnaaGreatDoorK7
namespace Go.Proofs.YtaniljfjmbifnaaGreatDoor.H
open Go.RowKit
set_option linter.unusedVariables false
set_option linter.unusedSimpArgs false

set_option maxRecDepth 100000 in
set_option maxHeartbeats 4000000 in
theorem kidx_any {w : World} {b mb xb : Nat} {L : Lk} (he : Env w) (hb0 : 0 < b) (h : LkAt w b L) (hf : FsOk w L) (ht : L.text.length ≤ 1000000) (hlo : L.lost = false) (hm : w.cell? ⟨mb, 0, none⟩ = some (.pointer (some ⟨b, 0, none⟩))) (hmb : mb ≠ b) (hml : mb < w.heap.size) (hx : w.cell? ⟨xb, 0, none⟩ = some (.bool false)) (hxb : xb ≠ b) (hxl : xb < w.heap.size)
    (op t f : Bs) (n : Int) (a : Option Addr) (p c : Nat) (d : Option Addr) (q g : Nat) (htl : t.length ≤ 10000000) (hop : op = subj)
    (hv : ∀ v ∈ valsL L.text op, (W.joined [v]).length ≤ 1000000 ∧ (wordW v).length ≤ 10000000) {kb : Nat} (hk : KyAt w kb ⟨op, t, f, n, (a, p, c), (d, q, g)⟩) :
    Calls Tryz.prog 117 #[.slice (some ⟨kb, 0, none⟩) 1 1, .func (.func 80) #[] #[.pointer (some ⟨mb, 0, none⟩), .pointer (some ⟨xb, 0, none⟩)]] w fun e w' => Seen w' b L ∧ e = .returned (.int .i64 (if asksB (valsL L.text op) t then -1 else 0)) ∧ Kept [b] w w' := by
  have C := denied_any he hb0 h hf ht hlo hm hmb hml hx hxb hxl op t f n a p c d q g htl hop hv
  have k0 := hk.cell 0
  have k1 := hk.cell 1
  have k2 := hk.cell 2
  have k3 := hk.cell 3
  have k4 := hk.cell 4
  have k5 := hk.cell 5
  simp only [Ky.c, sv, List.getElem?_cons_succ, List.getElem?_cons_zero] at k0 k1 k2 k3 k4 k5
  clear he h hf hv hop hm hx hk
  rcases hz : asksB (valsL L.text op) t with _ | _
  · rw [hz] at C
    clear hz
    go_enter Tryz.func117, Tryz.ntmps117
    go_wp2_with fail
    go_loopw [8] (fun i wr => i = .int .i64 0 ∧ wr = w) (fun _ _ => 0)
    case atStart => exact ⟨rfl, rfl⟩
    case round =>
      obtain ⟨rfl, rfl⟩ := hrel
      go_wp2_with fail
      refine C.mono ?_
      rintro e w2 ⟨hs, rfl, hk2⟩
      have HS := hid hs
      clear hs
      go_wp2_with fail
      go_ret
      exact ⟨HS.out, rfl, hk2⟩
  · rw [hz] at C
    clear hz
    go_enter Tryz.func117, Tryz.ntmps117
    go_wp2_with fail
    go_loopw [8] (fun i wr => (i = .int .i64 0 ∧ wr = w) ∨ (i = .int .i64 1 ∧ Seen wr b L ∧ Kept [b] w wr)) (fun i _ => 2 - (intOf i).toNat)
    case atStart => exact .inl ⟨rfl, rfl⟩
    case round =>
      rcases hrel with ⟨rfl, rfl⟩ | ⟨rfl, hs, hkp⟩
      · go_wp2_with fail
        refine C.mono ?_
        rintro e w2 ⟨hs, rfl, hk2⟩
        have HS := hid hs
        clear hs
        go_wp2_with fail
        go_roundw
        case rel => exact .inr ⟨rfl, HS.out, hk2⟩
        case measure => simp [intOf]
      · have HS := hid hs
        clear hs
        go_wp2_with fail
        go_ret
        exact ⟨HS.out, rfl, hkp⟩
set_option maxRecDepth 100000 in
set_option maxHeartbeats 1000000 in
theorem kid_any {w : World} {b mb xb : Nat} {L : Lk} (he : Env w) (hb0 : 0 < b) (h : LkAt w b L) (hf : FsOk w L) (ht : L.text.length ≤ 1000000) (hlo : L.lost = false) (hm : w.cell? ⟨mb, 0, none⟩ = some (.pointer (some ⟨b, 0, none⟩))) (hmb : mb ≠ b) (hml : mb < w.heap.size) (hx : w.cell? ⟨xb, 0, none⟩ = some (.bool false)) (hxb : xb ≠ b) (hxl : xb < w.heap.size)
    (op t f : Bs) (n : Int) (a : Option Addr) (p c : Nat) (d : Option Addr) (q g : Nat) (htl : t.length ≤ 10000000) (hop : op = subj)
    (hv : ∀ v ∈ valsL L.text op, (W.joined [v]).length ≤ 1000000 ∧ (wordW v).length ≤ 10000000) {kb : Nat} (hk : KyAt w kb ⟨op, t, f, n, (a, p, c), (d, q, g)⟩) :
    Calls Tryz.prog 79 #[.slice (some ⟨kb, 0, none⟩) 1 1, .func (.func 80) #[] #[.pointer (some ⟨mb, 0, none⟩), .pointer (some ⟨xb, 0, none⟩)]] w fun e w' => Seen w' b L ∧ e = .returned (.bool (!asksB (valsL L.text op) t)) ∧ Kept [b] w w' := by
  have C := kidx_any he hb0 h hf ht hlo hm hmb hml hx hxb hxl op t f n a p c d q g htl hop hv hk
  clear he h hf hv hop hm hx hk
  generalize asksB (valsL L.text op) t = z at *
  cases z
  · go_enter Tryz.func79, Tryz.ntmps79
    go_wp2_with fail
    refine C.mono ?_
    rintro e w2 ⟨hs, rfl, hk2⟩
    have HS := hid hs
    clear hs
    go_wp2_with fail
    go_ret
    exact ⟨HS.out, rfl, hk2⟩
  · go_enter Tryz.func79, Tryz.ntmps79
    go_wp2_with fail
    refine C.mono ?_
    rintro e w2 ⟨hs, rfl, hk2⟩
    have HS := hid hs
    clear hs
    go_wp2_with fail
    go_ret
    exact ⟨HS.out, rfl, hk2⟩
end Go.Proofs.YtaniljfjmbifnaaGreatDoor.H
