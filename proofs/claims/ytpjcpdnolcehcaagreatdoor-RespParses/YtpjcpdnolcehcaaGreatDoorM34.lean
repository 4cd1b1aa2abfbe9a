/- What this text holds: lists and sections that are made. -/
import Derived.Test.YtpjcpdnolcehcaaGreatDoorM32
namespace Go.Proofs.YtpjcpdnolcehcaaGreatDoor
open Go.RowKit
set_option linter.unusedVariables false
set_option linter.unusedSimpArgs false

set_option maxRecDepth 100000 in
theorem own_any (w : World) (u : Value) (ks : List Vl) (hu : VsAt w (· < w.heap.size) u ks) (hn : NumL ks) (hs : htL ks ≤ 90000) (hl : ks.length ≤ 100000000) :
    Calls Tryz.prog 46 #[u] w fun e w' => ∃ a c, e = .returned (.slice a ks.length c) ∧ VsAt w' (w.heap.size ≤ ·) (.slice a ks.length c) ks ∧ Below w.heap.size w w' := by
  obtain ⟨a, c, rfl, hc⟩ := hu.slice
  have C := cp_all (htL ks + 1) w 0 _ ks hu hn (by omega) (by omega) hl
  rw [show ((0 : Nat) : Int) = 0 from rfl] at C
  clear hu
  go_enter Tryz.func46, Tryz.ntmps46
  go_wp2_with fail
  refine C.mono ?_
  rintro e w2 ⟨a2, c2, rfl, hv, hb⟩
  have HV := hid hv
  have HB := hid hb
  clear hv hb C
  go_wp2_with fail
  go_ret
  exact ⟨_, _, rfl, HV.out, HB.out⟩
/-- A value that was made. -/
def MdIs (v : Vl) (w : World) (e : Ending) (w' : World) : Prop := ∃ r, e = .returned (vV r) ∧ VAt w' (w.heap.size ≤ ·) r v ∧ Below w.heap.size w w'
theorem md_fin {w w2 : World} {r : Rw} {v : Vl} (hv : VAt w2 (w.heap.size + 1 ≤ ·) r v) (hb : Below w.heap.size w w2) : MdIs v w (.returned (vV r)) (row5 w2 w.heap.size r) := by
  have q := row5_self w2 w.heap.size r
  have q2 := q.below (B := w.heap.size) (by simp) hb.size
  exact ⟨r, rfl, (hv.kept q (by intro i hi; simp at hi; omega)).mono (fun p _ hp => by omega), hb.trans q2⟩
set_option maxRecDepth 100000 in
set_option maxHeartbeats 1000000 in
theorem list_any (w : World) (u : Value) (ks : List Vl) (hu : VsAt w (· < w.heap.size) u ks) (hn : NumL ks) (hs : htL ks ≤ 90000) (hl : ks.length ≤ 100000000) :
    Calls Tryz.prog 27 #[u] w (MdIs (.mk 4 [] 0 ks []) w) := by
  have hZ := below_zero w
  have C := own_any (w.alloc zO) u ks ((hu.later hZ).mono (fun q hq _ => hq)) hn hs hl
  have HZ := hid hZ
  have HV := hid (V5.zero w)
  have HS : Hid ((w.alloc zO).heap.size = w.heap.size + 1) := by simp [Hid]
  obtain ⟨a, c, rfl, hc⟩ := hu.slice
  clear hu hZ
  go_enter Tryz.func27, Tryz.ntmps27
  go_wp2_with fail
  refine C.mono ?_
  rintro e w2 ⟨a2, c2, rfl, hv, hb⟩
  have A4 := hid (HV.out.later hb)
  have HB := hid (HZ.out.trans (hb.mono HZ.out.size))
  have HVs := hid (VAt.list (u := (a2, ks.length, c2)) (hv.mono (N' := (w.heap.size + 1 ≤ ·)) (fun q _ hq => by have := HS.out; omega)))
  clear hv hb C
  go_wp2_with (refine wpList_store43 (r := ⟨4, [], 0, (a2, ks.length, c2), (none, 0, 0)⟩) rfl rfl A4.out ?_)
  have p1 := row5_is A4.out ⟨4, [], 0, (a2, ks.length, c2), (none, 0, 0)⟩
  exact bodyPost_ret (w := row5 w2 w.heap.size ⟨4, [], 0, (a2, ks.length, c2), (none, 0, 0)⟩) (resV rfl rfl p1) rfl (md_fin HVs.out HB.out)
set_option maxRecDepth 100000 in
set_option maxHeartbeats 1000000 in
theorem sect_any (w : World) (x : Bs) (f u : Value) (fs : List Int) (ks : List Vl) (hf : LAt eI w (· < w.heap.size) f fs) (hu : VsAt w (· < w.heap.size) u ks) (hn : NumL ks) (hs : htL ks ≤ 90000) (hl : ks.length ≤ 100000000) (hfl : fs.length ≤ 100000000) :
    Calls Tryz.prog 20 #[.string (str x), f, u] w (MdIs (.mk 5 x 0 ks fs) w) := by
  have hZ := below_zero w
  have CF := ownn_any (w.alloc zO) _ f fs (hf.kept (Kept.ofBelow hZ []) (by simp)) hfl
  have HZ := hid hZ
  have HV := hid (V5.zero w)
  have HS : Hid ((w.alloc zO).heap.size = w.heap.size + 1) := by simp [Hid]
  obtain ⟨a, c, rfl, hc⟩ := hu.slice
  obtain ⟨fa, fc, rfl, hfc⟩ := hf.slice
  have HU := hid (hu.later hZ)
  clear hu hZ hf
  go_enter Tryz.func20, Tryz.ntmps20
  go_wp2_with fail
  refine CF.mono ?_
  rintro e w1 ⟨a1, c1, rfl, hf1, hb1⟩
  have C := own_any w1 (.slice a ks.length c) ks ((HU.out.later hb1).mono (fun q hq _ => hq)) hn hs hl
  have HF1 := hid hf1
  have HB1 := hid hb1
  clear hf1 hb1 CF
  go_wp2_with fail
  refine C.mono ?_
  rintro e w2 ⟨a2, c2, rfl, hv, hb⟩
  have A4 := hid ((HV.out.later HB1.out).later hb)
  have HB := hid (HZ.out.trans ((HB1.out.trans (hb.mono HB1.out.size)).mono HZ.out.size))
  have HVs : Hid (VAt w2 (w.heap.size + 1 ≤ ·) ⟨5, x, 0, (a2, ks.length, c2), (a1, fs.length, c1)⟩ (.mk 5 x 0 ks fs)) := by
    have h1 : LAt eI w2 (w.heap.size + 1 ≤ ·) (.slice a1 fs.length c1) fs := (HF1.out.kept (Kept.ofBelow hb []) (by simp)).mono (fun q _ hq => by have := HS.out; omega)
    have h2 : VsAt w2 (w.heap.size + 1 ≤ ·) (.slice a2 ks.length c2) ks := hv.mono (fun q _ hq => by have := HS.out; have := HB1.out.size; omega)
    exact ⟨⟨rfl, rfl, rfl, h1⟩, h2⟩
  clear hv hb C
  go_wp2_with (refine wpList_store43 (r := ⟨5, x, 0, (a2, ks.length, c2), (a1, fs.length, c1)⟩) rfl rfl A4.out ?_)
  have p1 := row5_is A4.out ⟨5, x, 0, (a2, ks.length, c2), (a1, fs.length, c1)⟩
  exact bodyPost_ret (w := row5 w2 w.heap.size ⟨5, x, 0, (a2, ks.length, c2), (a1, fs.length, c1)⟩) (resV rfl rfl p1) rfl (md_fin HVs.out HB.out)
set_option maxRecDepth 100000 in
theorem no_any (n : Int) (w : World) : Calls Tryz.prog 18 #[.int .i64 n] w fun e w' => e = .returned (.int .i64 n) ∧ w' = w := by
  go_enter Tryz.func18, Tryz.ntmps18
  go_wp2_with fail
  go_ret
  exact ⟨rfl, rfl⟩
end Go.Proofs.YtpjcpdnolcehcaaGreatDoor
