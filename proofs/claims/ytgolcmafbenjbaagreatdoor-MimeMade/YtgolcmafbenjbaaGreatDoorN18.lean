/- What this text holds: a message as a part, and how many parts a part is: the program's calls. -/
import Derived.Test.YtgolcmafbenjbaaGreatDoorN17
namespace Go.Proofs.YtgolcmafbenjbaaGreatDoor
open Go.RowKit
set_option linter.unusedVariables false
set_option linter.unusedSimpArgs false

set_option maxRecDepth 100000 in
theorem results14_run {w : World} {A : Nat} {d : Pd} {vp vi vd vk : Value} (tmps : Array Value) (h2 : tmps[2]? = some (.pointer (some ⟨A, 0, none⟩))) (hA : D11 w A d vp vi vd vk) :
    (results Tryz.f14 tmps).run Tryz.prog w = .ok (ptV d vp vi vd vk) w := by
  obtain ⟨x0, x1, x2, x3, x4, x5, x6, x7, x8, x9, x10⟩ := hA.cs
  simp [results, Tryz.results14, go_sem, h2, x0, x1, x2, x3, x4, x5, x6, x7, x8, x9, x10, ptV, ptC]
/-- A part of a call, as it lies in memory. -/
def PtOut (n : Nat) (p : Pt) (w : World) (e : Ending) (w' : World) : Prop := (∃ vp vi vd vk, e = .returned (ptV p.d vp vi vd vk) ∧ PtAt w' (w.heap.size ≤ ·) n p vp vi vd vk) ∧ Below w.heap.size w w'
set_option maxRecDepth 100000 in
set_option maxHeartbeats 4000000 in
theorem struc_any (s : Bs) {w : World} (he : Env w) (hs : s.length ≤ 100000) : Calls Tryz.prog 14 #[.string (str s)] w (PtOut 7 (strucM s) w) := by
  have hB := below2 w (.cells #[.string ⟨#[]⟩, .string ⟨#[]⟩, .slice none 0 0, .slice none 0 0, .slice none 0 0, .string ⟨#[]⟩, .int .i64 0, .int .i64 0, .int .i64 0, .int .i64 0, .slice none 0 0] 33) (.cells #[.string (str s), .int .i64 0] 59)
  have hR : D11 ((w.alloc (.cells #[.string ⟨#[]⟩, .string ⟨#[]⟩, .slice none 0 0, .slice none 0 0, .slice none 0 0, .string ⟨#[]⟩, .int .i64 0, .int .i64 0, .int .i64 0, .int .i64 0, .slice none 0 0] 33)).alloc (.cells #[.string (str s), .int .i64 0] 59)) w.heap.size Pd.zero nilV nilV nilV nilV := (d11_new w Pd.zero nilV nilV nilV nilV).later (below1 _ _)
  have hT : TeAt ((w.alloc (.cells #[.string ⟨#[]⟩, .string ⟨#[]⟩, .slice none 0 0, .slice none 0 0, .slice none 0 0, .string ⟨#[]⟩, .int .i64 0, .int .i64 0, .int .i64 0, .int .i64 0, .slice none 0 0] 33)).alloc (.cells #[.string (str s), .int .i64 0] 59)) (w.heap.size + 1) s 0 := by
    have h : TeAt ((w.alloc (.cells #[.string ⟨#[]⟩, .string ⟨#[]⟩, .slice none 0 0, .slice none 0 0, .slice none 0 0, .string ⟨#[]⟩, .int .i64 0, .int .i64 0, .int .i64 0, .int .i64 0, .slice none 0 0] 33)).alloc (.cells #[.string (str s), .int .i64 0] 59)) (w.alloc (.cells #[.string ⟨#[]⟩, .string ⟨#[]⟩, .slice none 0 0, .slice none 0 0, .slice none 0 0, .string ⟨#[]⟩, .int .i64 0, .int .i64 0, .int .i64 0, .int .i64 0, .slice none 0 0] 33)).heap.size s 0 := heap_alloc_new _ _
    rw [show (w.alloc (.cells #[.string ⟨#[]⟩, .string ⟨#[]⟩, .slice none 0 0, .slice none 0 0, .slice none 0 0, .string ⟨#[]⟩, .int .i64 0, .int .i64 0, .int .i64 0, .int .i64 0, .slice none 0 0] 33)).heap.size = w.heap.size + 1 by simp] at h
    exact h
  have HC := hid (tell_ok s hs 7 (by omega) _ (w.heap.size + 1) 0 s.length false 0 hT (he.later hB) (by omega) (by omega) (by omega) (by omega))
  unfold TellIs at HC
  have HSt : Hid ((tellM s 7 0 s.length false 0).1 = strucM s) := rfl
  rw [HSt.out] at HC
  have hsz := str_size s
  have HB := hid hB
  have HR := hid hR
  unfold spV at HC
  unfold PtOut
  generalize strucM s = P at *
  clear hB hR hT HSt he
  go_enter Tryz.func14, Tryz.ntmps14
  go_wp2_with fail
  refine HC.out.mono ?_
  rintro e w2 ⟨vp, vi, vd, vk, rfl, hpt, _, hk⟩
  obtain ⟨pa, pn, pc, ia, n1, c1, da, n2, c2, ka, kn, kc, rfl, rfl, rfl, rfl⟩ := hpt.slices
  have HR2 := hid (HR.out.kept hk (by rw [List.mem_singleton]; omega))
  have HPt := hid hpt
  have HBk := hid (below_kept HB.out hk (by simp) HB.out.size)
  have HSz := hid HB.out.size
  clear hpt hk HC
  go_wp2_with (refine wpList_store33 (d := P.d) rfl rfl HR2.out ?_)
  have q1 := row11_is HR2.out P.d (.slice pa pn pc) (.slice ia n1 c1) (.slice da n2 c2) (.slice ka kn kc)
  have q2 := row11_self w2 w.heap.size P.d (.slice pa pn pc) (.slice ia n1 c1) (.slice da n2 c2) (.slice ka kn kc)
  refine bodyPost_ret (w := row11 w2 w.heap.size P.d (.slice pa pn pc) (.slice ia n1 c1) (.slice da n2 c2) (.slice ka kn kc)) (results14_run _ rfl q1) rfl ?_
  refine ⟨⟨_, _, _, _, rfl, ?_⟩, below_kept HBk.out q2 (by simp) HBk.out.size⟩
  refine (HPt.out.kept q2 (fun i hi hN => ?_)).mono (fun q _ hN => ?_)
  · rw [List.mem_singleton] at hi
    simp at hN
    omega
  · simp at hN
    omega
end Go.Proofs.YtgolcmafbenjbaaGreatDoor
