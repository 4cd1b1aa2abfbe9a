/- What this text holds: a line that is too long: the walk. -/
import Derived.Test.YtikcbgoocljgnaaDoorM20
namespace Go.Proofs.YtikcbgoocljgnaaDoor
open Go.RowKit
set_option linter.unusedVariables false
set_option linter.unusedSimpArgs false

set_option maxRecDepth 100000 in
set_option maxHeartbeats 4000000 in
theorem ofLine_long {w : World} {b : Nat} {own : List Nat} {F : Fd} (h : FAt w b own F) (c : UInt8) (hc : c ≠ 10) (h1 : F.texts.length ≤ 900) (h3 : F.size ≤ 1000000) (h4 : F.under.length ≤ 900000) (hs : 4000 < F.size + (sufT (F.under ++ [c]) 13).length) :
    Calls Tryd.prog 22 #[.pointer (some ⟨b, 0, none⟩), .int .u8 c.toNat] w (StepTo w b own { Fd.zero with nx := .pline } 3 (F.texts ++ [(F.under ++ [c]).take 4000]) F.lits) := by
  have hn := h.nR
  have hmem := h.mem
  have hbl := h.lt b hmem
  have HM := hid (Mid.new h)
  obtain ⟨vt, vl, vu, f, rfl⟩ := h.al
  obtain ⟨v', w1, hr, ho, d3, f3, g1⟩ := add_byte f c (by omega)
  have c3 : (w.alloc (.cells #[.int .i64 0, .slice none 0 0, .slice none 0 0] 41)).cell? ⟨b, 3, none⟩ = some vu := f.r4.cell 3 rfl
  have HR : Hid ((Builtin.append_ #[31, 31] 31 #[vu, .slice (some ⟨w.heap.size + 1, 0, none⟩) 1 1]).run Tryd.prog ((w.alloc (.cells #[.int .i64 0, .slice none 0 0, .slice none 0 0] 41)).alloc (.cells #[.int .u8 (c.toNat : Int)] 5)) = .ok v' w1) := by
    rw [World.size_alloc] at hr
    exact hr
  have a10 : ((c.toNat : Int) == 10) = false := no_c hc
  obtain ⟨own1, hf1, hk1, ho1⟩ := g1
  have HL := hid (long_any hf1 (by simp [addF]) (by show (F.under ++ [c]).length ≤ 1000000; simp; omega) (by show F.size ≤ 100000000; omega))
  have hd : decide (4000 < (addF F c).size + (sufT (addF F c).under 13).length) = true := by
    have e : decide (4000 < F.size + (sufT (F.under ++ [c]) 13).length) = true := by simpa using hs
    exact e
  rw [hd] at HL
  have HF1 := hid hf1
  have HK1 := hid hk1
  have HO1' := hid ho1
  obtain ⟨a0, k0, hv0⟩ := f.u.slice (n := F.under.length) rfl
  obtain ⟨a1, k1, hv1⟩ := ho.slice (n := F.under.length + 1) (by simp)
  subst hv0 hv1
  clear f hf1 hk1 ho1 hr h hd hs ho
  generalize htk : (F.under ++ [c]).take 4000 = tk at *
  have HTk0 := hid htk
  clear htk
  go_enter Tryd.func22, Tryd.ntmps22
  go_wp2_with (at_builtin; refine wpList_append_run rfl rfl HR.out ?_)
  refine HL.out.mono ?_
  rintro e w2 ⟨rfl, hb2⟩
  have hF2 := HF1.out.below hb2
  obtain ⟨xt, xl, xu, f2, he2⟩ := hF2
  have k2 : Kept (own3 b vt vl (Value.slice a0 F.under.length k0)) (w.alloc (.cells #[.int .i64 0, .slice none 0 0, .slice none 0 0] 41)) w2 := HK1.out.trans (Kept.ofBelow hb2 _) (fun _ _ h => h)
  have hz : (w.alloc (.cells #[.int .i64 0, .slice none 0 0, .slice none 0 0] 41)).heap.size = w.heap.size + 1 := by simp
  have h22 := k2.size
  have HRA : Hid (w2.drew.heap[w.heap.size]? = some (.cells #[.int .i64 0, .slice none 0 0, .slice none 0 0] 41 (0, 0))) := keep_blk k2 HM.out.r hn
  have hkA : Kept (own3 b vt vl (Value.slice a0 F.under.length k0)) w w2 := (Kept.alloc _ _ _).trans k2 (fun _ _ h => h)
  have HKA : Hid (Kept (own3 b vt vl (Value.slice a0 F.under.length k0)) w w2.drew) := hkA.trans (Kept.drew _ _) (fun _ _ h => h)
  have HKB : Hid (Kept (own3 b vt vl (Value.slice a0 F.under.length k0)) w (w2.alloc (.cells #[.int .i64 0, .slice none 0 0, .slice none 0 0] 41)).drew) := (hkA.trans (Kept.alloc _ _ _) (fun _ _ h => h)).trans (Kept.drew _ _) (fun _ _ h => h)
  have HRB : Hid ((w2.alloc (.cells #[.int .i64 0, .slice none 0 0, .slice none 0 0] 41)).drew.heap[w.heap.size]? = some (.cells #[.int .i64 0, .slice none 0 0, .slice none 0 0] 41 (0, 0))) := by
    show (w2.alloc (.cells #[.int .i64 0, .slice none 0 0, .slice none 0 0] 41)).heap[w.heap.size]? = _
    have hra : w2.heap[w.heap.size]? = some (.cells #[.int .i64 0, .slice none 0 0, .slice none 0 0] 41 (0, 0)) := HRA.out
    rw [heap_alloc_old _ _ (lt_of_some hra)]; exact hra
  have HQB : Hid ((w2.alloc (.cells #[.int .i64 0, .slice none 0 0, .slice none 0 0] 41)).drew.heap[w2.heap.size]? = some (.cells #[.int .i64 0, .slice none 0 0, .slice none 0 0] 41 (0, 0))) := heap_alloc_new w2 _
  have HO1 : Hid (∀ g ∈ own1, g ∈ own3 b vt vl (Value.slice a0 F.under.length k0) ∨ w.heap.size ≤ g) := fun g hg => by rcases HO1'.out g hg with e | e; exact .inl e; right; omega
  have hlt2 : w.heap.size < w2.heap.size := lt_of_some HRA.out
  have HRo : Hid (w.heap.size ∉ own1) := fun e => by
    rcases HO1'.out _ e with q | q
    · exact hn q
    · rw [hz] at q; omega
  have HQo : Hid (w2.heap.size ∉ own1) := fun e => by have := (HF1.out.below hb2).lt _ e; omega
  have HE : Hid (∀ W, Below w2.heap.size w2 W → Calls Tryd.prog 30 #[.pointer (some ⟨b, 0, none⟩), .int .i64 3, .string (str tk)] W fun e w' => EvIs 3 (F.texts ++ [tk]) F.lits e w' ∧ FAt w' b [b] Fd.zero ∧ Kept own1 W w') := fun W hW => end_any (F := addF F c) ((HF1.out.below hb2).below hW) 3 tk (by show F.texts.length ≤ 1000; omega)
  have cA : w2.cell? ⟨b, 3, none⟩ = some xu := f2.r4.cell 3 rfl
  have cB : (w2.alloc (.cells #[.int .i64 0, .slice none 0 0, .slice none 0 0] 41)).cell? ⟨b, 3, none⟩ = some xu := (f2.r4.later ((Below.refl _ _).alloc (Nat.le_refl _) _)).cell 3 rfl
  obtain ⟨ax, kx, hvx⟩ := f2.u.slice (n := F.under.length + 1) (by simp [addF])
  subst hvx
  have HU2 : Hid (GO eB w2 0 (.slice ax (F.under.length + 1) kx) (F.under ++ [c])) := f2.u
  obtain ⟨_, _, _, hkx⟩ : ∃ x y z : Nat, F.under.length + 1 ≤ kx := by
    rcases id f2.u.2 with ⟨e, h0⟩ | ⟨g, cap, cur, e, _, _, hcap, _⟩
    · simp [addF] at h0
    · simp only [Value.slice.injEq] at e
      obtain ⟨_, _, rfl⟩ := e
      exact ⟨0, 0, 0, by simpa [addF] using hcap⟩
  have HBd : Hid (Below w2.heap.size w2 w2.drew) := drewN_below w2 1 _
  have hm0 : (0 : Int) ≤ min ((F.under.length : Int) + 1) 4000 := by omega
  have hm1 : min ((F.under.length : Int) + 1) 4000 ≤ (kx : Int) := by omega
  clear f2 he2 hb2 k2 hkA HK1 HF1 HL HO1'
  have HTk : Hid (tk = (F.under ++ [c]).take (min ((F.under.length : Int) + 1) 4000).toNat) := by
    rw [Hid, ← HTk0.out]
    rcases Nat.le_total (F.under.length + 1) 4000 with hh | hh
    · rw [List.take_of_length_le (by simp; omega), List.take_of_length_le (by simp; omega)]
    · congr 1
      omega
  clear HTk0
  have hcvA : (convert 31 9 (.slice ax (min ((F.under.length : Int) + 1) 4000).toNat kx)).run Tryd.prog w2.drew = .ok (.string (str tk)) w2.drew := by rw [HTk.out]; exact conv_take (HU2.out.later (drewN_below w2 1 _)) _ (by first | (simp; done) | (simp; omega)) (by simp)
  have hcvB : (convert 31 9 (.slice ax (min ((F.under.length : Int) + 1) 4000).toNat kx)).run Tryd.prog (w2.alloc (.cells #[.int .i64 0, .slice none 0 0, .slice none 0 0] 41)).drew = .ok (.string (str tk)) (w2.alloc (.cells #[.int .i64 0, .slice none 0 0, .slice none 0 0] 41)).drew := by rw [HTk.out]; exact conv_take ((HU2.out.later ((Below.refl _ w2).alloc (Nat.le_refl _) _)).later (drewN_below _ 1 _)) _ (by first | (simp; done) | (simp; omega)) (by simp)
  clear HTk HU2
  go_wp2_with fail
  go_region_with ((go_at_call 30; refine (HE.out _ (by repeat (first | exact HBd.out | exact Below.refl _ _ | refine Below.alloc ?_ (by first | (simp; done) | (simp; omega)) _ | refine Below.drew ?_))).mono ?_; rintro e w3 ⟨⟨vT, vL, rfl, gt, gl⟩, hf3, hk3⟩; obtain ⟨aT, kT, hvT⟩ := gt.slice (n := F.texts.length + 1) (by simp); obtain ⟨aL, kL, hvL⟩ := gl.slice (n := F.lits.length) rfl; subst hvT hvL; first | (have tt := long_old (w := w) (q := w2.heap.size) (R := w.heap.size) hf3 gt gl hk3 HRB.out HRo.out HQB.out HQo.out (by omega) (by omega) HKB.out HO1.out; obtain ⟨z0, z1, z2, z3, z4, z5, z6⟩ := tt; obtain ⟨r0, r1, r2, s0, s1, s2⟩ := row41 z0) | (have tt := long_new (w := w) (R := w.heap.size) hf3 gt gl hk3 HRA.out HRo.out HKA.out HO1.out; obtain ⟨z1, z2, z3, z4, z5, z6⟩ := tt)))
  all_goals
    have q := long_fin (w := w) (R := w.heap.size) z1 z2 z3 z4 z5 (Nat.le_refl _) hmem z6
    obtain ⟨⟨nv, y0⟩, y1, y2, y3, y4, y5⟩ := q
    obtain ⟨t0, t1, t2, _⟩ := row41 y2
    obtain ⟨p0, p1, p2, o0, o1, o2⟩ := row41 y3
    have HU := hid y4
    have HS := hid y5
    clear y2 y3 y4 y5 z1 z2 z3 z4 z5 z6 gt gl hf3 hk3
    go_wp2_with fail
    exact bodyPost_ret (results22_run _ rfl HU.out) rfl HS.out
end Go.Proofs.YtikcbgoocljgnaaDoor
