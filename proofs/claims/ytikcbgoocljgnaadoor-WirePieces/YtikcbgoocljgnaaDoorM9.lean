/- What this text holds: bytes that are let go, bytes of a literal. -/
import Derived.Test.YtikcbgoocljgnaaDoorM8
namespace Go.Proofs.YtikcbgoocljgnaaDoor
open Go.RowKit
set_option linter.unusedVariables false
set_option linter.unusedSimpArgs false

/-- What a byte comes to: an event (kind 0: none), and the feed behind it. -/
def StepTo (w : World) (b : Nat) (own : List Nat) (F : Fd) (k : Int) (T L : List Bs) (e : Ending) (w' : World) : Prop :=
  ∃ vT vL own', e = .returned (.agg #[.int .i64 k, vT, vL]) ∧ GO eS w' 0 vT T ∧ GO eS w' 0 vL L ∧ FAt w' b own' F ∧ Kept own w w' ∧ (∀ g ∈ own', g ∈ own ∨ w.heap.size ≤ g) ∧ (∀ g, vT.ownBlock = some g → g ∉ own') ∧ (∀ g, vL.ownBlock = some g → g ∉ own')
abbrev Z41 : Array Value := #[.int .i64 0, .slice none 0 0, .slice none 0 0]
theorem FAt.nR {w : World} {b : Nat} {own : List Nat} {F : Fd} (h : FAt w b own F) : w.heap.size ∉ own := fun e => by have := h.lt _ e; omega
/-- No event: what is left when the block of the answer was written. -/
theorem none_out {w w2 : World} {b : Nat} {own : List Nat} {F F' : Fd} (h : FAt w b own F) (g : FTo (w.alloc (.cells #[.int .i64 0, .slice none 0 0, .slice none 0 0] 41)) b own F' w2) :
    w2.heap[w.heap.size]? = some (.cells #[.int .i64 0, .slice none 0 0, .slice none 0 0] 41 (0, 0)) ∧
    (((w2.setCell ⟨w.heap.size, 0, none⟩ (.int .i64 0)).setCell ⟨w.heap.size, 1, none⟩ (.slice none 0 0)).setCell ⟨w.heap.size, 2, none⟩ (.slice none 0 0)).heap[w.heap.size]? = some (.cells #[.int .i64 0, .slice none 0 0, .slice none 0 0] 41 (0, 0)) ∧
    StepTo w b own F' 0 [] [] (.returned (.agg #[.int .i64 0, .slice none 0 0, .slice none 0 0])) (((w2.setCell ⟨w.heap.size, 0, none⟩ (.int .i64 0)).setCell ⟨w.heap.size, 1, none⟩ (.slice none 0 0)).setCell ⟨w.heap.size, 2, none⟩ (.slice none 0 0)) := by
  obtain ⟨own', hf, hk, ho⟩ := g
  have hR : w2.heap[w.heap.size]? = some (.cells #[.int .i64 0, .slice none 0 0, .slice none 0 0] 41 (0, 0)) := by
    rw [hk.block w.heap.size (by simp) h.nR]
    exact heap_alloc_new _ _
  obtain ⟨u1, u2⟩ := put41 hR rfl (.int .i64 0) (.slice none 0 0) (.slice none 0 0)
  have gk : Kept own w w2 := (Kept.alloc own w _).trans hk (fun _ _ h => h)
  obtain ⟨_, _, q3, q4⟩ := u2.out hR (GO.nil eS w2 0) (GO.nil eS w2 0) hf gk (Nat.le_refl _)
  refine ⟨hR, u1, .slice none 0 0, .slice none 0 0, own', rfl, GO.nil _ _ _, GO.nil _ _ _, q3, q4, fun g hg => ?_, fun g hg => by simp [Value.ownBlock] at hg, fun g hg => by simp [Value.ownBlock] at hg⟩
  rcases ho g hg with e | e
  · exact .inl e
  · right; simp at e; omega
theorem none_new {w : World} {b : Nat} {own : List Nat} {F : Fd} (h : FAt w b own F) : StepTo w b own F 0 [] [] (.returned (.agg #[.int .i64 0, .slice none 0 0, .slice none 0 0])) (w.alloc (.cells #[.int .i64 0, .slice none 0 0, .slice none 0 0] 41)) :=
  ⟨.slice none 0 0, .slice none 0 0, own, rfl, GO.nil _ _ _, GO.nil _ _ _, h.below ((Below.refl _ _).alloc (Nat.le_refl _) _), Kept.alloc _ _ _, fun g hg => .inl hg, fun g hg => by simp [Value.ownBlock] at hg, fun g hg => by simp [Value.ownBlock] at hg⟩
theorem FAt.al {w : World} {b : Nat} {own : List Nat} {F : Fd} (h : FAt w b own F) : FAt (w.alloc (.cells #[.int .i64 0, .slice none 0 0, .slice none 0 0] 41)) b own F := h.below ((Below.refl _ _).alloc (Nat.le_refl _) _)
theorem FAt.to {w : World} {b : Nat} {own : List Nat} {F : Fd} (h : FAt w b own F) : FTo w b own F w := ⟨own, h, Kept.refl _ _, fun g hg => .inl hg⟩
theorem FAt.mem {w : World} {b : Nat} {own : List Nat} {F : Fd} (h : FAt w b own F) : b ∈ own := by
  obtain ⟨vt, vl, vu, f, rfl⟩ := h
  exact own3_mem.2 (.inl rfl)
theorem FTo.one {w w' : World} {b : Nat} {own : List Nat} {F F' : Fd} (h : FAt w b own F) (hf : FAt w' b [b] F') (k : Kept [b] w w') : FTo w b own F' w' :=
  ⟨[b], hf, k.mono (fun i _ hi => by rw [List.mem_singleton] at hi; rw [hi]; exact h.mem), fun g hg => by rw [List.mem_singleton] at hg; rw [hg]; exact .inl h.mem⟩
set_option maxRecDepth 100000 in
theorem results31_run {w : World} {A : Nat} {v0 v1 v2 : Value} (tmps : Array Value) (h2 : tmps[4]? = some (.pointer (some ⟨A, 0, none⟩))) (h : w.heap[A]? = some (.cells #[v0, v1, v2] 41 (0, 0))) :
    (results Tryd.f31 tmps).run Tryd.prog w = .ok (.agg #[v0, v1, v2]) w := by
  obtain ⟨x0, x1, x2, _⟩ := row41 h
  simp [results, Tryd.results31, go_sem, h2, x0, x1, x2]
set_option maxRecDepth 100000 in
theorem results49_run {w : World} {A : Nat} {v0 v1 v2 : Value} (tmps : Array Value) (h2 : tmps[4]? = some (.pointer (some ⟨A, 0, none⟩))) (h : w.heap[A]? = some (.cells #[v0, v1, v2] 41 (0, 0))) :
    (results Tryd.f49 tmps).run Tryd.prog w = .ok (.agg #[v0, v1, v2]) w := by
  obtain ⟨x0, x1, x2, _⟩ := row41 h
  simp [results, Tryd.results49, go_sem, h2, x0, x1, x2]
set_option maxRecDepth 100000 in
theorem results61_run {w : World} {A : Nat} {v0 v1 v2 : Value} (tmps : Array Value) (h2 : tmps[4]? = some (.pointer (some ⟨A, 0, none⟩))) (h : w.heap[A]? = some (.cells #[v0, v1, v2] 41 (0, 0))) :
    (results Tryd.f61 tmps).run Tryd.prog w = .ok (.agg #[v0, v1, v2]) w := by
  obtain ⟨x0, x1, x2, _⟩ := row41 h
  simp [results, Tryd.results61, go_sem, h2, x0, x1, x2]
def pastLineF (F : Fd) (c : UInt8) : Fd := if c = 10 then Fd.zero else F
set_option maxRecDepth 100000 in
set_option maxHeartbeats 1000000 in
theorem pastLine_any {w : World} {b : Nat} {own : List Nat} {F : Fd} (h : FAt w b own F) (c : UInt8) :
    Calls Tryd.prog 31 #[.pointer (some ⟨b, 0, none⟩), .int .u8 c.toNat] w (StepTo w b own (pastLineF F c) 0 [] []) := by
  have HA := hid h.al
  have HH := hid h
  by_cases h10 : c = 10
  · have a10 : ((c.toNat : Int) == 10) = true := is_c h10
    have HP : Hid (pastLineF F c = Fd.zero) := by unfold pastLineF; rw [Hid, if_pos h10]
    have HC := hid (restart_any HA.out)
    rw [HP.out]
    clear h h10
    go_enter Tryd.func31, Tryd.ntmps31
    go_wp2_with fail
    refine HC.out.mono ?_
    rintro e w2 ⟨rfl, hf, hk⟩
    obtain ⟨gR, u1, u2⟩ := none_out HH.out (FTo.one HA.out hf hk)
    obtain ⟨r0, r1, r2, s0, s1, s2⟩ := row41 gR
    have HU := hid u1
    have HG := hid u2
    clear hf hk gR u1 u2 HC
    go_wp2_with fail
    exact bodyPost_ret (results31_run _ rfl HU.out) rfl HG.out
  · have a10 : ((c.toNat : Int) == 10) = false := no_c h10
    have HP : Hid (pastLineF F c = F) := by unfold pastLineF; rw [Hid, if_neg h10]
    rw [HP.out]
    have HU := hid (heap_alloc_new w (.cells #[.int .i64 0, .slice none 0 0, .slice none 0 0] 41))
    have HG := hid (none_new h)
    clear h h10
    go_enter Tryd.func31, Tryd.ntmps31
    go_wp2_with fail
    exact bodyPost_ret (results31_run _ rfl HU.out) rfl HG.out
def litF1 (F : Fd) (c : UInt8) : Fd := { F with under := F.under ++ [c], left := F.left - 1 }
def ofLiteralF (F : Fd) (c : UInt8) : Fd := if F.left - 1 = 0 then endLitF (litF1 F c) else litF1 F c
set_option maxRecDepth 100000 in
set_option maxHeartbeats 1000000 in
theorem ofLiteral_any {w : World} {b : Nat} {own : List Nat} {F : Fd} (h : FAt w b own F) (c : UInt8) (h1 : F.lits.length ≤ 1000) (h2 : 1 ≤ F.left) (h3 : F.left ≤ 1000000) (h4 : F.under.length ≤ 1000000) :
    Calls Tryd.prog 49 #[.pointer (some ⟨b, 0, none⟩), .int .u8 c.toNat] w (StepTo w b own (ofLiteralF F c) 0 [] []) := by
  have HH := hid h
  have HA := hid h.al
  obtain ⟨vt, vl, vu, f, rfl⟩ := h.al
  obtain ⟨v', w1, hr, ho, hk, hn⟩ := go_one_kept eB f.u (by omega) c ((w.alloc (.cells #[.int .i64 0, .slice none 0 0, .slice none 0 0] 41)).heap.size) rfl
  have r1 := f.r4.byte hk ho
  have r2 := (r1.set 3 v').set 4 (.int .i64 ((F.left - 1 : Nat) : Int))
  have c3 : (w.alloc (.cells #[.int .i64 0, .slice none 0 0, .slice none 0 0] 41)).cell? ⟨b, 3, none⟩ = some vu := f.r4.cell 3 rfl
  have d3 : w1.cell? ⟨b, 3, none⟩ = some vu := r1.cell 3 rfl
  have d4 : w1.cell? ⟨b, 4, none⟩ = some (.int .i64 F.left) := r1.cell 4 rfl
  have f3 := r1.free 3
  have f4 := r1.free 4
  have hG : FTo (w.alloc (.cells #[.int .i64 0, .slice none 0 0, .slice none 0 0] 41)) b (own3 b vt vl vu) (litF1 F c) ((w1.setCell ⟨b, 3, none⟩ v').setCell ⟨b, 4, none⟩ (.int .i64 ((F.left - 1 : Nat) : Int))) := by
    have hb : b ∈ own3 b vt vl vu := own3_mem.2 (.inl rfl)
    have k1 : Kept (own3 b vt vl vu) (w.alloc (.cells #[.int .i64 0, .slice none 0 0, .slice none 0 0] 41)) w1 := hk.mono (fun i _ hi => own3_mem.2 (.inr (.inr (.inr (by rwa [Option.mem_toList] at hi)))))
    refine ⟨own3 b vt vl v', ⟨vt, vl, v', r2.fin (litF1 F c) rfl rfl rfl rfl f.tl, rfl⟩, (k1.trans (Kept.setCell _ _ _ _ hb) (fun _ _ h => h)).trans (Kept.setCell _ _ _ _ hb) (fun _ _ h => h), fun g hg => ?_⟩
    rcases own3_mem.1 hg with e | e | e | e
    · exact .inl (own3_mem.2 (.inl e))
    · exact .inl (own3_mem.2 (.inr (.inl e)))
    · exact .inl (own3_mem.2 (.inr (.inr (.inl e))))
    · rcases hn g e with q | q
      · exact .inl (own3_mem.2 (.inr (.inr (.inr q))))
      · exact .inr q
  have HR : Hid ((Builtin.append_ #[31, 31] 31 #[vu, .slice (some ⟨w.heap.size + 1, 0, none⟩) 1 1]).run Tryd.prog ((w.alloc (.cells #[.int .i64 0, .slice none 0 0, .slice none 0 0] 41)).alloc (.cells #[.int .u8 (c.toNat : Int)] 5)) = .ok v' w1) := by
    rw [World.size_alloc] at hr
    exact hr
  have hcast : ((F.left - 1 : Nat) : Int) = (F.left : Int) - 1 := by omega
  rw [hcast] at hG
  obtain ⟨a0, k0, hv0⟩ := f.u.slice (n := F.under.length) rfl
  obtain ⟨a1, k1, hv1⟩ := ho.slice (n := F.under.length + 1) (by simp)
  subst hv0 hv1
  by_cases hz : F.left - 1 = 0
  · have e0 : ((F.left : Int) - 1 == 0) = true := by simp; omega
    have HP : Hid (ofLiteralF F c = endLitF (litF1 F c)) := by unfold ofLiteralF; rw [Hid, if_pos hz]
    rw [HP.out]
    obtain ⟨own2, hf2, hk2, ho2⟩ := hG
    have HC := hid (endLiteral_any hf2 h1)
    have HK := hid hk2
    have HO := hid ho2
    generalize F.left = lf at *
    clear f r1 r2 hr ho hk hn hf2 hk2 ho2 hcast h
    go_enter Tryd.func49, Tryd.ntmps49
    go_wp2_with (at_builtin; refine wpList_append_run rfl rfl HR.out ?_)
    refine HC.out.mono ?_
    rintro e w2 ⟨rfl, g2⟩
    obtain ⟨gR, u1, u2⟩ := none_out HH.out (FTo.trans HK.out HO.out g2)
    obtain ⟨x0, x1, x2, s0, s1, s2⟩ := row41 gR
    have HU := hid u1
    have HG := hid u2
    clear g2 gR u1 u2 HC
    go_wp2_with fail
    exact bodyPost_ret (results49_run _ rfl HU.out) rfl HG.out
  · have e0 : ((F.left : Int) - 1 == 0) = false := by simp; omega
    have HP : Hid (ofLiteralF F c = litF1 F c) := by unfold ofLiteralF; rw [Hid, if_neg hz]
    rw [HP.out]
    obtain ⟨gR, u1, u2⟩ := none_out HH.out hG
    obtain ⟨x0, x1, x2, s0, s1, s2⟩ := row41 gR
    have HU := hid u1
    have HG := hid u2
    have b1 : w1.heap[w.heap.size]? = some (.cells #[.int .i64 0, .slice none 0 0, .slice none 0 0] 41 (0, 0)) := by
      rw [hk.block w.heap.size (by simp) (by rw [Option.mem_toList]; exact f.u.ne (by decide) (heap_alloc_new _ _))]
      exact heap_alloc_new _ _
    obtain ⟨y0, y1, y2, t0, t1, t2⟩ := row41 b1
    have hbw : b ≠ w.heap.size := fun e => HH.out.nR (e ▸ HH.out.mem)
    generalize F.left = lf at *
    clear f r1 r2 hr ho hk hn hcast h gR u1 u2 hG b1
    go_enter Tryd.func49, Tryd.ntmps49
    go_wp2_with (at_builtin; refine wpList_append_run rfl rfl HR.out ?_)
    exact bodyPost_ret (results49_run _ rfl HU.out) rfl HG.out
end Go.Proofs.YtikcbgoocljgnaaDoor
