/- What this text holds: lines of one's own; several lines are read. -/
import Derived.Test.YtpjcpdnolcehcaaGreatDoorM15
namespace Go.Proofs.YtpjcpdnolcehcaaGreatDoor
open Go.RowKit
set_option linter.unusedVariables false
set_option linter.unusedSimpArgs false

/-- Lines lie in memory. -/
def LsAt (w : World) (N : Nat → Prop) (v : Value) (ls : List Ln) : Prop := ∃ rows : List (Lw × Ln), LAt eL w N v (rows.map (·.1)) ∧ ls = rows.map (·.2) ∧ ∀ p ∈ rows, LnAt w N p.1 p.2
theorem LsAt.kept {S : List Nat} {w w' : World} {N : Nat → Prop} {u : Value} {ks : List Ln} (h : LsAt w N u ks) (hk : Kept S w w') (hS : ∀ i ∈ S, ¬ N i) : LsAt w' N u ks := by
  obtain ⟨rows, h1, h2, h3⟩ := h
  exact ⟨rows, h1.kept hk hS, h2, fun p hp => (h3 p hp).kept hk hS⟩
theorem LsAt.later {w w' : World} {N : Nat → Prop} {u : Value} {ks : List Ln} (h : LsAt w N u ks) (hb : Below w.heap.size w w') : LsAt w' N u ks := h.kept (Kept.ofBelow hb []) (by simp)
theorem LsAt.mono {w : World} {N N' : Nat → Prop} {u : Value} {ks : List Ln} (h : LsAt w N u ks) (hN : ∀ q, q < w.heap.size → N q → N' q) : LsAt w N' u ks := by
  obtain ⟨rows, h1, h2, h3⟩ := h
  exact ⟨rows, h1.mono hN, h2, fun p hp => (h3 p hp).mono hN⟩
theorem LsAt.slice {w : World} {N : Nat → Prop} {u : Value} {ks : List Ln} (h : LsAt w N u ks) : ∃ a c, u = .slice a ks.length c ∧ ks.length ≤ c := by
  obtain ⟨rows, h1, rfl, h3⟩ := h
  simpa using h1.slice
theorem LsAt.nil (w : World) (N : Nat → Prop) : LsAt w N nilV [] := ⟨[], LAt.nil _ _ _, rfl, fun p hp => by cases hp⟩
/-- Lines of one's own. -/
structure LO (w : World) (B : Nat) (v : Value) (rows : List (Lw × Ln)) : Prop where
  o : GO eL w B v (rows.map (·.1))
  each : ∀ p ∈ rows, LnAt w (fun q => B ≤ q ∧ v.ownBlock ≠ some q) p.1 p.2
theorem LO.nil (w : World) (B : Nat) : LO w B nilV [] := ⟨GO.nil eL w B, by simp⟩
theorem LO.kept {S : List Nat} {w w' : World} {B : Nat} {v : Value} {rows : List (Lw × Ln)} (h : LO w B v rows) (hk : Kept S w w') (hS : ∀ i ∈ S, i < B) : LO w' B v rows := by
  refine ⟨ownsRow_block h.o (fun g hg => hk.block g (World.ownsRow.lt h.o g hg).2 (fun hm => ?_)), fun p hp => (h.each p hp).kept hk (fun i hi hN => ?_)⟩
  · have := hS g hm
    have := (World.ownsRow.lt h.o g hg).1
    omega
  · have := hS i hi
    have := hN.1
    omega
theorem LO.ls {w : World} {B : Nat} {v : Value} {rows : List (Lw × Ln)} (h : LO w B v rows) : LsAt w (B ≤ ·) v (rows.map (·.2)) := by
  refine ⟨rows, ⟨h.o.gl, fun h0 g hg => ?_⟩, rfl, fun p hp => (h.each p hp).mono (fun q _ hq => hq.1)⟩
  rcases h.o.2 with ⟨rfl, h1⟩ | ⟨g', c, cur, rfl, hB, _⟩
  · cases hg
  · have e : g' = g := by simpa [blk] using hg
    subst e
    exact hB
theorem LO.slice {w : World} {B : Nat} {v : Value} {rows : List (Lw × Ln)} (h : LO w B v rows) : ∃ a c, v = .slice a rows.length c := h.o.slice (by simp)
theorem LO.more {w : World} {B : Nat} {v : Value} {rows : List (Lw × Ln)} (h : LO w B v rows) (hB : B ≤ w.heap.size) (r : Lw) (x : Ln) (hr : LnAt w (fun q => B ≤ q ∧ v.ownBlock ≠ some q) r x) (hl : rows.length ≤ 1000000000) (q : Nat) (hq : w.heap.size = q) :
    ∃ v' w', (Builtin.append_ #[22, 22] 22 #[v, .slice (some ⟨q, 0, none⟩) 1 1]).run Tryz.prog (w.alloc (.cells r.c.toArray 28)) = .ok v' w' ∧ LO w' B v' (rows ++ [(r, x)]) ∧ Below B w w' ∧ Kept v.ownBlock.toList w w' := by
  have ho := h.o
  unfold GO at ho
  obtain ⟨v', w', hrun, ho', hk, hb, hv⟩ := vo_one Tryz.underlying22 eL.inf rfl (by decide) (by decide) ho hB (by simp; omega) r.c rfl (eL.one r) q hq
  refine ⟨v', w', hrun, ⟨?_, ?_⟩, hb, hk⟩
  · show w'.ownsRow B eL.T eL.k v' _ _
    rw [show ((rows ++ [(r, x)]).map (·.1)).length = (rows.map (·.1)).length + 1 by simp, show eL.cs ((rows ++ [(r, x)]).map (·.1)) = eL.cs (rows.map (·.1)) ++ r.c by simp [En.cs, eL]]
    exact ho'
  · have hall : ∀ (s : Lw) (y : Ln), LnAt w (fun q => B ≤ q ∧ v.ownBlock ≠ some q) s y → LnAt w' (fun q => B ≤ q ∧ v'.ownBlock ≠ some q) s y := by
      intro s y hs
      have e1 := hs.mono (N' := fun q => (B ≤ q ∧ v.ownBlock ≠ some q) ∧ v'.ownBlock ≠ some q) (fun q hq hN => ⟨hN, fun e => by
        rcases hv q e with h2 | h2
        · exact hN.2 h2
        · omega⟩)
      have e2 := e1.kept hk (fun i hi hN => by
        rw [Option.mem_toList] at hi
        exact hN.1.2 hi)
      exact e2.mono (fun q _ hN => ⟨hN.1.1, hN.2⟩)
    intro s hs
    rcases List.mem_append.1 hs with hs | hs
    · exact hall s.1 s.2 (h.each s hs)
    · simp at hs
      subst hs
      exact hall r x hr
theorem lV_mk (t : Bs) (a : Option Addr) (b c : Nat) (s : Bs) (d : Option Addr) (e f : Nat) (x : Bs) : lV ⟨t, (a, b, c), s, (d, e, f), x⟩ = .agg #[.string (str t), .slice a b c, .string (str s), .slice d e f, .string (str x)] := rfl
def RdM (b : Nat) (w : World) (x : Option (List Ln)) (e : Ending) (w' : World) : Prop := match x with
  | some l => ∃ u, e = .returned u ∧ LsAt w' (w.heap.size ≤ ·) u l ∧ Kept [b] w w'
  | none => e = .panicked faultC ∧ Kept [b] w w'
theorem shr_behind (tag : Bs) : Shr (behindP tag) := fun s v r hh => by
  have hd := drop_le letB s
  unfold behindP at hh
  split at hh
  · split at hh
    · cases hh
      have := drop_le plB ((s.dropWhile letB).drop 1)
      simp at this
      simp
      omega
    · rename_i r1 h1
      have h1' := needP_le h1
      simp at h1'
      split at hh
      · cases hh
      · rename_i l r2 h2
        have h2' := shr_vals 30 _ _ _ h2
        split at hh
        · cases hh
        · rename_i r3 h3
          have h3' := needP_le h3
          split at hh
          · cases hh
          · rename_i r4 h4
            have h4' := needP_le h4
            cases hh
            have := drop_le plB r4
            omega
  · rw [Option.map_eq_some_iff] at hh
    obtain ⟨p, hp, e⟩ := hh
    cases e
    exact shr_vals 30 _ _ _ hp
theorem shr_line (s : Bs) (l : Ln) (r : Bs) (hh : lineP s = some (l, r)) : r.length < s.length := by
  have hd := drop_le letB s
  unfold lineP at hh
  split at hh
  · cases hh
  · rename_i r1 h1
    have h1' := needP_le h1
    split at hh
    · cases hh
    · rename_i l2 r2 h2
      rw [Option.map_eq_some_iff] at hh
      obtain ⟨p, hp, e⟩ := hh
      cases e
      have h3 := (needP_some hp).2.2
      have h4 : r2.length ≤ r1.length := by
        split at h2
        · cases h2
          exact drop_le plB r1
        · exact shr_behind _ _ _ _ h2
      simp at h3
      omega
def restP (f : Nat) (l : List Ln) (r : Bs) : Option (List Ln) := (linesP f r).map fun p => l ++ p
theorem rest_end (f : Nat) (l : List Ln) : restP (f + 1) l [] = some l := by simp [restP, linesP]
theorem rest_step (f : Nat) (l : List Ln) (r : Bs) (h : r ≠ []) : restP (f + 1) l r = match lineP r with
    | none => none
    | some (x, r2) => restP f (l ++ [x]) r2 := by
  conv => lhs; unfold restP linesP
  rw [if_neg h]
  rcases lineP r with _ | ⟨x, r2⟩
  · rfl
  · simp [restP, Function.comp_def]
structure MSt (w0 w : World) (b : Nat) (s : Bs) (f : Nat) (v : Value) (rows : List (Lw × Ln)) (r : Bs) : Prop where
  q : linesP (s.length + 1) s = restP f (rows.map (·.2)) r
  at_ : RAt w b r 0
  g : LO w w0.heap.size v rows
  k : Kept [b] w0 w
  l : r.length < f
  m : rows.length + f ≤ s.length + 1
theorem fld71 (b : Nat) (w : World) : (Instr.fieldAt 71 (.pointer (some ⟨b, 0, none⟩)) 0).run Tryz.prog w = .ok (.pointer (some ⟨b, 0, none⟩)) w := by kernel_rfl
set_option maxRecDepth 100000 in
set_option maxHeartbeats 4000000 in
theorem lines_any (w : World) (b : Nat) (s : Bs) (hE : Env w) (hb : 11 ≤ b) (h : RAt w b s 0) (hl : s.length ≤ 100000000) :
    Calls Tryz.prog 42 #[.pointer (some ⟨b, 0, none⟩)] w (RdM b w (linesP (s.length + 1) s)) := by
  have hf := fld0 b
  have hf1 := fld71 b
  have HB := hid h.lt
  have HE := hid hE
  have H0 : Hid (MSt w w b s (s.length + 1) nilV [] s) := ⟨by simp [restP], h, LO.nil _ _, Kept.refl _ _, by omega, by simp⟩
  clear h hE
  go_enter Tryz.func42, Tryz.ntmps42
  go_wp2_with fail
  go_loopg [3] (s.length + 1) (fun g v wr => ∃ rows r, MSt w wr b s g v rows r)
  case atStart => exact ⟨_, _, H0.out⟩
  case round =>
    obtain ⟨rows, r, hst⟩ := hrel
    have HS := hid hst
    obtain ⟨a, c, rfl⟩ := hst.g.slice
    obtain ⟨f, rfl⟩ : ∃ f, gk = f + 1 := ⟨gk - 1, by have := hst.l; omega⟩
    have c0 := hst.at_.c0
    clear hst
    by_cases h0 : r = []
    · have HX : Hid (linesP (s.length + 1) s = some (rows.map (·.2))) := by have := HS.out.q; rw [h0, rest_end] at this; exact this
      have g1 : (str r).toList = ([] : Bs) := by rw [toL]; exact h0
      clear h0
      go_wp2_with fail
      go_ret
      rw [HX.out]
      exact ⟨_, rfl, HS.out.g.ls, HS.out.k⟩
    · have g1 : (str r).toList.isEmpty = false := by rw [toL, List.isEmpty_eq_false_iff]; exact h0
      have E2 := HE.out.kept HS.out.k (by simpa using hb)
      have hl' : r.length ≤ 100000000 := by have := HS.out.l; have := HS.out.m; omega
      have C := line_any wr b r E2 hb HS.out.at_ hl'
      have HX : Hid (linesP (s.length + 1) s = match lineP r with
        | none => none
        | some (x, r2) => restP f (rows.map (·.2) ++ [x]) r2) := HS.out.q.trans (rest_step f _ r h0)
      clear h0 E2
      rcases hv : lineP r with _ | ⟨x, r2⟩
      · rw [hv] at C HX
        go_wp2_with fail
        refine C.mono ?_
        rintro e w3 ⟨rfl, k1⟩
        rw [HX.out]
        exact ⟨rfl, rfl, HS.out.k.trans1 k1⟩
      · rw [hv] at C HX
        have hr2 := hid (shr_line _ _ _ hv)
        clear hv
        go_wp2_with fail
        refine C.mono ?_
        rintro e w3 ⟨⟨lt, ⟨va, vb, vc⟩, ls, ⟨ca, cb, cc⟩, lx⟩, rfl, k1, k2, k3⟩
        rw [lV_mk]
        have K3 := HS.out.k.trans1 k3
        have G3 := HS.out.g.kept k3 (by simpa using HB.out)
        have hx := k1.mono (N' := fun q => w.heap.size ≤ q ∧ Value.ownBlock (.slice a rows.length c) ≠ some q) (fun q hq hN => ⟨Nat.le_trans HS.out.k.size hN, fun e => by
          have := (World.ownsRow.lt HS.out.g.o q e).2
          omega⟩)
        obtain ⟨v', W, hrun, hvo, hbl, _⟩ := G3.more K3.size ⟨lt, (va, vb, vc), ls, (ca, cb, cc), lx⟩ x hx (by have := HS.out.m; omega) w3.heap.size rfl
        have S3 : Hid (MSt w W b s f v' (rows ++ [(⟨lt, (va, vb, vc), ls, (ca, cb, cc), lx⟩, x)]) r2) := ⟨by rw [List.map_append]; exact HX.out, k2.low hbl HB.out, hvo, kept_lo K3 hbl, by have := hr2.out; have := HS.out.l; omega, by have := HS.out.m; simp; omega⟩
        have hrun' : (Builtin.append_ #[22, 22] 22 #[.slice a rows.length c, .slice (some ⟨w3.heap.size, 0, none⟩) 1 1]).run Tryz.prog (w3.alloc (.cells #[.string (str lt), .slice va vb vc, .string (str ls), .slice ca cb cc, .string (str lx)] 28)) = .ok v' W := hrun
        clear k1 k2 k3 K3 G3 hx hvo hbl C hrun HS
        go_wp2_with (at_builtin; refine wpList_append_run rfl rfl hrun' ?_)
        go_roundg f
        case measure => omega
        case rel => exact ⟨_, _, S3.out⟩
end Go.Proofs.YtpjcpdnolcehcaaGreatDoor
