/- What this text holds: a literal is kept; a literal is awaited. -/
import Derived.Test.YtikcbgoocljgnaaDoorM4
import Derived.Deep.RegionLaw
namespace Go.Proofs.YtikcbgoocljgnaaDoor
open Go.RowKit
set_option linter.unusedVariables false
set_option linter.unusedSimpArgs false

/-- Bytes as a string. -/
theorem conv_gb {w : World} {v : Value} {l : Bs} (h : GO eB w 0 v l) : (convert 31 9 v).run Tryd.prog w = .ok (.string (str l)) w := by
  rcases id h.2 with ⟨rfl, h0⟩ | ⟨g, cap, cur, rfl, _, hg, _, _, _, hx⟩
  · have e := List.eq_nil_of_length_eq_zero h0
    subst e
    exact run_convert_bytes_nil w 31 5 Tryd.underlying31 Tryd.underlying5 0 0 9 Tryd.underlying9
  · have hc := World.ownsRow.cells h rfl
    have := run_convert_bytes_arg w 31 5 Tryd.underlying31 Tryd.underlying5 g 0 l.length cap (l.map fun b => (b.toNat : Int)) (by simp) (fun i hi => by
      have := hc i (.int .u8 (l[i].toNat)) (by
        have := eB.cs_at l i 0 l[i] (.int .u8 (l[i].toNat)) (List.getElem?_eq_getElem hi) rfl
        simpa [eB] using this)
      rw [Addr.add_mid] at this
      rw [this]
      simp [hi]) 9 Tryd.underlying9
    rw [this]
    have e : strOfNums (l.map fun b => (b.toNat : Int)) = str l := by
      unfold strOfNums str
      rw [List.map_map]
      have : ((fun n : Int => UInt8.ofNat n.toNat) ∘ fun b : UInt8 => (b.toNat : Int)) = id := by funext x; simp
      rw [this, List.map_id]
    rw [e]
/-- More elements: what has turned. -/
theorem go_more_kept {α : Type} (E : En α) {w : World} {v : Value} {l : List α} (h : GO E w 0 v l) {u : Value} {m : List α} (hu : GL E w u m) (hl : l.length ≤ 10000000) (hm : m.length ≤ 1000000) (hne : m ≠ []) :
    ∃ v' w', (Builtin.append_ #[E.t, E.t] E.t #[v, u]).run Tryd.prog w = .ok v' w' ∧ GO E w' 0 v' (l ++ m) ∧ Kept v.ownBlock.toList w w' ∧ (∀ g, v'.ownBlock = some g → v.ownBlock = some g ∨ w.heap.size ≤ g) := by
  obtain ⟨i, hi, hz0, hz1, hz2⟩ := info_parts E.inf
  obtain ⟨a, c, rfl, hc, hs⟩ := hu
  rcases hs with hs | ⟨g, o, rfl, hs, hg⟩
  · exact absurd hs hne
  · obtain ⟨v', w', hr, ho', hg, _, hbl⟩ := run_append_own_at (P := Tryd.prog) w 0 E.t E.t E.T i _ E.k E.by_ E.ut hi hz0 hz1 hz2 E.hz E.hk v l.length (E.cs l) h
      ⟨g, o, none⟩ m.length c (E.cs m) (E.cs_len m) (fun j x hx => by
        rw [Addr.add_mid]
        have hj : j < (E.cs m).length := (List.getElem?_eq_some_iff.1 hx).1
        rw [E.cs_len] at hj
        have e1 : j / E.k < m.length := (Nat.div_lt_iff_lt_mul E.hk).2 hj
        have e2 : j % E.k < E.k := Nat.mod_lt _ E.hk
        have e3 : j / E.k * E.k + j % E.k = j := by rw [Nat.mul_comm]; exact Nat.div_add_mod j E.k
        have e4 : m[j / E.k]? = some m[j / E.k] := List.getElem?_eq_getElem e1
        have e5 : (E.enc m[j / E.k])[j % E.k]? = some ((E.enc m[j / E.k])[j % E.k]'(by rw [E.len]; exact e2)) := List.getElem?_eq_getElem _
        have e7 := E.cs_at m _ _ _ _ e4 e5
        rw [e3, hx] at e7
        have := hs _ _ _ _ e4 e5
        rw [e3] at this
        rw [this, Option.some.inj e7]) (E.cs_one m) (by unfold maxLen; omega) (by
          have : (l.length + m.length) * E.by_ ≤ 11000000 * 1000 := Nat.mul_le_mul (by omega) E.hby
          omega) (Nat.zero_le _)
    rw [← E.cs_append, show l.length + m.length = (l ++ m).length by simp] at ho'
    refine ⟨v', w', hr, ho', Kept.ofGrown hg _ (fun k hk => by rw [hk]; simp), ?_⟩
    intro q e
    rcases hbl with h3 | h3
    · left; rw [← h3]; exact e
    · right
      rw [h3] at e
      simp at e
      omega
theorem step_more {α : Type} (E : En α) {ops : Array Oper} {o : Oper} {a : Act} {K : Act → World → Prop} {Q : Exit → Act → World → Prop} {EE : Prop} {w : World} {v u : Value} {S m : List α} (hgd : o.guard = none) (s x : Operand)
    (ho : o.op = .call { callee := .builtin .append, args := #[s, x], argTypes := #[E.t, E.t] }) (hty : o.type = E.t) (hs : a.eval s = v) (hx : a.eval x = u) (hgo : GO E w 0 v S) (hgl : GL E w u m) (hl : S.length ≤ 10000000) (hm : m.length ≤ 1000000) (hne : m ≠ [])
    (h : ∀ v' w', GO E w' 0 v' (S ++ m) → Kept v.ownBlock.toList w w' → (∀ g, v'.ownBlock = some g → v.ownBlock = some g ∨ w.heap.size ≤ g) → K (a.put o.dst v') w') :
    if Region.wanted o (yielded ops a.tmps) = true then Oper.wp Tryd.prog o a w K Q else EE := by
  have hw : Region.wanted o (yielded ops a.tmps) = true := by simp [Region.wanted, hgd]
  obtain ⟨v', w', hr, ho', hk, hg⟩ := go_more_kept E hgo hgl hl hm hne
  rw [if_pos hw]
  unfold Oper.wp execOp
  simp only [ho, hty, resolve, invoke, builtin, Sem.run_bind, Sem.run_pure, Result.andThen_ok, List.map_toArray, List.map_cons, List.map_nil, hs, hx, hr]
  exact h v' w' ho' hk hg
theorem gl_text {W : World} {n : Nat} {x : Bs} (h : W.heap[n]? = some (.cells #[.string (str x)] 9 (0, 0))) : GL eS W (.slice (some ⟨n, 0, none⟩) 1 1) [x] := by
  refine ⟨_, 1, rfl, by simp, .inr ⟨n, 0, rfl, fun j i q v h1 h2 => ?_, lt_of_some h⟩⟩
  cases j with
  | zero =>
    simp at h1
    subst h1
    match i, h2 with
    | 0, h2 => simp [eS] at h2; subst h2; simp [World.cell?, h]
    | i + 1, h2 => simp [eS] at h2
  | succ j => simp at h1
def keepLitF (F : Fd) : Fd := { F with lits := F.lits ++ [F.under], under := [] }
/-- What is left behind a literal that was kept. -/
theorem lit_end {w W w' : World} {b : Nat} {vt vl vu v' : Value} {F : Fd} (f : FIn w b vt vl vu F) (hb : Below w.heap.size w W) (hk : Kept vl.ownBlock.toList W w') (ho : GO eS w' 0 v' (F.lits ++ [F.under])) (hn : ∀ g, v'.ownBlock = some g → vl.ownBlock = some g ∨ W.heap.size ≤ g) :
    (w'.cell? ⟨b, 1, none⟩ = some vl ∧ w'.frozen? ⟨b, 1, none⟩ = false ∧ w'.cell? ⟨b, 3, none⟩ = some vu ∧ w'.frozen? ⟨b, 3, none⟩ = false) ∧ FTo w b (own3 b vt vl vu) (keepLitF F) ((w'.setCell ⟨b, 1, none⟩ v').setCell ⟨b, 3, none⟩ (.slice none 0 0)) := by
  have r1 := (f.r4.later hb).lit f.tl hk ho
  have r2 := (r1.set 1 v').set 3 (.slice none 0 0)
  have hlt := f.lt
  have hw := hb.size
  have tl' : ∀ g, vt.ownBlock = some g → v'.ownBlock ≠ some g := fun g hg e => by
    rcases hn g e with q | q
    · exact f.tl g hg q
    · have := f.t.lt hg; omega
  refine ⟨⟨r1.cell 1 rfl, r1.free 1, r1.cell 3 rfl, r1.free 3⟩, own3 b vt v' (.slice none 0 0), ⟨vt, v', .slice none 0 0, ⟨?_, r2.t, r2.l, GO.nil _ _ _, tl'⟩, rfl⟩, ?_, fun g hg => ?_⟩
  · rw [r2.row]; rfl
  · have hb' : b ∈ own3 b vt vl vu := own3_mem.2 (.inl rfl)
    have k1 : Kept (own3 b vt vl vu) w w' := (Kept.ofBelow hb _).trans (hk.mono (T := own3 b vt vl vu) (fun i _ hi => own3_mem.2 (.inr (.inr (.inl (by rwa [Option.mem_toList] at hi)))))) (fun _ _ h => h)
    exact (k1.trans (Kept.setCell _ _ _ _ hb') (fun _ _ h => h)).trans (Kept.setCell _ _ _ _ hb') (fun _ _ h => h)
  · rcases own3_mem.1 hg with e | e | e | e
    · exact .inl (own3_mem.2 (.inl e))
    · exact .inl (own3_mem.2 (.inr (.inl e)))
    · rcases hn g e with q | q
      · exact .inl (own3_mem.2 (.inr (.inr (.inl q))))
      · exact .inr (by omega)
    · simp [Value.ownBlock] at e
set_option maxRecDepth 100000 in
set_option maxHeartbeats 2000000 in
theorem keepLiteral_any {w : World} {b : Nat} {own : List Nat} {F : Fd} (h : FAt w b own F) (h1 : F.lits.length ≤ 1000) :
    Calls Tryd.prog 62 #[.pointer (some ⟨b, 0, none⟩)] w fun e w' => e = .returned (.tuple #[]) ∧ FTo w b own (keepLitF F) w' := by
  obtain ⟨vt, vl, vu, f, rfl⟩ := h
  have c1 : w.cell? ⟨b, 1, none⟩ = some vl := f.r4.cell 1 rfl
  have c3 : w.cell? ⟨b, 3, none⟩ = some vu := f.r4.cell 3 rfl
  have hcv : (convert 31 9 vu).run Tryd.prog w.drew = .ok (.string (str F.under)) w.drew := conv_gb (f.u.later (drewN_below w 1 _))
  have c1' : (w.alloc (.cells #[.string (str F.under)] 9)).cell? ⟨b, 1, none⟩ = some vl := (f.r4.later ((Below.refl _ _).alloc (Nat.le_refl _) _)).cell 1 rfl
  have HF := hid f
  have HBd : Hid (Below w.heap.size w w.drew) := drewN_below w 1 _
  have HBlk : Hid ((w.drew.alloc (.cells #[.string (str F.under)] 9)).heap[w.heap.size]? = some (.cells #[.string (str F.under)] 9 (0, 0))) := heap_alloc_new w.drew _
  obtain ⟨a1, k1, hv1⟩ := f.l.slice (n := F.lits.length) rfl
  obtain ⟨a3, k3, hv3⟩ := f.u.slice (n := F.under.length) rfl
  subst hv1 hv3
  clear f
  go_enter Tryd.func62, Tryd.ntmps62
  go_wp2_with fail
  go_region_law ((refine step_more eS (S := F.lits) (m := [F.under]) (by rfl) (.tmp 6) (.tmp 12) (by rfl) (by rfl) (by rfl) (by rfl) (by exact HF.out.l.later (by repeat (first | exact HBd.out | exact Below.refl _ _ | refine Below.alloc ?_ (by simp) _ | refine Below.drew ?_))) (by exact gl_text (by exact HBlk.out)) (by omega) (by simp) (by simp) ?_; intro v' w' hgo' hk' hn'; obtain ⟨a5, c5, rfl⟩ := hgo'.slice (n := F.lits.length + 1) (by simp); obtain ⟨⟨e1, e2, e3, e4⟩, e5⟩ := lit_end HF.out (by repeat (first | exact HBd.out | exact Below.refl _ _ | refine Below.alloc ?_ (by simp) _ | refine Below.drew ?_)) hk' hgo' hn'))
  all_goals
    go_wp2_with fail
    go_end0
    exact ⟨rfl, e5⟩
end Go.Proofs.YtikcbgoocljgnaaDoor
