/- What this text holds: lists of records of strings, of one's own and of others. -/
import Derived.Test.YtaniljfjmbifnaaGreatDoorHM2
namespace Go.Proofs.YtaniljfjmbifnaaGreatDoor.H
open Go.RowKit
set_option linter.unusedVariables false
set_option linter.unusedSimpArgs false

/-- The cells of records of strings. -/
def rc (l : List (List Bs)) : List Value := l.flatten.map fun p => .string (str p)
theorem rc_append (l m : List (List Bs)) : rc (l ++ m) = rc l ++ rc m := by simp [rc]
theorem rc_oneCell (l : List (List Bs)) : ∀ v ∈ rc l, v.oneCell' = true := by
  intro v hv
  simp only [rc, List.mem_map] at hv
  obtain ⟨x, _, rfl⟩ := hv
  rfl
/-- Each record has so many strings. -/
def Wd (k : Nat) (l : List (List Bs)) : Prop := ∀ r ∈ l, r.length = k
theorem Wd.append {k : Nat} {l m : List (List Bs)} (h : Wd k l) (h' : Wd k m) : Wd k (l ++ m) := by
  intro r hr
  rcases List.mem_append.1 hr with hr | hr
  · exact h r hr
  · exact h' r hr
theorem flat_len {k : Nat} : ∀ {l : List (List Bs)}, Wd k l → l.flatten.length = l.length * k
  | [], _ => by simp
  | r :: l, h => by
    have h1 := h r (List.mem_cons_self)
    have h2 := flat_len (l := l) (fun x hx => h x (List.mem_cons_of_mem _ hx))
    rw [List.flatten_cons, List.length_append, h1, h2, List.length_cons, Nat.succ_mul]
    omega
theorem rc_len {k : Nat} {l : List (List Bs)} (h : Wd k l) : (rc l).length = l.length * k := by
  rw [rc, List.length_map, flat_len h]
theorem flat_at {k : Nat} : ∀ {l : List (List Bs)}, Wd k l → ∀ (j i : Nat) (r : List Bs) (p : Bs), l[j]? = some r → r[i]? = some p → l.flatten[j * k + i]? = some p
  | [], _, j, i, r, p, h1, h2 => by simp at h1
  | q :: l, h, 0, i, r, p, h1, h2 => by
    simp at h1
    subst h1
    have hi : i < q.length := by
      rw [List.getElem?_eq_some_iff] at h2
      exact h2.1
    rw [List.flatten_cons, Nat.zero_mul, Nat.zero_add, List.getElem?_append_left hi]
    exact h2
  | q :: l, h, j + 1, i, r, p, h1, h2 => by
    have hq := h q (List.mem_cons_self)
    have := flat_at (l := l) (fun x hx => h x (List.mem_cons_of_mem _ hx)) j i r p (by simpa using h1) h2
    rw [List.flatten_cons, List.getElem?_append_right (by rw [hq, Nat.succ_mul]; omega), hq, show (j + 1) * k + i - k = j * k + i by rw [Nat.succ_mul]; omega]
    exact this
/-- Records lie in memory. -/
def RA (w : World) (g o k : Nat) (l : List (List Bs)) : Prop := ∀ (j i : Nat) (r : List Bs) (p : Bs), l[j]? = some r → r[i]? = some p → w.cell? ⟨g, o + (j * k + i), none⟩ = some (.string (str p))
def RL (w : World) (v : Value) (k : Nat) (l : List (List Bs)) : Prop := Wd k l ∧ ∃ a c, v = .slice a l.length c ∧ l.length ≤ c ∧ (l = [] ∨ ∃ g o, a = some ⟨g, o, none⟩ ∧ RA w g o k l ∧ g < w.heap.size)
theorem RA.later {w w' : World} {g o k : Nat} {l : List (List Bs)} (h : RA w g o k l) (hb : Below w.heap.size w w') : RA w' g o k l := by
  intro j i r p h1 h2
  have := h j i r p h1 h2
  exact (World.cell?_of_block (hb.block g (World.block_lt_of_cell? w _ this))).trans this
theorem RL.later {w w' : World} {v : Value} {k : Nat} {l : List (List Bs)} (h : RL w v k l) (hb : Below w.heap.size w w') : RL w' v k l := by
  obtain ⟨hw, a, c, rfl, hc, h⟩ := h
  refine ⟨hw, a, c, rfl, hc, ?_⟩
  rcases h with h | ⟨g, o, rfl, h, hg⟩
  · exact .inl h
  · exact .inr ⟨g, o, rfl, h.later hb, Nat.lt_of_lt_of_le hg hb.size⟩
/-- Records of one's own. -/
def RO (w : World) (B T k : Nat) (v : Value) (l : List (List Bs)) : Prop := Wd k l ∧ w.ownsRow B T k v l.length (rc l)
theorem RO.nil (w : World) (B T k : Nat) : RO w B T k (.slice none 0 0) [] := ⟨fun r hr => by simp at hr, by simp [rc], .inl ⟨rfl, rfl⟩⟩
theorem RO.later {w w' : World} {B T k : Nat} {v : Value} {l : List (List Bs)} (h : RO w B T k v l) (hb : Below w.heap.size w w') : RO w' B T k v l :=
  ⟨h.1, ownsRow_block h.2 (fun g hg => hb.block g (World.ownsRow.lt h.2 g hg).2)⟩
theorem RO.drewN {w : World} {B T k : Nat} {v : Value} {l : List (List Bs)} (h : RO w B T k v l) (n : Nat) : RO (w.drewN n) B T k v l := h.later (drewN_below _ _ _)
theorem RO.slice {w : World} {B T k : Nat} {v : Value} {l : List (List Bs)} (h : RO w B T k v l) : ∃ a c, v = .slice a l.length c := by
  rcases h.2.2 with ⟨h1, h2⟩ | ⟨g, cap, cur, h1, _⟩
  · exact ⟨none, 0, by rw [h1, h2]⟩
  · exact ⟨_, _, h1⟩
theorem RO.rl {w : World} {B T k : Nat} {v : Value} {l : List (List Bs)} (h : RO w B T k v l) : RL w v k l := by
  obtain ⟨hw, h⟩ := h
  refine ⟨hw, ?_⟩
  rcases id h.2 with ⟨rfl, h0⟩ | ⟨g, cap, cur, rfl, _, hg, hc, _⟩
  · have := List.eq_nil_of_length_eq_zero h0
    subst this
    exact ⟨none, 0, rfl, by simp, .inl rfl⟩
  · refine ⟨_, cap, rfl, hc, .inr ⟨g, 0, rfl, fun j i r p h1 h2 => ?_, lt_of_some hg⟩⟩
    have := World.ownsRow.cells h rfl (j * k + i) (.string (str p)) (by rw [rc, List.getElem?_map, flat_at hw j i r p h1 h2]; rfl)
    rw [Addr.add_mid] at this
    exact this
/-- A block of another type is none of its own. -/
theorem RO.ne {w : World} {B T k b : Nat} {X : Array Value} {t : TypeId} {fr : Nat × Nat} {v : Value} {l : List (List Bs)} (ht : t ≠ T) (hb : w.heap[b]? = some (.cells X t fr)) (h : RO w B T k v l) : v.ownBlock ≠ some b := by
  intro e
  rcases h.2.2 with ⟨h1, _⟩ | ⟨g, cap, cur, h1, _, h2, _⟩
  · subst h1; simp [Value.ownBlock] at e
  · subst h1
    simp only [Value.ownBlock, Option.some.injEq] at e
    subst e
    rw [hb] at h2
    simp at h2
    exact ht h2.2.1
theorem RO.setOther {w : World} {B T k b : Nat} {X : Array Value} {t : TypeId} {fr : Nat × Nat} {v : Value} {l : List (List Bs)} (h : RO w B T k v l) (ht : t ≠ T) (hb : w.heap[b]? = some (.cells X t fr)) (o : Nat) (u : Value) : RO (w.setCell ⟨b, o, none⟩ u) B T k v l :=
  ⟨h.1, ownsRow_setCell_other h.2 (h.ne ht hb) _⟩
/-- More records. -/
theorem ro_more {w : World} {B T t k by_ : Nat} {z : Value} (ut : Tryz.prog.underlying t = some (.slice T)) (inf : (Tryz.prog.info? T).map (fun i => (i.zero, i.size, i.bytes)) = some (some z, k, by_)) (hz : z.cells.size = k) (hk : 0 < k) (hby : by_ ≤ 1000)
    {v : Value} {l : List (List Bs)} (h : RO w B T k v l) (hBw : B ≤ w.heap.size) {u : Value} {m : List (List Bs)} (hu : RL w u k m) (hl : l.length ≤ 10000000) (hm : m.length ≤ 1000000) (hne : m ≠ []) :
    ∃ v' w', (Builtin.append_ #[t, t] t #[v, u]).run Tryz.prog w = .ok v' w' ∧ RO w' B T k v' (l ++ m) ∧ Below B w w' ∧ w.grownBy w' v.ownBlock := by
  obtain ⟨i, hi, hz0, hz1, hz2⟩ := info_parts inf
  obtain ⟨hw, a, c, rfl, hc, hs⟩ := hu
  rcases hs with hs | ⟨g, o, rfl, hs, hg⟩
  · exact absurd hs hne
  · obtain ⟨v', w', hr, ho', hg, _, _⟩ := run_append_own_at (P := Tryz.prog) w B t t T i _ k by_ ut hi hz0 hz1 hz2 hz hk v l.length (rc l) h.2
      ⟨g, o, none⟩ m.length c (rc m) (rc_len hw) (fun j x hx => by
        rw [Addr.add_mid]
        simp only [rc, List.getElem?_map, Option.map_eq_some_iff] at hx
        obtain ⟨p, hp, rfl⟩ := hx
        have hj : j < m.flatten.length := by
          rw [List.getElem?_eq_some_iff] at hp
          exact hp.1
        rw [flat_len hw] at hj
        have e1 : j / k < m.length := (Nat.div_lt_iff_lt_mul hk).2 hj
        have e2 : j % k < k := Nat.mod_lt _ hk
        have e3 : j / k * k + j % k = j := by rw [Nat.mul_comm]; exact Nat.div_add_mod j k
        have e4 : m[j / k]? = some m[j / k] := List.getElem?_eq_getElem e1
        have e5 : m[j / k].length = k := hw _ (List.getElem_mem e1)
        have e6 : (m[j / k])[j % k]? = some ((m[j / k])[j % k]'(by omega)) := List.getElem?_eq_getElem _
        have e7 := flat_at hw _ _ _ _ e4 e6
        rw [e3, hp] at e7
        have := hs _ _ _ _ e4 e6
        rw [e3] at this
        rw [this, Option.some.inj e7]) (rc_oneCell m) (by unfold maxLen; omega) (by
          have : (l.length + m.length) * by_ ≤ 11000000 * 1000 := Nat.mul_le_mul (by omega) hby
          omega) hBw
    rw [← rc_append, show l.length + m.length = (l ++ m).length by simp] at ho'
    exact ⟨v', w', hr, ⟨h.1.append hw, ho'⟩, (Below.refl B w).grown hg hBw (fun k hk => (World.ownsRow.lt h.2 k hk).1), hg⟩
theorem ra_one (w : World) (r : List Bs) (T : TypeId) : RL (w.alloc (.cells (r.map fun p => Value.string (str p)).toArray T)) (.slice (some ⟨w.heap.size, 0, none⟩) 1 1) r.length [r] := by
  refine ⟨fun q hq => by simp at hq; rw [hq], _, 1, rfl, by simp, .inr ⟨_, 0, rfl, fun j i q p h1 h2 => ?_, by simp⟩⟩
  cases j with
  | zero =>
    simp at h1
    subst h1
    simp only [World.cell?, heap_alloc_new, Nat.zero_add, Nat.zero_mul]
    simp [h2]
  | succ j => simp at h1
theorem Tryz.info9 : (Tryz.prog.info? 9).map (fun i => (i.zero, i.size, i.bytes)) = some (some (.string ⟨#[]⟩), 1, 16) := by kernel_rfl
theorem Tryz.info108 : (Tryz.prog.info? 108).map (fun i => (i.zero, i.size, i.bytes)) = some (some (.agg #[.string ⟨#[]⟩, .string ⟨#[]⟩]), 2, 32) := by kernel_rfl
theorem Tryz.info127 : (Tryz.prog.info? 127).map (fun i => (i.zero, i.size, i.bytes)) = some (some (.agg #[.string ⟨#[]⟩, .string ⟨#[]⟩, .string ⟨#[]⟩]), 3, 48) := by kernel_rfl
end Go.Proofs.YtaniljfjmbifnaaGreatDoor.H
