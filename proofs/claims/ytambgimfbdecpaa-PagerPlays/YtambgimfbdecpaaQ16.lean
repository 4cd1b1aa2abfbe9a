/- What this text holds: the power goes in what is put and committed: plain facts. -/
import Derived.Test.YtambgimfbdecpaaQ15
namespace Go.Proofs.Ytambgimfbdecpaa
open Go.RowKit Go.Maps
set_option linter.unusedVariables false

theorem step_cases (D : DS) : (D.step.1 = false ∧ D.step.2 = { D with gone := true }) ∨ (D.step.1 = true ∧ D.gone = false ∧ ∃ f, D.step.2 = { D with fuse := f, steps := D.steps + 1 }) := by
  unfold DS.step
  split
  · exact .inl ⟨rfl, rfl⟩
  · rename_i h
    refine .inr ⟨rfl, ?_, _, rfl⟩
    cases hg : D.gone with
    | false => rfl
    | true => exact absurd (.inl hg) h
/-- A write, told apart. -/
theorem write_cases (D : DS) (i : Int) (l : List Int) (hl : l.length = 512) (hi : 0 ≤ i ∧ i < D.n) :
    D.write i l = (9, { D with gone := true }) ∨ (D.gone = false ∧ ∃ f, D.write i l = (0, { D with fuse := f, steps := D.steps + 1, waits := D.waits ++ [(i, l)] })) := by
  unfold DS.write
  rw [if_neg (by simp [hl]), if_neg (by simp [hi])]
  rcases step_cases D with ⟨h1, h2⟩ | ⟨h1, h2, f, h3⟩
  · left; rw [h1, h2]; rfl
  · right; refine ⟨h2, f, ?_⟩; rw [h1, h3]; rfl
/-- A flush. -/
theorem flush_cases (D : DS) : D.flush = (9, { D with gone := true }) ∨ (D.gone = false ∧ ∃ f, D.flush = (0, { D with fuse := f, steps := D.steps + 1, secs := layAll D.secs D.waits, waits := [] })) := by
  unfold DS.flush
  rcases step_cases D with ⟨h1, h2⟩ | ⟨h1, h2, f, h3⟩
  · left; rw [h1, h2]; rfl
  · right; refine ⟨h2, f, ?_⟩; rw [h1, h3]; rfl

theorem keep_length (ws : List (Int × List Int)) (n : Nat) (hw : ∀ x ∈ ws, 0 ≤ x.1 ∧ x.1 < n ∧ x.2.length = 512) : ∀ (ks : List (Int × Int)) (s : List Int), s.length = n * 512 → (ks.foldl (keep1 ws) s).length = n * 512 := by
  intro ks
  induction ks with
  | nil => intro s h; exact h
  | cons k ks ih => intro s h; exact ih _ (keep1_length ws s k n h hw)
theorem crash_other (ws : List (Int × List Int)) (n j : Nat) (hw : ∀ x ∈ ws, 0 ≤ x.1 ∧ x.1 < n ∧ x.2.length = 512) (hj : ∀ x ∈ ws, x.1 ≠ j) : ∀ (ks : List (Int × Int)) (s : List Int), s.length = n * 512 → sec (ks.foldl (keep1 ws) s) j = sec s j := by
  intro ks
  induction ks with
  | nil => intro s h; rfl
  | cons k ks ih =>
    intro s h
    show sec (ks.foldl (keep1 ws) (keep1 ws s k)) j = _
    rw [ih _ (keep1_length ws s k n h hw)]
    unfold keep1
    split
    · rename_i hk
      have hm := List.getElem_mem hk.2
      have h1 := hw _ hm
      have h2 := hj _ hm
      exact sec_layS_other s n _ j _ h (by omega) (by rw [List.length_take]; omega) (by omega)
    · rfl
theorem crash_one (X : List Int) (hX : X.length = 512) (n : Nat) (hn : 2 ≤ n) : ∀ (ks : List (Int × Int)) (s : List Int) (Y : List Int), s.length = n * 512 → Y.length = 512 → (∃ k, k ≤ 512 ∧ sec s 1 = X.take k ++ Y.drop k) → ∃ k, k ≤ 512 ∧ sec (ks.foldl (keep1 [((1 : Int), X)]) s) 1 = X.take k ++ Y.drop k := by
  intro ks
  induction ks with
  | nil => intro s Y h hY hk; exact hk
  | cons q ks ih =>
    intro s Y h hY hk
    have hw : ∀ x ∈ [((1 : Int), X)], 0 ≤ x.1 ∧ x.1 < n ∧ x.2.length = 512 := by
      intro x hx
      rw [List.mem_singleton] at hx
      subst hx
      exact ⟨by simp, by simp; omega, hX⟩
    refine ih _ Y (keep1_length _ s q n h hw) hY ?_
    obtain ⟨k, hk5, hk⟩ := hk
    unfold keep1
    split
    · rename_i hq
      have e0 : q.1.toNat = 0 := by have := hq.2; simp at this; omega
      simp only [e0, List.getElem_cons_zero]
      have hc : keepN q.2 ≤ 512 := by unfold keepN; omega
      generalize keepN q.2 = c at hc
      have hl : (X.take c).length = c := by rw [List.length_take]; omega
      refine ⟨max c k, by omega, ?_⟩
      have e1 : (1 : Int).toNat = 1 := rfl
      rw [e1, sec_layS_same s n 1 (X.take c) h (by omega) (by omega), hl, hk, List.drop_append, List.length_take, Nat.min_eq_left (by omega : k ≤ X.length), List.drop_drop]
      by_cases hck : c ≤ k
      · rw [Nat.max_eq_right hck, show k + (c - k) = k by omega, ← List.append_assoc]
        congr 1
        have e : X.take c = (X.take k).take c := by rw [List.take_take, Nat.min_eq_left hck]
        rw [e, List.take_append_drop]
      · rw [Nat.max_eq_left (by omega), List.drop_of_length_le (by rw [List.length_take]; omega), List.nil_append, show k + (c - k) = c by omega]
    · exact ⟨k, hk5, hk⟩

/-- The page holds this content. -/
def HoldsP (D : DS) (x : Int × ByteArray) : Prop := ∃ (N : Nat) (k g : Int), x.1 = N ∧ 2 ≤ N ∧ N < 30 ∧ x.2.size ≤ 492 ∧ okPage k g ∧ D.read N = sealL k g (bOf x.2)
/-- What lies on the disk behind begun. -/
structure Base0 (m : Nat) (ss : List ByteArray) (S : List Int) : Prop where
  len : S.length = 30 * 512
  pg : ∀ i, i < m → sec S (i + 2) = sealL i 2 (bOf (conAt ss i))
  r0 : sec S 0 = rootL 2 (bOf ⟨#[111, 108, 100]⟩)
  r1 : sec S 1 = rootL 1 []
  m : m ≤ 12

/-- In between. -/
structure Wh (m : Nat) (S : List Int) (j : Nat) (now : List (Int × ByteArray)) (P : PS) : Prop where
  n : P.D.n = 30
  gen : P.gen = 2
  pins : P.pins = []
  dg : P.dead = P.D.gone
  secs : P.D.secs = S
  ws : ∀ x ∈ P.D.waits, ((m + 2 : Nat) : Int) ≤ x.1
  s : P.D.steps ≤ 20 + (j : Int)
  w : P.D.waits.length ≤ j
  st1 : ∀ i, 2 ≤ i → i < m + 2 → stOf P.st i = 1 ∨ stOf P.st i = 3
  len : P.st.length = 30
  nd : (now.map (·.1)).Nodup
  nw : ∀ x ∈ now, ∃ N : Nat, x.1 = N ∧ stOf P.st N ≠ 0 ∧ HoldsP P.D x
theorem stOf_set (st : List (Int × Int)) (k i : Nat) (x : Int × Int) (hk : k < st.length) : stOf (st.set k x) i = if i = k then x.1 else stOf st i := by
  unfold stOf
  rw [List.getD_eq_getElem?_getD, List.getD_eq_getElem?_getD, List.getElem?_set]
  by_cases e : k = i
  · subst e; rw [if_pos rfl, if_pos hk, if_pos rfl]; rfl
  · rw [if_neg e, if_neg (fun h => e h.symm)]
theorem Begun.wh {m : Nat} {ss : List ByteArray} {P : PS} (h : Begun 30 m ss P) (hm : m ≤ 12) (F : Int) : Wh m P.D.secs 0 (pagesOf ss m) { P with D := P.D.fused F } := by
  refine ⟨h.n, h.gen, h.pins, ?_, rfl, ?_, by have := h.s; show P.D.steps ≤ _; omega, by show P.D.waits.length ≤ 0; rw [h.w]; exact Nat.le_refl _, ?_, by show P.st.length = 30; rw [h.st]; exact roomSt_length 1 30 _ (by omega) (by omega), ?_, ?_⟩
  · show P.dead = P.D.gone
    rw [h.ok.a, h.ok.d.g]
  · intro x hx
    have : x ∈ P.D.waits := hx
    rw [h.w] at this
    cases this
  · intro i h2 hi
    show stOf P.st i = 1 ∨ _
    rw [h.st, roomSt_at 1 30 _ i (by omega) (by omega) h2 (by omega), if_pos hi]
    exact .inl rfl
  · rw [show (pagesOf ss m).map (·.1) = (List.range m).map fun i => ((i + 2 : Nat) : Int) by simp [pagesOf, Function.comp_def]]
    refine List.Pairwise.map _ (fun a b hab => ?_) List.nodup_range
    omega
  · intro x hx
    simp only [pagesOf, List.mem_map, List.mem_range] at hx
    obtain ⟨i, hi, rfl⟩ := hx
    refine ⟨i + 2, rfl, ?_, i + 2, i, 2, rfl, by omega, by omega, conAt_size ss i, by unfold okPage; omega, h.pg i hi⟩
    show stOf P.st (i + 2) ≠ 0
    rw [h.st, roomSt_at 1 30 _ _ (by omega) (by omega) (by omega) (by omega), if_pos (by omega)]
    decide
theorem Begun.base0 {m : Nat} {ss : List ByteArray} {P : PS} (h : Begun 30 m ss P) (hg : P.D.good) (hm : m ≤ 12) : Base0 m ss P.D.secs := by
  have hr : ∀ j, P.D.read j = sec P.D.secs j := fun j => by unfold DS.read; rw [h.w]; rfl
  refine ⟨by rw [hg.len, h.n], fun i hi => by rw [← hr]; exact h.pg i hi, by rw [← hr]; exact h.r0, by rw [← hr]; exact h.r1, hm⟩
theorem withoutL_mem {ps : List (Int × ByteArray)} {z : Int} {x : Int × ByteArray} (h : x ∈ withoutL ps z) : x ∈ ps ∧ x.1 ≠ z := by
  unfold withoutL at h
  rw [List.mem_filter] at h
  exact ⟨h.1, by simpa using h.2⟩
theorem withoutL_nodup {ps : List (Int × ByteArray)} {z : Int} (h : (ps.map (·.1)).Nodup) : ((withoutL ps z).map (·.1)).Nodup :=
  List.Nodup.sublist (List.Sublist.map _ List.filter_sublist) h
/-- A page is dropped. -/
theorem Wh.drop {m j : Nat} {S : List Int} {now : List (Int × ByteArray)} {P : PS} (h : Wh m S j now P) (z : Int) : ((P.drop z).1 = 0 ∧ Wh m S j (withoutL now z) (P.drop z).2) ∨ ((P.drop z).1 ≠ 0 ∧ Wh m S j now (P.drop z).2) := by
  unfold PS.drop
  split
  · exact .inr ⟨by simp, h⟩
  · split
    · exact .inr ⟨by simp, h⟩
    · rename_i hd hu
      obtain ⟨k, rfl, hk2, hkl, hk0⟩ := usedP_yes (by simpa using hu)
      rw [Int.toNat_natCast]
      have key : ∀ y : Int × Int, (k < m + 2 → y.1 = 1 ∨ y.1 = 3) → Wh m S j (withoutL now k) { P with st := P.st.set k y } := fun y hy => by
        refine ⟨h.n, h.gen, h.pins, h.dg, h.secs, h.ws, h.s, h.w, fun i h2 hi => ?_, by show (P.st.set k y).length = 30; rw [List.length_set]; exact h.len, withoutL_nodup h.nd, fun x hx => ?_⟩
        · show stOf (P.st.set k y) i = 1 ∨ stOf (P.st.set k y) i = 3
          rw [stOf_set _ _ _ _ hkl]
          by_cases e : i = k
          · subst e; rw [if_pos rfl]; exact hy hi
          · rw [if_neg e]; exact h.st1 i h2 hi
        · obtain ⟨h1, h2⟩ := withoutL_mem hx
          obtain ⟨N, e, hN, hh⟩ := h.nw x h1
          refine ⟨N, e, ?_, hh⟩
          show stOf (P.st.set k y) N ≠ 0
          rw [stOf_set _ _ _ _ hkl, if_neg (fun e' => h2 (by rw [e, e']))]
          exact hN
      split
      · rename_i h2
        refine .inl ⟨rfl, key (0, 0) (fun hk => ?_)⟩
        rcases h.st1 k hk2 hk with e | e <;> rw [e] at h2 <;> simp at h2
      · split
        · exact .inl ⟨rfl, key (3, 0) (fun _ => .inr rfl)⟩
        · exact .inr ⟨by simp, h⟩
theorem lastW_snoc (ws : List (Int × List Int)) (N : Nat) (X : List Int) (i : Nat) (d : List Int) : lastW (ws ++ [((N : Int), X)]) i d = if i = N then X else lastW ws i d := by
  rw [lastW_append]
  show (if ((N : Nat) : Int) = i then X else _) = _
  by_cases h : i = N
  · subst h; rw [if_pos rfl, if_pos rfl]
  · rw [if_neg (by omega), if_neg h]
/-- A page is put. -/
theorem Wh.put {m j : Nat} {S : List Int} {now : List (Int × ByteArray)} {P : PS} (h : Wh m S j now P) (kind : Int) (hk : 0 ≤ kind ∧ kind ≤ 255) (s : ByteArray) (hs : s.size ≤ 492) (hm : m ≤ 12) :
    ((P.put kind s).1.2 = 0 ∧ Wh m S (j + 1) (now ++ [((P.put kind s).1.1, s)]) (P.put kind s).2) ∨ ((P.put kind s).1.2 ≠ 0 ∧ Wh m S (j + 1) now (P.put kind s).2) := by
  have more : ∀ P' : PS, P'.D.n = P.D.n → P'.gen = P.gen → P'.pins = P.pins → P'.dead = P'.D.gone → P'.D.secs = P.D.secs → P'.D.waits = P.D.waits → P'.D.steps ≤ P.D.steps + 1 → P'.st = P.st → Wh m S (j + 1) now P' := by
    intro P' e1 e2 e3 e4 e5 e6 e7 e8
    refine ⟨by rw [e1]; exact h.n, by rw [e2]; exact h.gen, by rw [e3]; exact h.pins, e4, by rw [e5]; exact h.secs, by rw [e6]; exact h.ws, by have := h.s; omega, by rw [e6]; have := h.w; omega, by rw [e8]; exact h.st1, by rw [e8]; exact h.len, h.nd, fun x hx => ?_⟩
    obtain ⟨N, e, hN, q, k, g, a1, a2, a3, a4, a5, a6⟩ := h.nw x hx
    refine ⟨N, e, by rw [e8]; exact hN, q, k, g, a1, a2, a3, a4, a5, ?_⟩
    unfold DS.read at a6 ⊢
    rw [e5, e6]
    exact a6
  unfold PS.put
  split
  · exact .inr ⟨by simp, more P rfl rfl rfl h.dg rfl rfl (by omega) rfl⟩
  · rename_i hd
    have hp : okPage kind (P.gen + 1) := by rw [h.gen]; unfold okPage; omega
    rw [sealE_yes hp hs, if_neg (by simp)]
    split
    · exact .inr ⟨by simp, more P rfl rfl rfl h.dg rfl rfl (by omega) rfl⟩
    · rename_i hl
      obtain ⟨h2, h3, h4, _⟩ := lowFree_lt P.st hl
      have hX := sealL_length kind (P.gen + 1) (bOf s) (by rw [bOf_length]; exact hs)
      have hN2 : m + 2 ≤ lowFree P.st := by
        rcases Nat.lt_or_ge (lowFree P.st) (m + 2) with h5 | h5
        · rcases h.st1 _ h2 h5 with e | e <;> rw [h4] at e <;> simp at e
        · exact h5
      generalize lowFree P.st = N at *
      generalize hXX : sealL kind (P.gen + 1) (bOf s) = X at *
      rcases write_cases P.D N X hX ⟨by omega, by rw [h.n]; have := h.len; omega⟩ with e | ⟨hg, f, e⟩
      · rw [e, if_neg (by simp)]
        refine .inr ⟨by simp, ?_⟩
        exact more _ rfl rfl rfl rfl rfl rfl (by show P.D.steps ≤ P.D.steps + 1; omega) rfl
      · rw [e, if_pos rfl]
        refine .inl ⟨rfl, h.n, h.gen, h.pins, h.dg, h.secs, ?_, ?_, ?_, fun i h6 hi => ?_, by show (P.st.set N (2, 0)).length = 30; rw [List.length_set]; exact h.len, ?_, ?_⟩
        · intro x hx
          have : x ∈ P.D.waits ++ [((N : Int), X)] := hx
          rw [List.mem_append, List.mem_singleton] at this
          rcases this with hx | rfl
          · exact h.ws x hx
          · show ((m + 2 : Nat) : Int) ≤ (N : Int); omega
        · show P.D.steps + 1 ≤ _
          have := h.s; omega
        · show (P.D.waits ++ [((N : Int), X)]).length ≤ _
          have := h.w; simp; omega
        · show stOf (P.st.set N (2, 0)) i = 1 ∨ stOf (P.st.set N (2, 0)) i = 3
          rw [stOf_set _ _ _ _ h3, if_neg (by omega)]
          exact h.st1 i h6 hi
        · rw [List.map_append, List.map_singleton]
          refine List.nodup_append.2 ⟨h.nd, by simp, fun a ha b hb => ?_⟩
          rw [List.mem_singleton] at hb
          subst hb
          rw [List.mem_map] at ha
          obtain ⟨x, hx, rfl⟩ := ha
          obtain ⟨Q, e1, hQ, _⟩ := h.nw x hx
          intro e2
          simp only at e2
          have : Q = N := by omega
          subst this
          exact hQ h4
        · intro x hx
          rw [List.mem_append, List.mem_singleton] at hx
          rcases hx with hx | rfl
          · obtain ⟨Q, e1, hQ, q, k, g, a1, a2, a3, a4, a5, a6⟩ := h.nw x hx
            have hqQ : q = Q := by omega
            subst hqQ
            have hne : q ≠ N := fun e => hQ (by rw [e]; exact h4)
            refine ⟨q, e1, ?_, q, k, g, a1, a2, a3, a4, a5, ?_⟩
            · show stOf (P.st.set N (2, 0)) q ≠ 0
              rw [stOf_set _ _ _ _ h3, if_neg hne]
              exact hQ
            · unfold DS.read at a6 ⊢
              show lastW (P.D.waits ++ [((N : Int), X)]) q _ = _
              rw [lastW_snoc, if_neg hne]
              exact a6
          · refine ⟨N, rfl, ?_, N, kind, P.gen + 1, rfl, by omega, by have := h.len; omega, hs, hp, ?_⟩
            · show stOf (P.st.set N (2, 0)) N ≠ 0
              rw [stOf_set _ _ _ _ h3, if_pos rfl]
              decide
            · unfold DS.read
              show lastW (P.D.waits ++ [((N : Int), X)]) N _ = _
              rw [lastW_snoc, if_pos rfl, hXX]

def oldS : ByteArray := ⟨#[111, 108, 100]⟩
def newS : ByteArray := ⟨#[110, 101, 119]⟩
theorem roots_one {C : DS} (h0 : C.read 0 = rootL 2 (bOf oldS)) : C.roots 1 = (2, oldS) := by
  show pickR (C.read 0) 0 0 ⟨#[]⟩ = _
  rw [h0]
  unfold pickR
  rw [rgenOf_root _ _ (by omega) (by omega), rconOf_root _ _ (by decide), strOf_bOf, if_pos ⟨isRoot_root _ _ (by omega) (by omega) (by decide), by decide, by decide⟩]
theorem roots_old {C : DS} (h0 : C.read 0 = rootL 2 (bOf oldS)) (h1 : ¬ isRoot (C.read 1) ∨ C.read 1 = rootL 1 []) : C.roots 2 = (2, oldS) := by
  show pickR (C.read 1) 1 (C.roots 1).1 (C.roots 1).2 = _
  rw [roots_one h0]
  unfold pickR
  rcases h1 with h1 | h1
  · rw [if_neg (fun h => h1 h.1)]
  · rw [h1, rgenOf_root _ _ (by omega) (by omega), if_neg (fun h => by have := h.2.2; simp at this)]
theorem roots_new {C : DS} (h0 : C.read 0 = rootL 2 (bOf oldS)) (h1 : C.read 1 = rootL 3 (bOf newS)) : C.roots 2 = (3, newS) := by
  show pickR (C.read 1) 1 (C.roots 1).1 (C.roots 1).2 = _
  rw [roots_one h0, h1]
  unfold pickR
  rw [rgenOf_root _ _ (by omega) (by omega), rconOf_root _ _ (by decide), strOf_bOf, if_pos ⟨isRoot_root _ _ (by omega) (by omega) (by decide), by decide, by decide⟩]
theorem crash_read (D : DS) (ks : List (Int × Int)) (i : Nat) : (D.crash ks).read i = sec (ks.foldl (keep1 D.waits) D.secs) i := rfl

/-- What is there behind a crash. -/
def Behind (ss : List ByteArray) (m : Nat) (now : List (Int × ByteArray)) (r : Int) (C : DS) : Prop :=
  (C.roots 2 = (3, newS) ∧ ∀ x ∈ now, HoldsP C x) ∨ (r ≠ 0 ∧ C.roots 2 = (2, oldS) ∧ ∀ x ∈ pagesOf ss m, HoldsP C x)
theorem behind_old {m : Nat} {ss : List ByteArray} {S : List Int} {now : List (Int × ByteArray)} {C : DS} {r : Int} (b0 : Base0 m ss S) (hr : r ≠ 0) (h : ∀ i, i < m + 2 → i ≠ 1 → C.read i = sec S i) (h1 : ¬ isRoot (C.read 1) ∨ C.read 1 = rootL 1 []) : Behind ss m now r C := by
  refine .inr ⟨hr, roots_old (by rw [h 0 (by omega) (by omega)]; exact b0.r0) h1, fun x hx => ?_⟩
  simp only [pagesOf, List.mem_map, List.mem_range] at hx
  obtain ⟨i, hi, rfl⟩ := hx
  have hm := b0.m
  exact ⟨i + 2, i, 2, rfl, by omega, by omega, conAt_size ss i, by unfold okPage; omega, by rw [h (i + 2) (by omega) (by omega)]; exact b0.pg i hi⟩

theorem whole_crash {m j : Nat} {S : List Int} {ss : List ByteArray} {now : List (Int × ByteArray)} {P : PS} (h : Wh m S j now P) (b0 : Base0 m ss S) (hg : P.D.good) (ks : List (Int × Int)) :
    Behind ss m now (P.commit newS).1 ((P.commit newS).2.D.crash ks) := by
  have hwg : ∀ x ∈ P.D.waits, 0 ≤ x.1 ∧ x.1 < (30 : Nat) ∧ x.2.length = 512 := fun x hx => by have := hg.w x hx; rw [h.n] at this; exact this
  have hm := b0.m
  -- what waited is kept in parts: the old one
  have hA : ∀ D : DS, D.secs = S → D.waits = P.D.waits → ∀ r : Int, r ≠ 0 → Behind ss m now r (D.crash ks) := by
    intro D e1 e2 r hr
    have hx : ∀ i, i < m + 2 → (D.crash ks).read i = sec S i := fun i hi => by
      rw [crash_read, e1, e2]
      exact crash_other _ 30 i hwg (fun x hx => by have := h.ws x hx; omega) ks S b0.len
    exact behind_old b0 hr (fun i hi _ => hx i hi) (.inr (by rw [hx 1 (by omega)]; exact b0.r1))
  unfold PS.commit
  by_cases hd : P.dead = true
  · rw [if_pos hd]
    exact hA P.D h.secs rfl 9 (by decide)
  · rw [if_neg hd, rootE_yes (by rw [h.gen]; unfold okGen; omega) (by decide), if_neg (by simp)]
    have e3 : P.gen + 1 = 3 := by rw [h.gen]; rfl
    rw [e3]
    have hXl := rootL_length 3 (bOf newS) (by decide)
    have hL1 : (layAll S P.D.waits).length = 30 * 512 := layAll_length _ _ _ b0.len hwg
    have hs1 : ∀ i, i < 30 → sec (layAll S P.D.waits) i = P.D.read i := fun i hi => by
      rw [sec_layAll P.D.waits S 30 i b0.len hwg hi]
      unfold DS.read
      rw [h.secs]
    have hlow : ∀ i, i < m + 2 → sec (layAll S P.D.waits) i = sec S i := fun i hi => by
      rw [sec_layAll P.D.waits S 30 i b0.len hwg (by omega)]
      exact lastW_none _ _ _ (fun x hx => by have := h.ws x hx; omega)
    unfold DS.layRoot
    rcases flush_cases P.D with e | ⟨hg1, f1, e⟩
    · rw [e]
      simp only [show ((9 : Int) = 0) = False from by simp, if_false]
      exact hA _ h.secs rfl 9 (by decide)
    · rw [e, h.secs]
      simp only [if_true]
      have e13 : (3 : Int) % 2 = 1 := by decide
      rw [e13]
      generalize hX : rootL 3 (bOf newS) = X at *
      rcases write_cases { P.D with fuse := f1, steps := P.D.steps + 1, secs := layAll S P.D.waits, waits := [] } 1 X hXl ⟨by omega, by show (1 : Int) < (P.D.n : Int); rw [h.n]; decide⟩ with e2 | ⟨hg2, f2, e2⟩
      · rw [e2]
        simp only [show ((9 : Int) = 0) = False from by simp, if_false]
        have hx : ∀ i, i < m + 2 → (DS.crash { P.D with fuse := f1, steps := P.D.steps + 1, secs := layAll S P.D.waits, waits := [], gone := true } ks).read i = sec S i := fun i hi => by
          rw [crash_read, crash_other [] 30 i (by simp) (by simp) ks _ hL1]
          exact hlow i hi
        exact behind_old b0 (by decide) (fun i hi _ => hx i hi) (.inr ((hx 1 (by omega)).trans b0.r1))
      · rw [e2]
        simp only [if_true, List.nil_append]
        have hsing : ∀ x ∈ [((1 : Int), X)], 0 ≤ x.1 ∧ x.1 < (30 : Nat) ∧ x.2.length = 512 := fun x hx => by
          rw [List.mem_singleton] at hx; subst hx; exact ⟨by simp, by simp, hXl⟩
        -- the pages that were put hold
        have hnow : ∀ C : DS, (∀ i, 2 ≤ i → i < 30 → C.read i = sec (layAll S P.D.waits) i) → ∀ x ∈ now, HoldsP C x := fun C hC x hx => by
          obtain ⟨N, e1, hN, q, k, g, a1, a2, a3, a4, a5, a6⟩ := h.nw x hx
          exact ⟨q, k, g, a1, a2, a3, a4, a5, by rw [hC q a2 a3, hs1 q a3]; exact a6⟩
        rcases flush_cases { P.D with fuse := f2, steps := P.D.steps + 1 + 1, secs := layAll S P.D.waits, waits := [((1 : Int), X)] } with e4 | ⟨hg3, f3, e4⟩
        · rw [e4]
          simp only [show ((9 : Int) = 0) = False from by simp, if_false]
          have ho : ∀ i, i ≠ 1 → (DS.crash { P.D with fuse := f2, steps := P.D.steps + 1 + 1, secs := layAll S P.D.waits, waits := [((1 : Int), X)], gone := true } ks).read i = sec (layAll S P.D.waits) i := fun i hi => by
            rw [crash_read]
            exact crash_other _ 30 i hsing (fun x hx => by rw [List.mem_singleton] at hx; subst hx; simp; omega) ks _ hL1
          obtain ⟨k, hk5, hk⟩ := crash_one X hXl 30 (by omega) ks (layAll S P.D.waits) (rootL 1 []) hL1 (rootL_length _ _ (by decide)) ⟨0, by omega, by rw [hlow 1 (by omega), b0.r1]; simp⟩
          have h1 : (DS.crash { P.D with fuse := f2, steps := P.D.steps + 1 + 1, secs := layAll S P.D.waits, waits := [((1 : Int), X)], gone := true } ks).read 1 = X.take k ++ (rootL 1 []).drop k := hk
          by_cases hroot : isRoot (X.take k ++ (rootL 1 []).drop k)
          · have ht := torn_one (a := 3) (b := 1) (S := bOf newS) (T := []) (by unfold okGen; omega) (by unfold okGen; omega) (by decide) (by decide) (by decide) k hk5
            rw [hX] at ht
            rcases ht hroot with hz | hz
            · refine .inl ⟨roots_new ((ho 0 (by omega)).trans ((hlow 0 (by omega)).trans b0.r0)) (h1.trans (hz.trans hX.symm)), hnow _ (fun i h2 _ => ho i (by omega))⟩
            · exact behind_old b0 (by decide) (fun i hi h1' => (ho i h1').trans (hlow i hi)) (.inr (h1.trans hz))
          · exact behind_old b0 (by decide) (fun i hi h1' => (ho i h1').trans (hlow i hi)) (.inl (fun hr => hroot (Eq.mp (congrArg isRoot h1) hr)))
        · rw [e4]
          simp only [if_true]
          have hl : layAll (layAll S P.D.waits) [((1 : Int), X)] = layS (layAll S P.D.waits) 1 X := rfl
          have hL2 : (layS (layAll S P.D.waits) 1 X).length = 30 * 512 := layS_length _ 30 1 X hL1 (by omega) (by omega)
          have ho : ∀ i, i ≠ 1 → (DS.crash { P.D with fuse := f3, steps := P.D.steps + 1 + 1 + 1, secs := layAll (layAll S P.D.waits) [((1 : Int), X)], waits := [] } ks).read i = sec (layAll S P.D.waits) i := fun i hi => by
            rw [crash_read, crash_other [] 30 i (by simp) (by simp) ks _ (by rw [hl]; exact hL2), hl]
            exact sec_layS_other _ 30 1 i X hL1 (by omega) (by omega) hi
          have h1 : (DS.crash { P.D with fuse := f3, steps := P.D.steps + 1 + 1 + 1, secs := layAll (layAll S P.D.waits) [((1 : Int), X)], waits := [] } ks).read 1 = X := by
            rw [crash_read, crash_other [] 30 1 (by simp) (by simp) ks _ (by rw [hl]; exact hL2), hl, sec_layS_same _ 30 1 X hL1 (by omega) (by omega), hXl, List.drop_of_length_le (by rw [sec_length _ 1 30 hL1 (by omega)]; omega), List.append_nil]
          exact .inl ⟨roots_new ((ho 0 (by omega)).trans ((hlow 0 (by omega)).trans b0.r0)) (by rw [h1, ← hX]), hnow _ (fun i h2 _ => ho i (by omega))⟩
end Go.Proofs.Ytambgimfbdecpaa
