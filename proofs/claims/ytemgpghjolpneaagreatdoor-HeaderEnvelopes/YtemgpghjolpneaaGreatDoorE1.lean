/- What this text holds: the program's envelope: the first field with a name, its text, its addresses, these or others. -/
import Derived.Test.YtemgpghjolpneaaGreatDoorM13
import Derived.Test.YtemgpghjolpneaaGreatDoorM8
import Derived.Test.YtemgpghjolpneaaGreatDoorM14
namespace Go.Proofs.YtemgpghjolpneaaGreatDoor
open Go.RowKit
set_option linter.unusedVariables false
set_option linter.unusedSimpArgs false

/-- The value of the first field with a name, which is in small letters. -/
def firstF (l : List (Bs × Bs)) (n : Bs) : Option Bs := (l.find? fun f => decide (low f.1 = n)).map (·.2)
theorem firstF_drop (l : List (Bs × Bs)) (n : Bs) (k : Nat) (h : k < l.length) : firstF (l.drop k) n = if low l[k].1 = n then some l[k].2 else firstF (l.drop (k + 1)) n := by
  rw [List.drop_eq_getElem_cons h]
  unfold firstF
  by_cases e : low l[k].1 = n
  · rw [if_pos e, List.find?_cons_of_pos (by simpa using e)]; rfl
  · rw [if_neg e, List.find?_cons_of_neg (by simpa using e)]
def fstV (o : Option Bs) : Value := .tuple #[.string (str (o.getD [])), .bool o.isSome]
theorem firstF_mem {l : List (Bs × Bs)} {n v : Bs} (h : firstF l n = some v) : ∃ f ∈ l, f.2 = v := by
  unfold firstF at h
  rw [Option.map_eq_some_iff] at h
  obtain ⟨f, h1, h2⟩ := h
  exact ⟨f, List.mem_of_find?_eq_some h1, h2⟩
theorem firstF_len {l : List (Bs × Bs)} (n : Bs) (M : Nat) (h : ∀ f ∈ l, f.2.length ≤ M) : ((firstF l n).getD []).length ≤ M := by
  cases e : firstF l n with
  | none => simp
  | some v =>
    obtain ⟨f, h1, h2⟩ := firstF_mem e
    have := h f h1
    rw [h2] at this
    exact this
set_option maxRecDepth 100000 in
set_option maxHeartbeats 1000000 in
theorem first_any {w : World} {vl : Value} {l : List (Bs × Bs)} (n : Bs) (h : RL w vl 2 (l.map fR)) (hl : l.length ≤ 1000000) (hf : ∀ f ∈ l, f.1.length ≤ 10000000) :
    Calls Tryz.prog 32 #[vl, .string (str n)] w fun e w' => e = .returned (fstV (firstF l n)) ∧ Below w.heap.size w w' := by
  obtain ⟨hw, a, c, rfl, hc, hr⟩ := h
  rw [List.length_map] at *
  rcases hr with hr | ⟨g, o, rfl, hr, hg⟩
  · have : l = [] := by simpa using hr
    subst this
    go_enter Tryz.func32, Tryz.ntmps32
    go_wp2_with fail
    go_loopw [10] (fun i wr => i = .int .i64 0 ∧ wr = w) (fun _ _ => 0)
    case atStart => exact ⟨rfl, rfl⟩
    case round =>
      obtain ⟨rfl, rfl⟩ := hrel
      go_wp2_with fail
      go_ret2
      exact ⟨rfl, Below.refl _ _⟩
  · have HR := hid hr
    have HF := hid hf
    clear hr hf
    go_enter Tryz.func32, Tryz.ntmps32
    go_wp2_with fail
    go_loopw [10] (fun i wr => ∃ k : Nat, k ≤ l.length ∧ i = .int .i64 k ∧ firstF l n = firstF (l.drop k) n ∧ Below w.heap.size w wr) (fun i _ => l.length - (intOf i).toNat)
    case atStart => exact ⟨0, by omega, rfl, rfl, Below.refl _ _⟩
    case round =>
      obtain ⟨k, hk, rfl, he, hb⟩ := hrel
      have HB := hid hb
      have HE := hid he
      clear he hb
      by_cases hlt : k < l.length
      · have hlt' : (k : Int) < l.length := by omega
        have HR2 := hid (HR.out.later HB.out)
        have hrec : (l.map fR)[k]? = some (fR l[k]) := by rw [List.getElem?_map, List.getElem?_eq_getElem hlt]; rfl
        have hc0 : wr.cell? ⟨g, o + k * 2, none⟩ = some (.string (str l[k].1)) := HR2.out.rec k _ hrec 0 _ rfl
        have hc1 : wr.cell? ⟨g, o + k * 2 + 1, none⟩ = some (.string (str l[k].2)) := HR2.out.rec k _ hrec 1 _ rfl
        have HN := hid (firstF_drop l n k hlt)
        have hx := HF.out _ (List.getElem_mem hlt)
        clear hrec
        generalize l[k].1 = x at *
        generalize l[k].2 = y at *
        have HCl := hid (fun W => lower_any x W (by omega))
        have HQ : Hid (((str (low x)).toList == (str n).toList) = decide (low x = n)) := by rw [Hid, eqL, toL]
        generalize low x = z at *
        have hal : Below wr.heap.size wr (wr.alloc (.cells #[.string (str x), .string (str y)] 36)) := (Below.refl _ _).alloc (Nat.le_refl _) _
        have HBa := hid (HB.out.trans (hal.mono HB.out.size))
        have hnew := heap_alloc_new wr (.cells #[.string (str x), .string (str y)] 36)
        have HNw := hid hnew
        clear hal hnew
        by_cases e : z = n
        · have q : ((str z).toList == (str n).toList) = true := by rw [HQ.out]; simp [e]
          have HX : Hid (firstF l n = some y) := by rw [Hid, HE.out, HN.out, if_pos e]
          clear e HE HN HQ
          go_wp2_with fail
          refine (HCl.out _).mono ?_
          rintro e w2 ⟨rfl, hb2⟩
          have HB2 := hid (HBa.out.trans (hb2.mono HBa.out.size))
          have h7 : w2.heap[wr.heap.size]? = some (.cells #[.string (str x), .string (str y)] 36 (0, 0)) := by rw [hb2.block _ (lt_of_some HNw.out)]; exact HNw.out
          have c7 : w2.cell? ⟨wr.heap.size, 1, none⟩ = some (.string (str y)) := by simp [World.cell?, h7]
          clear hb2 h7
          go_wp2_with fail
          go_ret2
          rw [HX.out]
          exact ⟨rfl, HB2.out⟩
        · have q : ((str z).toList == (str n).toList) = false := by rw [HQ.out]; simp [e]
          have HX : Hid (firstF l n = firstF (l.drop (k + 1)) n) := by rw [Hid, HE.out, HN.out, if_neg e]
          clear e HE HN HQ
          go_wp2_with fail
          refine (HCl.out _).mono ?_
          rintro e w2 ⟨rfl, hb2⟩
          have HB2 := hid (HBa.out.trans (hb2.mono HBa.out.size))
          clear hb2
          go_wp2_with fail
          go_roundw
          case rel => exact ⟨k + 1, by omega, by go_num, HX.out, HB2.out⟩
          case measure => simp [intOf]; omega
      · have hlt' : ¬ (k : Int) < l.length := by omega
        have HX : Hid (firstF l n = none) := by rw [Hid, HE.out, List.drop_eq_nil_of_le (by omega)]; rfl
        go_wp2_with fail
        go_ret2
        rw [HX.out]
        exact ⟨rfl, HB.out⟩
def textP (l : List (Bs × Bs)) (n : Bs) : List Bs := match firstF l n with
  | none => []
  | some v => [unf v]
def addrP (l : List (Bs × Bs)) (n : Bs) : List Ad := adsP ((firstF l n).getD [])
theorem ro_lit1 (w : World) (x : Bs) : RO (w.alloc (.cells #[.string (str x)] 9)) w.heap.size 9 1 (.slice (some ⟨w.heap.size, 0, none⟩) 1 1) [[x]] :=
  ⟨fun r hr => by simp at hr; rw [hr]; rfl, by simp [rc], .inr ⟨w.heap.size, 1, #[.string (str x)], rfl, Nat.le_refl _, heap_alloc_new _ _, Nat.le_refl _, by unfold maxLen; omega, rfl, by simp [rc]⟩⟩
theorem ro_take {w : World} {B : Nat} {a : Option Addr} {c n : Nat} {L : List (List Bs)} (h : RO w B 9 1 (.slice a n c) L) (h1 : 1 < n) : RO w B 9 1 (.slice a 1 c) (L.take 1) := by
  obtain ⟨hw, hx, hr⟩ := h
  rcases hr with ⟨h2, h3⟩ | ⟨g, cap, cur, h2, h3, h4, h5, h6, h7, h8⟩
  · simp only [Value.slice.injEq] at h2
    omega
  · simp only [Value.slice.injEq] at h2
    obtain ⟨rfl, hn, rfl⟩ := h2
    have hl : 1 < L.length := by omega
    cases L with
    | nil => simp at hl
    | cons r t =>
      obtain ⟨p, rfl⟩ := List.length_eq_one_iff.1 (hw r (by simp))
      refine ⟨fun q hq => hw q (List.mem_of_mem_take hq), by simp [rc], .inr ⟨g, c, cur, rfl, h3, h4, Nat.le_trans (Nat.le_of_lt hl) h5, h6, h7, ?_⟩⟩
      have := congrArg (List.take 1) h8
      rw [List.take_take, Nat.min_eq_left (by simp)] at this
      simpa [rc] using this
theorem rl_nil (w : World) (k : Nat) : RL w (.slice none 0 0) k [] := ⟨fun r hr => by simp at hr, none, 0, rfl, by simp, .inl rfl⟩
set_option maxRecDepth 100000 in
set_option maxHeartbeats 1000000 in
theorem text_any {w : World} (he : Env w) {vl : Value} {l : List (Bs × Bs)} (n : Bs) (h : RL w vl 2 (l.map fR)) (hl : l.length ≤ 1000000) (hf : ∀ f ∈ l, f.1.length ≤ 10000000 ∧ f.2.length ≤ 1000000) :
    Calls Tryz.prog 17 #[vl, .string (str n)] w fun e w' => (∃ v, e = .returned v ∧ ∃ B, w.heap.size ≤ B ∧ RO w' B 9 1 v ((textP l n).map sR)) ∧ Below w.heap.size w w' := by
  have HC := hid (first_any n h hl (fun f hf' => (hf f hf').1))
  have hlen := firstF_len n 1000000 (fun f hf' => (hf f hf').2)
  have HE := hid he
  unfold textP
  unfold fstV at HC
  obtain ⟨hw, a, c, rfl, hc, hr⟩ := h
  rw [List.length_map] at *
  cases e : firstF l n with
  | none =>
    rw [e] at HC hlen
    simp only [Option.getD_none, Option.isSome_none] at HC hlen
    clear hr hw e
    go_enter Tryz.func17, Tryz.ntmps17
    go_wp2_with fail
    refine HC.out.mono ?_
    rintro e w1 ⟨rfl, hb⟩
    have HB := hid hb
    clear hb
    go_wp2_with fail
    go_ret
    exact ⟨⟨_, rfl, _, Nat.le_refl _, RO.nil _ _ _ _⟩, HB.out⟩
  | some v =>
    rw [e] at HC hlen
    simp only [Option.getD_some, Option.isSome_some] at HC hlen
    clear hr hw e
    go_enter Tryz.func17, Tryz.ntmps17
    go_wp2_with fail
    refine HC.out.mono ?_
    rintro e w1 ⟨rfl, hb⟩
    have HB := hid hb
    clear hb
    go_wp2_with fail
    refine (unfold_any v (HE.out.later HB.out) (by omega)).mono ?_
    rintro e w2 ⟨rfl, hb⟩
    have HB2 := hid (HB.out.trans (hb.mono HB.out.size))
    clear hb
    go_wp2_with fail
    go_ret
    exact ⟨⟨_, rfl, _, HB2.out.size, ro_lit1 w2 (unf v)⟩, HB2.out.alloc HB2.out.size _⟩
set_option maxRecDepth 100000 in
set_option maxHeartbeats 1000000 in
theorem addrs_any {w : World} {vl : Value} {l : List (Bs × Bs)} (n : Bs) (h : RL w vl 2 (l.map fR)) (hl : l.length ≤ 1000000) (hf : ∀ f ∈ l, f.1.length ≤ 10000000 ∧ f.2.length ≤ 100000) :
    Calls Tryz.prog 16 #[vl, .string (str n)] w fun e w' => (∃ v, e = .returned v ∧ ∃ B, w.heap.size ≤ B ∧ RO w' B 42 3 v ((addrP l n).map adR)) ∧ Below w.heap.size w w' := by
  have HC := hid (first_any n h hl (fun f hf' => (hf f hf').1))
  have hlen := firstF_len n 100000 (fun f hf' => (hf f hf').2)
  unfold addrP
  unfold fstV at HC
  obtain ⟨hw, a, c, rfl, hc, hr⟩ := h
  rw [List.length_map] at *
  generalize (firstF l n).isSome = i at *
  generalize (firstF l n).getD [] = v at *
  clear hr hw
  go_enter Tryz.func16, Tryz.ntmps16
  go_wp2_with fail
  refine HC.out.mono ?_
  rintro e w1 ⟨rfl, hb⟩
  have HB := hid hb
  clear hb
  go_wp2_with fail
  refine (addresses_any v w1 (by omega)).mono ?_
  rintro e w2 ⟨⟨u, rfl, ho⟩, hb⟩
  have HB2 := hid (HB.out.trans (hb.mono HB.out.size))
  have HO := hid ho
  clear hb ho
  obtain ⟨a2, c2, hu⟩ := HO.out.sliceN (n := (adsP v).length) (by simp)
  subst hu
  go_wp2_with fail
  go_ret
  exact ⟨⟨_, rfl, _, HB.out.size, HO.out⟩, HB2.out⟩
/-- A list behind one's own. -/
theorem ro_app {w : World} {B B' : Nat} {v u : Value} {l m : List (List Bs)} (h : RO w B 42 3 v l) (hBw : B ≤ w.heap.size) (hu : RO w B' 42 3 u m) (hl : l.length ≤ 1000000) (hm : m.length ≤ 1000000) :
    ∃ v' w', (Builtin.append_ #[25, 25] 25 #[v, u]).run Tryz.prog w = .ok v' w' ∧ RO w' B 42 3 v' (l ++ m) ∧ Below B w w' := by
  by_cases h0 : m = []
  · subst h0
    obtain ⟨i, hi, hz0, hz1, hz2⟩ := info_parts Tryz.info42
    rcases hu.2.2 with ⟨rfl, _⟩ | ⟨g, c, cur, rfl, _⟩
    · exact ⟨v, w, run_append_owned_none w B 25 25 42 i 3 Tryz.underlying25 hi v l.length (rc l) h.2, by rw [List.append_nil]; exact h, Below.refl _ _⟩
    · obtain ⟨v', w', hr, ho', hg, _, _⟩ := run_append_own_at (P := Tryz.prog) w B 25 25 42 i _ 3 48 Tryz.underlying25 hi hz0 hz1 hz2 rfl (by omega) v l.length (rc l) h.2
        ⟨g, 0, none⟩ 0 c [] rfl (fun j x hx => by simp at hx) (by simp) (by unfold maxLen; omega) (by omega) hBw
      rw [List.append_nil, Nat.add_zero] at ho'
      exact ⟨v', w', hr, by rw [List.append_nil]; exact ⟨h.1, ho'⟩, (Below.refl B w).grown hg hBw (fun k hk => (World.ownsRow.lt h.2 k hk).1)⟩
  · obtain ⟨v', w', h1, h2, h3, _⟩ := ro_more Tryz.underlying25 Tryz.info42 rfl (by omega) (by omega) h hBw hu.rl (by omega) hm h0
    exact ⟨v', w', h1, h2, h3⟩
theorem ro_zero (w : World) : RO (w.alloc (.cells #[] 42)) w.heap.size 42 3 (.slice (some ⟨w.heap.size, 0, none⟩) 0 0) [] :=
  ⟨fun r hr => by simp at hr, by simp [rc], .inr ⟨w.heap.size, 0, #[], rfl, Nat.le_refl _, heap_alloc_new _ _, Nat.le_refl _, by unfold maxLen; omega, rfl, by simp [rc]⟩⟩
set_option maxRecDepth 100000 in
set_option maxHeartbeats 1000000 in
theorem clone_any {w : World} {B : Nat} {v : Value} {l : List Ad} (h : RO w B 42 3 v (l.map adR)) (hl : l.length ≤ 1000000) :
    Calls Tryz.prog 33 #[v] w fun e w' => (∃ v', e = .returned v' ∧ RO w' w.heap.size 42 3 v' (l.map adR)) ∧ Below w.heap.size w w' := by
  have HO := hid h
  have hq0 : (binOp .eql 25 (.slice none 0 0) (.slice none 0 0)).run Tryz.prog w = .ok (.bool true) w := run_eql_nil_slice w 25 42 none 0 0 0 0 Tryz.underlying25
  rcases id h.2.2 with ⟨rfl, h0⟩ | ⟨g, cap, cur, rfl, _⟩
  · have HZ := hid h0
    clear h h0
    go_enter Tryz.func33, Tryz.ntmps33
    go_wp2_with fail
    go_ret
    have e0 : l.map adR = [] := List.eq_nil_of_length_eq_zero HZ.out
    rw [e0]
    exact ⟨⟨_, rfl, RO.nil _ _ _ _⟩, Below.refl _ _⟩
  · have hal : Below w.heap.size w (w.alloc (.cells #[] 42)) := (Below.refl _ _).alloc (Nat.le_refl _) _
    obtain ⟨v3, w3, hr3, ho3, hb3⟩ := ro_app (ro_zero w) hal.size (HO.out.later hal) (by simp) (by simpa using hl)
    rw [List.nil_append] at ho3
    have HR3 := hid hr3
    have HO3 := hid ho3
    have HB3 := hid (hal.trans hb3)
    clear hr3 ho3 hb3 hal h
    rw [List.length_map] at HR3 ⊢
    obtain ⟨a3, c3, hv3⟩ := HO3.out.sliceN (n := l.length) (by simp)
    subst hv3
    have hq1 : (binOp .eql 25 (.slice (some ⟨g, 0, none⟩) l.length cap) (.slice none 0 0)).run Tryz.prog w = .ok (.bool false) w := Go.Lib.run_eql_slice_nil (P := Tryz.prog) w 25 42 (some ⟨g, 0, none⟩) l.length cap 0 0 Tryz.underlying25
    go_enter Tryz.func33, Tryz.ntmps33
    go_wp2_with (at_builtin; refine wpList_append_run rfl rfl HR3.out ?_)
    go_ret
    exact ⟨⟨_, rfl, HO3.out⟩, HB3.out⟩
def eitherP (l m : List Ad) : List Ad := if l = [] then m else l
set_option maxRecDepth 100000 in
set_option maxHeartbeats 1000000 in
theorem either_any {w : World} {B B' : Nat} {v u : Value} {l m : List Ad} (h : RO w B 42 3 v (l.map adR)) (h' : RO w B' 42 3 u (m.map adR)) (hl : l.length ≤ 1000000) (hm : m.length ≤ 1000000) :
    Calls Tryz.prog 18 #[v, u] w fun e w' => (∃ v', e = .returned v' ∧ ∃ B', RO w' B' 42 3 v' ((eitherP l m).map adR)) ∧ Below w.heap.size w w' := by
  have HO := hid h
  have HC := hid (clone_any h' hm)
  obtain ⟨a1, c1, hv1⟩ := h.sliceN (n := l.length) (by simp)
  obtain ⟨a2, c2, hv2⟩ := h'.sliceN (n := m.length) (by simp)
  subst hv1 hv2
  clear h h'
  unfold eitherP
  by_cases e : l = []
  · rw [if_pos e]
    have e0 : ((l.length : Int) == 0) = true := by simp [e]
    have e1 := congrArg List.length e
    clear e e1
    go_enter Tryz.func18, Tryz.ntmps18
    go_wp2_with fail
    refine HC.out.mono ?_
    rintro e w1 ⟨⟨v', rfl, ho⟩, hb⟩
    have HB := hid hb
    have HO1 := hid ho
    obtain ⟨a3, c3, hv3⟩ := ho.sliceN (n := m.length) (by simp)
    subst hv3
    clear hb ho
    go_wp2_with fail
    go_ret
    exact ⟨⟨_, rfl, _, HO1.out⟩, HB.out⟩
  · rw [if_neg e]
    have e0 : ((l.length : Int) == 0) = false := by simp [e]
    clear e
    go_enter Tryz.func18, Tryz.ntmps18
    go_wp2_with fail
    go_ret
    exact ⟨⟨_, rfl, _, HO.out⟩, Below.refl _ _⟩
end Go.Proofs.YtemgpghjolpneaaGreatDoor
