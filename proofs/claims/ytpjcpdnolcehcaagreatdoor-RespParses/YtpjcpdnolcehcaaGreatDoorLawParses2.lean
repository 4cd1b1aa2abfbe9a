/- Proved here: which lines any bytes are, or that they are none, is as the document says (RespParses returns true for every input, and leaves its arguments as they were). No condition beyond what the card says: five tables and two errors of the library hold what its text lays. -/
import Derived.Test.YtpjcpdnolcehcaaGreatDoorZ5
import Derived.Test.YtpjcpdnolcehcaaGreatDoorZ4
import Derived.Test.YtpjcpdnolcehcaaGreatDoorZ1
import Derived.Test.YtpjcpdnolcehcaaGreatDoorM4
import Derived.Test.YtpjcpdnolcehcaaGreatDoorRows
import Derived.Lib.LaidTab
import Derived.Lib.LaidIn
import Derived.LaidSub
import Derived.Stop.LaidErr
import Derived.Deep.DeepHandedRow
import Derived.Deep.DeepWitnessRowRef
import Derived.MakeChecks
import Derived.LaidLaws
import Derived.Lay
import Derived.Test.YtpjcpdnolcehcaaGreatDoorCards
import Derived.Test.YtpjcpdnolcehcaaGreatDoorTie
import Derived.Test.YtpjcpdnolcehcaaGreatDoorM35
import Derived.ProofKit
import Derived.OpenShut
import Derived.ShutString
import Derived.Below
namespace Go.Proofs.YtpjcpdnolcehcaaGreatDoor
open Go.RowKit
set_option linter.unusedVariables false
set_option linter.unusedSimpArgs false

def RdLR (s : Bs) (w : World) (X : Option (Ln × Bs)) (e : Ending) (w' : World) : Prop := match X with
  | none => ∃ row, e = .returned (.tuple #[lV row, .int .i64 (-1)]) ∧ Below w.heap.size w w'
  | some (l, r) => ∃ (row : Lw) (k : Nat), e = .returned (.tuple #[lV row, .int .i64 k]) ∧ k ≤ s.length ∧ s.drop k = r ∧ LnAt w' (w.heap.size ≤ ·) row l ∧ Below w.heap.size w w'
theorem resL2 {f : Func} {k j A : Nat} {r : Lw} {n : Value} {w : World} {tmps : Array Value} (hf : f.results = #[.cell k 28, .tmp j]) (ht : tmps[k]? = some (.pointer (some ⟨A, 0, none⟩))) (hj : tmps[j]? = some n) (hA : L5 w A r) : (results f tmps).run Tryz.prog w = .ok (.tuple #[lV r, n]) w := by
  obtain ⟨x0, x1, x2, x3, x4⟩ := hA.cs
  simp [results, hf, go_sem, ht, hj, x0, x1, x2, x3, x4, lV, Lw.c]
theorem finL_below {w w1 w2 : World} {r : Lw} (hz : Below w.heap.size w w1) (hk : Below w1.heap.size w1 w2) (hs : w1.heap.size = w.heap.size + 1) : Below w.heap.size w (rowL w2 w.heap.size r) :=
  (hz.trans (hk.mono (by omega))).trans ((rowL_self w2 w.heap.size r).below (by simp) (Nat.le_trans hz.size hk.size))
theorem finL_at {w w2 : World} {r q : Lw} {l : Ln} (h : LnAt w2 (w.heap.size + 1 ≤ ·) r l) : LnAt (rowL w2 w.heap.size q) (w.heap.size ≤ ·) r l :=
  (h.kept (rowL_self w2 w.heap.size q) (by simp)).mono (fun q _ hq => by omega)
theorem rest_none_v (n : Nat) : restV n none = .tuple #[.string (str []), .int .i64 (-1)] := rfl
theorem lineR_0 {s : Bs} (h : s.takeWhile letB = []) : lineR s = none := by unfold lineR; rw [if_pos h]
theorem lineR_1 {s : Bs} (h : s.takeWhile letB ≠ []) (h2 : needP [32] (s.dropWhile letB) = none) : lineR s = none := by
  unfold lineR
  rw [if_neg h]
  simp only [h2]
theorem lineR_2 {s r : Bs} (h : s.takeWhile letB = [43]) (h2 : needP [32] (s.dropWhile letB) = some r) : lineR s = (restR r).map fun p => (⟨[43], [], [], [], p.1⟩, p.2) := by
  unfold lineR
  rw [if_neg (by rw [h]; simp)]
  simp only [h2]
  rw [if_pos h]
theorem lineR_3 {s r : Bs} (h0 : s.takeWhile letB ≠ []) (h : s.takeWhile letB ≠ [43]) (h2 : needP [32] (s.dropWhile letB) = some r) : lineR s = behindR (s.takeWhile letB) r := by
  unfold lineR
  rw [if_neg h0]
  simp only [h2]
  rw [if_neg h]
theorem behindR_vals {tag r : Bs} (h : statB (r.takeWhile letB) = false ∨ needP [32] (r.dropWhile letB) = none) : behindR tag r = (allR (valueR 31) [13, 10] r).map fun p => (⟨tag, p.1, [], [], []⟩, p.2) := by
  unfold behindR
  rw [if_neg]
  rintro ⟨h1, h2⟩
  rcases h with h | h
  · rw [h] at h1; cases h1
  · rw [need_pre h] at h2
    cases h2
theorem behindR_stat {tag r q : Bs} (h : statB (r.takeWhile letB) = true) (h2 : needP [32] (r.dropWhile letB) = some q) (h3 : needP [91] q = none) : behindR tag r = (restR q).map fun p => (⟨tag, [], r.takeWhile letB, [], p.1⟩, p.2) := by
  obtain ⟨hp, hr, _⟩ := needP_some h2
  unfold behindR
  rw [if_pos ⟨h, hp⟩, show (r.dropWhile letB).drop 1 = q from hr.symm]
  simp only [h3]
theorem behindR_code {tag r q q2 : Bs} (h : statB (r.takeWhile letB) = true) (h2 : needP [32] (r.dropWhile letB) = some q) (h3 : needP [91] q = some q2) : behindR tag r = match allR (valueR 31) [93] q2 with
      | none => none
      | some (l, q) => match needP [32] q with
        | none => none
        | some q => (restR q).map fun p => (⟨tag, [], r.takeWhile letB, l, p.1⟩, p.2) := by
  obtain ⟨hp, hr, _⟩ := needP_some h2
  unfold behindR
  rw [if_pos ⟨h, hp⟩, show (r.dropWhile letB).drop 1 = q from hr.symm]
  simp only [h3]
  rcases allR (valueR 31) [93] q2 with _ | ⟨l, q⟩
  · rfl
  · rcases needP [32] q with _ | q <;> rfl
def zLw : Lw := ⟨[], (none, 0, 0), [], (none, 0, 0), []⟩
/-- Where the reading of a line stands: the row of the line, the block of the answer. -/
structure LSt2 (w w1 W : World) (row : Lw) : Prop where
  l : L5 W w1.heap.size row
  a : L5 W w.heap.size zLw
  k : Below w1.heap.size w1 W
  lt : w1.heap.size < W.heap.size
theorem LSt2.set {w w1 W : World} {row row' : Lw} (h : LSt2 w w1 W row) (hs : w1.heap.size = w.heap.size + 1) (j : Nat) (v : Value) (hl : L5 (W.setCell ⟨w1.heap.size, j, none⟩ v) w1.heap.size row') : LSt2 w w1 (W.setCell ⟨w1.heap.size, j, none⟩ v) row' :=
  ⟨hl, h.a.kept (Kept.setA W w1.heap.size j v) (by simp; omega), h.k.trans ((Below.refl _ _).setCell (p := ⟨w1.heap.size, j, none⟩) (Nat.le_refl _) v), by have := h.lt; simpa [World.setCell] using this⟩
theorem LSt2.later {w w1 W W' : World} {row : Lw} (h : LSt2 w w1 W row) (hb : Below W.heap.size W W') : LSt2 w w1 W' row :=
  ⟨h.l.later hb, h.a.later hb, h.k.trans (hb.mono h.k.size), Nat.lt_of_lt_of_le h.lt hb.size⟩
/-- Values of one's own, beside the row of the line. -/
def VsN (w w1 W : World) (u : Sl) (l : List Vl) : Prop := VsAt W (fun q => w.heap.size + 1 ≤ q ∧ q ≠ w1.heap.size) (Sl.v u) l
theorem VsN.nil (w w1 W : World) : VsN w w1 W (none, 0, 0) [] := VsAt.nil _ _
theorem VsN.set {w w1 W : World} {u : Sl} {l : List Vl} (h : VsN w w1 W u l) (j : Nat) (v : Value) : VsN w w1 (W.setCell ⟨w1.heap.size, j, none⟩ v) u l :=
  h.kept (Kept.setA W w1.heap.size j v) (by simp)
theorem VsN.new {w w1 W W' : World} {row : Lw} {u : Sl} {l : List Vl} (h : LSt2 w w1 W row) (hs : w1.heap.size = w.heap.size + 1) (hv : VsAt W' (W.heap.size ≤ ·) (Sl.v u) l) : VsN w w1 W' u l :=
  hv.mono (fun q _ hq => ⟨by have := h.lt; omega, by have := h.lt; omega⟩)
theorem VsN.lnat {w w1 W : World} {t st x : Bs} {uv uc : Sl} {l c : List Vl} (h : VsN w w1 W uv l) (h2 : VsN w w1 W uc c) : LnAt W (w.heap.size + 1 ≤ ·) ⟨t, uv, st, uc, x⟩ ⟨t, l, st, c, x⟩ :=
  ⟨rfl, rfl, rfl, h.mono (fun q _ hq => hq.1), h2.mono (fun q _ hq => hq.1)⟩
set_option maxRecDepth 100000 in
set_option maxHeartbeats 8000000 in
theorem line_r (w : World) (s : Bs) (i : Nat) (hs : s.length ≤ 1000000) (hi : i ≤ s.length) : Calls Tryz.prog 44 #[.string (str s), .int .i64 i] w (RdLR s w (lineR (s.drop i))) := by
  have hsz := str_size s
  have hs' : (s.length : Int) ≤ 1000000 := by omega
  have hi' : (i : Int) ≤ s.length := by omega
  obtain ⟨X, hX⟩ : ∃ X, lineR (s.drop i) = X := ⟨_, rfl⟩
  rw [hX]
  obtain ⟨w1, hw1⟩ : ∃ w1, w1 = w.alloc zL := ⟨_, rfl⟩
  have HS : Hid (w1.heap.size = w.heap.size + 1) := by rw [Hid, hw1]; simp
  have HZ : Hid (Below w.heap.size w w1) := by rw [Hid, hw1]; exact (Below.refl _ _).alloc (Nat.le_refl _) _
  have HL0 : Hid (L5 w1 w.heap.size zLw) := by rw [Hid, hw1]; exact L5.zero w
  have C := run_r s i w1 hs hi
  have hta := tw_at letB s i
  have hb := tw_bound letB s i hi
  have h0 := @lineR_0 (s.drop i)
  have h1 := @lineR_1 (s.drop i)
  have h2 := @lineR_2 (s.drop i)
  have h3 := @lineR_3 (s.drop i)
  rw [hX] at h0 h1 h2 h3
  obtain ⟨x, hx⟩ : ∃ x, (s.drop i).takeWhile letB = x := ⟨_, rfl⟩
  rw [hx] at C hta hb h0 h1 h2 h3
  rw [← hta.2] at h1 h2 h3
  have HM : Hid ((str s).extract i (i + x.length) = str x) := by rw [Hid, mid_str, show i + x.length - i = x.length by omega, hta.1]
  clear hta hx hX
  obtain ⟨m, hm⟩ : ∃ m, x.length = m := ⟨_, rfl⟩
  rw [hm] at C hb HM h1 h2 h3
  have hb' : (i : Int) + m ≤ s.length := by omega
  have hA := (readings 31).2
  have hfl1 := fldL w1.heap.size 1 (by omega)
  have hfl2 := fldL w1.heap.size 2 (by omega)
  have hfl3 := fldL w1.heap.size 3 (by omega)
  have hfl4 := fldL w1.heap.size 4 (by omega)
  by_cases hx0 : x = []
  · subst hx0
    obtain rfl : m = 0 := by simpa using hm.symm
    have HR : Hid (X = none) := h0 rfl
    have g1 : ((str s).extract i (i + 0)).toList = ([] : Bs) := by rw [HM.out, toL]
    have g2 : ((str s).extract i (i + 0)).toList.isEmpty = true := by rw [HM.out, toL]; rfl
    clear h0 h1 h2 h3 hm
    have hz : Below w1.heap.size w1 (w1.alloc (.cells (Lw.c zLw).toArray 28)) := (Below.refl _ _).alloc (Nat.le_refl _) _
    have A4 := HL0.out.later hz
    have K4 := hid hz
    clear hz
    go_enter Tryz.func44, Tryz.ntmps44
    go_wp2_with fail
    rw [← hw1]
    clear hw1
    refine C.mono ?_
    rintro e w1 ⟨rfl, rfl⟩
    go_wp2_with (refine wpList_store28 (r := zLw) rfl rfl A4 ?_)
    have p1 := rowL_is A4 zLw
    refine bodyPost_ret (w := rowL _ w.heap.size zLw) (resL2 rfl rfl rfl p1) rfl ?_
    rw [HR.out]
    exact ⟨_, rfl, finL_below HZ.out K4.out HS.out⟩
  · have g3 : ¬ ((str s).extract i (i + m)).toList = ([] : Bs) := by rw [HM.out, toL]; exact hx0
    have g4 : ((str s).extract i (i + m)).toList.isEmpty = false := by rw [HM.out, toL]; simpa using hx0
    have E : ∀ W, Calls Tryz.prog 61 #[.string (str s), .int .i64 ((i : Int) + m), .string (str [32])] W (Is (([32] : Bs).isPrefixOf (s.drop (i + m))) W) := fun W => at_r s [32] (i + m) W hs (by decide) (by omega)
    have HSt : Hid (LSt2 w w1 (w1.alloc (.cells #[.string (str x), nilV, .string ⟨#[]⟩, nilV, .string ⟨#[]⟩] 28)) ⟨x, (none, 0, 0), [], (none, 0, 0), []⟩) := by
      have hz : Below w1.heap.size w1 (w1.alloc (.cells #[.string (str x), nilV, .string ⟨#[]⟩, nilV, .string ⟨#[]⟩] 28)) := (Below.refl _ _).alloc (Nat.le_refl _) _
      exact ⟨L5.new w1 ⟨x, (none, 0, 0), [], (none, 0, 0), []⟩, HL0.out.later hz, hz, by simp⟩
    obtain ⟨W3, hW3⟩ : ∃ W3, w1.alloc (.cells #[.string (str x), nilV, .string ⟨#[]⟩, nilV, .string ⟨#[]⟩] 28) = W3 := ⟨_, rfl⟩
    rw [hW3] at HSt
    rcases hn : needP [32] (s.drop (i + m)) with _ | r
    · have E := E W3
      rw [need_pre hn] at E
      have HR : Hid (X = none) := h1 hx0 hn
      clear h0 h1 h2 h3 hn hx0
      go_enter Tryz.func44, Tryz.ntmps44
      go_wp2_with fail
      rw [← hw1]
      clear hw1
      refine C.mono ?_
      rintro e w1 ⟨rfl, rfl⟩
      go_wp2_with fail
      rw [HM.out, hW3]
      clear hW3
      refine E.mono ?_
      rintro e w3 ⟨rfl, rfl⟩
      have A4 := HSt.out.a
      obtain ⟨x0, x1, x2, x3, x4⟩ := HSt.out.l.cs
      simp only [Sl.v] at x1 x3
      go_wp2_with (refine wpList_store28 (r := ⟨x, (none, 0, 0), [], (none, 0, 0), []⟩) rfl rfl A4 ?_)
      have p1 := rowL_is A4 ⟨x, (none, 0, 0), [], (none, 0, 0), []⟩
      refine bodyPost_ret (w := rowL _ w.heap.size ⟨x, (none, 0, 0), [], (none, 0, 0), []⟩) (resL2 rfl rfl rfl p1) rfl ?_
      rw [HR.out]
      exact ⟨_, rfl, finL_below HZ.out HSt.out.k HS.out⟩
    · have E := E W3
      rw [(needP_some hn).1] at E
      have hr := need_drop hb hn
      simp only [List.length_cons, List.length_nil] at hr
      have HK : Hid (i + m + 1 ≤ s.length) := hr.2.1
      have hb1 : (i : Int) + m + 1 ≤ s.length := by have := hr.2.1; omega
      have hrr : s.drop (i + m + 1) = r := hr.2.2
      by_cases hp : x = [43]
      · have g5 : ((str s).extract i (i + m)).toList = ([43] : Bs) := by rw [HM.out, toL, hp]
        have g6 : (str x).toList = ([43] : Bs) := by rw [toL, hp]
        have HX : Hid (X = (restR (s.drop (i + m + 1))).map fun p => (⟨x, [], [], [], p.1⟩, p.2)) := by rw [Hid, h2 hp hn, hp, hrr]
        have KC := hid (VsN.nil w w1 W3)
        obtain ⟨x0, x1, x2, x3, x4⟩ := HSt.out.l.cs
        clear h0 h1 h2 h3 hn hx0 hr hrr hp
        go_enter Tryz.func44, Tryz.ntmps44
        go_wp2_with fail
        rw [← hw1]
        clear hw1
        refine C.mono ?_
        rintro e w1 ⟨rfl, rfl⟩
        go_wp2_with fail
        rw [HM.out, hW3]
        clear hW3
        refine E.mono ?_
        rintro e w3 ⟨rfl, rfl⟩
        have D := rest_r s (i + m + 1) w3 hs (show i + m + 1 ≤ s.length by have := HK.out; omega)
        have D : Calls Tryz.prog 62 #[.string (str s), .int .i64 ((i : Int) + m + 1)] w3 _ := D
        have f4 := HSt.out.l.fz 4
        have c4 := HSt.out.l.cs.2.2.2.2
        rcases hr : restR (s.drop (i + m + 1)) with _ | ⟨y, q⟩
        · rw [hr, rest_none_v] at D
          have HR : Hid (X = none) := by rw [Hid, HX.out, hr]; rfl
          clear hr HX
          go_wp2_with fail
          refine D.mono ?_
          rintro e w5 ⟨rfl, rfl⟩
          have S5 := hid (HSt.out.set HS.out 4 (.string (str [])) (HSt.out.l.set4 []))
          clear D
          have A4 := S5.out.a
          obtain ⟨x0, x1, x2, x3, x4⟩ := S5.out.l.cs
          simp only [Sl.v] at x1 x3
          go_wp2_with (refine wpList_store28 (r := ⟨x, (none, 0, 0), [], (none, 0, 0), []⟩) rfl rfl A4 ?_)
          have p1 := rowL_is A4 ⟨x, (none, 0, 0), [], (none, 0, 0), []⟩
          refine bodyPost_ret (w := rowL _ w.heap.size ⟨x, (none, 0, 0), [], (none, 0, 0), []⟩) (resL2 rfl rfl rfl p1) rfl ?_
          rw [HR.out]
          exact ⟨_, rfl, finL_below HZ.out S5.out.k HS.out⟩
        · rw [hr] at D
          obtain ⟨kk, hk1, hk2, hk3⟩ := rest_at hr
          have D : Calls Tryz.prog 62 #[.string (str s), .int .i64 ((i : Int) + m + 1)] w3 fun e w' => e = .returned (.tuple #[.string (str y), .int .i64 kk]) ∧ w' = w3 := by
            rw [← hk3]
            exact D
          have HR : Hid (X = some (⟨x, [], [], [], y⟩, q)) := by rw [Hid, HX.out, hr]; rfl
          have HKK := hid (And.intro hk1 hk2)
          clear hr HX hk1 hk2 hk3
          go_wp2_with fail
          refine D.mono ?_
          rintro e w5 ⟨rfl, rfl⟩
          have S5 := hid (HSt.out.set HS.out 4 (.string (str y)) (HSt.out.l.set4 y))
          have KC5 := hid (KC.out.set 4 (.string (str y)))
          clear D
          have A4 := S5.out.a
          obtain ⟨x0, x1, x2, x3, x4⟩ := S5.out.l.cs
          simp only [Sl.v] at x1 x3
          go_wp2_with (refine wpList_store28 (r := ⟨x, (none, 0, 0), [], (none, 0, 0), y⟩) rfl rfl A4 ?_)
          have p1 := rowL_is A4 ⟨x, (none, 0, 0), [], (none, 0, 0), y⟩
          refine bodyPost_ret (w := rowL _ w.heap.size ⟨x, (none, 0, 0), [], (none, 0, 0), y⟩) (resL2 rfl rfl rfl p1) rfl ?_
          rw [HR.out]
          exact ⟨_, kk, rfl, HKK.out.1, HKK.out.2, finL_at (VsN.lnat (VsN.nil w w1 _) KC5.out), finL_below HZ.out S5.out.k HS.out⟩
      · have g5 : (((str s).extract i (i + m)).toList == ([43] : Bs)) = false := by rw [HM.out, toL, beq_eq_false_iff_ne]; exact hp
        have g6 : ((str x).toList == ([43] : Bs)) = false := by rw [toL, beq_eq_false_iff_ne]; exact hp
        have hX := h3 hx0 hp hn
        have HX0 := hid hX
        obtain ⟨x0, x1, x2, x3, x4⟩ := HSt.out.l.cs
        clear h0 h1 h2 h3 hn hx0 hr hp hX
        have C2 := run_r s (i + m + 1) W3 hs (by have := HK.out; omega)
        have hta := tw_at letB s (i + m + 1)
        have hb2 := tw_bound letB s (i + m + 1) (by have := HK.out; omega)
        rw [hrr] at C2 hta hb2
        have C3 := status_r (r.takeWhile letB) W3
        have hB1 := @behindR_vals x r
        have hB2 := fun q => @behindR_stat x r q
        have hB3 := fun q q2 => @behindR_code x r q q2
        obtain ⟨x2', hx2⟩ : ∃ x2', r.takeWhile letB = x2' := ⟨_, rfl⟩
        rw [hx2] at C2 C3 hta hb2 hB1 hB2 hB3
        rw [← hta.2] at hB1 hB2 hB3
        have HM2 : Hid ((str s).extract (i + m + 1) (i + m + 1 + x2'.length) = str x2') := by rw [Hid, mid_str, show i + m + 1 + x2'.length - (i + m + 1) = x2'.length by omega, hrr, hta.1]
        rw [← HM2.out] at C3
        have hsz2 := str_size x2'
        rw [← HM2.out] at hsz2
        obtain ⟨m2, hm2⟩ : ∃ m2, x2'.length = m2 := ⟨_, rfl⟩
        rw [hm2] at C2 C3 hta hb2 hB1 hB2 hB3 HM2 hsz2
        clear hta hx2 hm2
        have hb2' : (i : Int) + m + 1 + m2 ≤ s.length := by omega
        rcases hst : statB x2' with _ | _
        · rw [hst] at C3
          have HX : Hid (X = (allR (valueR 31) [13, 10] (s.drop (i + m + 1))).map fun p => (⟨x, p.1, [], [], []⟩, p.2)) := by rw [Hid, HX0.out, hB1 (.inl hst), hrr]
          clear hB1 hB2 hB3 hst hrr HX0
          go_enter Tryz.func44, Tryz.ntmps44
          go_wp2_with fail
          rw [← hw1]
          clear hw1
          refine C.mono ?_
          rintro e w1 ⟨rfl, rfl⟩
          go_wp2_with fail
          rw [HM.out, hW3]
          clear hW3
          refine E.mono ?_
          rintro e w3 ⟨rfl, rfl⟩
          go_wp2_with fail
          refine C2.mono ?_
          rintro e w4 ⟨rfl, rfl⟩
          go_wp2_with fail
          refine C3.mono ?_
          rintro e w4 ⟨rfl, rfl⟩
          go_wp2_with fail
          have A := hA w4 s (i + m + 1) 0 [13, 10] hs HK.out (by omega) (by simp)
          have A : Calls Tryz.prog 63 #[.string (str s), .int .i64 ((i : Int) + m + 1), .string (str [13, 10]), .int .i64 0] w4 _ := A
          rcases hk : allR (valueR 31) [13, 10] (s.drop (i + m + 1)) with _ | ⟨l, q⟩
          · rw [hk] at A
            have HR : Hid (X = none) := by rw [Hid, HX.out, hk]; rfl
            clear hk HX
            refine A.mono ?_
            rintro e w5 ⟨rfl, k1⟩
            have S5 := hid (HSt.out.later k1)
            have f1 := S5.out.l.fz 1
            have c1 := S5.out.l.cs.2.1
            have S6 := hid (S5.out.set HS.out 1 nilV (S5.out.l.set1 (none, 0, 0)))
            clear A k1 x0 x1 x2 x3 x4
            have A4 := S6.out.a
            obtain ⟨x0, x1, x2, x3, x4⟩ := S6.out.l.cs
            simp only [Sl.v] at x1 x3
            go_wp2_with (refine wpList_store28 (r := ⟨x, (none, 0, 0), [], (none, 0, 0), []⟩) rfl rfl A4 ?_)
            have p1 := rowL_is A4 ⟨x, (none, 0, 0), [], (none, 0, 0), []⟩
            refine bodyPost_ret (w := rowL _ w.heap.size ⟨x, (none, 0, 0), [], (none, 0, 0), []⟩) (resL2 rfl rfl rfl p1) rfl ?_
            rw [HR.out]
            exact ⟨_, rfl, finL_below HZ.out S6.out.k HS.out⟩
          · rw [hk] at A
            have HR : Hid (X = some (⟨x, l, [], [], []⟩, q)) := by rw [Hid, HX.out, hk]; rfl
            clear hk HX
            refine A.mono ?_
            rintro e w5 ⟨u, k, rfl, k1, k2, k3, k4⟩
            obtain ⟨a, cp, rfl, _⟩ := k3.slice
            have S5 := hid (HSt.out.later k4)
            have f1 := S5.out.l.fz 1
            have c1 := S5.out.l.cs.2.1
            have S6 := hid (S5.out.set HS.out 1 (.slice a l.length cp) (S5.out.l.set1 (a, l.length, cp)))
            have KV := hid ((VsN.new (u := (a, l.length, cp)) HSt.out HS.out k3).set 1 (.slice a l.length cp))
            have HKK := hid (And.intro k1 k2)
            clear A k1 k2 k3 k4 x0 x1 x2 x3 x4
            have A4 := S6.out.a
            obtain ⟨x0, x1, x2, x3, x4⟩ := S6.out.l.cs
            simp only [Sl.v] at x1 x3
            go_wp2_with (refine wpList_store28 (r := ⟨x, (a, l.length, cp), [], (none, 0, 0), []⟩) rfl rfl A4 ?_)
            have p1 := rowL_is A4 ⟨x, (a, l.length, cp), [], (none, 0, 0), []⟩
            refine bodyPost_ret (w := rowL _ w.heap.size ⟨x, (a, l.length, cp), [], (none, 0, 0), []⟩) (resL2 rfl rfl rfl p1) rfl ?_
            rw [HR.out]
            exact ⟨_, k, rfl, HKK.out.1, HKK.out.2, finL_at (VsN.lnat KV.out (VsN.nil w w1 _)), finL_below HZ.out S6.out.k HS.out⟩
        · rw [hst] at C3
          have E2 := at_r s [32] (i + m + 1 + m2) W3 hs (by decide) (by omega)
          have E2 : Calls Tryz.prog 61 #[.string (str s), .int .i64 ((i : Int) + m + 1 + m2), .string (str [32])] W3 _ := E2
          rcases h32 : needP [32] (s.drop (i + m + 1 + m2)) with _ | q
          · rw [need_pre h32] at E2
            have HX : Hid (X = (allR (valueR 31) [13, 10] (s.drop (i + m + 1))).map fun p => (⟨x, p.1, [], [], []⟩, p.2)) := by rw [Hid, HX0.out, hB1 (.inr h32), hrr]
            clear hB1 hB2 hB3 hst hrr HX0 h32
            go_enter Tryz.func44, Tryz.ntmps44
            go_wp2_with fail
            rw [← hw1]
            clear hw1
            refine C.mono ?_
            rintro e w1 ⟨rfl, rfl⟩
            go_wp2_with fail
            rw [HM.out, hW3]
            clear hW3
            refine E.mono ?_
            rintro e w3 ⟨rfl, rfl⟩
            go_wp2_with fail
            refine C2.mono ?_
            rintro e w4 ⟨rfl, rfl⟩
            go_wp2_with fail
            refine C3.mono ?_
            rintro e w4 ⟨rfl, rfl⟩
            go_wp2_with fail
            refine E2.mono ?_
            rintro e w4 ⟨rfl, rfl⟩
            go_wp2_with fail
            have A := hA w4 s (i + m + 1) 0 [13, 10] hs HK.out (by omega) (by simp)
            have A : Calls Tryz.prog 63 #[.string (str s), .int .i64 ((i : Int) + m + 1), .string (str [13, 10]), .int .i64 0] w4 _ := A
            rcases hk : allR (valueR 31) [13, 10] (s.drop (i + m + 1)) with _ | ⟨l, q⟩
            · rw [hk] at A
              have HR : Hid (X = none) := by rw [Hid, HX.out, hk]; rfl
              clear hk HX
              refine A.mono ?_
              rintro e w5 ⟨rfl, k1⟩
              have S5 := hid (HSt.out.later k1)
              have f1 := S5.out.l.fz 1
              have c1 := S5.out.l.cs.2.1
              have S6 := hid (S5.out.set HS.out 1 nilV (S5.out.l.set1 (none, 0, 0)))
              clear A k1 x0 x1 x2 x3 x4
              have A4 := S6.out.a
              obtain ⟨x0, x1, x2, x3, x4⟩ := S6.out.l.cs
              simp only [Sl.v] at x1 x3
              go_wp2_with (refine wpList_store28 (r := ⟨x, (none, 0, 0), [], (none, 0, 0), []⟩) rfl rfl A4 ?_)
              have p1 := rowL_is A4 ⟨x, (none, 0, 0), [], (none, 0, 0), []⟩
              refine bodyPost_ret (w := rowL _ w.heap.size ⟨x, (none, 0, 0), [], (none, 0, 0), []⟩) (resL2 rfl rfl rfl p1) rfl ?_
              rw [HR.out]
              exact ⟨_, rfl, finL_below HZ.out S6.out.k HS.out⟩
            · rw [hk] at A
              have HR : Hid (X = some (⟨x, l, [], [], []⟩, q)) := by rw [Hid, HX.out, hk]; rfl
              clear hk HX
              refine A.mono ?_
              rintro e w5 ⟨u, k, rfl, k1, k2, k3, k4⟩
              obtain ⟨a, cp, rfl, _⟩ := k3.slice
              have S5 := hid (HSt.out.later k4)
              have f1 := S5.out.l.fz 1
              have c1 := S5.out.l.cs.2.1
              have S6 := hid (S5.out.set HS.out 1 (.slice a l.length cp) (S5.out.l.set1 (a, l.length, cp)))
              have KV := hid ((VsN.new (u := (a, l.length, cp)) HSt.out HS.out k3).set 1 (.slice a l.length cp))
              have HKK := hid (And.intro k1 k2)
              clear A k1 k2 k3 k4 x0 x1 x2 x3 x4
              have A4 := S6.out.a
              obtain ⟨x0, x1, x2, x3, x4⟩ := S6.out.l.cs
              simp only [Sl.v] at x1 x3
              go_wp2_with (refine wpList_store28 (r := ⟨x, (a, l.length, cp), [], (none, 0, 0), []⟩) rfl rfl A4 ?_)
              have p1 := rowL_is A4 ⟨x, (a, l.length, cp), [], (none, 0, 0), []⟩
              refine bodyPost_ret (w := rowL _ w.heap.size ⟨x, (a, l.length, cp), [], (none, 0, 0), []⟩) (resL2 rfl rfl rfl p1) rfl ?_
              rw [HR.out]
              exact ⟨_, k, rfl, HKK.out.1, HKK.out.2, finL_at (VsN.lnat KV.out (VsN.nil w w1 _)), finL_below HZ.out S6.out.k HS.out⟩
          · rw [(needP_some h32).1] at E2
            have hq := need_drop hb2 h32
            simp only [List.length_cons, List.length_nil] at hq
            have HK2 : Hid (i + m + 1 + m2 + 1 ≤ s.length) := hq.2.1
            have hb3 : (i : Int) + m + 1 + m2 + 1 ≤ s.length := by have := hq.2.1; omega
            have hqq : s.drop (i + m + 1 + m2 + 1) = q := hq.2.2
            have f2 := HSt.out.l.fz 2
            have c2 := HSt.out.l.cs.2.2.1
            have S5 := hid (HSt.out.set HS.out 2 (.string (str x2')) (HSt.out.l.set2 x2'))
            have E3 : ∀ W, Calls Tryz.prog 61 #[.string (str s), .int .i64 ((i : Int) + m + 1 + m2 + 1), .string (str [91])] W (Is (([91] : Bs).isPrefixOf (s.drop (i + m + 1 + m2 + 1))) W) := fun W => at_r s [91] (i + m + 1 + m2 + 1) W hs (by decide) HK2.out
            rcases h91 : needP [91] q with _ | q2
            · rw [hqq, need_pre h91] at E3
              have HX : Hid (X = (restR (s.drop (i + m + 1 + m2 + 1))).map fun p => (⟨x, [], x2', [], p.1⟩, p.2)) := by rw [Hid, HX0.out, hB2 q hst h32 h91, hqq]
              have HK : Hid (i + m + 1 + m2 + 1 ≤ s.length) := HK2.out
              clear hB1 hB2 hB3 hst hrr HX0 h32 hq hqq h91
              go_enter Tryz.func44, Tryz.ntmps44
              go_wp2_with fail
              rw [← hw1]
              clear hw1
              refine C.mono ?_
              rintro e w1 ⟨rfl, rfl⟩
              go_wp2_with fail
              rw [HM.out, hW3]
              clear hW3
              refine E.mono ?_
              rintro e w3 ⟨rfl, rfl⟩
              go_wp2_with fail
              refine C2.mono ?_
              rintro e w4 ⟨rfl, rfl⟩
              go_wp2_with fail
              refine C3.mono ?_
              rintro e w4 ⟨rfl, rfl⟩
              go_wp2_with fail
              refine E2.mono ?_
              rintro e w4 ⟨rfl, rfl⟩
              go_wp2_with fail
              rw [HM2.out]
              obtain ⟨W5, hW5⟩ : ∃ W5, w4.setCell ⟨w1.heap.size, 2, none⟩ (.string (str x2')) = W5 := ⟨_, rfl⟩
              rw [hW5] at S5 ⊢
              clear hW5
              refine (E3 _).mono ?_
              rintro e w6 ⟨rfl, rfl⟩
              clear x0 x1 x2 x3 x4 f2 c2
              obtain ⟨x0, x1, x2, x3, x4⟩ := S5.out.l.cs
              have KC := hid (VsN.nil w w1 w6)
              have D := rest_r s (i + m + 1 + m2 + 1) w6 hs (show i + m + 1 + m2 + 1 ≤ s.length by have := HK.out; omega)
              have D : Calls Tryz.prog 62 #[.string (str s), .int .i64 ((i : Int) + m + 1 + m2 + 1)] w6 _ := D
              have f4 := S5.out.l.fz 4
              have c4 := S5.out.l.cs.2.2.2.2
              rcases hr : restR (s.drop (i + m + 1 + m2 + 1)) with _ | ⟨y, q⟩
              · rw [hr, rest_none_v] at D
                have HR : Hid (X = none) := by rw [Hid, HX.out, hr]; rfl
                clear hr HX
                go_wp2_with fail
                refine D.mono ?_
                rintro e w5 ⟨rfl, rfl⟩
                have S5 := hid (S5.out.set HS.out 4 (.string (str [])) (S5.out.l.set4 []))
                clear D
                have A4 := S5.out.a
                obtain ⟨x0, x1, x2, x3, x4⟩ := S5.out.l.cs
                simp only [Sl.v] at x1 x3
                go_wp2_with (refine wpList_store28 (r := ⟨x, (none, 0, 0), x2', (none, 0, 0), []⟩) rfl rfl A4 ?_)
                have p1 := rowL_is A4 ⟨x, (none, 0, 0), x2', (none, 0, 0), []⟩
                refine bodyPost_ret (w := rowL _ w.heap.size ⟨x, (none, 0, 0), x2', (none, 0, 0), []⟩) (resL2 rfl rfl rfl p1) rfl ?_
                rw [HR.out]
                exact ⟨_, rfl, finL_below HZ.out S5.out.k HS.out⟩
              · rw [hr] at D
                obtain ⟨kk, hk1, hk2, hk3⟩ := rest_at hr
                have D : Calls Tryz.prog 62 #[.string (str s), .int .i64 ((i : Int) + m + 1 + m2 + 1)] w6 fun e w' => e = .returned (.tuple #[.string (str y), .int .i64 kk]) ∧ w' = w6 := by
                  rw [← hk3]
                  exact D
                have HR : Hid (X = some (⟨x, [], x2', [], y⟩, q)) := by rw [Hid, HX.out, hr]; rfl
                have HKK := hid (And.intro hk1 hk2)
                clear hr HX hk1 hk2 hk3
                go_wp2_with fail
                refine D.mono ?_
                rintro e w5 ⟨rfl, rfl⟩
                have S5 := hid (S5.out.set HS.out 4 (.string (str y)) (S5.out.l.set4 y))
                have KC5 := hid (KC.out.set 4 (.string (str y)))
                clear D
                have A4 := S5.out.a
                obtain ⟨x0, x1, x2, x3, x4⟩ := S5.out.l.cs
                simp only [Sl.v] at x1 x3
                go_wp2_with (refine wpList_store28 (r := ⟨x, (none, 0, 0), x2', (none, 0, 0), y⟩) rfl rfl A4 ?_)
                have p1 := rowL_is A4 ⟨x, (none, 0, 0), x2', (none, 0, 0), y⟩
                refine bodyPost_ret (w := rowL _ w.heap.size ⟨x, (none, 0, 0), x2', (none, 0, 0), y⟩) (resL2 rfl rfl rfl p1) rfl ?_
                rw [HR.out]
                exact ⟨_, kk, rfl, HKK.out.1, HKK.out.2, finL_at (VsN.lnat (VsN.nil w w1 _) KC5.out), finL_below HZ.out S5.out.k HS.out⟩
            · rw [hqq, (needP_some h91).1] at E3
              rw [← hqq] at h91
              have hq2 := need_drop HK2.out h91
              simp only [List.length_cons, List.length_nil] at hq2
              rw [hqq] at h91
              have hqq2 : s.drop (i + m + 1 + m2 + 1 + 1) = q2 := hq2.2.2
              have HK3 : Hid (i + m + 1 + m2 + 1 + 1 ≤ s.length) := hq2.2.1
              have hb4 : (i : Int) + m + 1 + m2 + 1 + 1 ≤ s.length := by have := hq2.2.1; omega
              have HX1 : Hid _ := hB3 q q2 hst h32 h91
              have A : ∀ W, Calls Tryz.prog 63 #[.string (str s), .int .i64 ((i : Int) + m + 1 + m2 + 1 + 1), .string (str [93]), .int .i64 0] W (RdAR s W (allR (valueR 31) [93] (s.drop (i + m + 1 + m2 + 1 + 1)))) := fun W => hA W s (i + m + 1 + m2 + 1 + 1) 0 [93] hs HK3.out (by omega) (by simp)
              rw [hqq2] at A
              clear hB1 hB2 hB3 hst hrr h32 hq hqq h91 hq2 hqq2
              rcases hk : allR (valueR 31) [93] q2 with _ | ⟨l, q3⟩
              · rw [hk] at A
                have HR : Hid (X = none) := by rw [Hid, HX0.out, HX1.out, hk]
                clear hk HX0 HX1
                go_enter Tryz.func44, Tryz.ntmps44
                go_wp2_with fail
                rw [← hw1]
                clear hw1
                refine C.mono ?_
                rintro e w1 ⟨rfl, rfl⟩
                go_wp2_with fail
                rw [HM.out, hW3]
                clear hW3
                refine E.mono ?_
                rintro e w3 ⟨rfl, rfl⟩
                go_wp2_with fail
                refine C2.mono ?_
                rintro e w4 ⟨rfl, rfl⟩
                go_wp2_with fail
                refine C3.mono ?_
                rintro e w4 ⟨rfl, rfl⟩
                go_wp2_with fail
                refine E2.mono ?_
                rintro e w4 ⟨rfl, rfl⟩
                go_wp2_with fail
                rw [HM2.out]
                obtain ⟨W5, hW5⟩ : ∃ W5, w4.setCell ⟨w1.heap.size, 2, none⟩ (.string (str x2')) = W5 := ⟨_, rfl⟩
                rw [hW5] at S5 ⊢
                clear hW5
                refine (E3 _).mono ?_
                rintro e w6 ⟨rfl, rfl⟩
                clear x0 x1 x2 x3 x4 f2 c2
                obtain ⟨x0, x1, x2, x3, x4⟩ := S5.out.l.cs
                go_wp2_with fail
                refine (A _).mono ?_
                rintro e w7 ⟨rfl, k1⟩
                have S7 := hid (S5.out.later k1)
                have f3 := S7.out.l.fz 3
                have c3 := S7.out.l.cs.2.2.2.1
                have S8 := hid (S7.out.set HS.out 3 nilV (S7.out.l.set3 (none, 0, 0)))
                clear A k1 x0 x1 x2 x3 x4
                go_wp2_with fail
                refine (at_none s [32] _).mono ?_
                rintro e w8 ⟨rfl, rfl⟩
                have A4 := S8.out.a
                obtain ⟨x0, x1, x2, x3, x4⟩ := S8.out.l.cs
                simp only [Sl.v] at x1 x3
                go_wp2_with (refine wpList_store28 (r := ⟨x, (none, 0, 0), x2', (none, 0, 0), []⟩) rfl rfl A4 ?_)
                have p1 := rowL_is A4 ⟨x, (none, 0, 0), x2', (none, 0, 0), []⟩
                refine bodyPost_ret (w := rowL _ w.heap.size ⟨x, (none, 0, 0), x2', (none, 0, 0), []⟩) (resL2 rfl rfl rfl p1) rfl ?_
                rw [HR.out]
                exact ⟨_, rfl, finL_below HZ.out S8.out.k HS.out⟩
              · rw [hk] at A
                have HX2 : Hid (X = match needP [32] q3 with
                  | none => none
                  | some q => (restR q).map fun p => (⟨x, [], x2', l, p.1⟩, p.2)) := by rw [Hid, HX0.out, HX1.out, hk]
                clear hk HX0 HX1
                go_enter Tryz.func44, Tryz.ntmps44
                go_wp2_with fail
                rw [← hw1]
                clear hw1
                refine C.mono ?_
                rintro e w1 ⟨rfl, rfl⟩
                go_wp2_with fail
                rw [HM.out, hW3]
                clear hW3
                refine E.mono ?_
                rintro e w3 ⟨rfl, rfl⟩
                go_wp2_with fail
                refine C2.mono ?_
                rintro e w4 ⟨rfl, rfl⟩
                go_wp2_with fail
                refine C3.mono ?_
                rintro e w4 ⟨rfl, rfl⟩
                go_wp2_with fail
                refine E2.mono ?_
                rintro e w4 ⟨rfl, rfl⟩
                go_wp2_with fail
                rw [HM2.out]
                obtain ⟨W5, hW5⟩ : ∃ W5, w4.setCell ⟨w1.heap.size, 2, none⟩ (.string (str x2')) = W5 := ⟨_, rfl⟩
                rw [hW5] at S5 ⊢
                clear hW5
                refine (E3 _).mono ?_
                rintro e w6 ⟨rfl, rfl⟩
                clear x0 x1 x2 x3 x4 f2 c2
                obtain ⟨x0, x1, x2, x3, x4⟩ := S5.out.l.cs
                go_wp2_with fail
                refine (A _).mono ?_
                rintro e w7 ⟨u, k, rfl, k1, k2, k3, k4⟩
                obtain ⟨a, cp, rfl, _⟩ := k3.slice
                have S7 := hid (S5.out.later k4)
                have f3 := S7.out.l.fz 3
                have c3 := S7.out.l.cs.2.2.2.1
                have S8 := hid (S7.out.set HS.out 3 (.slice a l.length cp) (S7.out.l.set3 (a, l.length, cp)))
                have KC := hid ((VsN.new (u := (a, l.length, cp)) S5.out HS.out k3).set 3 (.slice a l.length cp))
                have hk' : (k : Int) ≤ s.length := by omega
                clear A k3 k4 x0 x1 x2 x3 x4
                go_wp2_with fail
                obtain ⟨W8, hW8⟩ : ∃ W8, w7.setCell ⟨w1.heap.size, 3, none⟩ (.slice a l.length cp) = W8 := ⟨_, rfl⟩
                rw [hW8] at S8 KC ⊢
                clear hW8
                have E4 := at_r s [32] k W8 hs (by decide) k1
                rw [k2] at E4
                rcases h32 : needP [32] q3 with _ | q4
                · rw [need_pre h32] at E4
                  have HR : Hid (X = none) := by rw [Hid, HX2.out, h32]
                  clear h32 HX2 k2
                  refine E4.mono ?_
                  rintro e w9 ⟨rfl, rfl⟩
                  have A4 := S8.out.a
                  obtain ⟨x0, x1, x2, x3, x4⟩ := S8.out.l.cs
                  simp only [Sl.v] at x1 x3
                  go_wp2_with (refine wpList_store28 (r := ⟨x, (none, 0, 0), x2', (a, l.length, cp), []⟩) rfl rfl A4 ?_)
                  have p1 := rowL_is A4 ⟨x, (none, 0, 0), x2', (a, l.length, cp), []⟩
                  refine bodyPost_ret (w := rowL _ w.heap.size ⟨x, (none, 0, 0), x2', (a, l.length, cp), []⟩) (resL2 rfl rfl rfl p1) rfl ?_
                  rw [HR.out]
                  exact ⟨_, rfl, finL_below HZ.out S8.out.k HS.out⟩
                · rw [(needP_some h32).1] at E4
                  rw [← k2] at h32
                  have hq4 := need_drop k1 h32
                  simp only [List.length_cons, List.length_nil] at hq4
                  rw [k2] at h32
                  have hqq4 : s.drop (k + 1) = q4 := hq4.2.2
                  have HX : Hid (X = (restR (s.drop (k + 1))).map fun p => (⟨x, [], x2', l, p.1⟩, p.2)) := by rw [Hid, HX2.out, h32, hqq4]
                  have HK : Hid (k + 1 ≤ s.length) := hq4.2.1
                  have hb5 : (k : Int) + 1 ≤ s.length := by have := hq4.2.1; omega
                  clear h32 HX2 k2 hq4 hqq4
                  obtain ⟨x0, x1, x2, x3, x4⟩ := S8.out.l.cs
                  refine E4.mono ?_
                  rintro e w9 ⟨rfl, rfl⟩
                  have D := rest_r s (k + 1) w9 hs (show k + 1 ≤ s.length by have := HK.out; omega)
                  have D : Calls Tryz.prog 62 #[.string (str s), .int .i64 ((k : Int) + 1)] w9 _ := D
                  have f4 := S8.out.l.fz 4
                  have c4 := S8.out.l.cs.2.2.2.2
                  rcases hr : restR (s.drop (k + 1)) with _ | ⟨y, q⟩
                  · rw [hr, rest_none_v] at D
                    have HR : Hid (X = none) := by rw [Hid, HX.out, hr]; rfl
                    clear hr HX
                    go_wp2_with fail
                    refine D.mono ?_
                    rintro e w5 ⟨rfl, rfl⟩
                    have S5 := hid (S8.out.set HS.out 4 (.string (str [])) (S8.out.l.set4 []))
                    clear D
                    have A4 := S5.out.a
                    obtain ⟨x0, x1, x2, x3, x4⟩ := S5.out.l.cs
                    simp only [Sl.v] at x1 x3
                    go_wp2_with (refine wpList_store28 (r := ⟨x, (none, 0, 0), x2', (a, l.length, cp), []⟩) rfl rfl A4 ?_)
                    have p1 := rowL_is A4 ⟨x, (none, 0, 0), x2', (a, l.length, cp), []⟩
                    refine bodyPost_ret (w := rowL _ w.heap.size ⟨x, (none, 0, 0), x2', (a, l.length, cp), []⟩) (resL2 rfl rfl rfl p1) rfl ?_
                    rw [HR.out]
                    exact ⟨_, rfl, finL_below HZ.out S5.out.k HS.out⟩
                  · rw [hr] at D
                    obtain ⟨kk, hk1, hk2, hk3⟩ := rest_at hr
                    have D : Calls Tryz.prog 62 #[.string (str s), .int .i64 ((k : Int) + 1)] w9 fun e w' => e = .returned (.tuple #[.string (str y), .int .i64 kk]) ∧ w' = w9 := by
                      rw [← hk3]
                      exact D
                    have HR : Hid (X = some (⟨x, [], x2', l, y⟩, q)) := by rw [Hid, HX.out, hr]; rfl
                    have HKK := hid (And.intro hk1 hk2)
                    clear hr HX hk1 hk2 hk3
                    go_wp2_with fail
                    refine D.mono ?_
                    rintro e w5 ⟨rfl, rfl⟩
                    have S5 := hid (S8.out.set HS.out 4 (.string (str y)) (S8.out.l.set4 y))
                    have KC5 := hid (KC.out.set 4 (.string (str y)))
                    clear D
                    have A4 := S5.out.a
                    obtain ⟨x0, x1, x2, x3, x4⟩ := S5.out.l.cs
                    simp only [Sl.v] at x1 x3
                    go_wp2_with (refine wpList_store28 (r := ⟨x, (none, 0, 0), x2', (a, l.length, cp), y⟩) rfl rfl A4 ?_)
                    have p1 := rowL_is A4 ⟨x, (none, 0, 0), x2', (a, l.length, cp), y⟩
                    refine bodyPost_ret (w := rowL _ w.heap.size ⟨x, (none, 0, 0), x2', (a, l.length, cp), y⟩) (resL2 rfl rfl rfl p1) rfl ?_
                    rw [HR.out]
                    exact ⟨_, kk, rfl, HKK.out.1, HKK.out.2, finL_at (VsN.lnat (VsN.nil w w1 _) KC5.out), finL_below HZ.out S5.out.k HS.out⟩
end Go.Proofs.YtpjcpdnolcehcaaGreatDoor
namespace Go.Proofs.YtpjcpdnolcehcaaGreatDoor
open Go.RowKit
set_option linter.unusedVariables false
set_option linter.unusedSimpArgs false

def RdPR (w : World) (X : Option (List Ln)) (e : Ending) (w' : World) : Prop := match X with
  | none => e = .returned (.tuple #[nilV, .int .i64 11]) ∧ Below w.heap.size w w'
  | some ls => ∃ u : Value, e = .returned (.tuple #[u, .int .i64 0]) ∧ LsAt w' (w.heap.size ≤ ·) u ls ∧ Below w.heap.size w w'
theorem belowL_new (w : World) (r : Lw) : Below w.heap.size w (w.alloc (.cells r.c.toArray 28)) := (Below.refl _ _).alloc (Nat.le_refl _) _
/-- Where the reading of lines stands. -/
structure PSt (w0 w : World) (s : Bs) (f : Nat) (v : Value) (rows : List (Lw × Ln)) (i : Nat) : Prop where
  q : linesR (s.length + 1) s = goL (f + 1) (rows.map (·.2)) (s.drop i)
  hi : i ≤ s.length
  g : LO w w0.heap.size v rows
  k : Below w0.heap.size w0 w
  l : s.length - i ≤ f
  m : rows.length ≤ i
theorem parseR_none {s : Bs} (h : linesR (s.length + 1) s = none) : parseR s = none := by unfold parseR; rw [h]
theorem parseR_some (s : Bs) (l : List Ln) (h : linesR (s.length + 1) s = some l) : parseR s = if printP l = s then some l else none := by unfold parseR; rw [h]
set_option maxRecDepth 100000 in
set_option maxHeartbeats 4000000 in
theorem parse_r (w : World) (s : Bs) (hs : s.length ≤ 1000000) : Calls Tryz.prog 16 #[.string (str s)] w (RdPR w (parseR s)) := by
  have hsz := str_size s
  have hs' : (s.length : Int) ≤ 1000000 := by omega
  obtain ⟨X, hX⟩ : ∃ X, parseR s = X := ⟨_, rfl⟩
  rw [hX]
  have HX1 := hid (@parseR_none s)
  have HX2 := hid (parseR_some s)
  rw [hX] at HX1 HX2
  have H0 : Hid (PSt w w s s.length nilV [] 0) := ⟨by rw [goL_start, List.drop_zero]; rfl, by omega, LO.nil _ _, Below.refl _ _, by omega, by simp⟩
  have HSi := hid hs
  clear hX
  go_enter Tryz.func16, Tryz.ntmps16
  go_wp2_with fail
  go_loopg [4, 5] s.length (fun g v iv wr => ∃ (i : Nat) (rows : List (Lw × Ln)), iv = .int .i64 i ∧ PSt w wr s g v rows i)
  case atStart => exact ⟨0, [], rfl, H0.out⟩
  case round =>
    obtain ⟨i, rows, rfl, hst⟩ := hrel
    have HS := hid hst
    obtain ⟨a, c, rfl⟩ := hst.g.slice
    have hir : (i : Int) ≤ s.length := by have := hst.hi; omega
    by_cases hlt : i < s.length
    · have hlt' : (i : Int) < s.length := by omega
      have hne : s.drop i ≠ [] := by intro h; have := congrArg List.length h; rw [List.length_drop] at this; simp at this; omega
      have C := line_r wr s i HSi.out hst.hi
      have HNE := hid hne
      clear hst hne
      rcases hv : lineR (s.drop i) with _ | ⟨v, r⟩
      · rw [hv] at C
        have HR : Hid (X = none) := HX1.out (by rw [HS.out.q, goL_none HNE.out hv])
        clear hv
        go_wp2_with fail
        refine C.mono ?_
        rintro x w3 ⟨⟨rt, ⟨va, vb, vc⟩, rs, ⟨ca, cb, cc⟩, rx⟩, rfl, k1⟩
        rw [lV_mk]
        have K1 := hid ((HS.out.k.trans (k1.mono HS.out.k.size)).trans ((belowL_new w3 ⟨rt, (va, vb, vc), rs, (ca, cb, cc), rx⟩).mono (Nat.le_trans HS.out.k.size k1.size)))
        clear k1
        go_wp2_with fail
        go_ret2
        rw [HR.out]
        exact ⟨rfl, K1.out⟩
      · rw [hv] at C
        have HV := hid hv
        clear hv
        go_wp2_with fail
        refine C.mono ?_
        rintro x w3 ⟨⟨rt, ⟨va, vb, vc⟩, rs, ⟨ca, cb, cc⟩, rx⟩, k, rfl, k1, k2, k3, k4⟩
        rw [lV_mk]
        have hk' : (k : Int) ≤ s.length := by omega
        have hb1 : Below w3.heap.size w3 (w3.alloc (.cells #[.string (str rt), .slice va vb vc, .string (str rs), .slice ca cb cc, .string (str rx)] 28)) := belowL_new w3 ⟨rt, (va, vb, vc), rs, (ca, cb, cc), rx⟩
        have K3 := (HS.out.k.trans (k4.mono HS.out.k.size)).trans (hb1.mono (Nat.le_trans HS.out.k.size k4.size))
        have G3 := (HS.out.g.kept (Kept.ofBelow k4 []) (by simp)).kept (Kept.ofBelow hb1 []) (by simp)
        have hx := LnAt.later (w' := (w3.alloc (.cells #[.string (str rt), .slice va vb vc, .string (str rs), .slice ca cb cc, .string (str rx)] 28))) (k3.mono (N' := fun q => w.heap.size ≤ q ∧ Value.ownBlock (.slice a rows.length c) ≠ some q) (fun q hq hN => ⟨Nat.le_trans HS.out.k.size hN, fun e => by
          have := (World.ownsRow.lt HS.out.g.o q e).2
          omega⟩)) hb1
        have hm := HS.out.m
        obtain ⟨v', W, hrun, hvo, hbl, _⟩ := G3.more K3.size ⟨rt, (va, vb, vc), rs, (ca, cb, cc), rx⟩ v hx (by have := HSi.out; omega) (w3.heap.size + 1) (by simp)
        have hrun' : (Builtin.append_ #[22, 22] 22 #[.slice a rows.length c, .slice (some ⟨w3.heap.size + 1, 0, none⟩) 1 1]).run Tryz.prog ((w3.alloc (.cells #[.string (str rt), .slice va vb vc, .string (str rs), .slice ca cb cc, .string (str rx)] 28)).alloc (.cells #[.string (str rt), .slice va vb vc, .string (str rs), .slice ca cb cc, .string (str rx)] 28)) = .ok v' W := hrun
        have hlen := line_lt HV.out
        rw [List.length_drop] at hlen
        have hrk : r.length = s.length - k := by rw [← k2, List.length_drop]
        obtain ⟨f, rfl⟩ : ∃ f, gk = f + 1 := ⟨gk - 1, by have := HS.out.l; omega⟩
        have S3 : Hid (PSt w W s f v' (rows ++ [(⟨rt, (va, vb, vc), rs, (ca, cb, cc), rx⟩, v)]) k) := by
          refine ⟨?_, k1, hvo, K3.trans hbl, by have := HS.out.l; omega, by simp; omega⟩
          rw [HS.out.q, goL_step HNE.out HV.out, List.map_append, k2]
          rfl
        clear k1 k2 k3 k4 K3 G3 hx hvo hbl C hrun hlen hrk hb1 hm
        go_wp2_with (at_builtin; refine wpList_append_run rfl rfl hrun' ?_)
        go_roundg f
        case measure => omega
        case rel => exact ⟨k, _, rfl, S3.out⟩
    · have hlt' : ¬ (i : Int) < s.length := by omega
      have hq : linesR (s.length + 1) s = some (rows.map (·.2)) := by
        rw [hst.q, show s.drop i = [] from List.drop_eq_nil_of_le (by omega), goL_end]
      have hX := HX2.out _ hq
      obtain ⟨hn1, hn2, hn3⟩ := readR_small HSi.out hq
      have D := print_r wr (w.heap.size ≤ ·) (.slice a rows.length c) (rows.map (·.2)) hst.g.ls hn2 hn1 hn3
      obtain ⟨p, hp⟩ : ∃ p, printP (rows.map (·.2)) = p := ⟨_, rfl⟩
      rw [hp] at D hX
      clear hq hn1 hn2 hn3 hp hst
      by_cases he : p = s
      · have HR : Hid (X = some (rows.map (·.2))) := by rw [Hid, hX, if_pos he]
        have g1 : ((str p).toList == (str s).toList) = true := by rw [he]; simp
        have g2 : ((str p).toList != (str s).toList) = false := by rw [he]; simp
        clear hX
        go_wp2_with fail
        refine D.mono ?_
        rintro x w3 ⟨rfl, b3⟩
        have K3 := hid (HS.out.k.trans (b3.mono HS.out.k.size))
        have L3 := hid (HS.out.g.ls.later b3)
        clear b3
        go_wp2_with fail
        go_ret2
        rw [HR.out]
        exact ⟨_, rfl, L3.out, K3.out⟩
      · have HR : Hid (X = none) := by rw [Hid, hX, if_neg he]
        have g1 : ((str p).toList == (str s).toList) = false := by rw [toL, toL, beq_eq_false_iff_ne]; exact he
        have g2 : ((str p).toList != (str s).toList) = true := by rw [toL, toL, bne_iff_ne]; exact he
        clear hX
        go_wp2_with fail
        refine D.mono ?_
        rintro x w3 ⟨rfl, b3⟩
        have K3 := hid (HS.out.k.trans (b3.mono HS.out.k.size))
        clear b3
        go_wp2_with fail
        go_ret2
        rw [HR.out]
        exact ⟨rfl, K3.out⟩
end Go.Proofs.YtpjcpdnolcehcaaGreatDoor
namespace Go.Proofs.YtpjcpdnolcehcaaGreatDoor
open Go.RowKit
set_option linter.unusedVariables false

theorem own : ownKnob Tryz.prog.godebug = none := by kernel_rfl
/-- The rows' list. -/
def laidL : List (String × DataW Unit) := [("math/bits.deBruijn32tab", Rows.laid_math_bits_deBruijn32tab), ("math/bits.deBruijn64tab", Rows.laid_math_bits_deBruijn64tab), ("internal/strconv.uint64pow10", Rows.laid_internal_strconv_uint64pow10), ("unicode/utf8.acceptRanges", Rows.laid_unicode_utf8_acceptRanges), ("strconv.ErrRange", Rows.laid_strconv_ErrRange), ("strconv.ErrSyntax", Rows.laid_strconv_ErrSyntax), ("unicode.asciiFold", Rows.laid_unicode_asciiFold), ("unicode.caseOrbit", Rows.laid_unicode_caseOrbit), ("unicode.CaseRanges", Rows.laid_unicode_CaseRanges), ("unicode/utf8.first", Rows.laid_unicode_utf8_first)]
theorem pow_is : (Rows.laid_internal_strconv_uint64pow10 : DataW Unit) = Go.Lib.tabData .u64 Go.Lib.pow10Tab := by kernel_rfl
theorem only_is : laidL.filter (fun x => x.1 == "internal/strconv.uint64pow10") = [("internal/strconv.uint64pow10", Rows.laid_internal_strconv_uint64pow10)] := by kernel_rfl
noncomputable def laidWorld (os : Os) : World := World.laidAll Tryz.prog os laidL
theorem laid_met (os : Os) (args : Array Value) : laidMet Tryz.prog laidL ((laidWorld os).forCall (fun _ _ => 0) ⟨#[], args, []⟩).memory := laidMet_laidAll args (by kernel_rfl) (by kernel_rfl)
end Go.Proofs.YtpjcpdnolcehcaaGreatDoor
namespace Go.Proofs.YtpjcpdnolcehcaaGreatDoor
open Go.RowKit
set_option linter.unusedVariables false

theorem only_ran : laidL.filter (fun x => x.1 == "strconv.ErrRange") = [("strconv.ErrRange", Rows.laid_strconv_ErrRange)] := by kernel_rfl
theorem only_syn : laidL.filter (fun x => x.1 == "strconv.ErrSyntax") = [("strconv.ErrSyntax", Rows.laid_strconv_ErrSyntax)] := by kernel_rfl
theorem g_ran : Tryz.prog.globalNamed "strconv.ErrRange" = some 10 := by kernel_rfl
theorem g_syn : Tryz.prog.globalNamed "strconv.ErrSyntax" = some 9 := by kernel_rfl
theorem g_ranT : (Tryz.prog.globals[10]?).map (·.type) = some 106 := by kernel_rfl
theorem g_synT : (Tryz.prog.globals[9]?).map (·.type) = some 106 := by kernel_rfl
theorem star : ("*errors.errorString" : String) = "*" ++ "errors.errorString" := by decide +kernel
theorem row188 (u : TypeId) (h : Tryz.prog.typeName? 3 u = some "*errors.errorString") : u = 188 :=
  typeName_ptr_named (nm := "errors.errorString") (by rw [← star]; kernel_rfl) (by kernel_rfl) (by decide) u (by rw [← star]; exact h)
theorem cells190 : Tryz.prog.cellsOf 190 = 1 := by kernel_rfl
theorem cells9 : Tryz.prog.cellsOf 9 = 1 := by kernel_rfl
theorem cell_var {W : World} {nm : String} {g : Nat} {v : Value} (hg : Tryz.prog.globalNamed nm = some g) (h : W.var? Tryz.prog nm = some #[v]) : W.cell? ⟨g, 0, none⟩ = some v := by
  unfold World.var? at h
  rw [hg] at h
  simp only [Option.bind_some] at h
  simp only [World.cell?]
  rcases hh : W.heap[g]? with _ | o
  · rw [hh] at h; simp at h
  · rw [hh] at h
    cases o <;> simp at h
    subst h
    rfl
theorem env_of {W : World} (hL : laidMetH Tryz.prog laidL W) : Env W := by
  rw [MakeChecks.laidMetH_plain _ _ _ (by kernel_rfl)] at hL
  have h := laidMet.filter (fun x => x.1 == "internal/strconv.uint64pow10") hL
  rw [only_is, pow_is] at h
  have h1 := laidMet.filter (fun x => x.1 == "strconv.ErrRange") hL
  rw [only_ran] at h1
  obtain ⟨a1, s1, hv1, _⟩ := laid_sentinel h1 g_ran g_ranT Tryz.underlying106 row188 Tryz.underlying188 Tryz.underlying190 rfl rfl Tryz.underlying9 cells190 cells9
  have h2 := laidMet.filter (fun x => x.1 == "strconv.ErrSyntax") hL
  rw [only_syn] at h2
  obtain ⟨a2, s2, hv2, _⟩ := laid_sentinel h2 g_syn g_synT Tryz.underlying106 row188 Tryz.underlying188 Tryz.underlying190 rfl rfl Tryz.underlying9 cells190 cells9
  exact ⟨Go.Lib.tabIs_of_head (g := 6) (t := 168) (e := 162) (n := 20) (by kernel_rfl) (by kernel_rfl) Tryz.underlying168 Tryz.underlying162 (by kernel_rfl) (by kernel_rfl) h, ⟨_, _, cell_var g_syn hv2⟩, ⟨_, _, cell_var g_ran hv1⟩⟩
end Go.Proofs.YtpjcpdnolcehcaaGreatDoor
namespace Go.Proofs.YtpjcpdnolcehcaaGreatDoor.respParses
open Go.ChangeShapes Go.WideShapes Go.ChangeAt Go.RowKit
open Go.ChangeMaps (open_string shut_string)
set_option linter.unusedVariables false
set_option linter.unusedSimpArgs false

theorem parse_of (w : World) (s : Bs) (hE : Env w) (hs : s.length ≤ 1000000) : Calls Tryz.prog 15 #[.string (str s)] w (PaIs (parseP s) w) :=
  parse_any w s hE (by omega) (fun l hl => read_small hs hl)
theorem parse_small {s : Bs} {ls : List Ln} (hs : s.length ≤ 1000000) (h : parseP s = some ls) : ls.length ≤ 1000000000 ∧ (∀ x ∈ ls, NumN x) ∧ (ls.flatMap lineT).length ≤ 1000000000 := by
  unfold parseP at h
  split at h
  · cases h
  · rename_i l hl
    split at h
    · cases h
      exact read_small hs hl
    · cases h
set_option maxRecDepth 100000 in
set_option maxHeartbeats 4000000 in
theorem walkP (w : World) (s : Bs) (hE : Env w) (hs : s.length ≤ maxLen) : Calls Tryz.prog 4 #[.string (str s)] w (Bo true w) := by
  have hsz := str_size s
  have HE := hid hE
  by_cases h3 : s.length ≤ 3000
  · have h3' : ¬ (3000 : Int) < s.length := by omega
    have HS3 : Hid (s.length ≤ 1000000) := by unfold Hid; omega
    have CP := parse_of w s hE HS3.out
    have CR := hid (fun (w' : World) => parse_r w' s HS3.out)
    rw [parse_same HS3.out] at CR
    have HSm := hid (fun ls => @parse_small s ls HS3.out)
    generalize parseP s = X at *
    clear hE hs h3
    rcases X with _ | ls
    · have CP : Calls Tryz.prog 15 #[.string (str s)] w fun e w' => ∃ u, e = .returned (.tuple #[u, .int .i64 11]) ∧ LsAt w' (w.heap.size ≤ ·) u [] ∧ Below w.heap.size w w' := CP
      go_enter Tryz.func4, Tryz.ntmps4
      go_wp2_with fail
      refine CP.mono ?_
      rintro e w1 ⟨u1, rfl, l1, b1⟩
      have L1 := hid l1
      have B1 := hid b1
      obtain ⟨a1, c1, rfl, _⟩ := l1.slice
      clear l1 b1 CP
      go_wp2_with fail
      refine (CR.out w1).mono ?_
      rintro e w2 ⟨rfl, b2⟩
      have L2 := hid (L1.out.later b2)
      have B2 := hid (B1.out.trans (b2.mono B1.out.size))
      clear b2 CR L1
      have CS := same_any w2 _ (fun _ => True) _ nilV [] L2.out (LsAt.nil _ _) (by simp) (by simp)
      go_wp2_with fail
      refine CS.mono ?_
      rintro e w3 ⟨rfl, b3⟩
      have B3 := hid (B2.out.trans (b3.mono B2.out.size))
      clear b3 CS
      go_wp2_with fail
      refine (no_any 11 _).mono ?_
      rintro e w4 ⟨rfl, rfl⟩
      go_wp2_with fail
      refine (alive_any _ (HE.out.later B3.out)).mono ?_
      rintro e w5 ⟨rfl, b5⟩
      have B5 := hid (B3.out.trans (b5.mono B3.out.size))
      clear b5
      go_wp2_with fail
      go_ret
      exact ⟨rfl, B5.out⟩
    · have CP : Calls Tryz.prog 15 #[.string (str s)] w fun e w' => ∃ u, e = .returned (.tuple #[u, .int .i64 0]) ∧ LsAt w' (w.heap.size ≤ ·) u ls ∧ Below w.heap.size w w' := CP
      obtain ⟨m1, m2, m3⟩ := HSm.out ls rfl
      have HN := hid m2
      have HL := hid m1
      clear m1 m2 m3 HSm
      go_enter Tryz.func4, Tryz.ntmps4
      go_wp2_with fail
      refine CP.mono ?_
      rintro e w1 ⟨u1, rfl, l1, b1⟩
      have L1 := hid l1
      have B1 := hid b1
      obtain ⟨a1, c1, rfl, _⟩ := l1.slice
      clear l1 b1 CP
      go_wp2_with fail
      refine (CR.out w1).mono ?_
      rintro e w2 ⟨u2, rfl, l2, b2⟩
      have L2 := hid (L1.out.later b2)
      have M2 := hid l2
      obtain ⟨a2, c2, rfl, _⟩ := l2.slice
      have B2 := hid (B1.out.trans (b2.mono B1.out.size))
      clear b2 CR L1 l2
      have CS := same_any w2 _ _ _ _ ls L2.out M2.out HN.out HL.out
      go_wp2_with fail
      refine CS.mono ?_
      rintro e w3 ⟨rfl, b3⟩
      have B3 := hid (B2.out.trans (b3.mono B2.out.size))
      clear b3 CS
      go_wp2_with fail
      refine (no_any 0 _).mono ?_
      rintro e w4 ⟨rfl, rfl⟩
      go_wp2_with fail
      refine (alive_any _ (HE.out.later B3.out)).mono ?_
      rintro e w5 ⟨rfl, b5⟩
      have B5 := hid (B3.out.trans (b5.mono B3.out.size))
      clear b5
      go_wp2_with fail
      go_ret
      exact ⟨rfl, B5.out⟩
  · have h3' : (3000 : Int) < s.length := by omega
    have CA := alive_any w hE
    clear hE hs
    go_enter Tryz.func4, Tryz.ntmps4
    go_wp2_with fail
    refine CA.mono ?_
    rintro e w1 ⟨rfl, b1⟩
    have B1 := hid b1
    clear b1 CA
    go_wp2_with fail
    go_ret
    exact ⟨rfl, B1.out⟩
theorem walk {w : World} (s : ByteArray) (hE : Env w) (hs : s.size ≤ maxLen) : Calls Tryz.prog 4 #[.string s] w fun e w' => e = .returned (.bool true) ∧ Below w.heap.size w w' := by
  have h := walkP w s.data.toList hE (by
    have : s.size = s.data.toList.length := Go.Lib.size_eq s
    omega)
  rw [str_of] at h
  exact h

theorem witness (os : Os) {H : Type} (enc : TypeId × Value → H) :
    (OpenSpec.ofChange Rows.respParsesSpec).preRow enc Tryz.prog Tryz.f4 Rows.respParsesRow.domain false Rows.respParsesRow.laid ((laidWorld os).forCall (fun _ _ => 0) ⟨#[], #[.string ⟨#[]⟩], []⟩).memory #[.string ⟨#[]⟩] := by
  have hw : (DataW.whole enc Tryz.prog ((laidWorld os).forCall (fun _ _ => 0) ⟨#[], #[.string ⟨#[]⟩], []⟩).memory Tryz.f4.params.toList Rows.respParsesSpec.vars false (#[.string ⟨#[]⟩] : Array Value).toList 8).map (fun x => (x.1, x.2.1)) =
      some ([.lit (.string [])], []) := by kernel_rfl
  obtain ⟨⟨x1, x2, x3⟩, hx, hx1⟩ := Option.map_eq_some_iff.1 hw
  simp only [Prod.mk.injEq] at hx1
  obtain ⟨rfl, rfl⟩ := hx1
  exact OpenSpec.preRow_of_cond 8 hx (by kernel_rfl) (fun k hk => by cases hk) (by kernel_rfl) (laid_met os _)

set_option maxRecDepth 100000 in
set_option maxHeartbeats 2000000 in
theorem lifted (os : Os) (started : os.Started) (H : Type) (enc : TypeId × Value → H) (F : Stop.Interp) :
    ReturnsInHanded {} Tryz.checked os 4 .any ((OpenSpec.ofChange Rows.respParsesSpec).preRow enc Tryz.prog Tryz.f4 Rows.respParsesRow.domain false Rows.respParsesRow.laid) (((OpenSpec.ofChange Rows.respParsesSpec).at F).post enc Tryz.prog Tryz.f4 false true false false) := by
  refine returnsInHanded_of_row (C := Tryz.checked) (s := OpenSpec.ofChange Rows.respParsesSpec) own started (by kernel_rfl) Tryz.func4
    (witness_row_atRef (enc := enc) (C := Tryz.checked) false (laidWorld os) #[.string ⟨#[]⟩] rfl (by kernel_rfl) (by kernel_rfl) (by kernel_rfl) (witness os enc)) ?_
  intro W base args ds gs before hval0 hW _ _ _ hL hsh _
  have hval : ∀ (j : Nat) t v, Tryz.f4.params[j]? = some t → args[j]? = some v → Value.okWide Tryz.prog W .any base t v := hval0
  have hW' := hW
  obtain ⟨p, q, hA0, hV, rfl, hfz, hnd⟩ := hW
  have hA : DataW.TrodAll enc Tryz.prog W 0 (fun _ => true) true Tryz.f4.params.toList args.toList ds p := hA0
  rw [Tryz.params4] at hA hval
  obtain ⟨v0, vs0, d0, ds0, p0, q0, hargs, rfl, rfl, h0, r0⟩ := trodAll_cons hA
  obtain ⟨rfl, rfl, rfl⟩ := trodAll_nil r0
  obtain rfl : args = #[v0] := by cases args; simp_all
  obtain ⟨rfl, rfl⟩ := trodVars_none hV
  obtain ⟨a0, rfl, rfl, rfl, w0⟩ := open_string Tryz.underlying9 (hval 0 9 v0 rfl rfl) h0
  clear hA0 hval0
  refine (walk a0 (env_of hL) w0).mono ?_
  rintro e W' ⟨rfl, bel⟩
  exact ⟨_, rfl, _, _, _, [], _, [], hW', trodAll_mk1 (shut_bool Tryz.underlying4 _), (trodAll_cons_mk (shut_string Tryz.underlying9 w0) trodAll_mk0), rfl, bel.frame _, fun h => by cases h⟩

theorem over : Rows.respParsesRow.holds Tryz.pinned (OpenSpec.ofChange Rows.respParsesSpec) :=
  OpenClaim.holds_of_cond 4 Tryz.f4 rfl rfl rfl rfl rfl rfl rfl ⟨rfl, rfl, rfl, rfl, rfl⟩ rfl rfl rfl rfl rfl (by kernel_rfl) Tryz.func4 (by kernel_rfl)
    (of_decide_eq_true (by kernel_rfl)) (by unfold Func.isWrapper; first | (rw [if_pos (by decide +kernel)]; kernel_rfl) | (rw [if_neg (by decide +kernel)]; exact ⟨rfl, rfl⟩))
    (fun os started H enc _ F => by rw [OpenClaim.pre_eq_preRow]; exact lifted os started H enc F)

/-- No parameter wants a stand-in. -/
theorem plain (f : FuncId) (fn : Func) (hf : Tryz.pinned.checked.prog.funcNamed Rows.respParsesRow.func = some f) (hfn : Tryz.pinned.checked.prog.funcs[f]? = some fn) :
    true = Tryz.pinned.checked.prog.looks [] ∧ ∀ (j : Nat) t, fn.params[j]? = some t → Tryz.pinned.checked.prog.wantsStandIn t = false := by
  obtain rfl : f = 4 := Option.some.inj ((show Tryz.prog.funcNamed Rows.respParsesRow.func = some 4 by kernel_rfl).symm.trans hf) |>.symm
  obtain rfl : fn = Tryz.f4 := (Option.some.inj (Tryz.func4.symm.trans hfn)).symm
  refine ⟨by kernel_rfl, fun j t ht => ?_⟩
  rw [Tryz.params4] at ht
  have hm := Array.mem_of_getElem? ht
  simp only [List.mem_toArray, List.mem_cons, List.not_mem_nil, or_false, or_self] at hm
  rcases hm with rfl
  · exact (show Tryz.prog.wantsStandIn 9 = false by kernel_rfl)
end Go.Proofs.YtpjcpdnolcehcaaGreatDoor.respParses
namespace Go.Proofs.YtpjcpdnolcehcaaGreatDoor
/-- THE STATEMENT. -/
theorem respParses_holds : Rows.RespParsesCardSaid :=
  Claim7.holds_tied_plain_at .later [] _ _ _ _ respParses.over (fun _ h => by cases h) (by kernel_rfl) (fun _ h => by cases h) respParses_row_tie rfl ⟨rfl, rfl⟩ (by kernel_rfl) rfl respParses.plain (by kernel_rfl)
#print axioms respParses_holds
end Go.Proofs.YtpjcpdnolcehcaaGreatDoor
