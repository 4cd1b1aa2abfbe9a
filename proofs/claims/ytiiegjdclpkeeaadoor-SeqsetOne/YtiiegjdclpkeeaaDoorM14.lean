/- What this text holds: what is left of a text: whether there is more, a sign that comes next, digits that come next; what the library's reader of numbers answers. -/
import Derived.Test.YtiiegjdclpkeeaaDoorM6
import Derived.Test.YtiiegjdclpkeeaaDoorShelf
namespace Go.Proofs.YtiiegjdclpkeeaaDoor
open Go.RowKit
set_option linter.unusedVariables false
set_option linter.unusedSimpArgs false

/-- What the library's variables hold. -/
def Env (w : World) : Prop := Go.Lib.TabIs Tryd.prog w "internal/strconv.uint64pow10" .u64 Go.Lib.pow10Tab ∧ ∃ tp p, w.var? Tryd.prog "strconv.ErrRange" = some #[.iface tp p]
theorem g_tab : Tryd.prog.globalNamed "internal/strconv.uint64pow10" = some 2 := by kernel_rfl
theorem g_err : Tryd.prog.globalNamed "strconv.ErrRange" = some 1 := by kernel_rfl
theorem Env.keep {w w' : World} {B : Nat} (h : Env w) (hb : Below B w w') (hB : 3 ≤ B) : Env w' := by
  obtain ⟨h1, tp, p, h2⟩ := h
  refine ⟨?_, tp, p, ?_⟩
  · unfold Go.Lib.TabIs World.var? at h1 ⊢
    rw [g_tab] at h1 ⊢
    simp only [Option.bind_some] at h1 ⊢
    rw [hb.block 2 (by omega)]; exact h1
  · unfold World.var? at h2 ⊢
    rw [g_err] at h2 ⊢
    simp only [Option.bind_some] at h2 ⊢
    rw [hb.block 1 (by omega)]; exact h2
theorem Env.pos {w : World} (h : Env w) : 3 ≤ w.heap.size := by
  have h1 := h.1
  unfold Go.Lib.TabIs World.var? at h1
  rw [g_tab] at h1
  simp only [Option.bind_some] at h1
  rcases hh : w.heap[2]? with _ | o
  · rw [hh] at h1; simp at h1
  · exact lt_of_some hh
theorem Env.later {w w' : World} (h : Env w) (hb : Below w.heap.size w w') : Env w' := h.keep hb h.pos

/-- Behind a sign, if it comes next. -/
def tkP (c : UInt8) (l : Bs) : Bs := if l.head? = some c then l.drop 1 else l
theorem pre_one (c : UInt8) (l : Bs) : Go.Lib.hasPrefix l [c] = decide (l.head? = some c) := by
  unfold Go.Lib.hasPrefix
  cases l with
  | nil => simp
  | cons a l =>
    by_cases h : c = a
    · subst h; simp [List.isPrefixOf]
    · have h' : ¬ a = c := fun e => h e.symm
      simp [List.isPrefixOf, h, h']
theorem trim_one (c : UInt8) (l : Bs) : Go.Lib.trimPrefix l [c] = tkP c l := by
  unfold Go.Lib.trimPrefix tkP
  rw [pre_one]
  simp
theorem more_any {w : World} {b : Nat} {l : Bs} (h : w.cell? ⟨b, 0, none⟩ = some (.string (str l))) : Calls Tryd.prog 31 #[.pointer (some ⟨b, 0, none⟩)] w fun e w' => e = .returned (.bool (decide (l ≠ []))) ∧ w' = w := by
  have hq : ((str l).toList == []) = decide (l = []) := by
    rw [toL, Bool.eq_iff_iff]
    simp
  have HN : Hid (decide (l ≠ []) = !decide (l = [])) := by simp [Hid]
  go_enter Tryd.func31, Tryd.ntmps31
  go_wp2_with fail
  go_ret
  rw [HN.out]
  exact ⟨rfl, rfl⟩
set_option maxRecDepth 100000 in
set_option maxHeartbeats 1000000 in
theorem takes_any {w : World} {b : Nat} {l : Bs} (h : w.cell? ⟨b, 0, none⟩ = some (.string (str l))) (hf : w.frozen? ⟨b, 0, none⟩ = false) (c : UInt8) :
    Calls Tryd.prog 30 #[.pointer (some ⟨b, 0, none⟩), .string ⟨#[c]⟩] w fun e w' => e = .returned (.bool (decide (l.head? = some c))) ∧ w' = w.setCell ⟨b, 0, none⟩ (.string (str (tkP c l))) := by
  have C := fun W => Tryd.strings_CutPrefix (str l) ⟨#[c]⟩ W
  simp only [str_data, pre_one, trim_one] at C
  have HS : ∀ x : Bs, (⟨x.toArray⟩ : ByteArray) = str x := fun _ => rfl
  simp only [HS] at C
  clear HS
  generalize decide (l.head? = some c) = bb at *
  generalize tkP c l = r at *
  go_enter Tryd.func30, Tryd.ntmps30
  go_wp2_with fail
  refine (C _).mono ?_
  rintro e w1 ⟨rfl, rfl⟩
  go_wp2_with fail
  go_ret
  exact ⟨rfl, rfl⟩
theorem tw_stop (l : Bs) (k : Nat) (hk : k ≤ l.length) (ha : ∀ j, j < k → (h : j < l.length) → dgB l[j] = true) (hn : ∀ h : k < l.length, dgB l[k] = false) : l.takeWhile dgB = l.take k ∧ l.dropWhile dgB = l.drop k := by
  induction l generalizing k with
  | nil => simp
  | cons c r ih =>
    cases k with
    | zero =>
      have := hn (by simp)
      simp at this
      simp [List.takeWhile_cons, List.dropWhile_cons, this]
    | succ k =>
      have h0 : dgB c = true := ha 0 (by omega) (by simp)
      have := ih k (by simpa using hk) (fun j hj h => ha (j + 1) (by omega) (by simpa using h)) (fun h => hn (by simpa using h))
      simp [List.takeWhile_cons, List.dropWhile_cons, h0, this]
theorem dg_yes {c : UInt8} (h1 : 48 ≤ c.toNat) (h2 : c.toNat ≤ 57) : dgB c = true := by simp [dgB, h1, h2]
theorem dg_no {c : UInt8} (h : ¬ (48 ≤ c.toNat ∧ c.toNat ≤ 57)) : dgB c = false := by
  unfold dgB
  rw [Bool.eq_false_iff]
  simp
  omega
set_option maxRecDepth 100000 in
set_option maxHeartbeats 4000000 in
theorem digits_any {w : World} {b : Nat} {l : Bs} (h : w.cell? ⟨b, 0, none⟩ = some (.string (str l))) (hf : w.frozen? ⟨b, 0, none⟩ = false) (hl : l.length ≤ 10000000) :
    Calls Tryd.prog 60 #[.pointer (some ⟨b, 0, none⟩)] w fun e w' => e = .returned (.string (str (l.takeWhile dgB))) ∧ w' = w.setCell ⟨b, 0, none⟩ (.string (str (l.dropWhile dgB))) := by
  have hsz := str_size l
  go_enter Tryd.func60, Tryd.ntmps60
  go_wp2_with fail
  go_loop [3] (fun i => ∃ k : Nat, k ≤ l.length ∧ i = .int .i64 k ∧ ∀ j, j < k → (h : j < l.length) → dgB l[j] = true) (fun i => l.length - (intOf i).toNat)
  case atStart => exact ⟨0, by omega, rfl, fun j h => by omega⟩
  case round =>
    obtain ⟨k, hk, rfl, ha⟩ := hrel
    have HA := hid ha
    clear ha
    have fin : (∀ h : k < l.length, dgB l[k] = false) → l.takeWhile dgB = l.take k ∧ l.dropWhile dgB = l.drop k := fun hn => tw_stop l k hk HA.out hn
    have HF := hid fin
    clear fin
    have HT := hid (take_str l k)
    have HD := hid (drop_str l k)
    by_cases hlt : k < l.length
    · have hlt' : (k : Int) < l.length := by omega
      have hlt2 : k < (str l).size := by omega
      have hg : ((str l)[k]'hlt2) = l[k] := rfl
      have HG : Hid (∀ j, j < k + 1 → (h : j < l.length) → dgB l[k] = true → dgB l[j] = true) := fun j hj h hd => by
        by_cases e : j = k
        · subst e; exact hd
        · exact HA.out j (by omega) h
      have HF2 := hid (fun hd : dgB l[k] = false => HF.out (fun _ => hd))
      clear HF
      generalize l[k] = ch at *
      by_cases h1 : 48 ≤ ch.toNat
      · by_cases h2 : ch.toNat ≤ 57
        · have d1 : (48 : Int) ≤ ch.toNat := by omega
          have d2 : (ch.toNat : Int) ≤ 57 := by omega
          go_wp2_with fail
          go_round
          case rel => exact ⟨k + 1, by omega, by go_num, fun j hj h => HG.out j hj h (dg_yes h1 h2)⟩
          case measure => simp [intOf]; omega
        · have d1 : (48 : Int) ≤ ch.toNat := by omega
          have d2 : ¬ (ch.toNat : Int) ≤ 57 := by omega
          obtain ⟨e1, e2⟩ := HF2.out (dg_no (by omega))
          have HE1 := hid e1
          have HE2 := hid e2
          clear e1 e2
          go_wp2_with fail
          go_ret
          rw [HE1.out, HE2.out]
          exact ⟨by rw [← HT.out]; rfl, by rw [← HD.out]; rfl⟩
      · have d1 : ¬ (48 : Int) ≤ ch.toNat := by omega
        obtain ⟨e1, e2⟩ := HF2.out (dg_no (by omega))
        have HE1 := hid e1
        have HE2 := hid e2
        clear e1 e2
        go_wp2_with fail
        go_ret
        rw [HE1.out, HE2.out]
        exact ⟨by rw [← HT.out]; rfl, by rw [← HD.out]; rfl⟩
    · have hlt' : ¬ (k : Int) < l.length := by omega
      obtain ⟨e1, e2⟩ := HF.out (fun h => absurd h hlt)
      have HE1 := hid e1
      have HE2 := hid e2
      clear e1 e2
      go_wp2_with fail
      go_ret
      rw [HE1.out, HE2.out]
      exact ⟨by rw [← HT.out]; rfl, by rw [← HD.out]; rfl⟩
end Go.Proofs.YtiiegjdclpkeeaaDoor
