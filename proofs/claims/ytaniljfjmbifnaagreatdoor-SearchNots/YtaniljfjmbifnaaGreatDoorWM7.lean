/- What this text holds: bytes of a kind are taken; an encoded word. -/
import Derived.Test.YtaniljfjmbifnaaGreatDoorWM6
namespace Go.Proofs.YtaniljfjmbifnaaGreatDoor.W
open Go.RowKit
set_option linter.unusedVariables false
set_option linter.unusedSimpArgs false

theorem u8_ne {c : UInt8} {n : Nat} (hn : n < 256) (h : c ≠ UInt8.ofNat n) : ((c.toNat : Int) == (n : Int)) = false := by
  have : c.toNat ≠ n := fun e => h (by apply UInt8.toNat_inj.1; rw [UInt8.toNat_ofNat']; omega)
  rw [beq_eq_false_iff_ne]
  omega
theorem u8_eq {c : UInt8} {n : Nat} (hn : n < 256) (h : c = UInt8.ofNat n) : ((c.toNat : Int) == (n : Int)) = true := by
  subst h
  rw [UInt8.toNat_ofNat', beq_iff_eq]
  omega
set_option maxRecDepth 100000 in
set_option maxHeartbeats 1000000 in
theorem blank_any (c : UInt8) (w : World) : Calls Tryz.prog 71 #[.int .u8 c.toNat] w fun e w' => e = .returned (.bool (blank c)) ∧ w' = w := by
  have H8 := c.toNat_lt
  have HB : Hid (blank c = (decide ((c.toNat : Int) = 32) || decide ((c.toNat : Int) = 9) || decide ((c.toNat : Int) = 13) || decide ((c.toNat : Int) = 10))) := by
    have e : ∀ n : Nat, n < 256 → (c == UInt8.ofNat n) = decide ((c.toNat : Int) = n) := by
      intro n hn
      rw [Bool.eq_iff_iff, beq_iff_eq, decide_eq_true_eq]
      constructor
      · rintro rfl; rw [UInt8.toNat_ofNat']; omega
      · intro h; apply UInt8.toNat_inj.1; rw [UInt8.toNat_ofNat']; omega
    have e1 := e 32 (by omega)
    have e2 := e 9 (by omega)
    have e3 := e 13 (by omega)
    have e4 := e 10 (by omega)
    unfold Hid blank
    exact congr (congrArg or (congr (congrArg or (congr (congrArg or e1) e2)) e3)) e4
  generalize blank c = r at HB ⊢
  generalize c.toNat = x at *
  by_cases h1 : x = 32
  · subst h1
    have e : r = true := by rw [HB.out]; rfl
    subst e
    go_enter Tryz.func71, Tryz.ntmps71
    go_wp2_with fail
    go_ret
    exact ⟨rfl, rfl⟩
  · by_cases h2 : x = 9
    · subst h2
      have e : r = true := by rw [HB.out]; rfl
      subst e
      go_enter Tryz.func71, Tryz.ntmps71
      go_wp2_with fail
      go_ret
      exact ⟨rfl, rfl⟩
    · by_cases h3 : x = 13
      · subst h3
        have e : r = true := by rw [HB.out]; rfl
        subst e
        go_enter Tryz.func71, Tryz.ntmps71
        go_wp2_with fail
        go_ret
        exact ⟨rfl, rfl⟩
      · by_cases h4 : x = 10
        · subst h4
          have e : r = true := by rw [HB.out]; rfl
          subst e
          go_enter Tryz.func71, Tryz.ntmps71
          go_wp2_with fail
          go_ret
          exact ⟨rfl, rfl⟩
        · have n1 : ((x : Int) == 32) = false := by simp; omega
          have n2 : ((x : Int) == 9) = false := by simp; omega
          have n3 : ((x : Int) == 13) = false := by simp; omega
          have n4 : ((x : Int) == 10) = false := by simp; omega
          have e : r = false := by rw [HB.out]; simp; omega
          subst e
          go_enter Tryz.func71, Tryz.ntmps71
          go_wp2_with fail
          go_ret
          exact ⟨rfl, rfl⟩

set_option maxRecDepth 100000 in
set_option maxHeartbeats 1000000 in
theorem plain_any (c : UInt8) (w : World) : Calls Tryz.prog 108 #[.int .u8 c.toNat] w fun e w' => e = .returned (.bool (plain c)) ∧ w' = w := by
  have H8 := c.toNat_lt
  have HB : Hid (plain c = (decide ((32 : Int) < c.toNat) && decide ((c.toNat : Int) ≤ 126) && !decide ((c.toNat : Int) = 63))) := by
    have e : (c != 63) = !decide ((c.toNat : Int) = 63) := by
      rw [bne, Bool.not_inj_iff, Bool.eq_iff_iff, beq_iff_eq, decide_eq_true_eq]
      constructor
      · rintro rfl; rfl
      · intro h; apply UInt8.toNat_inj.1; show c.toNat = 63; omega
    unfold Hid plain
    rw [e]
    congr 2
    · rw [decide_eq_decide]; omega
    · rw [decide_eq_decide]; omega
  generalize plain c = r at HB ⊢
  generalize c.toNat = x at *
  by_cases h1 : 32 < x
  · have h1' : (32 : Int) < x := by omega
    by_cases h2 : x ≤ 126
    · have h2' : (x : Int) ≤ 126 := by omega
      by_cases h3 : x = 63
      · subst h3
        have e : r = false := by rw [HB.out]; rfl
        subst e
        go_enter Tryz.func108, Tryz.ntmps108
        go_wp2_with fail
        go_ret
        exact ⟨rfl, rfl⟩
      · have n3 : ((x : Int) == 63) = false := by simp; omega
        have n4 : ((x : Int) != 63) = true := by simp; omega
        have e : r = true := by rw [HB.out]; simp; omega
        subst e
        go_enter Tryz.func108, Tryz.ntmps108
        go_wp2_with fail
        go_ret
        exact ⟨rfl, rfl⟩
    · have h2' : ¬ (x : Int) ≤ 126 := by omega
      have e : r = false := by rw [HB.out]; simp; omega
      subst e
      go_enter Tryz.func108, Tryz.ntmps108
      go_wp2_with fail
      go_ret
      exact ⟨rfl, rfl⟩
  · have h1' : ¬ (32 : Int) < x := by omega
    have e : r = false := by rw [HB.out]; simp; omega
    subst e
    go_enter Tryz.func108, Tryz.ntmps108
    go_wp2_with fail
    go_ret
    exact ⟨rfl, rfl⟩

/-- What is ahead: a copy of what is left, in a block of its own. -/
structure Ah (w0 w : World) (l : Bs) : Prop where
  at_ : w.heap[w0.heap.size]? = some (.cells #[.string (str l)] 91 (0, 0))
  below : Below w0.heap.size w0 w
theorem Ah.left {w0 w : World} {l : Bs} (h : Ah w0 w l) : w.cell? ⟨w0.heap.size, 0, none⟩ = some (.string (str l)) ∧ w.frozen? ⟨w0.heap.size, 0, none⟩ = false := ⟨cell_of_one h.at_, free_of_one h.at_⟩
theorem Ah.set {w0 w : World} {l : Bs} (h : Ah w0 w l) (l' : Bs) : Ah w0 (w.setCell ⟨w0.heap.size, 0, none⟩ (.string (str l'))) l' := ⟨one_setCell h.at_, h.below.setCell (Nat.le_refl _) _⟩
theorem Ah.later {w0 w w' : World} {l : Bs} (h : Ah w0 w l) (hb : Below w.heap.size w w') : Ah w0 w' l :=
  ⟨by rw [hb.block _ (lt_of_some h.at_)]; exact h.at_, h.below.trans (hb.mono h.below.size)⟩
theorem Ah.new (w : World) (l : Bs) : Ah w (w.alloc (.cells #[.string (str l)] 91)) l := ⟨heap_alloc_new _ _, (Below.refl _ _).alloc (Nat.le_refl _) _⟩
theorem Ah.yes {w0 w : World} {l : Bs} (h : Ah w0 w l) (p : Bs) (hl : l.length ≤ 1000000) (hp : pre p l = true) :
    Calls Tryz.prog 107 #[.pointer (some ⟨w0.heap.size, 0, none⟩), .string (str p)] w fun e w' => e = .returned (.bool true) ∧ Ah w0 w' (l.drop p.length) := by
  refine (takes_yes h.left.1 h.left.2 hl hp).mono ?_
  rintro e w' ⟨rfl, rfl⟩
  exact ⟨rfl, h.set _⟩
theorem Ah.first {w0 w : World} {l : Bs} (h : Ah w0 w l) (n : Nat) (hl : l.length ≤ 1000000) (hn : n ≤ 1000000) :
    Calls Tryz.prog 74 #[.pointer (some ⟨w0.heap.size, 0, none⟩), .int .i64 n] w fun e w' => e = .returned (.string (str (l.take n))) ∧ Ah w0 w' (l.drop n) := by
  refine (first_any n h.left.1 h.left.2 hl hn).mono ?_
  rintro e w' ⟨rfl, rfl⟩
  exact ⟨rfl, h.set _⟩

theorem while_at (p : UInt8 → Bool) : ∀ (l : Bs) (k : Nat), k ≤ l.length → (∀ j c, j < k → l[j]? = some c → p c = true) → (∀ c, l[k]? = some c → p c = false) → l.takeWhile p = l.take k ∧ l.dropWhile p = l.drop k
  | [], k, hk, h1, h2 => by simp
  | a :: l, 0, hk, h1, h2 => by
    have := h2 a rfl
    simp [this]
  | a :: l, k + 1, hk, h1, h2 => by
    have h0 := h1 0 a (by omega) rfl
    have ih := while_at p l k (by simp at hk; omega) (fun j c hj hc => h1 (j + 1) c (by omega) (by simpa using hc)) (fun c hc => h2 c (by simpa using hc))
    simp [h0, ih.1, ih.2]

set_option maxRecDepth 100000 in
set_option maxHeartbeats 1000000 in
theorem run_blank {w : World} {b : Nat} {l : Bs} (h : w.cell? ⟨b, 0, none⟩ = some (.string (str l))) (hf : w.frozen? ⟨b, 0, none⟩ = false) (hl : l.length ≤ 1000000) :
    Calls Tryz.prog 70 #[.pointer (some ⟨b, 0, none⟩), .func (.func 71) #[] #[]] w fun e w' => e = .returned (.string (str (l.takeWhile blank))) ∧ w' = w.setCell ⟨b, 0, none⟩ (.string (str (l.dropWhile blank))) := by
  have hsz := str_size l
  go_enter Tryz.func70, Tryz.ntmps70
  go_wp2_with fail
  go_loop [5] (fun i => ∃ k : Nat, k ≤ l.length ∧ i = .int .i64 k ∧ ∀ j c, j < k → l[j]? = some c → blank c = true) (fun i => l.length - (intOf i).toNat)
  case atStart => exact ⟨0, by omega, rfl, fun j c hj => by omega⟩
  case round =>
    obtain ⟨k, hk, rfl, hall⟩ := hrel
    have HA := hid hall
    clear hall
    by_cases hlt : k < l.length
    · have hlt' : (k : Int) < l.length := by omega
      have hlts : k < (str l).size := by omega
      have g : ((str l)[k]'hlts) = l[k] := rfl
      have C := blank_any l[k] w
      rcases Bool.eq_false_or_eq_true (blank l[k]) with hb | hb
      · rw [hb] at C
        have HN : Hid (∀ j c, j < k + 1 → l[j]? = some c → blank c = true) := by
          intro j c hj hc
          by_cases hjk : j = k
          · subst hjk
            rw [List.getElem?_eq_getElem hlt] at hc
            cases hc
            exact hb
          · exact HA.out j c (by omega) hc
        clear hb
        go_wp2_with fail
        refine C.mono ?_
        clear C
        rintro e w2 ⟨rfl, rfl⟩
        go_wp2_with fail
        go_round
        case rel => exact ⟨k + 1, by omega, by go_num, HN.out⟩
        case measure => simp [intOf]; omega
      · rw [hb] at C
        have HW := hid (while_at blank l k hk HA.out (fun c hc => by
          rw [List.getElem?_eq_getElem hlt] at hc
          cases hc
          exact hb))
        clear hb
        go_wp2_with fail
        refine C.mono ?_
        clear C
        rintro e w2 ⟨rfl, rfl⟩
        go_wp2_with fail
        refine (first_any k h hf hl (by omega)).mono ?_
        rintro e w2 ⟨rfl, rfl⟩
        go_wp2_with fail
        go_ret
        rw [HW.out.1, HW.out.2]
        exact ⟨rfl, rfl⟩
    · have hlt' : ¬ (k : Int) < l.length := by omega
      have HW := hid (while_at blank l k hk HA.out (fun c hc => by rw [List.getElem?_eq_none (by omega)] at hc; cases hc))
      go_wp2_with fail
      refine (first_any k h hf hl (by omega)).mono ?_
      rintro e w2 ⟨rfl, rfl⟩
      go_wp2_with fail
      go_ret
      rw [HW.out.1, HW.out.2]
      exact ⟨rfl, rfl⟩

set_option maxRecDepth 100000 in
set_option maxHeartbeats 1000000 in
theorem run_plain {w : World} {b : Nat} {l : Bs} (h : w.cell? ⟨b, 0, none⟩ = some (.string (str l))) (hf : w.frozen? ⟨b, 0, none⟩ = false) (hl : l.length ≤ 1000000) :
    Calls Tryz.prog 70 #[.pointer (some ⟨b, 0, none⟩), .func (.func 108) #[] #[]] w fun e w' => e = .returned (.string (str (l.takeWhile plain))) ∧ w' = w.setCell ⟨b, 0, none⟩ (.string (str (l.dropWhile plain))) := by
  have hsz := str_size l
  go_enter Tryz.func70, Tryz.ntmps70
  go_wp2_with fail
  go_loop [5] (fun i => ∃ k : Nat, k ≤ l.length ∧ i = .int .i64 k ∧ ∀ j c, j < k → l[j]? = some c → plain c = true) (fun i => l.length - (intOf i).toNat)
  case atStart => exact ⟨0, by omega, rfl, fun j c hj => by omega⟩
  case round =>
    obtain ⟨k, hk, rfl, hall⟩ := hrel
    have HA := hid hall
    clear hall
    by_cases hlt : k < l.length
    · have hlt' : (k : Int) < l.length := by omega
      have hlts : k < (str l).size := by omega
      have g : ((str l)[k]'hlts) = l[k] := rfl
      have C := plain_any l[k] w
      rcases Bool.eq_false_or_eq_true (plain l[k]) with hb | hb
      · rw [hb] at C
        have HN : Hid (∀ j c, j < k + 1 → l[j]? = some c → plain c = true) := by
          intro j c hj hc
          by_cases hjk : j = k
          · subst hjk
            rw [List.getElem?_eq_getElem hlt] at hc
            cases hc
            exact hb
          · exact HA.out j c (by omega) hc
        clear hb
        go_wp2_with fail
        refine C.mono ?_
        clear C
        rintro e w2 ⟨rfl, rfl⟩
        go_wp2_with fail
        go_round
        case rel => exact ⟨k + 1, by omega, by go_num, HN.out⟩
        case measure => simp [intOf]; omega
      · rw [hb] at C
        have HW := hid (while_at plain l k hk HA.out (fun c hc => by
          rw [List.getElem?_eq_getElem hlt] at hc
          cases hc
          exact hb))
        clear hb
        go_wp2_with fail
        refine C.mono ?_
        clear C
        rintro e w2 ⟨rfl, rfl⟩
        go_wp2_with fail
        refine (first_any k h hf hl (by omega)).mono ?_
        rintro e w2 ⟨rfl, rfl⟩
        go_wp2_with fail
        go_ret
        rw [HW.out.1, HW.out.2]
        exact ⟨rfl, rfl⟩
    · have hlt' : ¬ (k : Int) < l.length := by omega
      have HW := hid (while_at plain l k hk HA.out (fun c hc => by rw [List.getElem?_eq_none (by omega)] at hc; cases hc))
      go_wp2_with fail
      refine (first_any k h hf hl (by omega)).mono ?_
      rintro e w2 ⟨rfl, rfl⟩
      go_wp2_with fail
      go_ret
      rw [HW.out.1, HW.out.2]
      exact ⟨rfl, rfl⟩
theorem Ah.run {w0 w : World} {l : Bs} (h : Ah w0 w l) (hl : l.length ≤ 1000000) :
    Calls Tryz.prog 70 #[.pointer (some ⟨w0.heap.size, 0, none⟩), .func (.func 108) #[] #[]] w fun e w' => e = .returned (.string (str (l.takeWhile plain))) ∧ Ah w0 w' (l.dropWhile plain) := by
  refine (run_plain h.left.1 h.left.2 hl).mono ?_
  rintro e w' ⟨rfl, rfl⟩
  exact ⟨rfl, h.set _⟩
theorem RAt.run {w : World} {B b : Nat} {l d : Bs} (h : RAt w B b l d) (hl : l.length ≤ 1000000) :
    Calls Tryz.prog 70 #[.pointer (some ⟨b, 0, none⟩), .func (.func 71) #[] #[]] w fun e w' => e = .returned (.string (str (l.takeWhile blank))) ∧ RAt w' B b (l.dropWhile blank) d ∧ Below B w w' := by
  refine (run_blank h.left.1 h.left.2 hl).mono ?_
  rintro e w' ⟨rfl, rfl⟩
  exact ⟨rfl, h.set _, (Below.refl _ _).setCell h.base _⟩

set_option maxRecDepth 100000 in
set_option maxHeartbeats 1000000 in
theorem way_no {w0 w : World} {l : Bs} (h : Ah w0 w l) (hp : pre [63] l = false) :
    Calls Tryz.prog 109 #[.pointer (some ⟨w0.heap.size, 0, none⟩)] w fun e w' => e = .returned (.tuple #[.string ⟨#[]⟩, .bool false]) ∧ w' = w := by
  have C := takes_no h.left.1 hp
  go_enter Tryz.func109, Tryz.ntmps109
  go_wp2_with fail
  refine C.mono ?_
  clear C
  rintro e w2 ⟨rfl, rfl⟩
  go_wp2_with fail
  go_ret2
  exact ⟨rfl, rfl⟩

set_option maxRecDepth 100000 in
set_option maxHeartbeats 1000000 in
theorem way_any {w0 w : World} {l l2 : Bs} (h : Ah w0 w l) (hl : l.length ≤ 1000000) (hc : cut [63] l = some l2) :
    Calls Tryz.prog 109 #[.pointer (some ⟨w0.heap.size, 0, none⟩)] w fun e w' => e = .returned (.tuple #[.string (str (low (l2.take 1))), .bool (cut [63] (l2.drop 1)).isSome]) ∧ Ah w0 w' ((cut [63] (l2.drop 1)).getD (l2.drop 1)) := by
  have hp : pre [63] l = true := by
    unfold cut at hc
    split at hc
    · assumption
    · cases hc
  have h2 : l.drop 1 = l2 := by
    unfold cut at hc
    rw [if_pos hp] at hc
    simpa using hc
  have hll := cut_len hc
  have C := h.yes [63] hl hp
  rw [show l.drop ([63] : Bs).length = l2 from h2] at C
  clear hc hp h2
  go_enter Tryz.func109, Tryz.ntmps109
  go_wp2_with fail
  refine C.mono ?_
  clear C
  rintro e w2 ⟨rfl, h2⟩
  have H2 := hid h2
  clear h2
  go_wp2_with fail
  refine (H2.out.first 1 (by omega) (by omega)).mono ?_
  rintro e w3 ⟨rfl, h3⟩
  have H3 := hid h3
  clear h3
  go_wp2_with fail
  refine (lower_any (l2.take 1) w3 (by simp; omega)).mono ?_
  rintro e w4 ⟨rfl, hb4⟩
  have H4 := hid (H3.out.later hb4)
  clear hb4
  rcases Bool.eq_false_or_eq_true (pre [63] (l2.drop 1)) with hp | hp
  · have e1 : cut [63] (l2.drop 1) = some ((l2.drop 1).drop ([63] : Bs).length) := by unfold cut; rw [if_pos hp]
    have C := H4.out.yes [63] (by simp; omega) hp
    have HE := hid e1
    clear hp e1
    go_wp2_with fail
    refine C.mono ?_
    clear C
    rintro e w5 ⟨rfl, h5⟩
    have H5 := hid h5
    clear h5
    go_wp2_with fail
    go_ret2
    rw [HE.out]
    exact ⟨rfl, H5.out⟩
  · have e1 : cut [63] (l2.drop 1) = none := by unfold cut; rw [if_neg (by rw [hp]; simp)]
    have C := takes_no H4.out.left.1 hp
    have HE := hid e1
    clear hp e1
    go_wp2_with fail
    refine C.mono ?_
    clear C
    rintro e w5 ⟨rfl, rfl⟩
    go_wp2_with fail
    go_ret2
    rw [HE.out]
    exact ⟨rfl, H4.out⟩
end Go.Proofs.YtaniljfjmbifnaaGreatDoor.W
