/- What this text holds: which flags are kept, and how, in plain words and as the program tells it. -/
import Derived.Test.YtaniljfjmbifnaaGreatDoorHX
import Derived.Test.YtaniljfjmbifnaaGreatDoorWX
import Derived.Lib.IndexLaws
namespace Go.Proofs.YtaniljfjmbifnaaGreatDoor.H
open Go.RowKit
set_option linter.unusedVariables false
set_option linter.unusedSimpArgs false

def setF : Bs := [40, 41, 123, 125, 37, 42, 34, 92, 91, 93, 60, 62]
def letF (c : UInt8) : Bool := decide (33 ≤ c.toNat) && decide (c.toNat ≤ 126) && !(setF.contains c)
def digF (c : UInt8) : Bool := decide (48 ≤ c.toNat) && decide (c.toNat ≤ 57)
theorem index_neg (l : Bs) (c : UInt8) : decide (Go.Lib.indexByte l c < 0) = !(l.contains c) := by
  have hg := Go.Lib.indexByte_ge l c
  by_cases h : Go.Lib.indexByte l c < 0
  · have hn := Go.Lib.indexByte_none (show Go.Lib.indexByte l c = -1 by omega)
    have : l.contains c = false := by
      rw [Bool.eq_false_iff]
      intro hc
      rw [List.contains_iff_mem] at hc
      obtain ⟨k, hk⟩ := List.mem_iff_getElem?.1 hc
      exact hn k hk
    rw [this, decide_eq_true h]
    rfl
  · obtain ⟨o, ho⟩ : ∃ o : Nat, Go.Lib.indexByte l c = o := ⟨(Go.Lib.indexByte l c).toNat, by omega⟩
    have hs := (Go.Lib.indexByte_some ho).1
    have : l.contains c = true := by
      rw [List.contains_iff_mem]
      exact List.mem_of_getElem? hs
    rw [this, decide_eq_false h]
    rfl
set_option maxRecDepth 100000 in
theorem letter_any (c : UInt8) (w : World) : Calls Tryz.prog 133 #[.int .u8 c.toNat] w fun e w' => e = .returned (.bool (letF c)) ∧ w' = w := by
  have C := Tryz.strings_IndexByte ⟨#[40, 41, 123, 125, 37, 42, 34, 92, 91, 93, 60, 62]⟩ c.toNat w
  have hc : (c.toNat : Int).toNat.toUInt8 = c := by simp
  rw [hc] at C
  have hx := index_neg setF c
  have C : Calls Tryz.prog 147 _ w fun e w' => e = .returned (.int .i64 (Go.Lib.indexByte setF c)) ∧ w' = w := C
  by_cases h1 : 33 ≤ c.toNat
  · have h1' : (33 : Int) ≤ c.toNat := by omega
    by_cases h2 : c.toNat ≤ 126
    · have h2' : (c.toNat : Int) ≤ 126 := by omega
      have hl : letF c = decide (Go.Lib.indexByte setF c < 0) := by unfold letF; rw [hx, decide_eq_true h1, decide_eq_true h2]; rfl
      rw [hl]
      clear hx hl
      generalize Go.Lib.indexByte setF c = n at C ⊢
      go_enter Tryz.func133, Tryz.ntmps133
      go_wp2_with fail
      refine C.mono ?_
      rintro e w2 ⟨rfl, rfl⟩
      go_wp2_with fail
      go_ret
      exact ⟨rfl, rfl⟩
    · have h2' : ¬ (c.toNat : Int) ≤ 126 := by omega
      have hl : letF c = false := by unfold letF; rw [decide_eq_false h2]; simp
      rw [hl]
      go_enter Tryz.func133, Tryz.ntmps133
      go_wp2_with fail
      go_ret
      exact ⟨rfl, rfl⟩
  · have h1' : ¬ (33 : Int) ≤ c.toNat := by omega
    have hl : letF c = false := by unfold letF; rw [decide_eq_false h1]; simp
    rw [hl]
    go_enter Tryz.func133, Tryz.ntmps133
    go_wp2_with fail
    go_ret
    exact ⟨rfl, rfl⟩
def keyB (f : Bs) : Bool := decide (1 ≤ f.length) && decide (f.length ≤ 30) && !(low f == [110, 105, 108]) && f.all letF && !(f.all digF)
def sysP (f : Bs) : Option Bs :=
  if f = [92, 97, 110, 115, 119, 101, 114, 101, 100] then some [92, 65, 110, 115, 119, 101, 114, 101, 100]
  else if f = [92, 100, 101, 108, 101, 116, 101, 100] then some [92, 68, 101, 108, 101, 116, 101, 100]
  else if f = [92, 100, 114, 97, 102, 116] then some [92, 68, 114, 97, 102, 116]
  else if f = [92, 102, 108, 97, 103, 103, 101, 100] then some [92, 70, 108, 97, 103, 103, 101, 100]
  else if f = [92, 115, 101, 101, 110] then some [92, 83, 101, 101, 110]
  else none
def keptP (f : Bs) : Option Bs := match sysP (low f) with
  | some g => some g
  | none => if keyB f then some f else none
theorem digits_some (f : Bs) (k : Nat) (h : k ≤ f.length) : (f.take k).countP digF ≤ k := by
  have := List.countP_le_length (p := digF) (l := f.take k)
  rw [List.length_take] at this
  omega
theorem count_step (f : Bs) (k : Nat) (h : k < f.length) : (f.take (k + 1)).countP digF = (f.take k).countP digF + if digF f[k] then 1 else 0 := by
  rw [List.take_succ_eq_append_getElem h, List.countP_append]
  simp [List.countP_cons]
theorem dig_all_iff (f : Bs) : (f.countP digF = f.length) ↔ f.all digF = true := by
  rw [List.countP_eq_length, List.all_eq_true]
set_option maxRecDepth 100000 in
set_option maxHeartbeats 1000000 in
theorem keyword_any (f : Bs) (w : World) (hl : f.length ≤ 10000000) : Calls Tryz.prog 88 #[.string (str f)] w fun e w' => e = .returned (.bool (keyB f)) ∧ Below w.heap.size w w' := by
  have hsz := str_size f
  by_cases h1 : 1 ≤ f.length
  · have h1' : ¬ (f.length : Int) < 1 := by omega
    by_cases h2 : f.length ≤ 30
    · have h2' : ¬ (30 : Int) < f.length := by omega
      have C := lower_any f w hl
      by_cases h3 : low f = [110, 105, 108]
      · have g1 : ((str (low f)).toList == ([110, 105, 108] : Bs)) = true := by rw [toL, h3]; rfl
        have HR : Hid (keyB f = false) := by unfold Hid keyB; rw [h3]; simp
        clear h3
        go_enter Tryz.func88, Tryz.ntmps88
        go_wp2_with fail
        refine C.mono ?_
        rintro e w2 ⟨rfl, b2⟩
        have B2 := hid b2
        clear b2
        go_wp2_with fail
        go_ret
        rw [HR.out]
        exact ⟨rfl, B2.out⟩
      · have g1 : ((str (low f)).toList == ([110, 105, 108] : Bs)) = false := by rw [toL, beq_eq_false_iff_ne]; exact h3
        have HK : Hid (keyB f = (f.all letF && !(f.all digF))) := by
          unfold Hid keyB
          rw [decide_eq_true h1, decide_eq_true h2, show (low f == [110, 105, 108]) = false from beq_eq_false_iff_ne.2 h3]
          simp
        clear h3
        go_enter Tryz.func88, Tryz.ntmps88
        go_wp2_with fail
        refine C.mono ?_
        rintro e w2 ⟨rfl, b2⟩
        have B2 := hid b2
        clear b2
        go_wp2_with fail
        go_loop [3, 4, 20] (fun d i q => ∃ k : Nat, k ≤ f.length ∧ q = .int .i64 k ∧ d = .int .i64 ((f.take k).countP digF : Nat) ∧ ∀ j (hj : j < f.length), j < k → letF f[j] = true) (fun _ _ q => f.length - (intOf q).toNat)
        case atStart => exact ⟨0, by omega, rfl, rfl, fun j _ hj => by omega⟩
        case round =>
          obtain ⟨k, hk, rfl, rfl, hall⟩ := hrel
          have HA := hid hall
          have hds := digits_some f k hk
          clear hall
          by_cases hlt : k < f.length
          · have hlt' : (k : Int) < f.length := by omega
            have hlts : k < (str f).size := by omega
            obtain ⟨c, hc⟩ : ∃ c, f[k] = c := ⟨_, rfl⟩
            have g : ((str f)[k]'hlts) = c := hc
            have C2 := letter_any c w2
            have hlc : letF f[k] = letF c := by rw [hc]
            have hnx : (f.take (k + 1)).countP digF = (f.take k).countP digF + if digF c then 1 else 0 := by subst hc; exact count_step f k hlt
            obtain ⟨d, hd⟩ : ∃ d, (f.take k).countP digF = d := ⟨_, rfl⟩
            rw [hd] at hnx hds ⊢
            clear hd hc
            rcases hb : letF c with _ | _
            · rw [hb] at C2 hlc
              have HR : Hid (keyB f = false) := by
                rw [Hid, HK.out, show f.all letF = false from by
                  rw [Bool.eq_false_iff]
                  intro h
                  have := List.all_eq_true.1 h f[k] (List.getElem_mem hlt)
                  rw [hlc] at this
                  cases this]
                rfl
              clear hb hlc hnx
              go_wp2_with fail
              refine C2.mono ?_
              rintro e w3 ⟨rfl, rfl⟩
              go_wp2_with fail
              go_ret
              rw [HR.out]
              exact ⟨rfl, B2.out⟩
            · rw [hb] at C2 hlc
              have HN : Hid (∀ j (hj : j < f.length), j < k + 1 → letF f[j] = true) := by
                intro j hj hjk
                by_cases hjk2 : j = k
                · subst hjk2; exact hlc
                · exact HA.out j hj (by omega)
              clear hb hlc
              by_cases hd1 : 48 ≤ c.toNat
              · have hd1' : (48 : Int) ≤ c.toNat := by omega
                by_cases hd2 : c.toNat ≤ 57
                · have hd2' : (c.toNat : Int) ≤ 57 := by omega
                  have HC : Hid ((f.take (k + 1)).countP digF = d + 1) := by rw [Hid, hnx]; unfold digF; rw [decide_eq_true hd1, decide_eq_true hd2]; rfl
                  clear hnx
                  go_wp2_with fail
                  refine C2.mono ?_
                  rintro e w3 ⟨rfl, rfl⟩
                  go_wp2_with fail
                  go_round
                  case rel => exact ⟨k + 1, by omega, by go_num, by rw [HC.out]; go_num, HN.out⟩
                  case measure => simp [intOf]; omega
                · have hd2' : ¬ (c.toNat : Int) ≤ 57 := by omega
                  have HC : Hid ((f.take (k + 1)).countP digF = d) := by rw [Hid, hnx]; unfold digF; rw [decide_eq_false hd2]; simp
                  clear hnx
                  go_wp2_with fail
                  refine C2.mono ?_
                  rintro e w3 ⟨rfl, rfl⟩
                  go_wp2_with fail
                  go_round
                  case rel => exact ⟨k + 1, by omega, by go_num, by rw [HC.out], HN.out⟩
                  case measure => simp [intOf]; omega
              · have hd1' : ¬ (48 : Int) ≤ c.toNat := by omega
                have HC : Hid ((f.take (k + 1)).countP digF = d) := by rw [Hid, hnx]; unfold digF; rw [decide_eq_false hd1]; simp
                clear hnx
                go_wp2_with fail
                refine C2.mono ?_
                rintro e w3 ⟨rfl, rfl⟩
                go_wp2_with fail
                go_round
                case rel => exact ⟨k + 1, by omega, by go_num, by rw [HC.out], HN.out⟩
                case measure => simp [intOf]; omega
          · have hlt' : ¬ (k : Int) < f.length := by omega
            obtain rfl : k = f.length := by omega
            have HR : Hid (keyB f = decide (f.countP digF < f.length)) := by
              rw [Hid, HK.out, show f.all letF = true from List.all_eq_true.2 (fun c hc => by
                obtain ⟨j, hj, rfl⟩ := List.mem_iff_getElem.1 hc
                exact HA.out j hj hj)]
              have hle := List.countP_le_length (p := digF) (l := f)
              rcases hq : f.all digF with _ | _
              · have : ¬ f.countP digF = f.length := fun h => by rw [(dig_all_iff f).1 h] at hq; cases hq
                rw [decide_eq_true (by omega)]
                rfl
              · have := (dig_all_iff f).2 hq
                rw [decide_eq_false (by omega)]
                rfl
            rw [List.take_length] at hds ⊢
            go_wp2_with fail
            go_ret
            rw [HR.out]
            exact ⟨rfl, B2.out⟩
    · have h2' : (30 : Int) < f.length := by omega
      have HR : Hid (keyB f = false) := by unfold Hid keyB; rw [decide_eq_false h2]; simp
      go_enter Tryz.func88, Tryz.ntmps88
      go_wp2_with fail
      go_ret
      rw [HR.out]
      exact ⟨rfl, Below.refl _ _⟩
  · have h1' : (f.length : Int) < 1 := by omega
    have HR : Hid (keyB f = false) := by unfold Hid keyB; rw [decide_eq_false h1]; simp
    go_enter Tryz.func88, Tryz.ntmps88
    go_wp2_with fail
    go_ret
    rw [HR.out]
    exact ⟨rfl, Below.refl _ _⟩
def keptV (f : Bs) : Value := match keptP f with
  | some g => .tuple #[.string (str g), .bool true]
  | none => .tuple #[.string (str f), .bool false]
set_option maxRecDepth 100000 in
set_option maxHeartbeats 1000000 in
theorem kept_any (f : Bs) (w : World) (hl : f.length ≤ 10000000) : Calls Tryz.prog 58 #[.string (str f)] w fun e w' => e = .returned (keptV f) ∧ Below w.heap.size w w' := by
  have C := lower_any f w hl
  by_cases h0 : low f = [92, 97, 110, 115, 119, 101, 114, 101, 100]
  · have HR : Hid (keptV f = .tuple #[.string (str [92, 65, 110, 115, 119, 101, 114, 101, 100]), .bool true]) := by
      unfold Hid keptV keptP sysP
      rw [h0]
      rfl
    have g0 : ((str (low f)).toList == ([92, 97, 110, 115, 119, 101, 114, 101, 100] : Bs)) = true := by rw [toL, h0]; rfl
    clear h0
    go_enter Tryz.func58, Tryz.ntmps58
    go_wp2_with fail
    refine C.mono ?_
    rintro e w2 ⟨rfl, b2⟩
    have B2 := hid b2
    clear b2
    go_wp2_with fail
    go_ret2
    rw [HR.out]
    exact ⟨rfl, B2.out⟩
  by_cases h1 : low f = [92, 100, 101, 108, 101, 116, 101, 100]
  · have HR : Hid (keptV f = .tuple #[.string (str [92, 68, 101, 108, 101, 116, 101, 100]), .bool true]) := by
      unfold Hid keptV keptP sysP
      rw [h1]
      rfl
    have g0 : ((str (low f)).toList == ([92, 97, 110, 115, 119, 101, 114, 101, 100] : Bs)) = false := by rw [toL, beq_eq_false_iff_ne]; exact h0
    have g1 : ((str (low f)).toList == ([92, 100, 101, 108, 101, 116, 101, 100] : Bs)) = true := by rw [toL, h1]; rfl
    clear h0 h1
    go_enter Tryz.func58, Tryz.ntmps58
    go_wp2_with fail
    refine C.mono ?_
    rintro e w2 ⟨rfl, b2⟩
    have B2 := hid b2
    clear b2
    go_wp2_with fail
    go_ret2
    rw [HR.out]
    exact ⟨rfl, B2.out⟩
  by_cases h2 : low f = [92, 100, 114, 97, 102, 116]
  · have HR : Hid (keptV f = .tuple #[.string (str [92, 68, 114, 97, 102, 116]), .bool true]) := by
      unfold Hid keptV keptP sysP
      rw [h2]
      rfl
    have g0 : ((str (low f)).toList == ([92, 97, 110, 115, 119, 101, 114, 101, 100] : Bs)) = false := by rw [toL, beq_eq_false_iff_ne]; exact h0
    have g1 : ((str (low f)).toList == ([92, 100, 101, 108, 101, 116, 101, 100] : Bs)) = false := by rw [toL, beq_eq_false_iff_ne]; exact h1
    have g2 : ((str (low f)).toList == ([92, 100, 114, 97, 102, 116] : Bs)) = true := by rw [toL, h2]; rfl
    clear h0 h1 h2
    go_enter Tryz.func58, Tryz.ntmps58
    go_wp2_with fail
    refine C.mono ?_
    rintro e w2 ⟨rfl, b2⟩
    have B2 := hid b2
    clear b2
    go_wp2_with fail
    go_ret2
    rw [HR.out]
    exact ⟨rfl, B2.out⟩
  by_cases h3 : low f = [92, 102, 108, 97, 103, 103, 101, 100]
  · have HR : Hid (keptV f = .tuple #[.string (str [92, 70, 108, 97, 103, 103, 101, 100]), .bool true]) := by
      unfold Hid keptV keptP sysP
      rw [h3]
      rfl
    have g0 : ((str (low f)).toList == ([92, 97, 110, 115, 119, 101, 114, 101, 100] : Bs)) = false := by rw [toL, beq_eq_false_iff_ne]; exact h0
    have g1 : ((str (low f)).toList == ([92, 100, 101, 108, 101, 116, 101, 100] : Bs)) = false := by rw [toL, beq_eq_false_iff_ne]; exact h1
    have g2 : ((str (low f)).toList == ([92, 100, 114, 97, 102, 116] : Bs)) = false := by rw [toL, beq_eq_false_iff_ne]; exact h2
    have g3 : ((str (low f)).toList == ([92, 102, 108, 97, 103, 103, 101, 100] : Bs)) = true := by rw [toL, h3]; rfl
    clear h0 h1 h2 h3
    go_enter Tryz.func58, Tryz.ntmps58
    go_wp2_with fail
    refine C.mono ?_
    rintro e w2 ⟨rfl, b2⟩
    have B2 := hid b2
    clear b2
    go_wp2_with fail
    go_ret2
    rw [HR.out]
    exact ⟨rfl, B2.out⟩
  by_cases h4 : low f = [92, 115, 101, 101, 110]
  · have HR : Hid (keptV f = .tuple #[.string (str [92, 83, 101, 101, 110]), .bool true]) := by
      unfold Hid keptV keptP sysP
      rw [h4]
      rfl
    have g0 : ((str (low f)).toList == ([92, 97, 110, 115, 119, 101, 114, 101, 100] : Bs)) = false := by rw [toL, beq_eq_false_iff_ne]; exact h0
    have g1 : ((str (low f)).toList == ([92, 100, 101, 108, 101, 116, 101, 100] : Bs)) = false := by rw [toL, beq_eq_false_iff_ne]; exact h1
    have g2 : ((str (low f)).toList == ([92, 100, 114, 97, 102, 116] : Bs)) = false := by rw [toL, beq_eq_false_iff_ne]; exact h2
    have g3 : ((str (low f)).toList == ([92, 102, 108, 97, 103, 103, 101, 100] : Bs)) = false := by rw [toL, beq_eq_false_iff_ne]; exact h3
    have g4 : ((str (low f)).toList == ([92, 115, 101, 101, 110] : Bs)) = true := by rw [toL, h4]; rfl
    clear h0 h1 h2 h3 h4
    go_enter Tryz.func58, Tryz.ntmps58
    go_wp2_with fail
    refine C.mono ?_
    rintro e w2 ⟨rfl, b2⟩
    have B2 := hid b2
    clear b2
    go_wp2_with fail
    go_ret2
    rw [HR.out]
    exact ⟨rfl, B2.out⟩
  have HK : Hid (keptV f = .tuple #[.string (str f), .bool (keyB f)]) := by
    unfold Hid keptV keptP sysP
    rw [if_neg h0, if_neg h1, if_neg h2, if_neg h3, if_neg h4]
    rcases keyB f with _ | _
    · rfl
    · rfl
  have g0 : ((str (low f)).toList == ([92, 97, 110, 115, 119, 101, 114, 101, 100] : Bs)) = false := by rw [toL, beq_eq_false_iff_ne]; exact h0
  have g1 : ((str (low f)).toList == ([92, 100, 101, 108, 101, 116, 101, 100] : Bs)) = false := by rw [toL, beq_eq_false_iff_ne]; exact h1
  have g2 : ((str (low f)).toList == ([92, 100, 114, 97, 102, 116] : Bs)) = false := by rw [toL, beq_eq_false_iff_ne]; exact h2
  have g3 : ((str (low f)).toList == ([92, 102, 108, 97, 103, 103, 101, 100] : Bs)) = false := by rw [toL, beq_eq_false_iff_ne]; exact h3
  have g4 : ((str (low f)).toList == ([92, 115, 101, 101, 110] : Bs)) = false := by rw [toL, beq_eq_false_iff_ne]; exact h4
  clear h0 h1 h2 h3 h4
  go_enter Tryz.func58, Tryz.ntmps58
  go_wp2_with fail
  refine C.mono ?_
  rintro e w2 ⟨rfl, b2⟩
  have B2 := hid b2
  have D := keyword_any f w2 hl
  clear b2
  go_wp2_with fail
  refine D.mono ?_
  rintro e w3 ⟨rfl, b3⟩
  have B3 := hid (B2.out.trans (b3.mono B2.out.size))
  clear b3
  go_wp2_with fail
  go_ret2
  rw [HK.out]
  exact ⟨rfl, B3.out⟩
end Go.Proofs.YtaniljfjmbifnaaGreatDoor.H
