/- What this text holds: names, their parts, and which may be: the program's answers. -/
import Derived.Test.YtkmggkcipgfhdaaDoorQ2
namespace Go.Proofs.YtkmggkcipgfhdaaDoor
open Go.RowKit
set_option linter.unusedVariables false
set_option linter.unusedSimpArgs false

set_option maxRecDepth 100000 in
theorem no_any (e : Int) (w : World) : Calls Tryd.prog 15 #[.int .i64 e] w fun x w' => x = .returned (.int .i64 e) ∧ w' = w := by
  go_enter Tryd.func15, Tryd.ntmps15
  go_wp2
  go_ret
  exact ⟨rfl, rfl⟩

theorem app_str (s t : ByteArray) : s ++ t = str (s.data.toList ++ t.data.toList) := by
  apply ByteArray.ext
  apply Array.toList_inj.1
  rw [ByteArray.data_append, Array.toList_append]
  rfl
def underB (name above : List UInt8) : Bool := Go.Lib.hasPrefix name (above ++ [47])
theorem prefix_any (s p : ByteArray) (w : World) : Calls Tryd.prog 54 #[.string s, .string p] w fun e w' => e = .returned (.bool (Go.Lib.hasPrefix s.data.toList p.data.toList)) ∧ w' = w := Tryd.strings_HasPrefix s p w

set_option maxRecDepth 100000 in
set_option maxHeartbeats 400000 in
theorem under_any (name above : ByteArray) (w : World) (ha : above.size ≤ 100000) : Calls Tryd.prog 29 #[.string name, .string above] w fun e w' => e = .returned (.bool (underB name.data.toList above.data.toList)) ∧ w' = w := by
  have HU : Hid (underB name.data.toList above.data.toList = Go.Lib.hasPrefix name.data.toList (above ++ (⟨#[47]⟩ : ByteArray)).data.toList) := by
    rw [app_str, str_data]; rfl
  go_enter Tryd.func29, Tryd.ntmps29
  go_wp2_with fail
  refine (prefix_any name _ w).mono ?_
  rintro e w ⟨rfl, rfl⟩
  go_wp2_with fail
  go_ret
  rw [HU.out]
  exact ⟨rfl, rfl⟩

/-- A name when another one, or what is above it, is renamed. -/
def movedP (name from_ dst : List UInt8) : List UInt8 × Bool := if name = from_ ∨ underB name from_ = true then (dst ++ name.drop from_.length, true) else (name, false)
theorem under_len {name above : List UInt8} (h : underB name above = true) : above.length + 1 ≤ name.length := by
  unfold underB Go.Lib.hasPrefix at h
  have := (List.isPrefixOf_iff_prefix.1 h).length_le
  simpa using this
theorem drop_str (s : ByteArray) (n : Nat) : s.extract n s.size = str (s.data.toList.drop n) := by
  rw [Go.Lib.extract_eq, Go.Lib.size_eq, List.take_of_length_le (by simp)]
  rfl
theorem eq_str {s t : ByteArray} (h : s.data.toList = t.data.toList) : s = t := ByteArray.ext (Array.toList_inj.1 h)

set_option maxRecDepth 100000 in
set_option maxHeartbeats 400000 in
theorem moved_any (name from_ dst : ByteArray) (w : World) (h1 : name.size ≤ 100000) (h2 : from_.size ≤ 100000) (h3 : dst.size ≤ 100000) :
    Calls Tryd.prog 16 #[.string name, .string from_, .string dst] w fun e w' => e = .returned (.tuple #[.string (str (movedP name.data.toList from_.data.toList dst.data.toList).1), .bool (movedP name.data.toList from_.data.toList dst.data.toList).2]) ∧ w' = w := by
  by_cases he : name = from_
  · subst he
    have HP : Hid (movedP name.data.toList name.data.toList dst.data.toList = (dst.data.toList, true)) := by
      unfold Hid movedP
      rw [if_pos (.inl rfl)]
      simp
    go_enter Tryd.func16, Tryd.ntmps16
    go_wp2_with fail
    go_ret2
    rw [HP.out, str_of]
    exact ⟨rfl, rfl⟩
  · have hq : (name.toList == from_.toList) = false := by
      rw [beq_eq_false_iff_ne, Go.Lib.toList_data, Go.Lib.toList_data]
      exact fun e => he (eq_str e)
    have hl : ¬ name.data.toList = from_.data.toList := fun e => he (eq_str e)
    rcases Bool.eq_false_or_eq_true (underB name.data.toList from_.data.toList) with hu | hu
    · have hlen := under_len hu
      rw [← Go.Lib.size_eq, ← Go.Lib.size_eq] at hlen
      have HP : Hid (movedP name.data.toList from_.data.toList dst.data.toList = ((dst ++ name.extract from_.size name.size).data.toList, true)) := by
        unfold Hid movedP
        rw [if_pos (.inr hu), app_str, str_data, drop_str, str_data, Go.Lib.size_eq from_]
      have HU := hid hu
      have hle : (from_.size : Int) ≤ name.size := by omega
      clear hu he hl
      go_enter Tryd.func16, Tryd.ntmps16
      go_wp2_with fail
      refine (under_any name from_ w h2).mono ?_
      rw [HU.out]
      rintro e w ⟨rfl, rfl⟩
      go_wp2_with fail
      go_ret2
      rw [HP.out, str_of]
      exact ⟨rfl, rfl⟩
    · have HP : Hid (movedP name.data.toList from_.data.toList dst.data.toList = (name.data.toList, false)) := by
        unfold Hid movedP
        rw [if_neg]
        rintro (h | h)
        · exact hl h
        · rw [hu] at h; cases h
      have HU := hid hu
      clear hu he hl
      go_enter Tryd.func16, Tryd.ntmps16
      go_wp2_with fail
      refine (under_any name from_ w h2).mono ?_
      rw [HU.out]
      rintro e w ⟨rfl, rfl⟩
      go_wp2_with fail
      go_ret2
      rw [HP.out, str_of]
      exact ⟨rfl, rfl⟩

/-- Cells of strings. -/
def sc (l : List (List UInt8)) : List Value := l.map fun p => .string (str p)
theorem sc_length (l : List (List UInt8)) : (sc l).length = l.length := by simp [sc]
set_option maxRecDepth 100000 in
set_option maxHeartbeats 400000 in
theorem parts_any (s : ByteArray) {w : World} (h : Env w) (hs : s.size ≤ 100000) :
    Calls Tryd.prog 18 #[.string s] w fun e w' => e = .returned (.slice (some ⟨w.heap.size, 0, none⟩) (parts s.data.toList).length (parts s.data.toList).length) ∧ w' = w.alloc (.cells (sc (parts s.data.toList)).toArray 9) := by
  obtain ⟨m, hm⟩ := h.num
  have hc := Tryd.strings_Split s ⟨#[47]⟩ m w (by omega) hm (by decide)
  have e1 : Go.Lib.countB s ⟨#[47]⟩ = s.data.toList.count 47 := Go.Lib.count_one 47 s.data.toList
  have e2 : (Go.Lib.splitB ⟨#[47]⟩ 0 (Go.Lib.countB s ⟨#[47]⟩) s).map Value.string = sc (parts s.data.toList) := by
    have := Go.Lib.splitB_data ⟨#[47]⟩ 0 (Go.Lib.countB s ⟨#[47]⟩) s
    rw [show (⟨#[47]⟩ : ByteArray).data.toList = [47] from rfl, split_parts _ _ e1.symm] at this
    rw [← this, sc, List.map_map]
    apply List.map_congr_left
    intro x _
    simp [str_of]
  rw [e2, e1, ← parts_len] at hc
  have HC := hid hc
  clear hc e1 e2 hm h
  go_enter Tryd.func18, Tryd.ntmps18
  go_wp2_with fail
  refine HC.out.mono ?_
  rintro e w1 ⟨rfl, rfl⟩
  go_wp2_with fail
  go_ret
  exact ⟨rfl, rfl⟩

def bigN (n : Nat) : Nat := if 97 ≤ n ∧ n ≤ 122 then n - 32 else n
theorem ret_u8 {a b : Int} (h : a = b) : Ending.returned (.int .u8 a) = .returned (.int .u8 b) := by rw [h]
set_option maxRecDepth 100000 in
set_option maxHeartbeats 400000 in
theorem big_any (n : Nat) (hn : n < 256) (w : World) : Calls Tryd.prog 69 #[.int .u8 n] w fun e w' => e = .returned (.int .u8 (bigN n)) ∧ w' = w := by
  by_cases h1 : (97 : Int) ≤ n
  · by_cases h2 : (n : Int) ≤ 122
    · have HB : Hid ((bigN n : Int) = n - 97 + 65) := by unfold Hid bigN; rw [if_pos ⟨by omega, by omega⟩]; omega
      go_enter Tryd.func69, Tryd.ntmps69
      go_wp2_with fail
      go_ret
      rw [HB.out]
      exact ⟨ret_u8 (by omega), rfl⟩
    · have HB : Hid ((bigN n : Int) = n) := by unfold Hid bigN; rw [if_neg (by omega)]
      go_enter Tryd.func69, Tryd.ntmps69
      go_wp2_with fail
      go_ret
      rw [HB.out]
      exact ⟨rfl, rfl⟩
  · have HB : Hid ((bigN n : Int) = n) := by unfold Hid bigN; rw [if_neg (by omega)]
    go_enter Tryd.func69, Tryd.ntmps69
    go_wp2_with fail
    go_ret
    rw [HB.out]
    exact ⟨rfl, rfl⟩

def inboxL : List Nat := [73, 78, 66, 79, 88]
def inboxB (l : List UInt8) : Bool := l.map (fun b => bigN b.toNat) == inboxL
theorem inbox_at (k : Nat) (hk : k < 5) (a : Int) : a = ((⟨#[73, 78, 66, 79, 88]⟩ : ByteArray)[k]'hk).toNat ↔ a = inboxL[k]'hk := by
  match k, hk with
  | 0, _ => rfl
  | 1, _ => rfl
  | 2, _ => rfl
  | 3, _ => rfl
  | 4, _ => rfl

set_option maxRecDepth 100000 in
set_option maxHeartbeats 1000000 in
theorem inbox_any (s : ByteArray) (w : World) (hs : s.size ≤ 100000) : Calls Tryd.prog 51 #[.string s] w fun e w' => e = .returned (.bool (inboxB s.data.toList)) ∧ Below w.heap.size w w' := by
  by_cases h5 : s.size = 5
  · have h5' : ((s.size : Int) != 5) = false := by rw [h5]; rfl
    have hz : ((5 : Int) != 5) = false := rfl
    have H5 := hid h5
    go_enter Tryd.func51, Tryd.ntmps51
    clear h5
    go_wp2_with fail
    go_loopw [9] (fun i wr => ∃ k : Nat, k ≤ 5 ∧ i = .int .i64 k ∧ (∀ j (hj : j < 5) (hj2 : j < s.size), j < k → bigN s[j].toNat = inboxL[j]) ∧ Below w.heap.size w wr) (fun i _ => 5 - (intOf i).toNat)
    case atStart => exact ⟨0, by omega, rfl, fun j _ _ h => by omega, Below.refl _ _⟩
    case round =>
      obtain ⟨k, hk, rfl, hall, hb⟩ := hrel
      have HA := hid hall
      have HB := hid hb
      clear hall hb
      by_cases hlt : k < 5
      · have hks : k < s.size := by rw [H5.out]; exact hlt
        have hks' : (k : Int) < s.size := by omega
        have hlt' : (k : Int) < 5 := by omega
        have hq := big_any s[k].toNat s[k].toNat_lt
        have HQ := hid hq
        clear hq
        go_wp2_with fail
        go_quiet ((go_at_call 69; exact Calls.quiet_of_same (HQ.out _)))
        by_cases hc : (bigN s[k].toNat : Int) = ((⟨#[73, 78, 66, 79, 88]⟩ : ByteArray)[k]'hlt).toNat
        · have hc2 : ((bigN s[k].toNat : Int) != ((⟨#[73, 78, 66, 79, 88]⟩ : ByteArray)[k]'hlt).toNat) = false := by simpa using hc
          have HC : Hid (bigN s[k].toNat = inboxL[k]'hlt) := by
            have := (inbox_at k hlt _).1 hc
            unfold Hid
            omega
          clear hc
          go_wp2_with fail
          go_roundw
          case rel =>
            refine ⟨k + 1, by omega, by go_num, fun j hj hj2 hjk => ?_, below_drewN HB.out _⟩
            by_cases e : j < k
            · exact HA.out j hj hj2 e
            · obtain rfl : j = k := by omega
              exact HC.out
          case measure => simp [intOf]; omega
        · have hc2 : ((bigN s[k].toNat : Int) != ((⟨#[73, 78, 66, 79, 88]⟩ : ByteArray)[k]'hlt).toNat) = true := by simpa using hc
          have HC : Hid (inboxB s.data.toList = false) := by
            unfold Hid inboxB
            rw [beq_eq_false_iff_ne]
            intro e
            apply hc
            rw [inbox_at k hlt]
            have e2 : (s.data.toList.map fun b => bigN b.toNat)[k]? = inboxL[k]? := by rw [e]
            rw [List.getElem?_map, List.getElem?_eq_getElem (by rw [← Go.Lib.size_eq]; exact hks), List.getElem?_eq_getElem (show k < inboxL.length from hlt), Option.map_some, Option.some.injEq] at e2
            have e3 : bigN s[k].toNat = inboxL[k]'hlt := e2
            rw [e3]
          clear hc
          go_wp2_with fail
          go_ret
          rw [HC.out]
          exact ⟨rfl, below_drewN HB.out _⟩
      · have hns : ¬ (k : Int) < s.size := by rw [H5.out]; omega
        go_wp2_with fail
        go_ret
        refine ⟨?_, HB.out⟩
        have : inboxB s.data.toList = true := by
          unfold inboxB
          rw [beq_iff_eq]
          apply List.ext_getElem
          · rw [List.length_map, ← Go.Lib.size_eq, H5.out]; rfl
          · intro j h1 h2
            have hj : j < 5 := h2
            rw [List.getElem_map]
            exact HA.out j hj (by rw [H5.out]; exact hj) (by omega)
        rw [this]
        rfl
  · have h5' : ((s.size : Int) != 5) = true := by simp; omega
    have HB : Hid (inboxB s.data.toList = false) := by
      unfold Hid inboxB
      rw [beq_eq_false_iff_ne]
      intro e
      have := congrArg List.length e
      rw [List.length_map, ← Go.Lib.size_eq] at this
      exact h5 this
    clear h5
    go_enter Tryd.func51, Tryd.ntmps51
    go_wp2_with fail
    go_ret
    rw [HB.out]
    exact ⟨rfl, Below.refl _ _⟩

/-- A name with its first part as it is kept. -/
def normP (l : List UInt8) : List UInt8 := if inboxB (cutc 47 l).1 = true then [73, 78, 66, 79, 88] ++ l.drop (cutc 47 l).1.length else l
theorem Env.drewN {w : World} (h : Env w) (n : Nat) : Env (w.drewN n) := ⟨h.tabs, h.num⟩
set_option maxRecDepth 100000 in
set_option maxHeartbeats 1000000 in
theorem norm_any (s : ByteArray) {w : World} (h : Env w) (hs : s.size ≤ 100000) : Calls Tryd.prog 21 #[.string s] w fun e w' => e = .returned (.string (str (normP s.data.toList))) ∧ Below w.heap.size w w' := by
  have HC := hid (cut_any s 47 h (by omega))
  have hl := (cut_len 47 s.data.toList).1
  rw [← Go.Lib.size_eq] at hl
  clear h
  go_enter Tryd.func21, Tryd.ntmps21
  go_wp2_with fail
  refine HC.out.mono ?_
  rintro e w1 ⟨rfl, q, hw⟩
  have HB : Hid (Below w.heap.size w w1) := by rw [hw]; exact below_drewN (Below.refl _ _) q
  clear hw
  go_wp2_with fail
  refine (inbox_any (str (cutc 47 s.data.toList).1) w1 (by rw [str_size]; omega)).mono ?_
  rw [str_data]
  rintro e w2 ⟨rfl, hb2⟩
  have HB2 : Hid (Below w.heap.size w w2) := HB.out.trans (hb2.mono HB.out.size)
  clear hb2
  have hsz := str_size (cutc 47 s.data.toList).1
  have hle : ((cutc 47 s.data.toList).1.length : Int) ≤ s.size := by omega
  have hle2 : ((str (cutc 47 s.data.toList).1).size : Int) ≤ s.size := by omega
  have HSz := hid hsz
  clear hsz
  rcases Bool.eq_false_or_eq_true (inboxB (cutc 47 s.data.toList).1) with hi | hi
  · have HN : Hid (str (normP s.data.toList) = (⟨#[73, 78, 66, 79, 88]⟩ : ByteArray) ++ s.extract (str (cutc 47 s.data.toList).1).size s.size) := by
      unfold Hid normP
      rw [if_pos hi, app_str, drop_str, str_data, HSz.out]
    rw [hi]
    clear hi
    go_wp2_with fail
    go_ret
    rw [HN.out]
    exact ⟨rfl, HB2.out⟩
  · have HN : Hid (str (normP s.data.toList) = s) := by
      unfold Hid normP
      rw [if_neg (by rw [hi]; simp), str_of]
    rw [hi]
    clear hi
    go_wp2_with fail
    go_ret
    rw [HN.out]
    exact ⟨rfl, HB2.out⟩

def mayR (r : Nat) : Bool := decide (32 ≤ r) && decide (r ≠ 127) && decide (r ≠ 42) && decide (r ≠ 37)
set_option maxRecDepth 100000 in
set_option maxHeartbeats 1000000 in
theorem may_any (r : Nat) (w : World) : Calls Tryd.prog 49 #[.int .i32 r] w fun e w' => e = .returned (.bool (mayR r)) ∧ w' = w := by
  have h0 : ((r : Int) != 127) = decide (r ≠ 127) := by rw [Bool.eq_iff_iff]; simp; omega
  have h1 : ((r : Int) != 42) = decide (r ≠ 42) := by rw [Bool.eq_iff_iff]; simp; omega
  have h2 : ((r : Int) != 37) = decide (r ≠ 37) := by rw [Bool.eq_iff_iff]; simp; omega
  have H : Hid (mayR r = (decide ((32 : Int) ≤ r) && ((r : Int) != 127) && ((r : Int) != 42) && ((r : Int) != 37))) := by
    rw [Hid, h0, h1, h2, mayR]
    congr 3
    rw [Bool.eq_iff_iff]
    simp
    omega
  rw [H.out]
  clear h0 h1 h2 H
  by_cases a : (32 : Int) ≤ r
  · rcases Bool.eq_false_or_eq_true ((r : Int) != 127) with b | b
    · rcases Bool.eq_false_or_eq_true ((r : Int) != 42) with c | c
      · rcases Bool.eq_false_or_eq_true ((r : Int) != 37) with d | d
        all_goals
          rw [b, c, d, decide_eq_true a]
          go_enter Tryd.func49, Tryd.ntmps49
          go_wp2_with fail
          go_ret
          exact ⟨rfl, rfl⟩
      · rw [b, c, decide_eq_true a]
        go_enter Tryd.func49, Tryd.ntmps49
        go_wp2_with fail
        go_ret
        exact ⟨rfl, rfl⟩
    · rw [b, decide_eq_true a]
      go_enter Tryd.func49, Tryd.ntmps49
      go_wp2_with fail
      go_ret
      exact ⟨rfl, rfl⟩
  · rw [decide_eq_false a]
    go_enter Tryd.func49, Tryd.ntmps49
    go_wp2_with fail
    go_ret
    exact ⟨rfl, rfl⟩
end Go.Proofs.YtkmggkcipgfhdaaDoor
