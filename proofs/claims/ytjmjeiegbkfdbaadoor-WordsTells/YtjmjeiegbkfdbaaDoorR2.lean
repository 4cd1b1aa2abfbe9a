/- What this text holds: the document's quoted text, and the text of an encoded word. -/
import Derived.Test.YtjmjeiegbkfdbaaDoorR1
namespace Go.Proofs.YtjmjeiegbkfdbaaDoor
open Go.RowKit
set_option linter.unusedVariables false
set_option linter.unusedSimpArgs false

theorem exec_add3 {a : Act} {x y : Operand} {m n k : Int} {w : World} {d : Option Tmp} {ty : Nat} {pos : String} {af : Array Edge} {g : Option (Nat × Bool)} (hx : a.eval x = .int .i64 m) (hy : a.eval y = .int .i64 n) (hk : IntKind.i64.wrap (m + n) = k) :
    (execOp a.eval ⟨d, .binOp .add 3 x y 3, ty, pos, af, g⟩).run Tryd.prog w = .ok (.value (.int .i64 k)) w := by
  subst hk
  simp [execOp, hx, hy, eqGuard, binOp]
  rfl
theorem exec_mul3 {a : Act} {x y : Operand} {m n k : Int} {w : World} {d : Option Tmp} {ty : Nat} {pos : String} {af : Array Edge} {g : Option (Nat × Bool)} (hx : a.eval x = .int .i64 m) (hy : a.eval y = .int .i64 n) (hk : IntKind.i64.wrap (m * n) = k) :
    (execOp a.eval ⟨d, .binOp .mul 3 x y 3, ty, pos, af, g⟩).run Tryd.prog w = .ok (.value (.int .i64 k)) w := by
  subst hk
  simp [execOp, hx, hy, eqGuard, binOp]
  rfl
theorem exec_idx {a : Act} {x y : Operand} {s : Bs} {n : Nat} {c : UInt8} {w : World} {d : Option Tmp} {ty : Nat} {pos : String} {af : Array Edge} {g : Option (Nat × Bool)} (hx : a.eval x = .string (str s)) (hy : a.eval y = .int .i64 n) (hn : n < s.length) (hc : s[n] = c) :
    (execOp a.eval ⟨d, .index 9 x y, ty, pos, af, g⟩).run Tryd.prog w = .ok (.value (.int .u8 c.toNat)) w := by
  subst hc
  have hsz := str_size s
  simp only [execOp, hx, hy]
  refine exec_v ?_
  show (Instr.index 9 (.string (str s)) (.int .i64 n)).run Tryd.prog w = _
  rw [run_index_string w 9 (str s) .i64 n Tryd.underlying9, dif_pos ⟨by omega, by omega⟩]
  rfl
theorem exec_cv {a : Act} {x : Operand} {X v : Value} {t u : TypeId} {w : World} {d : Option Tmp} {ty : Nat} {pos : String} {af : Array Edge} {g : Option (Nat × Bool)} (hx : a.eval x = X) (h : (convert t u X).run Tryd.prog w = .ok v w) :
    (execOp a.eval ⟨d, .convert t u x, ty, pos, af, g⟩).run Tryd.prog w = .ok (.value v) w := by
  simp only [execOp, hx]
  exact exec_v h
theorem cv35 (n : Int) (k : Int) (w : World) (h : IntKind.u8.wrap n = k) : (convert 3 5 (.int .i64 n)).run Tryd.prog w = .ok (.int .u8 k) w := by
  subst h
  have u3 := Tryd.underlying3
  have u5 := Tryd.underlying5
  simp [go_sem, u3, u5, run_underlying u3, run_underlying u5, convert]
theorem slice44 (c : Int) (w : World) : (Instr.buildSlice 44 1 #[(0, .int .u8 c)]).run Tryd.prog w = .ok (.slice (some ⟨w.heap.size, 0, none⟩) 1 1) (w.alloc (.cells #[.int .u8 c] 5)) := by kernel_rfl
theorem exec_buildSlice {a : Act} {X : Value} {x : Operand} {w w' : World} {v : Value} {d : Option Tmp} {t n ty : Nat} {pos : String} {af : Array Edge} {g : Option (Nat × Bool)} (hx : a.eval x = X)
    (h : (Instr.buildSlice t n #[(0, X)]).run Tryd.prog w = .ok v w') : (execOp a.eval ⟨d, .buildSlice t n #[(0, x)], ty, pos, af, g⟩).run Tryd.prog w = .ok (.value v) w' := by
  simp only [execOp, List.map_toArray, List.map_cons, List.map_nil, hx]
  exact exec_v h
theorem conv_one (w : World) (c : UInt8) : (convert 44 9 (.slice (some ⟨w.heap.size, 0, none⟩) 1 1)).run Tryd.prog (w.alloc (.cells #[.int .u8 c.toNat] 5)) = .ok (.string (str [c])) (w.alloc (.cells #[.int .u8 c.toNat] 5)) := by
  have := run_convert_bytes_arg (P := Tryd.prog) (w.alloc (.cells #[.int .u8 c.toNat] 5)) 44 5 Tryd.underlying44 Tryd.underlying5 w.heap.size 0 1 1 [(c.toNat : Int)] (by simp) (fun i hi => by
    have : i = 0 := by omega
    subst this
    simp only [World.cell?, heap_alloc_new]
    rfl) 9 Tryd.underlying9
  rw [this]
  have e : strOfNums [(c.toNat : Int)] = str [c] := by simp [strOfNums, str]
  rw [e]

/-- The document's order of looks. -/
theorem stepU_esc {l : Bs} {b : UInt8} (h : coded (l.take 3) = some b) : stepU l = ([b], 3) := by
  have h13 : hex 13 = -1 := by decide +kernel
  have h10 : hex 10 = -1 := by decide +kernel
  match l, h with
  | [], h => simp [coded] at h
  | [a], h => simp [coded] at h
  | [a, x], h => simp [coded] at h
  | a :: x :: y :: r, h =>
    have hx : 0 ≤ hex x := by
      simp only [List.take_succ_cons, List.take_zero, coded] at h
      split at h
      · next hc => exact hc.2.1
      · cases h
    have n13 : x ≠ 13 := by rintro rfl; omega
    have n10 : x ≠ 10 := by rintro rfl; omega
    unfold stepU
    rw [if_neg (by simp [pre, n13]), if_neg (by simp [pre, n10])]
    unfold stepC
    rw [h]
theorem stepU_lf {r : Bs} : stepU (61 :: 10 :: r) = ([], 2) := by
  unfold stepU
  rw [if_neg (by simp [pre]), if_pos (by simp [pre])]
theorem stepU_crlf {r : Bs} : stepU (61 :: 13 :: 10 :: r) = ([], 3) := by
  unfold stepU
  rw [if_pos (by simp [pre])]
theorem stepU_else {l : Bs} (h : coded (l.take 3) = none) (h1 : pre [61, 13, 10] l = false) (h2 : pre [61, 10] l = false) : stepU l = (l.take 1, 1) := by
  unfold stepU
  rw [if_neg (by rw [h1]; simp), if_neg (by rw [h2]; simp)]
  unfold stepC
  rw [h]
theorem stepQ_esc {l : Bs} {b : UInt8} (h : coded (l.take 3) = some b) : stepQ l = ([b], 3) := by
  match l, h with
  | [], h => simp [coded] at h
  | a :: r, h =>
    have ha : a = 61 := by
      by_cases ha : a = 61
      · exact ha
      · rw [coded_one rfl ha] at h; cases h
    unfold stepQ
    rw [if_neg (by simp [pre, ha])]
    unfold stepC
    rw [h]
theorem stepQ_us {r : Bs} : stepQ (95 :: r) = ([32], 1) := by
  unfold stepQ
  rw [if_pos (by simp [pre])]
theorem stepQ_else {l : Bs} (h : coded (l.take 3) = none) (h1 : pre [95] l = false) : stepQ l = (l.take 1, 1) := by
  unfold stepQ
  rw [if_neg (by rw [h1]; simp)]
  unfold stepC
  rw [h]
theorem drop1 (s : Bs) (k : Nat) (h : k < s.length) : s.drop k = s[k] :: s.drop (k + 1) := List.drop_eq_getElem_cons h
theorem drop1v (s : Bs) (k : Nat) (h : k < s.length) (a : UInt8) (ha : s[k] = a) : s.drop k = a :: s.drop (k + 1) := by
  subst ha
  exact List.drop_eq_getElem_cons h
theorem drop2 (s : Bs) (k : Nat) (h : k + 1 < s.length) (a b : UInt8) (ha : s[k] = a) (hb : s[k + 1] = b) : s.drop k = a :: b :: s.drop (k + 2) := by
  subst ha
  subst hb
  rw [List.drop_eq_getElem_cons (by omega : k < s.length), List.drop_eq_getElem_cons h]
theorem drop3 (s : Bs) (k : Nat) (h : k + 2 < s.length) (a b c : UInt8) (ha : s[k] = a) (hb : s[k + 1] = b) (hc : s[k + 2] = c) : s.drop k = a :: b :: c :: s.drop (k + 3) := by
  rw [drop2 s k (by omega) a b ha hb]
  subst hc
  rw [List.drop_eq_getElem_cons h]
theorem pre3c {b c : UInt8} {r : Bs} (h : c ≠ 10) : pre [61, 13, 10] (61 :: b :: c :: r) = false := by simp [pre, h]
theorem pre3b {b : UInt8} {r : Bs} (h : b ≠ 13) : pre [61, 13, 10] (61 :: b :: r) = false := by simp [pre, h]
theorem pre3s {b : UInt8} : pre [61, 13, 10] [61, b] = false := by simp [pre]
theorem pre2b {b : UInt8} {r : Bs} (h : b ≠ 10) : pre [61, 10] (61 :: b :: r) = false := by simp [pre, h]
theorem cut1 (s : Bs) (k : Nat) (h : k < s.length) : (str s).extract k (k + 1) = str ((s.drop k).take 1) := by
  rw [mid_str, show k + 1 - k = 1 by omega]
theorem take_one (s : Bs) (k : Nat) (h : k < s.length) : ((s.drop k).take 1).length = 1 := by
  rw [List.length_take, List.length_drop]; omega
theorem u8_61 {c : UInt8} {n : Nat} (hn : n < 256) (h : c ≠ UInt8.ofNat n) : ((c.toNat : Int) == (n : Int)) = false := u8_ne hn h
/-- What is told of a coded byte. -/
theorem coded_parts (s : Bs) (k : Nat) (b : UInt8) (h : coded ((s.drop k).take 3) = some b) : ∃ h2 : k + 2 < s.length, ∃ m n : Nat, hex (s[k + 1]) = m ∧ hex (s[k + 2]) = n ∧ m < 16 ∧ n < 16 ∧ IntKind.u8.wrap (16 * (m : Int) + n) = b.toNat := by
  have hl := coded_len h
  rw [List.length_take, List.length_drop] at hl
  have h2 : k + 2 < s.length := by omega
  refine ⟨h2, ?_⟩
  rw [take3 s k h2] at h
  have r1 := hex_lt s[k + 1]
  have r2 := hex_lt s[k + 2]
  have hc : s[k] = 61 ∧ 0 ≤ hex s[k + 1] ∧ 0 ≤ hex s[k + 2] := by
    unfold coded at h
    simp only at h
    split at h
    · assumption
    · cases h
  rw [coded_eq hc.1, if_pos hc.2] at h
  refine ⟨(hex s[k + 1]).toNat, (hex s[k + 2]).toNat, by omega, by omega, by omega, by omega, ?_⟩
  have e := Option.some.inj h
  rw [← e, UInt8.toNat_ofNat', IntKind.wrap_u8]
  omega
theorem pre_hd {p c : UInt8} {q l : Bs} (h : c ≠ p) : pre (p :: q) (c :: l) = false := by
  unfold pre
  simp [h]

set_option maxRecDepth 100000 in
set_option maxHeartbeats 4000000 in
theorem runquote_any (s : Bs) (w : World) (hs : s.length ≤ 100000) : Calls Tryd.prog 16 #[.string (str s)] w fun e w' => e = .returned (.string (str (unq s))) ∧ Below w.heap.size w w' := by
  have hsz := str_size s
  go_enter Tryd.func16, Tryd.ntmps16
  go_wp2_with fail
  go_loopw [3, 4] (fun v i wr => ∃ (k : Nat) (d : Bs), k ≤ s.length ∧ i = .int .i64 k ∧ v = .string (str d) ∧ Below w.heap.size w wr ∧ d ++ run stepU (s.drop k) = run stepU s ∧ d.length ≤ k) (fun _ i _ => s.length - (intOf i).toNat)
  case atStart => exact ⟨0, [], by omega, rfl, rfl, Below.refl _ _, rfl, by simp⟩
  case round =>
    obtain ⟨k, d, hk, rfl, rfl, hb, hd, hdl⟩ := hrel
    have HB := hid hb
    have HD := hid hd
    have hds := str_size d
    clear hb hd
    by_cases hlt : k < s.length
    · have hlt' : (k : Int) < s.length := by omega
      have hlts : k < (str s).size := by omega
      have g0 : ((str s)[k]'hlts) = s[k] := rfl
      have hne : s.drop k ≠ [] := by rw [drop1 s k hlt]; exact List.cons_ne_nil _ _
      have HS : Hid (run stepU (s.drop k) = (stepU (s.drop k)).1 ++ run stepU ((s.drop k).drop (stepU (s.drop k)).2)) := unq_step _ hne
      have HN : Hid (∀ x j, stepU (s.drop k) = (x, j) → (d ++ x) ++ run stepU (s.drop (k + j)) = run stepU s) := by
        intro x j hj
        rw [← HD.out, HS.out, hj, List.drop_drop, List.append_assoc]
      clear HS hne
      have C := escape_any s k wr (by omega) hlt
      rcases hc : coded ((s.drop k).take 3) with _ | c
      · rw [hc] at C
        have HC := hid hc
        clear hc
        have hcut := cut1 s k hlt
        have hone := take_one s k hlt
        have hos := str_size ((s.drop k).take 1)
        have happ := app_str d ((s.drop k).take 1)
        have HAp := hid happ
        clear happ
        have hdl' : (d.length : Int) ≤ 100000 := by omega
        by_cases h61 : s[k] = 61
        · have n61 : ((s[k].toNat : Int) == 61) = true := by rw [h61]; rfl
          by_cases hk1 : k + 1 < s.length
          · have hk1' : (k : Int) + 1 < s.length := by omega
            have g1 : ((str s)[k + 1]'(by omega)) = s[k + 1] := rfl
            have HD2 := hid (drop2 s k hk1 61 _ h61 rfl)
            by_cases h10 : s[k + 1] = 10
            · have n10 : ((s[k + 1].toNat : Int) == 10) = true := by rw [h10]; rfl
              have HSt : Hid (stepU (s.drop k) = ([], 2)) := by rw [Hid, drop2 s k hk1 61 10 h61 h10]; exact stepU_lf
              clear h61 h10
              go_wp2_with fail
              refine C.mono ?_
              clear C
              rintro e w2 ⟨rfl, rfl⟩
              go_wp2_with fail
              go_roundw
              case rel => exact ⟨k + 2, d, by omega, by go_num, rfl, HB.out, by have := HN.out _ _ HSt.out; rwa [List.append_nil] at this, by omega⟩
              case measure => simp [intOf]; omega
            · have n10 : ((s[k + 1].toNat : Int) == 10) = false := u8_ne (n := 10) (by omega) h10
              by_cases hk2 : k + 2 < s.length
              · have hk2' : (k : Int) + 2 < s.length := by omega
                have g2 : ((str s)[k + 2]'(by omega)) = s[k + 2] := rfl
                have HD3 := hid (drop3 s k hk2 61 _ _ h61 rfl rfl)
                by_cases h13 : s[k + 1] = 13
                · have n13 : ((s[k + 1].toNat : Int) == 13) = true := by rw [h13]; rfl
                  by_cases h10b : s[k + 2] = 10
                  · have n10b : ((s[k + 2].toNat : Int) == 10) = true := by rw [h10b]; rfl
                    have HSt : Hid (stepU (s.drop k) = ([], 3)) := by rw [Hid, drop3 s k hk2 61 13 10 h61 h13 h10b]; exact stepU_crlf
                    clear h61 h10 h13 h10b
                    go_wp2_with fail
                    refine C.mono ?_
                    clear C
                    rintro e w2 ⟨rfl, rfl⟩
                    go_wp2_with fail
                    go_roundw
                    case rel => exact ⟨k + 3, d, by omega, by go_num, rfl, HB.out, by have := HN.out _ _ HSt.out; rwa [List.append_nil] at this, by omega⟩
                    case measure => simp [intOf]; omega
                  · have n10b : ((s[k + 2].toNat : Int) == 10) = false := u8_ne (n := 10) (by omega) h10b
                    have HSt : Hid (stepU (s.drop k) = ((s.drop k).take 1, 1)) := stepU_else HC.out (by rw [HD3.out]; exact pre3c h10b) (by rw [HD3.out]; exact pre2b h10)
                    clear h61 h10 h13 h10b
                    go_wp2_with fail
                    refine C.mono ?_
                    clear C
                    rintro e w2 ⟨rfl, rfl⟩
                    go_wp2_with fail
                    rw [HAp.out]
                    go_roundw
                    case rel => exact ⟨k + 1, d ++ (s.drop k).take 1, by omega, by go_num, rfl, HB.out, HN.out _ _ HSt.out, by rw [List.length_append, hone]; omega⟩
                    case measure => simp [intOf]; omega
                · have n13 : ((s[k + 1].toNat : Int) == 13) = false := u8_ne (n := 13) (by omega) h13
                  have HSt : Hid (stepU (s.drop k) = ((s.drop k).take 1, 1)) := stepU_else HC.out (by rw [HD2.out]; exact pre3b h13) (by rw [HD2.out]; exact pre2b h10)
                  clear h61 h10 h13
                  go_wp2_with fail
                  refine C.mono ?_
                  clear C
                  rintro e w2 ⟨rfl, rfl⟩
                  go_wp2_with fail
                  rw [HAp.out]
                  go_roundw
                  case rel => exact ⟨k + 1, d ++ (s.drop k).take 1, by omega, by go_num, rfl, HB.out, HN.out _ _ HSt.out, by rw [List.length_append, hone]; omega⟩
                  case measure => simp [intOf]; omega
              · have hk2' : ¬ (k : Int) + 2 < s.length := by omega
                have HSt : Hid (stepU (s.drop k) = ((s.drop k).take 1, 1)) := stepU_else HC.out (by
                  rw [HD2.out, List.drop_eq_nil_of_le (by omega)]; exact pre3s) (by rw [HD2.out]; exact pre2b h10)
                clear h61 h10
                go_wp2_with fail
                refine C.mono ?_
                clear C
                rintro e w2 ⟨rfl, rfl⟩
                go_wp2_with fail
                rw [HAp.out]
                go_roundw
                case rel => exact ⟨k + 1, d ++ (s.drop k).take 1, by omega, by go_num, rfl, HB.out, HN.out _ _ HSt.out, by rw [List.length_append, hone]; omega⟩
                case measure => simp [intOf]; omega
          · have hk1' : ¬ (k : Int) + 1 < s.length := by omega
            have hk2' : ¬ (k : Int) + 2 < s.length := by omega
            have HSt : Hid (stepU (s.drop k) = ((s.drop k).take 1, 1)) := stepU_else HC.out (by
              rw [drop1 s k hlt, List.drop_eq_nil_of_le (by omega)]; simp [pre]) (by rw [drop1 s k hlt, List.drop_eq_nil_of_le (by omega)]; simp [pre])
            clear h61
            go_wp2_with fail
            refine C.mono ?_
            clear C
            rintro e w2 ⟨rfl, rfl⟩
            go_wp2_with fail
            rw [HAp.out]
            go_roundw
            case rel => exact ⟨k + 1, d ++ (s.drop k).take 1, by omega, by go_num, rfl, HB.out, HN.out _ _ HSt.out, by rw [List.length_append, hone]; omega⟩
            case measure => simp [intOf]; omega
        · have n61 : ((s[k].toNat : Int) == 61) = false := u8_ne (n := 61) (by omega) h61
          have HSt : Hid (stepU (s.drop k) = ((s.drop k).take 1, 1)) := stepU_else HC.out (by rw [drop1 s k hlt]; exact pre_hd h61) (by rw [drop1 s k hlt]; exact pre_hd h61)
          clear h61
          go_wp2_with fail
          refine C.mono ?_
          clear C
          rintro e w2 ⟨rfl, rfl⟩
          go_wp2_with fail
          rw [HAp.out]
          go_roundw
          case rel => exact ⟨k + 1, d ++ (s.drop k).take 1, by omega, by go_num, rfl, HB.out, HN.out _ _ HSt.out, by rw [List.length_append, hone]; omega⟩
          case measure => simp [intOf]; omega
      · rw [hc] at C
        have HSt := hid (stepU_esc hc)
        obtain ⟨h2, m, n, hm, hn, hm16, hn16, hw5⟩ := coded_parts s k c hc
        clear hc
        have hw1 : IntKind.i64.wrap ((k : Int) + 1) = ((k + 1 : Nat) : Int) := by rw [IntKind.wrap_i64]; omega
        have hw2 : IntKind.i64.wrap ((k : Int) + 2) = ((k + 2 : Nat) : Int) := by rw [IntKind.wrap_i64]; omega
        have hw3 : IntKind.i64.wrap ((16 : Int) * m) = 16 * (m : Int) := by rw [IntKind.wrap_i64]; omega
        have hw4 : IntKind.i64.wrap (16 * (m : Int) + n) = 16 * (m : Int) + n := by rw [IntKind.wrap_i64]; omega
        have hsum : (str d).size + (str [c]).size ≤ 1000000 := by rw [str_size, str_size]; simp; omega
        have HAp := hid (app_str d [c])
        go_wp2_with fail
        refine C.mono ?_
        clear C
        rintro e w2 ⟨rfl, rfl⟩
        have hw5H := hid hw5
        go_wp2_with fail
        refine wp_region_held_drew (S := fun w' => True) (by kernel_rfl) trivial ?_
        intro hS
        refine anyH_take 0 ⟨some 14, .move (.tmp 3), _, _, _, none⟩ (.string (str d)) rfl rfl (by kernel_rfl) (by kernel_rfl) (by kernel_rfl) (fun _ _ _ h => h) (fun w hw => rfl) hS ?_
        simp only [Act.put, List.setIfInBounds_toArray, List.set_cons_zero, List.set_cons_succ]
        refine anyH_take 1 ⟨some 15, .move (.tmp 0), _, _, _, none⟩ (.string (str s)) rfl rfl (by kernel_rfl) (by kernel_rfl) (by kernel_rfl) (fun _ _ _ h => h) (fun w hw => rfl) hS ?_
        simp only [Act.put, List.setIfInBounds_toArray, List.set_cons_zero, List.set_cons_succ]
        refine anyH_take 2 ⟨some 16, .move (.tmp 4), _, _, _, none⟩ (.int .i64 k) rfl rfl (by kernel_rfl) (by kernel_rfl) (by kernel_rfl) (fun _ _ _ h => h) (fun w hw => rfl) hS ?_
        simp only [Act.put, List.setIfInBounds_toArray, List.set_cons_zero, List.set_cons_succ]
        refine anyH_take 3 ⟨some 17, .binOp .add 3 (.tmp 16) (.const (.int .i64 1)) 3, _, _, _, none⟩ (.int .i64 (k + 1 : Nat)) rfl rfl (by kernel_rfl) (by kernel_rfl) (by kernel_rfl) (fun _ _ _ h => h) (fun w hw => exec_add3 rfl rfl hw1) hS ?_
        simp only [Act.put, List.setIfInBounds_toArray, List.set_cons_zero, List.set_cons_succ]
        refine anyH_take 4 ⟨some 18, .index 9 (.tmp 15) (.tmp 17), _, _, _, none⟩ (.int .u8 (s[k + 1]).toNat) rfl rfl (by kernel_rfl) (by kernel_rfl) (by kernel_rfl) (fun _ _ _ h => h) (fun w hw => exec_idx rfl rfl (by omega) rfl) hS ?_
        simp only [Act.put, List.setIfInBounds_toArray, List.set_cons_zero, List.set_cons_succ]
        refine anyH_take 7 ⟨some 21, .move (.tmp 0), _, _, _, none⟩ (.string (str s)) rfl rfl (by kernel_rfl) (by kernel_rfl) (by kernel_rfl) (fun _ _ _ h => h) (fun w hw => rfl) hS ?_
        simp only [Act.put, List.setIfInBounds_toArray, List.set_cons_zero, List.set_cons_succ]
        refine anyH_take 8 ⟨some 22, .move (.tmp 4), _, _, _, none⟩ (.int .i64 k) rfl rfl (by kernel_rfl) (by kernel_rfl) (by kernel_rfl) (fun _ _ _ h => h) (fun w hw => rfl) hS ?_
        simp only [Act.put, List.setIfInBounds_toArray, List.set_cons_zero, List.set_cons_succ]
        refine anyH_take 9 ⟨some 23, .binOp .add 3 (.tmp 22) (.const (.int .i64 2)) 3, _, _, _, none⟩ (.int .i64 (k + 2 : Nat)) rfl rfl (by kernel_rfl) (by kernel_rfl) (by kernel_rfl) (fun _ _ _ h => h) (fun w hw => exec_add3 rfl rfl hw2) hS ?_
        simp only [Act.put, List.setIfInBounds_toArray, List.set_cons_zero, List.set_cons_succ]
        refine anyH_take 10 ⟨some 24, .index 9 (.tmp 21) (.tmp 23), _, _, _, none⟩ (.int .u8 (s[k + 2]).toNat) rfl rfl (by kernel_rfl) (by kernel_rfl) (by kernel_rfl) (fun _ _ _ h => h) (fun w hw => exec_idx rfl rfl (by omega) rfl) hS ?_
        simp only [Act.put, List.setIfInBounds_toArray, List.set_cons_zero, List.set_cons_succ]
        refine anyH_callW 5 ⟨some 19, .call { callee := .value (.func 35), args := #[.tmp 18], argTypes := #[5] }, _, _, _, none⟩ 35 #[.int .u8 (s[k + 1]).toNat] (by kernel_rfl) rfl rfl (by kernel_rfl) ?_
        refine (rhex_any s[k + 1] w2.drew).mono ?_
        rintro e w3 ⟨rfl, rfl⟩
        refine ⟨_, rfl, trivial, ?_⟩
        rw [hm]
        simp only [Act.put, List.setIfInBounds_toArray, List.set_cons_zero, List.set_cons_succ]
        refine anyH_take 6 ⟨some 20, .binOp .mul 3 (.const (.int .i64 16)) (.tmp 19) 3, _, _, _, none⟩ (.int .i64 (16 * (m : Int))) rfl rfl (by kernel_rfl) (by kernel_rfl) (by kernel_rfl) (fun _ _ _ h => h) (fun w hw => exec_mul3 rfl rfl hw3) trivial ?_
        simp only [Act.put, List.setIfInBounds_toArray, List.set_cons_zero, List.set_cons_succ]
        refine anyH_callW 11 ⟨some 25, .call { callee := .value (.func 35), args := #[.tmp 24], argTypes := #[5] }, _, _, _, none⟩ 35 #[.int .u8 (s[k + 2]).toNat] (by kernel_rfl) rfl rfl (by kernel_rfl) ?_
        refine (rhex_any s[k + 2] w2.drew).mono ?_
        rintro e w3 ⟨rfl, rfl⟩
        refine ⟨_, rfl, trivial, ?_⟩
        rw [hn]
        simp only [Act.put, List.setIfInBounds_toArray, List.set_cons_zero, List.set_cons_succ]
        refine anyH_take 12 ⟨some 26, .binOp .add 3 (.tmp 20) (.tmp 25) 3, _, _, _, none⟩ (.int .i64 (16 * (m : Int) + n)) rfl rfl (by kernel_rfl) (by kernel_rfl) (by kernel_rfl) (fun _ _ _ h => h) (fun w hw => exec_add3 rfl rfl hw4) trivial ?_
        simp only [Act.put, List.setIfInBounds_toArray, List.set_cons_zero, List.set_cons_succ]
        refine anyH_take 13 ⟨some 27, .convert 3 5 (.tmp 26), _, _, _, none⟩ (.int .u8 c.toNat) rfl rfl (by kernel_rfl) (by kernel_rfl) (by kernel_rfl) (fun _ _ _ h => h) (fun w hw => exec_cv rfl (cv35 _ _ _ hw5)) trivial ?_
        simp only [Act.put, List.setIfInBounds_toArray, List.set_cons_zero, List.set_cons_succ]
        refine anyH_one 14 ⟨some 28, .buildSlice 44 1 #[(0, .tmp 27)], _, _, _, none⟩ (.slice (some ⟨w2.drew.heap.size, 0, none⟩) 1 1) (w2.drew.alloc (.cells #[.int .u8 c.toNat] 5)) (by kernel_rfl) rfl rfl (exec_buildSlice (X := .int .u8 c.toNat) rfl (slice44 _ _)) trivial ?_
        simp only [Act.put, List.setIfInBounds_toArray, List.set_cons_zero, List.set_cons_succ]
        refine anyH_one 15 ⟨some 29, .convert 44 9 (.tmp 28), _, _, _, none⟩ (.string (str [c])) (w2.drew.alloc (.cells #[.int .u8 c.toNat] 5)) (by kernel_rfl) rfl rfl (exec_cv rfl (conv_one w2.drew c)) trivial ?_
        simp only [Act.put, List.setIfInBounds_toArray, List.set_cons_zero, List.set_cons_succ]
        refine anyH_one 16 ⟨some 30, .binOp .add 9 (.tmp 14) (.tmp 29) 9, _, _, _, none⟩ (.string (str d ++ str [c])) (w2.drew.alloc (.cells #[.int .u8 c.toNat] 5)) (by kernel_rfl) rfl rfl (exec_addStr rfl rfl hsum) trivial ?_
        simp only [Act.put, List.setIfInBounds_toArray, List.set_cons_zero, List.set_cons_succ]
        refine anyH_one 17 ⟨some 3, .assign (.tmp 30), _, _, _, none⟩ (.string (str d ++ str [c])) (w2.drew.alloc (.cells #[.int .u8 c.toNat] 5)) (by kernel_rfl) rfl rfl rfl trivial ?_
        simp only [Act.put, List.setIfInBounds_toArray, List.set_cons_zero, List.set_cons_succ]
        refine wpAnyH_done (by kernel_rfl) ?_ _
        have h2' : (k : Int) + 2 < s.length := by omega
        have HB2 : Hid (Below w.heap.size w (w2.drew.alloc (.cells #[.int .u8 c.toNat] 5))) := (HB.out.drew).alloc (by have := HB.out.size; exact this) _
        rw [HAp.out]
        clear hw3 hw4 hw5 hsum hm hn
        go_wp2_with fail
        go_roundw
        case rel => exact ⟨k + 3, d ++ [c], by omega, by go_num, rfl, HB2.out, HN.out _ _ HSt.out, by simp; omega⟩
        case measure => simp [intOf]; omega
    · have hlt' : ¬ (k : Int) < s.length := by omega
      have HA : Hid (d = unq s) := by
        have := HD.out
        rw [List.drop_eq_nil_of_le (by omega), run_nil, List.append_nil] at this
        exact this
      go_wp2_with fail
      go_ret
      rw [← HA.out]
      exact ⟨rfl, HB.out⟩

set_option maxRecDepth 100000 in
set_option maxHeartbeats 4000000 in
theorem rq_any (s : Bs) (w : World) (hs : s.length ≤ 100000) : Calls Tryd.prog 63 #[.string (str s)] w fun e w' => e = .returned (.string (str (und s))) ∧ Below w.heap.size w w' := by
  have hsz := str_size s
  go_enter Tryd.func63, Tryd.ntmps63
  go_wp2_with fail
  go_loopw [3, 4] (fun v i wr => ∃ (k : Nat) (d : Bs), k ≤ s.length ∧ i = .int .i64 k ∧ v = .string (str d) ∧ Below w.heap.size w wr ∧ d ++ run stepQ (s.drop k) = run stepQ s ∧ d.length ≤ k) (fun _ i _ => s.length - (intOf i).toNat)
  case atStart => exact ⟨0, [], by omega, rfl, rfl, Below.refl _ _, rfl, by simp⟩
  case round =>
    obtain ⟨k, d, hk, rfl, rfl, hb, hd, hdl⟩ := hrel
    have HB := hid hb
    have HD := hid hd
    have hds := str_size d
    clear hb hd
    by_cases hlt : k < s.length
    · have hlt' : (k : Int) < s.length := by omega
      have hlts : k < (str s).size := by omega
      have g0 : ((str s)[k]'hlts) = s[k] := rfl
      have hne : s.drop k ≠ [] := by rw [drop1 s k hlt]; exact List.cons_ne_nil _ _
      have HS : Hid (run stepQ (s.drop k) = (stepQ (s.drop k)).1 ++ run stepQ ((s.drop k).drop (stepQ (s.drop k)).2)) := und_step _ hne
      have HN : Hid (∀ x j, stepQ (s.drop k) = (x, j) → (d ++ x) ++ run stepQ (s.drop (k + j)) = run stepQ s) := by
        intro x j hj
        rw [← HD.out, HS.out, hj, List.drop_drop, List.append_assoc]
      clear HS hne
      have C := escape_any s k wr (by omega) hlt
      rcases hc : coded ((s.drop k).take 3) with _ | c
      · rw [hc] at C
        have HC := hid hc
        clear hc
        have hcut := cut1 s k hlt
        have hone := take_one s k hlt
        have hos := str_size ((s.drop k).take 1)
        have happ := app_str d ((s.drop k).take 1)
        have HAp := hid happ
        clear happ
        have hdl' : (d.length : Int) ≤ 100000 := by omega
        have hsp := app_str d [32]
        have HSp := hid hsp
        clear hsp
        by_cases h95 : s[k] = 95
        · have n95 : ((s[k].toNat : Int) == 95) = true := by rw [h95]; rfl
          have HSt : Hid (stepQ (s.drop k) = ([32], 1)) := by rw [Hid, drop1v s k hlt 95 h95]; exact stepQ_us
          clear h95
          go_wp2_with fail
          refine C.mono ?_
          clear C
          rintro e w2 ⟨rfl, rfl⟩
          go_wp2_with fail
          go_roundw
          case rel => exact ⟨k + 1, d ++ [32], by omega, by go_num, congrArg Value.string HSp.out, HB.out, HN.out _ _ HSt.out, by simp; omega⟩
          case measure => simp [intOf]; omega
        · have n95 : ((s[k].toNat : Int) == 95) = false := u8_ne (n := 95) (by omega) h95
          have HSt : Hid (stepQ (s.drop k) = ((s.drop k).take 1, 1)) := stepQ_else HC.out (by rw [drop1 s k hlt]; exact pre_hd h95)
          clear h95
          go_wp2_with fail
          refine C.mono ?_
          clear C
          rintro e w2 ⟨rfl, rfl⟩
          go_wp2_with fail
          rw [HAp.out]
          go_roundw
          case rel => exact ⟨k + 1, d ++ (s.drop k).take 1, by omega, by go_num, rfl, HB.out, HN.out _ _ HSt.out, by rw [List.length_append, hone]; omega⟩
          case measure => simp [intOf]; omega
      · rw [hc] at C
        have HSt := hid (stepQ_esc hc)
        obtain ⟨h2, m, n, hm, hn, hm16, hn16, hw5⟩ := coded_parts s k c hc
        clear hc
        have hw1 : IntKind.i64.wrap ((k : Int) + 1) = ((k + 1 : Nat) : Int) := by rw [IntKind.wrap_i64]; omega
        have hw2 : IntKind.i64.wrap ((k : Int) + 2) = ((k + 2 : Nat) : Int) := by rw [IntKind.wrap_i64]; omega
        have hw3 : IntKind.i64.wrap ((16 : Int) * m) = 16 * (m : Int) := by rw [IntKind.wrap_i64]; omega
        have hw4 : IntKind.i64.wrap (16 * (m : Int) + n) = 16 * (m : Int) + n := by rw [IntKind.wrap_i64]; omega
        have hsum : (str d).size + (str [c]).size ≤ 1000000 := by rw [str_size, str_size]; simp; omega
        have HAp := hid (app_str d [c])
        go_wp2_with fail
        refine C.mono ?_
        clear C
        rintro e w2 ⟨rfl, rfl⟩
        have hw5H := hid hw5
        go_wp2_with fail
        refine wp_region_held_drew (S := fun w' => True) (by kernel_rfl) trivial ?_
        intro hS
        refine anyH_take 0 ⟨some 14, .move (.tmp 3), _, _, _, none⟩ (.string (str d)) rfl rfl (by kernel_rfl) (by kernel_rfl) (by kernel_rfl) (fun _ _ _ h => h) (fun w hw => rfl) hS ?_
        simp only [Act.put, List.setIfInBounds_toArray, List.set_cons_zero, List.set_cons_succ]
        refine anyH_take 1 ⟨some 15, .move (.tmp 0), _, _, _, none⟩ (.string (str s)) rfl rfl (by kernel_rfl) (by kernel_rfl) (by kernel_rfl) (fun _ _ _ h => h) (fun w hw => rfl) hS ?_
        simp only [Act.put, List.setIfInBounds_toArray, List.set_cons_zero, List.set_cons_succ]
        refine anyH_take 2 ⟨some 16, .move (.tmp 4), _, _, _, none⟩ (.int .i64 k) rfl rfl (by kernel_rfl) (by kernel_rfl) (by kernel_rfl) (fun _ _ _ h => h) (fun w hw => rfl) hS ?_
        simp only [Act.put, List.setIfInBounds_toArray, List.set_cons_zero, List.set_cons_succ]
        refine anyH_take 3 ⟨some 17, .binOp .add 3 (.tmp 16) (.const (.int .i64 1)) 3, _, _, _, none⟩ (.int .i64 (k + 1 : Nat)) rfl rfl (by kernel_rfl) (by kernel_rfl) (by kernel_rfl) (fun _ _ _ h => h) (fun w hw => exec_add3 rfl rfl hw1) hS ?_
        simp only [Act.put, List.setIfInBounds_toArray, List.set_cons_zero, List.set_cons_succ]
        refine anyH_take 4 ⟨some 18, .index 9 (.tmp 15) (.tmp 17), _, _, _, none⟩ (.int .u8 (s[k + 1]).toNat) rfl rfl (by kernel_rfl) (by kernel_rfl) (by kernel_rfl) (fun _ _ _ h => h) (fun w hw => exec_idx rfl rfl (by omega) rfl) hS ?_
        simp only [Act.put, List.setIfInBounds_toArray, List.set_cons_zero, List.set_cons_succ]
        refine anyH_take 7 ⟨some 21, .move (.tmp 0), _, _, _, none⟩ (.string (str s)) rfl rfl (by kernel_rfl) (by kernel_rfl) (by kernel_rfl) (fun _ _ _ h => h) (fun w hw => rfl) hS ?_
        simp only [Act.put, List.setIfInBounds_toArray, List.set_cons_zero, List.set_cons_succ]
        refine anyH_take 8 ⟨some 22, .move (.tmp 4), _, _, _, none⟩ (.int .i64 k) rfl rfl (by kernel_rfl) (by kernel_rfl) (by kernel_rfl) (fun _ _ _ h => h) (fun w hw => rfl) hS ?_
        simp only [Act.put, List.setIfInBounds_toArray, List.set_cons_zero, List.set_cons_succ]
        refine anyH_take 9 ⟨some 23, .binOp .add 3 (.tmp 22) (.const (.int .i64 2)) 3, _, _, _, none⟩ (.int .i64 (k + 2 : Nat)) rfl rfl (by kernel_rfl) (by kernel_rfl) (by kernel_rfl) (fun _ _ _ h => h) (fun w hw => exec_add3 rfl rfl hw2) hS ?_
        simp only [Act.put, List.setIfInBounds_toArray, List.set_cons_zero, List.set_cons_succ]
        refine anyH_take 10 ⟨some 24, .index 9 (.tmp 21) (.tmp 23), _, _, _, none⟩ (.int .u8 (s[k + 2]).toNat) rfl rfl (by kernel_rfl) (by kernel_rfl) (by kernel_rfl) (fun _ _ _ h => h) (fun w hw => exec_idx rfl rfl (by omega) rfl) hS ?_
        simp only [Act.put, List.setIfInBounds_toArray, List.set_cons_zero, List.set_cons_succ]
        refine anyH_callW 5 ⟨some 19, .call { callee := .value (.func 35), args := #[.tmp 18], argTypes := #[5] }, _, _, _, none⟩ 35 #[.int .u8 (s[k + 1]).toNat] (by kernel_rfl) rfl rfl (by kernel_rfl) ?_
        refine (rhex_any s[k + 1] w2.drew).mono ?_
        rintro e w3 ⟨rfl, rfl⟩
        refine ⟨_, rfl, trivial, ?_⟩
        rw [hm]
        simp only [Act.put, List.setIfInBounds_toArray, List.set_cons_zero, List.set_cons_succ]
        refine anyH_take 6 ⟨some 20, .binOp .mul 3 (.const (.int .i64 16)) (.tmp 19) 3, _, _, _, none⟩ (.int .i64 (16 * (m : Int))) rfl rfl (by kernel_rfl) (by kernel_rfl) (by kernel_rfl) (fun _ _ _ h => h) (fun w hw => exec_mul3 rfl rfl hw3) trivial ?_
        simp only [Act.put, List.setIfInBounds_toArray, List.set_cons_zero, List.set_cons_succ]
        refine anyH_callW 11 ⟨some 25, .call { callee := .value (.func 35), args := #[.tmp 24], argTypes := #[5] }, _, _, _, none⟩ 35 #[.int .u8 (s[k + 2]).toNat] (by kernel_rfl) rfl rfl (by kernel_rfl) ?_
        refine (rhex_any s[k + 2] w2.drew).mono ?_
        rintro e w3 ⟨rfl, rfl⟩
        refine ⟨_, rfl, trivial, ?_⟩
        rw [hn]
        simp only [Act.put, List.setIfInBounds_toArray, List.set_cons_zero, List.set_cons_succ]
        refine anyH_take 12 ⟨some 26, .binOp .add 3 (.tmp 20) (.tmp 25) 3, _, _, _, none⟩ (.int .i64 (16 * (m : Int) + n)) rfl rfl (by kernel_rfl) (by kernel_rfl) (by kernel_rfl) (fun _ _ _ h => h) (fun w hw => exec_add3 rfl rfl hw4) trivial ?_
        simp only [Act.put, List.setIfInBounds_toArray, List.set_cons_zero, List.set_cons_succ]
        refine anyH_take 13 ⟨some 27, .convert 3 5 (.tmp 26), _, _, _, none⟩ (.int .u8 c.toNat) rfl rfl (by kernel_rfl) (by kernel_rfl) (by kernel_rfl) (fun _ _ _ h => h) (fun w hw => exec_cv rfl (cv35 _ _ _ hw5)) trivial ?_
        simp only [Act.put, List.setIfInBounds_toArray, List.set_cons_zero, List.set_cons_succ]
        refine anyH_one 14 ⟨some 28, .buildSlice 44 1 #[(0, .tmp 27)], _, _, _, none⟩ (.slice (some ⟨w2.drew.heap.size, 0, none⟩) 1 1) (w2.drew.alloc (.cells #[.int .u8 c.toNat] 5)) (by kernel_rfl) rfl rfl (exec_buildSlice (X := .int .u8 c.toNat) rfl (slice44 _ _)) trivial ?_
        simp only [Act.put, List.setIfInBounds_toArray, List.set_cons_zero, List.set_cons_succ]
        refine anyH_one 15 ⟨some 29, .convert 44 9 (.tmp 28), _, _, _, none⟩ (.string (str [c])) (w2.drew.alloc (.cells #[.int .u8 c.toNat] 5)) (by kernel_rfl) rfl rfl (exec_cv rfl (conv_one w2.drew c)) trivial ?_
        simp only [Act.put, List.setIfInBounds_toArray, List.set_cons_zero, List.set_cons_succ]
        refine anyH_one 16 ⟨some 30, .binOp .add 9 (.tmp 14) (.tmp 29) 9, _, _, _, none⟩ (.string (str d ++ str [c])) (w2.drew.alloc (.cells #[.int .u8 c.toNat] 5)) (by kernel_rfl) rfl rfl (exec_addStr rfl rfl hsum) trivial ?_
        simp only [Act.put, List.setIfInBounds_toArray, List.set_cons_zero, List.set_cons_succ]
        refine anyH_one 17 ⟨some 3, .assign (.tmp 30), _, _, _, none⟩ (.string (str d ++ str [c])) (w2.drew.alloc (.cells #[.int .u8 c.toNat] 5)) (by kernel_rfl) rfl rfl rfl trivial ?_
        simp only [Act.put, List.setIfInBounds_toArray, List.set_cons_zero, List.set_cons_succ]
        refine wpAnyH_done (by kernel_rfl) ?_ _
        have h2' : (k : Int) + 2 < s.length := by omega
        have HB2 : Hid (Below w.heap.size w (w2.drew.alloc (.cells #[.int .u8 c.toNat] 5))) := (HB.out.drew).alloc (by have := HB.out.size; exact this) _
        rw [HAp.out]
        clear hw3 hw4 hw5 hsum hm hn
        go_wp2_with fail
        go_roundw
        case rel => exact ⟨k + 3, d ++ [c], by omega, by go_num, rfl, HB2.out, HN.out _ _ HSt.out, by simp; omega⟩
        case measure => simp [intOf]; omega
    · have hlt' : ¬ (k : Int) < s.length := by omega
      have HA : Hid (d = und s) := by
        have := HD.out
        rw [List.drop_eq_nil_of_le (by omega), run_nil, List.append_nil] at this
        exact this
      go_wp2_with fail
      go_ret
      rw [← HA.out]
      exact ⟨rfl, HB.out⟩
end Go.Proofs.YtjmjeiegbkfdbaaDoor
