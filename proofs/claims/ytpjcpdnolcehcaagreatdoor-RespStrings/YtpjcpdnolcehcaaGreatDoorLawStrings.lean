/- Proved here: any text, told as a string in a line, is read as it was, and the chapter's example is told and read (RespStrings returns true for every input, and leaves its arguments as they were). No condition beyond what the card says: five tables and two errors of the library hold what its text lays. -/
import Derived.Test.YtpjcpdnolcehcaaGreatDoorCards
import Derived.Test.YtpjcpdnolcehcaaGreatDoorTie
import Derived.Test.YtpjcpdnolcehcaaGreatDoorM35
import Derived.Test.YtpjcpdnolcehcaaGreatDoorFrame2
import Derived.ProofKit
import Derived.OpenShut
import Derived.ShutString
import Derived.Below
namespace Go.Proofs.YtpjcpdnolcehcaaGreatDoor.respStrings
open Go.ChangeShapes Go.WideShapes Go.ChangeAt Go.RowKit
open Go.ChangeMaps (open_string shut_string)
set_option linter.unusedVariables false
set_option linter.unusedSimpArgs false

theorem esc_len : ∀ s : Bs, s.length ≤ (escP s).length ∧ (escP s).length ≤ 2 * s.length
  | [] => by simp [escP]
  | c :: s => by
    have ih := esc_len s
    have e : escP (c :: s) = (if c == 34 || c == 92 then [92, c] else [c]) ++ escP s := rfl
    rw [e, List.length_append, List.length_cons]
    split <;> simp <;> omega
theorem strP_len (s : Bs) (h : s.length ≤ 20001) : s.length ≤ (strP s).length ∧ (strP s).length ≤ 2 * s.length + 24 ∧ (strP s).length ≤ s.length + 230 := by
  have he := esc_len s
  unfold strP
  split
  · rename_i hq
    have h100 : s.length ≤ 100 := by
      unfold quoB at hq
      simp only [Bool.and_eq_true, decide_eq_true_eq] at hq
      exact hq.1
    simp only [List.length_append, List.length_cons, List.length_nil]
    omega
  · have := decP_len (n := (s.length : Int)) (by omega) (by omega)
    simp only [List.length_append, List.length_cons, List.length_nil]
    omega
def xL (s : Bs) : Ln := ⟨[42], [lV' [tV s, tV (s ++ [34])]], [], [], []⟩
theorem xL_right (s : Bs) : lineB (xL s) = true := rfl
theorem xL_num (s : Bs) (h : s.length ≤ 20000) : NumN (xL s) := ⟨⟨⟨i64_0, by simp, by simp, ⟨num_plain 3 s 0 i64_0 (by omega), num_plain 3 _ 0 i64_0 (by simp; omega), trivial⟩, by simp, by simp⟩, trivial⟩, trivial, by simp [xL], by simp [xL], by simp [xL], by simp [xL], by simp [xL]⟩
theorem xL_text (s : Bs) : lineT (xL s) = [42, 32] ++ ([40] ++ (strP s ++ ([32] ++ strP (s ++ [34]))) ++ [41]) ++ [13, 10] := by
  unfold lineT
  rw [if_neg (by simp [xL]), if_neg (by simp [xL])]
  show [42] ++ [32] ++ toldL [lV' [tV s, tV (s ++ [34])]] ++ [13, 10] = _
  rw [toldL_cons, told_4 rfl]
  show [42] ++ [32] ++ (([40] ++ toldL [tV s, tV (s ++ [34])] ++ [41]) ++ toldS []) ++ [13, 10] = _
  rw [toldL_cons]
  simp only [toldS, told_3 (v := tV s) rfl, told_3 (v := tV (s ++ [34])) rfl]
  simp [tV, Vl.x]
theorem xL_len (s : Bs) (h : s.length ≤ 20000) : 2 * s.length ≤ (lineT (xL s)).length ∧ (lineT (xL s)).length ≤ 100000 := by
  have h1 := strP_len s (by omega)
  have h2 := strP_len (s ++ [34]) (by simp; omega)
  rw [xL_text]
  simp only [List.length_append, List.length_cons, List.length_nil] at h2 ⊢
  omega
theorem xL_print (s : Bs) : printP [xL s] = lineT (xL s) := by
  unfold printP
  rw [if_pos (by simp [xL_right])]
  simp
theorem xL_lines (s : Bs) (h : s.length ≤ 20000) : linesP ((lineT (xL s)).length + 1) (lineT (xL s)) = some [xL s] := by
  have := (parse_back [xL s] (by intro l hl; simp only [List.mem_singleton] at hl; subst hl; exact ⟨xL_right s, xL_num s h⟩)).1
  rw [xL_print] at this
  exact this
theorem xL_parse (s : Bs) (h : s.length ≤ 20000) : parseP (lineT (xL s)) = some [xL s] := by
  unfold parseP
  rw [xL_lines s h]
  simp only
  rw [if_pos (xL_print s)]
set_option maxRecDepth 100000 in
set_option maxHeartbeats 4000000 in
theorem walkS (w : World) (s : Bs) (hE : Env w) (hm : s.length ≤ 9223372036854775807) : Calls Tryz.prog 8 #[.string (str s)] w (Bo true w) := by
  have hsz := str_size s
  by_cases hs : s.length ≤ 20000
  · have hs' : ¬ (20000 : Int) < s.length := by omega
    have HE := hid hE
    have HA : Hid (str s ++ (⟨#[34]⟩ : ByteArray) = str (s ++ [34])) := app_str s [34]
    have hT := xL_len s hs
    clear hE
    go_enter Tryz.func8, Tryz.ntmps8
    go_wp2_with fail
    refine (textv_any s _).mono ?_
    rintro e w1 ⟨rfl, b1⟩
    rw [vV_mk]
    have B1 := hid b1
    clear b1
    go_wp2_with fail
    rw [HA.out]
    refine (textv_any (s ++ [34]) _).mono ?_
    rintro e w2 ⟨rfl, b2⟩
    rw [vV_mk]
    have B2 := hid (B1.out.trans (b2.mono B1.out.size))
    clear b2 B1
    have D2 := hid (builtV w2 [(⟨3, s, 0, (none, 0, 0), (none, 0, 0)⟩, tV s), (⟨3, s ++ [34], 0, (none, 0, 0), (none, 0, 0)⟩, tV (s ++ [34]))] 2 rfl (by simp) #[.int .i64 3, .string (str s), .int .i64 0, .slice none 0 0, .slice none 0 0, .int .i64 3, .string (str (s ++ [34])), .int .i64 0, .slice none 0 0, .slice none 0 0] rfl
      (by
        intro p hp
        simp only [List.mem_cons, List.not_mem_nil, or_false] at hp
        rcases hp with rfl | rfl
        · exact VAt.plain _ _ _ _ _
        · exact VAt.plain _ _ _ _ _))
    have hn2 : NumL [tV s, tV (s ++ [34])] := ⟨num_plain 3 s 0 i64_0 (by omega), num_plain 3 _ 0 i64_0 (by simp; omega), trivial⟩
    have C3 := list_any _ _ [tV s, tV (s ++ [34])] D2.out hn2 (by simp [htL, htV, tV]) (by simp)
    clear D2 hn2
    go_wp2_with fail
    refine C3.mono ?_
    rintro e w9 ⟨⟨k3, x3, n3, ⟨ka3, kb3, kc3⟩, ⟨fa3, fb3, fc3⟩⟩, rfl, v9, b9⟩
    rw [vV_mk]
    have B9 := hid ((B2.out.trans ((al _ _).mono B2.out.size)).trans (b9.mono (Nat.le_trans B2.out.size (al _ _).size)))
    have V9 := hid v9.top
    clear b9 v9 C3 B2
    have D9 := hid (builtV w9 [(⟨k3, x3, n3, (ka3, kb3, kc3), (fa3, fb3, fc3)⟩, lV' [tV s, tV (s ++ [34])])] 1 rfl (by simp) #[.int .i64 k3, .string (str x3), .int .i64 n3, .slice ka3 kb3 kc3, .slice fa3 fb3 fc3] rfl
      (by
        intro p hp
        simp only [List.mem_singleton] at hp
        subst hp
        exact V9.out))
    have s9 : (w9.alloc (.cells #[.int .i64 k3, .string (str x3), .int .i64 n3, .slice ka3 kb3 kc3, .slice fa3 fb3 fc3] 43)).heap.size = w9.heap.size + 1 := by simp
    have s11 : ((w9.alloc (.cells #[.int .i64 k3, .string (str x3), .int .i64 n3, .slice ka3 kb3 kc3, .slice fa3 fb3 fc3] 43)).alloc (.cells #[.string ⟨#[42]⟩, .slice (some ⟨w9.heap.size, 0, none⟩) 1 1, .string ⟨#[]⟩, .slice none 0 0, .string ⟨#[]⟩] 28)).heap.size = w9.heap.size + 2 := by simp
    have H2 : Hid (Below w9.heap.size w9 ((w9.alloc (.cells #[.int .i64 k3, .string (str x3), .int .i64 n3, .slice ka3 kb3 kc3, .slice fa3 fb3 fc3] 43)).alloc (.cells #[.string ⟨#[42]⟩, .slice (some ⟨w9.heap.size, 0, none⟩) 1 1, .string ⟨#[]⟩, .slice none 0 0, .string ⟨#[]⟩] 28))) := (al _ _).trans ((al _ _).mono (by rw [s9]; omega))
    have LA : Hid (L5 ((w9.alloc (.cells #[.int .i64 k3, .string (str x3), .int .i64 n3, .slice ka3 kb3 kc3, .slice fa3 fb3 fc3] 43)).alloc (.cells #[.string ⟨#[42]⟩, .slice (some ⟨w9.heap.size, 0, none⟩) 1 1, .string ⟨#[]⟩, .slice none 0 0, .string ⟨#[]⟩] 28)) (w9.heap.size + 1) ⟨[42], (some ⟨w9.heap.size, 0, none⟩, 1, 1), [], (none, 0, 0), []⟩) := by
      have := L5.new (w9.alloc (.cells #[.int .i64 k3, .string (str x3), .int .i64 n3, .slice ka3 kb3 kc3, .slice fa3 fb3 fc3] 43)) ⟨[42], (some ⟨w9.heap.size, 0, none⟩, 1, 1), [], (none, 0, 0), []⟩
      rw [s9] at this
      exact this
    obtain ⟨xa0, xa1, xa2, xa3, xa4⟩ := LA.out.cs
    simp only [Sl.v] at xa1 xa3
    have NA : Hid (LnAt ((w9.alloc (.cells #[.int .i64 k3, .string (str x3), .int .i64 n3, .slice ka3 kb3 kc3, .slice fa3 fb3 fc3] 43)).alloc (.cells #[.string ⟨#[42]⟩, .slice (some ⟨w9.heap.size, 0, none⟩) 1 1, .string ⟨#[]⟩, .slice none 0 0, .string ⟨#[]⟩] 28)) (· < ((w9.alloc (.cells #[.int .i64 k3, .string (str x3), .int .i64 n3, .slice ka3 kb3 kc3, .slice fa3 fb3 fc3] 43)).alloc (.cells #[.string ⟨#[42]⟩, .slice (some ⟨w9.heap.size, 0, none⟩) 1 1, .string ⟨#[]⟩, .slice none 0 0, .string ⟨#[]⟩] 28)).heap.size) ⟨[42], (some ⟨w9.heap.size, 0, none⟩, 1, 1), [], (none, 0, 0), []⟩ (xL s)) := ⟨rfl, rfl, rfl, D9.out.up (al _ _), VsAt.nil _ _⟩
    have BB := hid (B9.out.trans (H2.out.mono B9.out.size))
    clear D9 V9 H2 B9 s9
    have ls0 := builtL ((w9.alloc (.cells #[.int .i64 k3, .string (str x3), .int .i64 n3, .slice ka3 kb3 kc3, .slice fa3 fb3 fc3] 43)).alloc (.cells #[.string ⟨#[42]⟩, .slice (some ⟨w9.heap.size, 0, none⟩) 1 1, .string ⟨#[]⟩, .slice none 0 0, .string ⟨#[]⟩] 28)) [(⟨[42], (some ⟨w9.heap.size, 0, none⟩, 1, 1), [], (none, 0, 0), []⟩, xL s)] 1 rfl (by simp) #[.string (str [42]), .slice (some ⟨w9.heap.size, 0, none⟩) 1 1, .string (str []), .slice none 0 0, .string (str [])] rfl
      (by
        intro p hp
        simp only [List.mem_singleton] at hp
        subst hp
        exact NA.out)
    rw [s11] at ls0
    have HNum : Hid (∀ l ∈ [xL s], NumN l) := by
      intro l hl
      simp only [List.mem_singleton] at hl
      subst hl
      exact xL_num s hs
    have CP := print_any (((w9.alloc (.cells #[.int .i64 k3, .string (str x3), .int .i64 n3, .slice ka3 kb3 kc3, .slice fa3 fb3 fc3] 43)).alloc (.cells #[.string ⟨#[42]⟩, .slice (some ⟨w9.heap.size, 0, none⟩) 1 1, .string ⟨#[]⟩, .slice none 0 0, .string ⟨#[]⟩] 28)).alloc (.cells #[.string (str [42]), .slice (some ⟨w9.heap.size, 0, none⟩) 1 1, .string (str []), .slice none 0 0, .string (str [])] 28)) _ [xL s] (HE.out.later (BB.out.trans ((al _ _).mono BB.out.size))) ls0 HNum.out (by simp) (by simp; omega)
    rw [xL_print] at CP
    have CPa := fun w' hE' => parse_any w' (lineT (xL s)) hE' (by omega) (fun l hl => by
      rw [xL_lines s hs] at hl
      simp only [Option.some.injEq] at hl
      subst hl
      exact ⟨by simp, HNum.out, by simp; omega⟩)
    rw [xL_parse s hs] at CPa
    have hT1 : ((s.length : Int) * 2 ≤ (lineT (xL s)).length) := by omega
    have hT2 : (2 * (s.length : Int) ≤ (lineT (xL s)).length) := by omega
    have hTs := str_size (lineT (xL s))
    have HCPa := hid CPa
    have BC := hid (BB.out.trans ((al ((w9.alloc (.cells #[.int .i64 k3, .string (str x3), .int .i64 n3, .slice ka3 kb3 kc3, .slice fa3 fb3 fc3] 43)).alloc (.cells #[.string ⟨#[42]⟩, .slice (some ⟨w9.heap.size, 0, none⟩) 1 1, .string ⟨#[]⟩, .slice none 0 0, .string ⟨#[]⟩] 28)) (.cells #[.string (str [42]), .slice (some ⟨w9.heap.size, 0, none⟩) 1 1, .string (str []), .slice none 0 0, .string (str [])] 28)).mono BB.out.size))
    have LA3 := hid (LA.out.later (al _ (.cells #[.string (str [42]), .slice (some ⟨w9.heap.size, 0, none⟩) 1 1, .string (str []), .slice none 0 0, .string (str [])] 28)))
    have NA3 := hid (NA.out.up (al _ (.cells #[.string (str [42]), .slice (some ⟨w9.heap.size, 0, none⟩) 1 1, .string (str []), .slice none 0 0, .string (str [])] 28)))
    clear ls0 LA NA BB CPa hT
    generalize lineT (xL s) = T at *
    go_wp2_with fail
    refine CP.mono ?_
    rintro e w11 ⟨rfl, b11⟩
    have LA4 := hid (LA3.out.later b11)
    have NA4 := hid (NA3.out.up b11)
    have BD := hid (BC.out.trans (b11.mono BC.out.size))
    clear b11 CP LA3 NA3 BC xa0 xa1 xa2 xa3 xa4
    generalize w9.heap.size = q9 at *
    have CPb := HCPa.out w11 (HE.out.later BD.out)
    go_wp2_with fail
    refine CPb.mono ?_
    rintro e w12 ⟨u, rfl, hls, b12⟩
    obtain ⟨ua, uc, rfl, _⟩ := hls.slice
    have LA5 := hid (LA4.out.later b12)
    have NA5 := hid (NA4.out.up b12)
    have LS5 := hid (hls.mono (N' := (· < w12.heap.size)) (fun q hq _ => hq))
    have BE := hid (BD.out.trans (b12.mono BD.out.size))
    clear b12 CPb HCPa LA4 NA4 BD hls
    obtain ⟨xa0, xa1, xa2, xa3, xa4⟩ := LA5.out.cs
    simp only [Sl.v] at xa1 xa3
    have CN := no_any 0 w12
    simp only [paN, paL, Option.getD_some] at *
    have ls5 := builtL w12 [(⟨[42], (some ⟨q9, 0, none⟩, 1, 1), [], (none, 0, 0), []⟩, xL s)] 1 rfl (by simp) #[.string (str [42]), .slice (some ⟨q9, 0, none⟩) 1 1, .string (str []), .slice none 0 0, .string (str [])] rfl
      (by
        intro p hp
        simp only [List.mem_singleton] at hp
        subst hp
        exact NA5.out)
    have CS := same_any (w12.alloc (.cells #[.string (str [42]), .slice (some ⟨q9, 0, none⟩) 1 1, .string (str []), .slice none 0 0, .string (str [])] 28)) _ _ _ _ [xL s] (LS5.out.up (al w12 (.cells #[.string (str [42]), .slice (some ⟨q9, 0, none⟩) 1 1, .string (str []), .slice none 0 0, .string (str [])] 28))) ls5 HNum.out (by simp)
    have BF := hid (BE.out.trans ((al w12 (.cells #[.string (str [42]), .slice (some ⟨q9, 0, none⟩) 1 1, .string (str []), .slice none 0 0, .string (str [])] 28)).mono BE.out.size))
    have CAl := hid (fun w' hE' => alive_any w' hE')
    clear ls5 LA5 NA5 LS5 BE
    go_wp2_with fail
    refine CN.mono ?_
    rintro e w13 ⟨rfl, rfl⟩
    go_wp2_with fail
    refine CS.mono ?_
    rintro e w14 ⟨rfl, b14⟩
    have BG := hid (BF.out.trans (b14.mono BF.out.size))
    clear b14 CS BF CN xa0 xa1 xa2 xa3 xa4
    have CA2 := CAl.out w14 (HE.out.later BG.out)
    go_wp2_with fail
    refine CA2.mono ?_
    rintro e w15 ⟨rfl, b15⟩
    have BH := hid (BG.out.trans (b15.mono BG.out.size))
    clear b15 CA2 BG
    go_wp2_with fail
    go_ret
    refine ⟨?_, BH.out⟩
    simp
  · have hs' : (20000 : Int) < s.length := by omega
    have CA := alive_any w hE
    clear hE hs
    go_enter Tryz.func8, Tryz.ntmps8
    go_wp2_with fail
    refine CA.mono ?_
    rintro e w1 ⟨rfl, b1⟩
    have B1 := hid b1
    clear b1 CA
    go_wp2_with fail
    go_ret
    exact ⟨rfl, B1.out⟩
theorem walk {w : World} (s : ByteArray) (hE : Env w) (hs : s.size ≤ maxLen) : Calls Tryz.prog 8 #[.string s] w fun e w' => e = .returned (.bool true) ∧ Below w.heap.size w w' := by
  have h := walkS w s.data.toList hE (by
    have : s.size = s.data.toList.length := Go.Lib.size_eq s
    rw [← this]
    unfold maxLen at hs
    omega)
  rw [str_of] at h
  exact h

theorem witness (os : Os) {H : Type} (enc : TypeId × Value → H) :
    (OpenSpec.ofChange Rows.respStringsSpec).preRow enc Tryz.prog Tryz.f8 Rows.respStringsRow.domain false Rows.respStringsRow.laid ((laidWorld os).forCall (fun _ _ => 0) ⟨#[], #[.string ⟨#[]⟩], []⟩).memory #[.string ⟨#[]⟩] := by
  have hw : (DataW.whole enc Tryz.prog ((laidWorld os).forCall (fun _ _ => 0) ⟨#[], #[.string ⟨#[]⟩], []⟩).memory Tryz.f8.params.toList Rows.respStringsSpec.vars false (#[.string ⟨#[]⟩] : Array Value).toList 8).map (fun x => (x.1, x.2.1)) =
      some ([.lit (.string [])], []) := by kernel_rfl
  obtain ⟨⟨x1, x2, x3⟩, hx, hx1⟩ := Option.map_eq_some_iff.1 hw
  simp only [Prod.mk.injEq] at hx1
  obtain ⟨rfl, rfl⟩ := hx1
  exact OpenSpec.preRow_of_cond 8 hx (by kernel_rfl) (fun k hk => by cases hk) (by kernel_rfl) (laid_met os _)

set_option maxRecDepth 100000 in
set_option maxHeartbeats 2000000 in
theorem lifted (os : Os) (started : os.Started) (H : Type) (enc : TypeId × Value → H) (F : Stop.Interp) :
    ReturnsInHanded {} Tryz.checked os 8 .any ((OpenSpec.ofChange Rows.respStringsSpec).preRow enc Tryz.prog Tryz.f8 Rows.respStringsRow.domain false Rows.respStringsRow.laid) (((OpenSpec.ofChange Rows.respStringsSpec).at F).post enc Tryz.prog Tryz.f8 false true false false) := by
  refine returnsInHanded_of_row (C := Tryz.checked) (s := OpenSpec.ofChange Rows.respStringsSpec) own started (by kernel_rfl) Tryz.func8
    (witness_row_atRef (enc := enc) (C := Tryz.checked) false (laidWorld os) #[.string ⟨#[]⟩] rfl (by kernel_rfl) (by kernel_rfl) (by kernel_rfl) (witness os enc)) ?_
  intro W base args ds gs before hval0 hW _ _ _ hL hsh _
  have hval : ∀ (j : Nat) t v, Tryz.f8.params[j]? = some t → args[j]? = some v → Value.okWide Tryz.prog W .any base t v := hval0
  have hW' := hW
  obtain ⟨p, q, hA0, hV, rfl, hfz, hnd⟩ := hW
  have hA : DataW.TrodAll enc Tryz.prog W 0 (fun _ => true) true Tryz.f8.params.toList args.toList ds p := hA0
  rw [Tryz.params8] at hA hval
  obtain ⟨v0, vs0, d0, ds0, p0, q0, hargs, rfl, rfl, h0, r0⟩ := trodAll_cons hA
  obtain ⟨rfl, rfl, rfl⟩ := trodAll_nil r0
  obtain rfl : args = #[v0] := by cases args; simp_all
  obtain ⟨rfl, rfl⟩ := trodVars_none hV
  obtain ⟨a0, rfl, rfl, rfl, w0⟩ := open_string Tryz.underlying9 (hval 0 9 v0 rfl rfl) h0
  clear hA0 hval0
  refine (walk a0 (env_of hL) w0).mono ?_
  rintro e W' ⟨rfl, bel⟩
  exact ⟨_, rfl, _, _, _, [], _, [], hW', trodAll_mk1 (shut_bool Tryz.underlying4 _), (trodAll_cons_mk (shut_string Tryz.underlying9 w0) trodAll_mk0), rfl, bel.frame _, fun h => by cases h⟩

theorem over : Rows.respStringsRow.holds Tryz.pinned (OpenSpec.ofChange Rows.respStringsSpec) :=
  OpenClaim.holds_of_cond 8 Tryz.f8 rfl rfl rfl rfl rfl rfl rfl ⟨rfl, rfl, rfl, rfl, rfl⟩ rfl rfl rfl rfl rfl (by kernel_rfl) Tryz.func8 (by kernel_rfl)
    (of_decide_eq_true (by kernel_rfl)) (by unfold Func.isWrapper; first | (rw [if_pos (by decide +kernel)]; kernel_rfl) | (rw [if_neg (by decide +kernel)]; exact ⟨rfl, rfl⟩))
    (fun os started H enc _ F => by rw [OpenClaim.pre_eq_preRow]; exact lifted os started H enc F)

/-- No parameter wants a stand-in. -/
theorem plain (f : FuncId) (fn : Func) (hf : Tryz.pinned.checked.prog.funcNamed Rows.respStringsRow.func = some f) (hfn : Tryz.pinned.checked.prog.funcs[f]? = some fn) :
    true = Tryz.pinned.checked.prog.looks [] ∧ ∀ (j : Nat) t, fn.params[j]? = some t → Tryz.pinned.checked.prog.wantsStandIn t = false := by
  obtain rfl : f = 8 := Option.some.inj ((show Tryz.prog.funcNamed Rows.respStringsRow.func = some 8 by kernel_rfl).symm.trans hf) |>.symm
  obtain rfl : fn = Tryz.f8 := (Option.some.inj (Tryz.func8.symm.trans hfn)).symm
  refine ⟨by kernel_rfl, fun j t ht => ?_⟩
  rw [Tryz.params8] at ht
  have hm := Array.mem_of_getElem? ht
  simp only [List.mem_toArray, List.mem_cons, List.not_mem_nil, or_false, or_self] at hm
  rcases hm with rfl
  · exact (show Tryz.prog.wantsStandIn 9 = false by kernel_rfl)
end Go.Proofs.YtpjcpdnolcehcaaGreatDoor.respStrings
namespace Go.Proofs.YtpjcpdnolcehcaaGreatDoor
/-- THE STATEMENT. -/
theorem respStrings_holds : Rows.RespStringsCardSaid :=
  Claim7.holds_tied_plain_at .later [] _ _ _ _ respStrings.over (fun _ h => by cases h) (by kernel_rfl) (fun _ h => by cases h) respStrings_row_tie rfl ⟨rfl, rfl⟩ (by kernel_rfl) rfl respStrings.plain (by kernel_rfl)
#print axioms respStrings_holds
end Go.Proofs.YtpjcpdnolcehcaaGreatDoor
