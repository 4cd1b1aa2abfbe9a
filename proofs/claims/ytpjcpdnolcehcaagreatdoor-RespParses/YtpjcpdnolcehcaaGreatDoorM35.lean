/- What this text holds: the statement's 'alive': the chapter's example. -/
import Derived.Test.YtpjcpdnolcehcaaGreatDoorP6
import Derived.Test.YtpjcpdnolcehcaaGreatDoorM33
namespace Go.Proofs.YtpjcpdnolcehcaaGreatDoor
open Go.RowKit
set_option linter.unusedVariables false
set_option linter.unusedSimpArgs false

theorem LnAt.up {w w' : World} {r : Lw} {v : Ln} (h : LnAt w (· < w.heap.size) r v) (hb : Below w.heap.size w w') : LnAt w' (· < w'.heap.size) r v := (h.later hb).mono (fun q hq _ => hq)
theorem LsAt.up {w w' : World} {u : Value} {ls : List Ln} (h : LsAt w (· < w.heap.size) u ls) (hb : Below w.heap.size w w') : LsAt w' (· < w'.heap.size) u ls := (h.later hb).mono (fun q hq _ => hq)
theorem al (w : World) (o : Obj) : Below w.heap.size w (w.alloc o) := (Below.refl _ _).alloc (Nat.le_refl _) _
set_option maxRecDepth 100000 in
set_option maxHeartbeats 8000000 in
theorem alive_any (w : World) (hE : Env w) : Calls Tryz.prog 10 #[] w (Bo true w) := by
  have HE := hid hE
  clear hE
  go_enter Tryz.func10, Tryz.ntmps10
  go_wp2_with fail
  refine (numv_any 3 _).mono ?_
  rintro e w1 ⟨rfl, b1⟩
  rw [vV_mk]
  have B1 := hid b1
  clear b1
  go_wp2_with fail
  refine (atomv_any bFETCH _).mono ?_
  rintro e w2 ⟨rfl, b2⟩
  rw [vV_mk]
  have B2 := hid (B1.out.trans (b2.mono B1.out.size))
  clear b2 B1
  go_wp2_with fail
  refine (atomv_any bFLAGS _).mono ?_
  rintro e w3 ⟨rfl, b3⟩
  rw [vV_mk]
  have B3 := hid (B2.out.trans (b3.mono B2.out.size))
  clear b3 B2
  go_wp2_with fail
  refine (atomv_any bSeen _).mono ?_
  rintro e w4 ⟨rfl, b4⟩
  rw [vV_mk]
  have B4 := hid (B3.out.trans (b4.mono B3.out.size))
  clear b4 B3
  have D4 := hid (builtV w4 [(⟨2, bSeen, 0, (none, 0, 0), (none, 0, 0)⟩, aV bSeen)] 1 rfl (by decide) #[.int .i64 2, .string (str bSeen), .int .i64 0, .slice none 0 0, .slice none 0 0] rfl (by intro p hp; simp at hp; subst hp; exact VAt.plain _ _ _ _ _))
  have C5 := list_any _ _ _ D4.out ⟨num_plain 2 bSeen 0 i64_0 (by decide), trivial⟩ (by decide) (by decide)
  clear D4
  go_wp2_with fail
  refine C5.mono ?_
  rintro e w5 ⟨⟨k1, x1, n1, ⟨ka1, kb1, kc1⟩, ⟨fa1, fb1, fc1⟩⟩, rfl, v5, b5⟩
  rw [vV_mk]
  have B5 := hid ((B4.out.trans ((al _ _).mono B4.out.size)).trans (b5.mono (Nat.le_trans B4.out.size (al _ _).size)))
  have V5 := hid v5.top
  clear b5 v5 C5 B4
  have F5 := hid (built eI w5 [0] 1 rfl (by decide) #[.int .i64 0] rfl)
  go_wp2_with fail
  refine (atomv_any bTEXT _).mono ?_
  rintro e w6 ⟨rfl, b6⟩
  rw [vV_mk]
  have A6 : Hid (Below w5.heap.size w5 w6) := (al _ _).trans (b6.mono (al _ _).size)
  have F6 := hid (F5.out.up b6)
  have B6 := hid (B5.out.trans (A6.out.mono B5.out.size))
  have V6 := hid (V5.out.up A6.out)
  clear b6 F5 V5 B5 A6
  have D6 := hid (builtV w6 [(⟨2, bTEXT, 0, (none, 0, 0), (none, 0, 0)⟩, aV bTEXT)] 1 rfl (by decide) #[.int .i64 2, .string (str bTEXT), .int .i64 0, .slice none 0 0, .slice none 0 0] rfl (by intro p hp; simp at hp; subst hp; exact VAt.plain _ _ _ _ _))
  have C7 := sect_any _ bBODY _ _ [0] [aV bTEXT] (F6.out.up (al w6 (.cells #[.int .i64 2, .string (str bTEXT), .int .i64 0, .slice none 0 0, .slice none 0 0] 43))) D6.out ⟨num_plain 2 bTEXT 0 i64_0 (by decide), trivial⟩ (by decide) (by decide) (by decide)
  clear D6 F6
  go_wp2_with fail
  refine C7.mono ?_
  rintro e w7 ⟨⟨k2, x2, n2, ⟨ka2, kb2, kc2⟩, ⟨fa2, fb2, fc2⟩⟩, rfl, v7, b7⟩
  rw [vV_mk]
  have A7 : Hid (Below w6.heap.size w6 w7) := (al _ _).trans (b7.mono (al _ _).size)
  have V7 := hid (V6.out.up A7.out)
  have S7 := hid v7.top
  have B7 := hid (B6.out.trans (A7.out.mono B6.out.size))
  clear b7 v7 C7 V6 B6 A7
  go_wp2_with fail
  refine (textv_any [97] _).mono ?_
  rintro e w8 ⟨rfl, b8⟩
  rw [vV_mk]
  have B8 := hid (B7.out.trans (b8.mono B7.out.size))
  have V8 := hid (V7.out.up b8)
  have S8 := hid (S7.out.up b8)
  clear b8 V7 S7 B7
  have D8 := hid (builtV w8 [(⟨2, bFLAGS, 0, (none, 0, 0), (none, 0, 0)⟩, aV bFLAGS), (⟨k1, x1, n1, (ka1, kb1, kc1), (fa1, fb1, fc1)⟩, lV' [aV bSeen]), (⟨k2, x2, n2, (ka2, kb2, kc2), (fa2, fb2, fc2)⟩, exS), (⟨3, [97], 0, (none, 0, 0), (none, 0, 0)⟩, tV [97])] 4 rfl (by simp)
    #[.int .i64 2, .string (str bFLAGS), .int .i64 0, .slice none 0 0, .slice none 0 0, .int .i64 k1, .string (str x1), .int .i64 n1, .slice ka1 kb1 kc1, .slice fa1 fb1 fc1, .int .i64 k2, .string (str x2), .int .i64 n2, .slice ka2 kb2 kc2, .slice fa2 fb2 fc2, .int .i64 3, .string (str [97]), .int .i64 0, .slice none 0 0, .slice none 0 0] rfl
    (by
      intro p hp
      simp only [List.mem_cons, List.not_mem_nil, or_false] at hp
      rcases hp with rfl | rfl | rfl | rfl
      · exact VAt.plain _ _ _ _ _
      · exact V8.out
      · exact S8.out
      · exact VAt.plain _ _ _ _ _))
  have C9 := list_any _ _ [aV bFLAGS, lV' [aV bSeen], exS, tV [97]] D8.out exL_num (by decide) (by decide)
  clear D8 V8 S8
  go_wp2_with fail
  refine C9.mono ?_
  rintro e w9 ⟨⟨k3, x3, n3, ⟨ka3, kb3, kc3⟩, ⟨fa3, fb3, fc3⟩⟩, rfl, v9, b9⟩
  rw [vV_mk]
  have B9 := hid ((B8.out.trans ((al _ _).mono B8.out.size)).trans (b9.mono (Nat.le_trans B8.out.size (al _ _).size)))
  have V9 := hid v9.top
  clear b9 v9 C9 B8
  have D9 := hid (builtV w9 [(⟨1, [], 3, (none, 0, 0), (none, 0, 0)⟩, nV 3), (⟨2, bFETCH, 0, (none, 0, 0), (none, 0, 0)⟩, aV bFETCH), (⟨k3, x3, n3, (ka3, kb3, kc3), (fa3, fb3, fc3)⟩, exL)] 3 rfl (by simp)
    #[.int .i64 1, .string (str []), .int .i64 3, .slice none 0 0, .slice none 0 0, .int .i64 2, .string (str bFETCH), .int .i64 0, .slice none 0 0, .slice none 0 0, .int .i64 k3, .string (str x3), .int .i64 n3, .slice ka3 kb3 kc3, .slice fa3 fb3 fc3] rfl
    (by
      intro p hp
      simp only [List.mem_cons, List.not_mem_nil, or_false] at hp
      rcases hp with rfl | rfl | rfl
      · exact VAt.plain _ _ _ _ _
      · exact VAt.plain _ _ _ _ _
      · exact V9.out))
  have s9 : (w9.alloc (.cells #[.int .i64 1, .string (str []), .int .i64 3, .slice none 0 0, .slice none 0 0, .int .i64 2, .string (str bFETCH), .int .i64 0, .slice none 0 0, .slice none 0 0, .int .i64 k3, .string (str x3), .int .i64 n3, .slice ka3 kb3 kc3, .slice fa3 fb3 fc3] 43)).heap.size = w9.heap.size + 1 := by simp
  have L9 : Hid (L5 ((w9.alloc (.cells #[.int .i64 1, .string (str []), .int .i64 3, .slice none 0 0, .slice none 0 0, .int .i64 2, .string (str bFETCH), .int .i64 0, .slice none 0 0, .slice none 0 0, .int .i64 k3, .string (str x3), .int .i64 n3, .slice ka3 kb3 kc3, .slice fa3 fb3 fc3] 43)).alloc (.cells #[.string ⟨#[42]⟩, .slice (some ⟨w9.heap.size, 0, none⟩) 3 3, .string ⟨#[]⟩, .slice none 0 0, .string ⟨#[]⟩] 28)) (w9.heap.size + 1) ⟨[42], (some ⟨w9.heap.size, 0, none⟩, 3, 3), [], (none, 0, 0), []⟩) := by
    have := L5.new (w9.alloc (.cells #[.int .i64 1, .string (str []), .int .i64 3, .slice none 0 0, .slice none 0 0, .int .i64 2, .string (str bFETCH), .int .i64 0, .slice none 0 0, .slice none 0 0, .int .i64 k3, .string (str x3), .int .i64 n3, .slice ka3 kb3 kc3, .slice fa3 fb3 fc3] 43)) ⟨[42], (some ⟨w9.heap.size, 0, none⟩, 3, 3), [], (none, 0, 0), []⟩
    rw [s9] at this
    exact this
  have D9b : Hid (VsAt ((w9.alloc (.cells #[.int .i64 1, .string (str []), .int .i64 3, .slice none 0 0, .slice none 0 0, .int .i64 2, .string (str bFETCH), .int .i64 0, .slice none 0 0, .slice none 0 0, .int .i64 k3, .string (str x3), .int .i64 n3, .slice ka3 kb3 kc3, .slice fa3 fb3 fc3] 43)).alloc (.cells #[.string ⟨#[42]⟩, .slice (some ⟨w9.heap.size, 0, none⟩) 3 3, .string ⟨#[]⟩, .slice none 0 0, .string ⟨#[]⟩] 28)) (· < ((w9.alloc (.cells #[.int .i64 1, .string (str []), .int .i64 3, .slice none 0 0, .slice none 0 0, .int .i64 2, .string (str bFETCH), .int .i64 0, .slice none 0 0, .slice none 0 0, .int .i64 k3, .string (str x3), .int .i64 n3, .slice ka3 kb3 kc3, .slice fa3 fb3 fc3] 43)).alloc (.cells #[.string ⟨#[42]⟩, .slice (some ⟨w9.heap.size, 0, none⟩) 3 3, .string ⟨#[]⟩, .slice none 0 0, .string ⟨#[]⟩] 28)).heap.size) (.slice (some ⟨w9.heap.size, 0, none⟩) 3 3) [nV 3, aV bFETCH, exL]) := D9.out.up (al _ _)
  have B9b : Hid (Below w.heap.size w ((w9.alloc (.cells #[.int .i64 1, .string (str []), .int .i64 3, .slice none 0 0, .slice none 0 0, .int .i64 2, .string (str bFETCH), .int .i64 0, .slice none 0 0, .slice none 0 0, .int .i64 k3, .string (str x3), .int .i64 n3, .slice ka3 kb3 kc3, .slice fa3 fb3 fc3] 43)).alloc (.cells #[.string ⟨#[42]⟩, .slice (some ⟨w9.heap.size, 0, none⟩) 3 3, .string ⟨#[]⟩, .slice none 0 0, .string ⟨#[]⟩] 28))) := B9.out.trans (((al _ _).trans ((al _ _).mono (by rw [s9]; omega))).mono B9.out.size)
  clear s9 D9 V9 B9
  go_wp2_with fail
  refine (atomv_any bRW ((w9.alloc (.cells #[.int .i64 1, .string (str []), .int .i64 3, .slice none 0 0, .slice none 0 0, .int .i64 2, .string (str bFETCH), .int .i64 0, .slice none 0 0, .slice none 0 0, .int .i64 k3, .string (str x3), .int .i64 n3, .slice ka3 kb3 kc3, .slice fa3 fb3 fc3] 43)).alloc (.cells #[.string ⟨#[42]⟩, .slice (some ⟨w9.heap.size, 0, none⟩) 3 3, .string ⟨#[]⟩, .slice none 0 0, .string ⟨#[]⟩] 28))).mono ?_
  rintro e w10 ⟨rfl, b10⟩
  rw [vV_mk]
  have LA := hid (L9.out.later b10)
  have VA := hid (D9b.out.up b10)
  have BA := hid (B9b.out.trans (b10.mono B9b.out.size))
  have HltA : Hid (w9.heap.size + 1 < w10.heap.size) := LA.out.lt
  clear b10 L9 D9b B9b
  generalize w9.heap.size = q9 at *
  have D10 := hid (builtV w10 [(⟨2, bRW, 0, (none, 0, 0), (none, 0, 0)⟩, aV bRW)] 1 rfl (by decide) #[.int .i64 2, .string (str bRW), .int .i64 0, .slice none 0 0, .slice none 0 0] rfl (by intro p hp; simp at hp; subst hp; exact VAt.plain _ _ _ _ _))
  have s10 : (w10.alloc (.cells #[.int .i64 2, .string (str bRW), .int .i64 0, .slice none 0 0, .slice none 0 0] 43)).heap.size = w10.heap.size + 1 := by simp
  have s11 : ((w10.alloc (.cells #[.int .i64 2, .string (str bRW), .int .i64 0, .slice none 0 0, .slice none 0 0] 43)).alloc (.cells #[.string ⟨#[97, 49]⟩, .slice none 0 0, .string ⟨#[79, 75]⟩, .slice (some ⟨w10.heap.size, 0, none⟩) 1 1, .string ⟨#[100, 111, 110, 101]⟩] 28)).heap.size = w10.heap.size + 2 := by simp
  have H2 : Hid (Below w10.heap.size w10 ((w10.alloc (.cells #[.int .i64 2, .string (str bRW), .int .i64 0, .slice none 0 0, .slice none 0 0] 43)).alloc (.cells #[.string ⟨#[97, 49]⟩, .slice none 0 0, .string ⟨#[79, 75]⟩, .slice (some ⟨w10.heap.size, 0, none⟩) 1 1, .string ⟨#[100, 111, 110, 101]⟩] 28))) := (al _ _).trans ((al _ _).mono (by rw [s10]; omega))
  have LB : Hid (L5 ((w10.alloc (.cells #[.int .i64 2, .string (str bRW), .int .i64 0, .slice none 0 0, .slice none 0 0] 43)).alloc (.cells #[.string ⟨#[97, 49]⟩, .slice none 0 0, .string ⟨#[79, 75]⟩, .slice (some ⟨w10.heap.size, 0, none⟩) 1 1, .string ⟨#[100, 111, 110, 101]⟩] 28)) (w10.heap.size + 1) ⟨[97, 49], (none, 0, 0), [79, 75], (some ⟨w10.heap.size, 0, none⟩, 1, 1), [100, 111, 110, 101]⟩) := by
    have := L5.new (w10.alloc (.cells #[.int .i64 2, .string (str bRW), .int .i64 0, .slice none 0 0, .slice none 0 0] 43)) ⟨[97, 49], (none, 0, 0), [79, 75], (some ⟨w10.heap.size, 0, none⟩, 1, 1), [100, 111, 110, 101]⟩
    rw [s10] at this
    exact this
  have LA2 := hid (LA.out.later H2.out)
  obtain ⟨xa0, xa1, xa2, xa3, xa4⟩ := LA2.out.cs
  obtain ⟨xb0, xb1, xb2, xb3, xb4⟩ := LB.out.cs
  simp only [Sl.v] at xa1 xa3 xb1 xb3
  have NA : Hid (LnAt ((w10.alloc (.cells #[.int .i64 2, .string (str bRW), .int .i64 0, .slice none 0 0, .slice none 0 0] 43)).alloc (.cells #[.string ⟨#[97, 49]⟩, .slice none 0 0, .string ⟨#[79, 75]⟩, .slice (some ⟨w10.heap.size, 0, none⟩) 1 1, .string ⟨#[100, 111, 110, 101]⟩] 28)) (· < ((w10.alloc (.cells #[.int .i64 2, .string (str bRW), .int .i64 0, .slice none 0 0, .slice none 0 0] 43)).alloc (.cells #[.string ⟨#[97, 49]⟩, .slice none 0 0, .string ⟨#[79, 75]⟩, .slice (some ⟨w10.heap.size, 0, none⟩) 1 1, .string ⟨#[100, 111, 110, 101]⟩] 28)).heap.size) ⟨[42], (some ⟨q9, 0, none⟩, 3, 3), [], (none, 0, 0), []⟩ exA) := ⟨rfl, rfl, rfl, VA.out.up H2.out, VsAt.nil _ _⟩
  have NB : Hid (LnAt ((w10.alloc (.cells #[.int .i64 2, .string (str bRW), .int .i64 0, .slice none 0 0, .slice none 0 0] 43)).alloc (.cells #[.string ⟨#[97, 49]⟩, .slice none 0 0, .string ⟨#[79, 75]⟩, .slice (some ⟨w10.heap.size, 0, none⟩) 1 1, .string ⟨#[100, 111, 110, 101]⟩] 28)) (· < ((w10.alloc (.cells #[.int .i64 2, .string (str bRW), .int .i64 0, .slice none 0 0, .slice none 0 0] 43)).alloc (.cells #[.string ⟨#[97, 49]⟩, .slice none 0 0, .string ⟨#[79, 75]⟩, .slice (some ⟨w10.heap.size, 0, none⟩) 1 1, .string ⟨#[100, 111, 110, 101]⟩] 28)).heap.size) ⟨[97, 49], (none, 0, 0), [79, 75], (some ⟨w10.heap.size, 0, none⟩, 1, 1), [100, 111, 110, 101]⟩ exB) := ⟨rfl, rfl, rfl, VsAt.nil _ _, D10.out.up (al _ _)⟩
  have BB := hid (BA.out.trans (H2.out.mono BA.out.size))
  clear D10 VA LA H2 BA s10
  have ls0 := builtL ((w10.alloc (.cells #[.int .i64 2, .string (str bRW), .int .i64 0, .slice none 0 0, .slice none 0 0] 43)).alloc (.cells #[.string ⟨#[97, 49]⟩, .slice none 0 0, .string ⟨#[79, 75]⟩, .slice (some ⟨w10.heap.size, 0, none⟩) 1 1, .string ⟨#[100, 111, 110, 101]⟩] 28)) [(⟨[42], (some ⟨q9, 0, none⟩, 3, 3), [], (none, 0, 0), []⟩, exA), (⟨[97, 49], (none, 0, 0), [79, 75], (some ⟨w10.heap.size, 0, none⟩, 1, 1), [100, 111, 110, 101]⟩, exB)] 2 rfl (by simp) #[.string (str [42]), .slice (some ⟨q9, 0, none⟩) 3 3, .string (str []), .slice none 0 0, .string (str []), .string (str [97, 49]), .slice none 0 0, .string (str [79, 75]), .slice (some ⟨w10.heap.size, 0, none⟩) 1 1, .string (str [100, 111, 110, 101])] rfl
    (by
      intro p hp
      simp only [List.mem_cons, List.not_mem_nil, or_false] at hp
      rcases hp with rfl | rfl
      · exact NA.out
      · exact NB.out)
  rw [s11] at ls0
  have hnum : ∀ l ∈ [exA, exB], NumN l := by
    intro l hl
    simp only [List.mem_cons, List.not_mem_nil, or_false] at hl
    rcases hl with rfl | rfl
    · exact exA_num
    · exact exB_num
  have HNum := hid hnum
  have CP := print_any (((w10.alloc (.cells #[.int .i64 2, .string (str bRW), .int .i64 0, .slice none 0 0, .slice none 0 0] 43)).alloc (.cells #[.string ⟨#[97, 49]⟩, .slice none 0 0, .string ⟨#[79, 75]⟩, .slice (some ⟨w10.heap.size, 0, none⟩) 1 1, .string ⟨#[100, 111, 110, 101]⟩] 28)).alloc (.cells #[.string (str [42]), .slice (some ⟨q9, 0, none⟩) 3 3, .string (str []), .slice none 0 0, .string (str []), .string (str [97, 49]), .slice none 0 0, .string (str [79, 75]), .slice (some ⟨w10.heap.size, 0, none⟩) 1 1, .string (str [100, 111, 110, 101])] 28)) _ [exA, exB] (HE.out.later (BB.out.trans ((al _ _).mono BB.out.size))) ls0 hnum (by simp) (by rw [ex_text]; decide)
  rw [ex_print] at CP
  have BC := hid (BB.out.trans ((al ((w10.alloc (.cells #[.int .i64 2, .string (str bRW), .int .i64 0, .slice none 0 0, .slice none 0 0] 43)).alloc (.cells #[.string ⟨#[97, 49]⟩, .slice none 0 0, .string ⟨#[79, 75]⟩, .slice (some ⟨w10.heap.size, 0, none⟩) 1 1, .string ⟨#[100, 111, 110, 101]⟩] 28)) (.cells #[.string (str [42]), .slice (some ⟨q9, 0, none⟩) 3 3, .string (str []), .slice none 0 0, .string (str []), .string (str [97, 49]), .slice none 0 0, .string (str [79, 75]), .slice (some ⟨w10.heap.size, 0, none⟩) 1 1, .string (str [100, 111, 110, 101])] 28)).mono BB.out.size))
  have LA3 := hid (LA2.out.later (al _ (.cells #[.string (str [42]), .slice (some ⟨q9, 0, none⟩) 3 3, .string (str []), .slice none 0 0, .string (str []), .string (str [97, 49]), .slice none 0 0, .string (str [79, 75]), .slice (some ⟨w10.heap.size, 0, none⟩) 1 1, .string (str [100, 111, 110, 101])] 28)))
  have LB3 := hid (LB.out.later (al _ (.cells #[.string (str [42]), .slice (some ⟨q9, 0, none⟩) 3 3, .string (str []), .slice none 0 0, .string (str []), .string (str [97, 49]), .slice none 0 0, .string (str [79, 75]), .slice (some ⟨w10.heap.size, 0, none⟩) 1 1, .string (str [100, 111, 110, 101])] 28)))
  have NA3 := hid (NA.out.up (al _ (.cells #[.string (str [42]), .slice (some ⟨q9, 0, none⟩) 3 3, .string (str []), .slice none 0 0, .string (str []), .string (str [97, 49]), .slice none 0 0, .string (str [79, 75]), .slice (some ⟨w10.heap.size, 0, none⟩) 1 1, .string (str [100, 111, 110, 101])] 28)))
  have NB3 := hid (NB.out.up (al _ (.cells #[.string (str [42]), .slice (some ⟨q9, 0, none⟩) 3 3, .string (str []), .slice none 0 0, .string (str []), .string (str [97, 49]), .slice none 0 0, .string (str [79, 75]), .slice (some ⟨w10.heap.size, 0, none⟩) 1 1, .string (str [100, 111, 110, 101])] 28)))
  clear ls0 hnum LA2 LB NA NB BB
  go_wp2_with fail
  refine CP.mono ?_
  rintro e w11 ⟨rfl, b11⟩
  have LA4 := hid (LA3.out.later b11)
  have LB4 := hid (LB3.out.later b11)
  have NA4 := hid (NA3.out.up b11)
  have NB4 := hid (NB3.out.up b11)
  have BD := hid (BC.out.trans (b11.mono BC.out.size))
  clear b11 CP LA3 LB3 NA3 NB3 BC xa0 xa1 xa2 xa3 xa4 xb0 xb1 xb2 xb3 xb4
  generalize w10.heap.size = q10 at *
  have CPa := parse_any w11 exT (HE.out.later BD.out) (by decide) (fun l hl => by
    rw [ex_lines] at hl
    simp only [Option.some.injEq] at hl
    subst hl
    exact ⟨by simp, HNum.out, by rw [ex_text]; decide⟩)
  rw [ex_parse] at CPa
  go_wp2_with fail
  refine CPa.mono ?_
  rintro e w12 ⟨u, rfl, hls, b12⟩
  obtain ⟨ua, uc, rfl, _⟩ := hls.slice
  have LA5 := hid (LA4.out.later b12)
  have LB5 := hid (LB4.out.later b12)
  have NA5 := hid (NA4.out.up b12)
  have NB5 := hid (NB4.out.up b12)
  have LS5 := hid (hls.mono (N' := (· < w12.heap.size)) (fun q hq _ => hq))
  have BE := hid (BD.out.trans (b12.mono BD.out.size))
  clear b12 CPa LA4 LB4 NA4 NB4 BD hls
  obtain ⟨xa0, xa1, xa2, xa3, xa4⟩ := LA5.out.cs
  obtain ⟨xb0, xb1, xb2, xb3, xb4⟩ := LB5.out.cs
  simp only [Sl.v] at xa1 xa3 xb1 xb3
  have CN := no_any 0 w12
  simp only [paN, paL, Option.getD_some] at *
  have gT : (str exT).toList = ([42, 32, 51, 32, 70, 69, 84, 67, 72, 32, 40, 70, 76, 65, 71, 83, 32, 40, 92, 83, 101, 101, 110, 41, 32, 66, 79, 68, 89, 91, 84, 69, 88, 84, 93, 60, 48, 62, 32, 34, 97, 34, 41, 13, 10, 97, 49, 32, 79, 75, 32, 91, 82, 69, 65, 68, 45, 87, 82, 73, 84, 69, 93, 32, 100, 111, 110, 101, 13, 10] : Bs) := by rw [toL]; rfl
  have ls5 := builtL w12 [(⟨[42], (some ⟨q9, 0, none⟩, 3, 3), [], (none, 0, 0), []⟩, exA), (⟨[97, 49], (none, 0, 0), [79, 75], (some ⟨q10, 0, none⟩, 1, 1), [100, 111, 110, 101]⟩, exB)] 2 rfl (by simp) #[.string (str [42]), .slice (some ⟨q9, 0, none⟩) 3 3, .string (str []), .slice none 0 0, .string (str []), .string (str [97, 49]), .slice none 0 0, .string (str [79, 75]), .slice (some ⟨q10, 0, none⟩) 1 1, .string (str [100, 111, 110, 101])] rfl
    (by
      intro p hp
      simp only [List.mem_cons, List.not_mem_nil, or_false] at hp
      rcases hp with rfl | rfl
      · exact NA5.out
      · exact NB5.out)
  have CS := same_any (w12.alloc (.cells #[.string (str [42]), .slice (some ⟨q9, 0, none⟩) 3 3, .string (str []), .slice none 0 0, .string (str []), .string (str [97, 49]), .slice none 0 0, .string (str [79, 75]), .slice (some ⟨q10, 0, none⟩) 1 1, .string (str [100, 111, 110, 101])] 28)) _ _ _ _ [exA, exB] (LS5.out.up (al w12 (.cells #[.string (str [42]), .slice (some ⟨q9, 0, none⟩) 3 3, .string (str []), .slice none 0 0, .string (str []), .string (str [97, 49]), .slice none 0 0, .string (str [79, 75]), .slice (some ⟨q10, 0, none⟩) 1 1, .string (str [100, 111, 110, 101])] 28))) ls5 HNum.out (by simp)
  have BF := hid (BE.out.trans ((al w12 (.cells #[.string (str [42]), .slice (some ⟨q9, 0, none⟩) 3 3, .string (str []), .slice none 0 0, .string (str []), .string (str [97, 49]), .slice none 0 0, .string (str [79, 75]), .slice (some ⟨q10, 0, none⟩) 1 1, .string (str [100, 111, 110, 101])] 28)).mono BE.out.size))
  clear ls5 LA5 LB5 NA5 NB5 LS5 BE
  go_wp2_with fail
  refine CN.mono ?_
  rintro e w13 ⟨rfl, rfl⟩
  go_wp2_with fail
  refine CS.mono ?_
  rintro e w14 ⟨rfl, b14⟩
  have BG := hid (BF.out.trans (b14.mono BF.out.size))
  clear b14 CS BF CN xa0 xa1 xa2 xa3 xa4 xb0 xb1 xb2 xb3 xb4
  go_wp2_with fail
  go_ret
  refine ⟨?_, BG.out⟩
  simp [gT]
end Go.Proofs.YtpjcpdnolcehcaaGreatDoor
