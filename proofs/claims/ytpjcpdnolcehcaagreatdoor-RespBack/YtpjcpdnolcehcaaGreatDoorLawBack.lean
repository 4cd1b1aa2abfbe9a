/- Proved here: right lines are read as they were, and what is read is told so (RespBack returns true for every input, and leaves its arguments as they were). No condition beyond what the card says: five tables and two errors of the library hold what its text lays. -/
import Derived.Test.YtpjcpdnolcehcaaGreatDoorCards
import Derived.Test.YtpjcpdnolcehcaaGreatDoorTie
import Derived.Test.YtpjcpdnolcehcaaGreatDoorM35
import Derived.Test.YtpjcpdnolcehcaaGreatDoorM37
import Derived.Test.YtpjcpdnolcehcaaGreatDoorP8
import Derived.Test.YtpjcpdnolcehcaaGreatDoorFrame2
import Derived.ProofKit
import Derived.OpenShut
import Derived.ShutString
import Derived.Below
namespace Go.Proofs.YtpjcpdnolcehcaaGreatDoor.respBack
open Go.ChangeShapes Go.WideShapes Go.ChangeAt Go.RowKit
open Go.ChangeMaps (open_string shut_string)
set_option linter.unusedVariables false
set_option linter.unusedSimpArgs false

theorem all_take (ls : List Ln) (k : Nat) (x : Ln) (h : ls[k]? = some x) : (ls.take (k + 1)).all lineB = ((ls.take k).all lineB && lineB x) := by
  rw [List.take_add_one, h, List.all_append]
  simp
theorem print_any_of (ls : List Ln) (h : ls.all lineB = false) : printP ls = [] := by
  unfold printP
  rw [if_neg (by rw [h]; decide)]
theorem lines_nil : linesP (([] : Bs).length + 1) [] = some [] := rfl
theorem parse_nil : parseP [] = some [] := by
  unfold parseP
  rw [lines_nil]
  rfl
/-- What is told of right lines is read so. -/
theorem told_read (ls : List Ln) (hn : ∀ l ∈ ls, NumN l) (h : ls.all lineB = true) : linesP ((printP ls).length + 1) (printP ls) = some ls ∧ parseP (printP ls) = some ls := by
  rw [List.all_eq_true] at h
  have := parse_back ls (fun l hl => ⟨h l hl, hn l hl⟩)
  refine ⟨this.1, ?_⟩
  unfold parseP
  rw [this.1]
  simp
theorem parse_some {s : Bs} {ls : List Ln} (h : parseP s = some ls) : linesP (s.length + 1) s = some ls ∧ printP ls = s := by
  unfold parseP at h
  split at h
  · cases h
  · rename_i l hl
    split at h
    · rename_i hp
      cases h
      exact ⟨hl, hp⟩
    · cases h
/-- What a reading of a text that is not too long is. -/
theorem parse_of (w : World) (s : Bs) (hE : Env w) (hs : s.length ≤ 1000000) : Calls Tryz.prog 15 #[.string (str s)] w (PaIs (parseP s) w) :=
  parse_any w s hE (by omega) (fun l hl => read_small hs hl)
set_option maxRecDepth 100000 in
set_option maxHeartbeats 8000000 in
theorem walkB (w : World) (u : Value) (ls : List Ln) (s : Bs) (hE : Env w) (hu : LsAt w (· < w.heap.size) u ls) (hf : ∀ l ∈ ls, FitN l) (hl : ls.length ≤ maxLen) (hs : s.length ≤ maxLen) :
    Calls Tryz.prog 5 #[u, .string (str s)] w (Bo true w) := by
  have hsz := str_size s
  have CW := few_any w _ u ls hu hf hl
  have HE := hid hE
  rcases hfb : fewB ls with _ | _
  · rw [hfb] at CW
    clear hu hf hl hs hfb
    clear hE
    go_enter Tryz.func5, Tryz.ntmps5
    go_wp2_with fail
    refine CW.mono ?_
    rintro e w1 ⟨rfl, b1⟩
    have B1 := hid b1
    clear b1 CW
    go_wp2_with fail
    refine (alive_any _ (HE.out.later B1.out)).mono ?_
    rintro e w2 ⟨rfl, b2⟩
    have B2 := hid (B1.out.trans (b2.mono B1.out.size))
    clear b2
    go_wp2_with fail
    go_ret
    exact ⟨rfl, B2.out⟩
  by_cases hs3 : (3000 : Int) < s.length
  · rw [hfb] at CW
    clear hu hf hl hs hfb
    clear hE
    go_enter Tryz.func5, Tryz.ntmps5
    go_wp2_with fail
    refine CW.mono ?_
    rintro e w1 ⟨rfl, b1⟩
    have B1 := hid b1
    clear b1 CW
    go_wp2_with fail
    refine (alive_any _ (HE.out.later B1.out)).mono ?_
    rintro e w2 ⟨rfl, b2⟩
    have B2 := hid (B1.out.trans (b2.mono B1.out.size))
    clear b2
    go_wp2_with fail
    go_ret
    exact ⟨rfl, B2.out⟩
  rw [hfb] at CW
  obtain ⟨hlen, hmas, hnum, hflat⟩ := few_use hfb hf
  obtain ⟨rows, hv, rfl, hrow⟩ := id hu
  obtain ⟨a, c, rfl, hc⟩ := hv.slice
  have HU := hid hu
  have HV := hid hv
  have HR := hid hrow
  have HN := hid hnum
  have HS3 : Hid (s.length ≤ 1000000) := by unfold Hid; omega
  have hpl : (printP (rows.map (·.2))).length ≤ 300400 := by
    unfold printP
    split
    · exact hflat
    · simp
  have CP := hid (fun (w' : World) (hW : Below w.heap.size w w') => print_any w' _ (rows.map (·.2)) (hE.later hW) (hu.up hW) hnum (by omega) (by omega))
  have CR := hid (fun (w' : World) (hW : Below w.heap.size w w') => parse_of w' (printP (rows.map (·.2))) (hE.later hW) (by omega))
  have CS := hid (fun (w' : World) (hW : Below w.heap.size w w') => parse_of w' s (hE.later hW) HS3.out)
  have CA := hid (fun (w' : World) (hW : Below w.heap.size w w') => alive_any w' (hE.later hW))
  have HSame := hid (fun (w' : World) (hW : Below w.heap.size w w') (u' : Value) (N' : Nat → Prop) (hu' : LsAt w' N' u' (rows.map (·.2))) => same_any w' _ N' _ u' _ (hu.later hW) hu' hnum (by omega))
  have HPL := hid hpl
  simp only [List.length_map] at hc hlen CW CP HSame ⊢
  clear hE hu hf hl hs hfb hmas hnum hflat hv hrow hpl
  go_enter Tryz.func5, Tryz.ntmps5
  go_wp2_with fail
  refine CW.mono ?_
  rintro e w1 ⟨rfl, b1⟩
  have B1 := hid b1
  clear b1 CW
  go_wp2_with fail
  go_loopw [5, 23] (fun q i wr => ∃ k : Nat, k ≤ rows.length ∧ i = .int .i64 k ∧ q = .bool (((rows.map (·.2)).take k).all lineB) ∧ Below w.heap.size w wr) (fun _ i _ => rows.length - (intOf i).toNat)
  case atStart => exact ⟨0, by omega, rfl, by simp, B1.out⟩
  case round =>
    obtain ⟨k, hk, rfl, rfl, h2⟩ := hrel
    have H2 := hid h2
    clear h2
    by_cases hlt : k < rows.length
    · have hlt' : (k : Int) < rows.length := by omega
      have hne : rows.map (·.1) ≠ [] := by intro e; have := congrArg List.length e; simp at this; subst this; simp at hlt
      obtain ⟨g, o, c', he, hc', hga, hN, hg⟩ := (HV.out.low H2.out).at_ hne
      simp only [Value.slice.injEq] at he
      obtain ⟨rfl, hlen2, rfl⟩ := he
      clear hlen2
      obtain ⟨p, hpk⟩ : ∃ p, rows[k] = p := ⟨_, rfl⟩
      have e1 : rows[k]? = some p := by rw [List.getElem?_eq_getElem hlt, hpk]
      have hp := HR.out rows[k] (List.getElem_mem hlt)
      have hc5 := hga.l k rows[k].1 (by rw [List.getElem?_map, List.getElem?_eq_getElem hlt]; rfl)
      rw [hpk] at hp hc5
      have hxm : p.2 ∈ rows.map (·.2) := by rw [← hpk]; exact List.mem_map_of_mem (List.getElem_mem hlt)
      have hnext := all_take (rows.map (·.2)) k p.2 (by rw [List.getElem?_map, e1]; rfl)
      have HNext := hid hnext
      obtain ⟨⟨rt, ⟨va, vb, vc⟩, rs, ⟨ca, cb, cc⟩, rx⟩, x⟩ := p
      obtain ⟨c0, c1, c2, c3, c4⟩ := hc5
      simp only [Sl.v] at c1 c3 hxm
      have CQ := right_any wr _ ⟨rt, (va, vb, vc), rs, (ca, cb, cc), rx⟩ x (hp.low H2.out) (HN.out x hxm)
      rw [lV_mk] at CQ
      clear hga hp hxm hpk e1 hnext hc'
      obtain ⟨q, hb⟩ : ∃ q, ((rows.map (·.2)).take k).all lineB = q := ⟨_, rfl⟩
      rw [hb]
      cases q
      · have HB := hid hb
        clear hb
        go_wp2_with fail
        go_round
        case rel => exact ⟨k + 1, by omega, by go_num, by rw [HNext.out, HB.out]; rfl, H2.out⟩
        case measure => simp [intOf]; omega
      · have HB := hid hb
        clear hb
        go_wp2_with fail
        refine CQ.mono ?_
        rintro e w2 ⟨rfl, b2⟩
        have B2 := hid (H2.out.trans (b2.mono H2.out.size))
        clear b2 CQ
        go_wp2_with fail
        go_round
        case rel => exact ⟨k + 1, by omega, by go_num, by rw [HNext.out, HB.out]; rfl, B2.out⟩
        case measure => simp [intOf]; omega
    · have hlt' : ¬ (k : Int) < rows.length := by omega
      have HT : ((rows.map (·.2)).take k) = rows.map (·.2) := List.take_of_length_le (by rw [List.length_map]; omega)
      rw [HT]
      clear HT
      have D1 := CP.out wr H2.out
      obtain ⟨q, hb⟩ : ∃ q, (rows.map (·.2)).all lineB = q := ⟨_, rfl⟩
      rw [hb]
      cases q
      · have hpn := print_any_of _ hb
        have HX : Hid (parseP (printP (rows.map (·.2))) = some []) := by rw [hpn]; exact parse_nil
        rw [hpn] at D1
        have CR' := CR.out
        rw [HX.out, hpn] at CR'
        have CR2 := hid CR'
        clear CR CR' hb HX HPL
        go_wp2_with fail
        refine D1.mono ?_
        rintro e w2 ⟨rfl, b2⟩
        have B2 := hid (H2.out.trans (b2.mono H2.out.size))
        have D2 := CR2.out w2 B2.out
        clear b2 D1
        go_wp2_with fail
        refine D2.mono ?_
        rintro e w3 ⟨u3, rfl, hls3, b3⟩
        obtain ⟨ua, uc, rfl, _⟩ := hls3.slice
        simp only [paN, paL, Option.getD_some] at *
        have B3 := hid (B2.out.trans (b3.mono B2.out.size))
        clear b3 D2 hls3
        have D3 := CS.out w3 B3.out
        have hse : (str ([] : Bs)).toList.isEmpty = true := by rw [toL]; rfl
        go_wp2_with fail
        rcases hpar : parseP s with _ | ls2
        · rw [hpar] at D3
          refine D3.mono ?_
          rintro e w5 ⟨u5, rfl, hls5, b5⟩
          obtain ⟨ua5, uc5, rfl, _⟩ := hls5.slice
          have B5 := hid (B3.out.trans (b5.mono B3.out.size))
          simp only [paN, paL, Option.getD_none] at *
          have CN := no_any 11 w5
          clear b5 D3 hls5
          go_wp2_with fail
          refine CN.mono ?_
          rintro e w6 ⟨rfl, rfl⟩
          go_wp2_with fail
          refine (no_any 11 _).mono ?_
          rintro e w6 ⟨rfl, rfl⟩
          go_wp2_with fail
          refine (CA.out _ B5.out).mono ?_
          rintro e w6 ⟨rfl, b6⟩
          have B6 := hid (B5.out.trans (b6.mono B5.out.size))
          clear b6
          go_wp2_with fail
          go_ret
          exact ⟨rfl, B6.out⟩
        · rw [hpar] at D3
          have HP2 := hid (parse_some hpar)
          clear hpar
          refine D3.mono ?_
          rintro e w5 ⟨u5, rfl, hls5, b5⟩
          have B5 := hid (B3.out.trans (b5.mono B3.out.size))
          simp only [paN, paL, Option.getD_some] at *
          obtain ⟨r1, r2, r3⟩ := read_small HS3.out HP2.out.1
          have D5 := hid (print_any w5 u5 ls2 (HE.out.later B5.out) (hls5.mono (fun q hq _ => hq)) r2 r1 r3)
          obtain ⟨ua5, uc5, rfl, _⟩ := hls5.slice
          have CN := no_any 0 w5
          clear b5 D3 hls5 r1 r2 r3
          go_wp2_with fail
          refine CN.mono ?_
          rintro e w6 ⟨rfl, rfl⟩
          have D6 := D5.out
          rw [HP2.out.2] at D6
          clear HP2 CN
          go_wp2_with fail
          refine D6.mono ?_
          rintro e w6 ⟨rfl, b6⟩
          have B6 := hid (B5.out.trans (b6.mono B5.out.size))
          clear b6 D6
          go_wp2_with fail
          refine (CA.out _ B6.out).mono ?_
          rintro e w7 ⟨rfl, b7⟩
          have B7 := hid (B6.out.trans (b7.mono B6.out.size))
          clear b7
          go_wp2_with fail
          go_ret
          exact ⟨rfl, B7.out⟩
      · have HX := hid (told_read _ HN.out hb)
        have CR' := CR.out
        rw [HX.out.2] at CR'
        have CR2 := hid CR'
        clear CR CR' hb
        go_wp2_with fail
        refine D1.mono ?_
        rintro e w2 ⟨rfl, b2⟩
        have B2 := hid (H2.out.trans (b2.mono H2.out.size))
        have D2 := CR2.out w2 B2.out
        have hpl := str_size (printP (rows.map (·.2)))
        clear b2 D1 HX
        go_wp2_with fail
        refine D2.mono ?_
        rintro e w3 ⟨u3, rfl, hls3, b3⟩
        obtain ⟨ua, uc, rfl, _⟩ := hls3.slice
        simp only [paN, paL, Option.getD_some] at *
        have B3 := hid (B2.out.trans (b3.mono B2.out.size))
        have DS := HSame.out w3 B3.out _ _ hls3
        simp only [List.length_map] at DS
        have CN := no_any 0 w3
        clear b3 D2 hls3
        go_wp2_with fail
        refine CN.mono ?_
        rintro e w4 ⟨rfl, rfl⟩
        go_wp2_with fail
        refine DS.mono ?_
        rintro e w4 ⟨rfl, b4⟩
        have B4 := hid (B3.out.trans (b4.mono B3.out.size))
        clear b4 DS B3
        have D3 := CS.out w4 B4.out
        go_wp2_with fail
        rcases hpar : parseP s with _ | ls2
        · rw [hpar] at D3
          refine D3.mono ?_
          rintro e w5 ⟨u5, rfl, hls5, b5⟩
          obtain ⟨ua5, uc5, rfl, _⟩ := hls5.slice
          have B5 := hid (B4.out.trans (b5.mono B4.out.size))
          simp only [paN, paL, Option.getD_none] at *
          have CN := no_any 11 w5
          clear b5 D3 hls5
          go_wp2_with fail
          refine CN.mono ?_
          rintro e w6 ⟨rfl, rfl⟩
          go_wp2_with fail
          refine (no_any 11 _).mono ?_
          rintro e w6 ⟨rfl, rfl⟩
          go_wp2_with fail
          refine (CA.out _ B5.out).mono ?_
          rintro e w6 ⟨rfl, b6⟩
          have B6 := hid (B5.out.trans (b6.mono B5.out.size))
          clear b6
          go_wp2_with fail
          go_ret
          exact ⟨rfl, B6.out⟩
        · rw [hpar] at D3
          have HP2 := hid (parse_some hpar)
          clear hpar
          refine D3.mono ?_
          rintro e w5 ⟨u5, rfl, hls5, b5⟩
          have B5 := hid (B4.out.trans (b5.mono B4.out.size))
          simp only [paN, paL, Option.getD_some] at *
          obtain ⟨r1, r2, r3⟩ := read_small HS3.out HP2.out.1
          have D5 := hid (print_any w5 u5 ls2 (HE.out.later B5.out) (hls5.mono (fun q hq _ => hq)) r2 r1 r3)
          obtain ⟨ua5, uc5, rfl, _⟩ := hls5.slice
          have CN := no_any 0 w5
          clear b5 D3 hls5 r1 r2 r3
          go_wp2_with fail
          refine CN.mono ?_
          rintro e w6 ⟨rfl, rfl⟩
          have D6 := D5.out
          rw [HP2.out.2] at D6
          clear HP2 CN
          go_wp2_with fail
          refine D6.mono ?_
          rintro e w6 ⟨rfl, b6⟩
          have B6 := hid (B5.out.trans (b6.mono B5.out.size))
          clear b6 D6
          go_wp2_with fail
          refine (CA.out _ B6.out).mono ?_
          rintro e w7 ⟨rfl, b7⟩
          have B7 := hid (B6.out.trans (b7.mono B6.out.size))
          clear b7
          go_wp2_with fail
          go_ret
          exact ⟨rfl, B7.out⟩
theorem walk {w : World} (ua : Option Addr) (ul uc : Nat) (ls : List Ln) (hu : LinesOk' w ua ul uc ls) (s : ByteArray) (hE : Env w) (hs : s.size ≤ maxLen) :
    Calls Tryz.prog 5 #[.slice ua ul uc, .string s] w fun e w' => e = .returned (.bool true) ∧ Below w.heap.size w w' := by
  obtain ⟨u1, u2, u3, u4⟩ := hu
  have h := walkB w _ ls s.data.toList hE u1 u4 (by omega) (by
    have : s.size = s.data.toList.length := Go.Lib.size_eq s
    omega)
  rw [str_of] at h
  exact h

theorem witness (os : Os) {H : Type} (enc : TypeId × Value → H) :
    (OpenSpec.ofChange Rows.respBackSpec).preRow enc Tryz.prog Tryz.f5 Rows.respBackRow.domain false Rows.respBackRow.laid ((laidWorld os).forCall (fun _ _ => 0) ⟨#[], #[.slice none 0 0, .string ⟨#[]⟩], []⟩).memory #[.slice none 0 0, .string ⟨#[]⟩] := by
  have hw : (DataW.whole enc Tryz.prog ((laidWorld os).forCall (fun _ _ => 0) ⟨#[], #[.slice none 0 0, .string ⟨#[]⟩], []⟩).memory Tryz.f5.params.toList Rows.respBackSpec.vars false (#[.slice none 0 0, .string ⟨#[]⟩] : Array Value).toList 8).map (fun x => (x.1, x.2.1)) =
      some ([.nil, .lit (.string [])], []) := by kernel_rfl
  obtain ⟨⟨x1, x2, x3⟩, hx, hx1⟩ := Option.map_eq_some_iff.1 hw
  simp only [Prod.mk.injEq] at hx1
  obtain ⟨rfl, rfl⟩ := hx1
  exact OpenSpec.preRow_of_cond 8 hx (by kernel_rfl) (fun k hk => by cases hk) (by kernel_rfl) (laid_met os _)

set_option maxRecDepth 100000 in
set_option maxHeartbeats 2000000 in
theorem lifted (os : Os) (started : os.Started) (H : Type) (enc : TypeId × Value → H) (F : Stop.Interp) :
    ReturnsInHanded {} Tryz.checked os 5 .any ((OpenSpec.ofChange Rows.respBackSpec).preRow enc Tryz.prog Tryz.f5 Rows.respBackRow.domain false Rows.respBackRow.laid) (((OpenSpec.ofChange Rows.respBackSpec).at F).post enc Tryz.prog Tryz.f5 false true false false) := by
  refine returnsInHanded_of_row (C := Tryz.checked) (s := OpenSpec.ofChange Rows.respBackSpec) own started (by kernel_rfl) Tryz.func5
    (witness_row_atRef (enc := enc) (C := Tryz.checked) false (laidWorld os) #[.slice none 0 0, .string ⟨#[]⟩] rfl (by kernel_rfl) (by kernel_rfl) (by kernel_rfl) (witness os enc)) ?_
  intro W base args ds gs before hval0 hW _ _ _ hL hsh _
  have hval : ∀ (j : Nat) t v, Tryz.f5.params[j]? = some t → args[j]? = some v → Value.okWide Tryz.prog W .any base t v := hval0
  have hW' := hW
  obtain ⟨p, q, hA0, hV, rfl, hfz, hnd⟩ := hW
  have hA : DataW.TrodAll enc Tryz.prog W 0 (fun _ => true) true Tryz.f5.params.toList args.toList ds p := hA0
  rw [Tryz.params5] at hA hval
  obtain ⟨v0, vs0, d0, ds0, p0, q0, hargs, rfl, rfl, h0, r0⟩ := trodAll_cons hA
  obtain ⟨v1, vs1, d1, ds1, p1, q1, rfl, rfl, rfl, h1, r1⟩ := trodAll_cons r0
  obtain ⟨rfl, rfl, rfl⟩ := trodAll_nil r1
  obtain rfl : args = #[v0, v1] := by cases args; simp_all
  obtain ⟨rfl, rfl⟩ := trodVars_none hV
  obtain ⟨a0, len0, cap0, rfl⟩ := okWide_slice Tryz.underlying22 (hval 0 22 v0 rfl rfl)
  have lt0 : ∀ x ∈ p0, x.block < W.heap.size := by obtain ⟨m, hm⟩ := h0; exact DataW.trod_lt m _ _ _ hm
  obtain ⟨l0, hl0⟩ : ∃ l, LinesOk' W a0 len0 cap0 l := by obtain ⟨fuel, hf⟩ := h0; exact open_lines hf
  obtain ⟨a1, rfl, rfl, rfl, w1⟩ := open_string Tryz.underlying9 (hval 1 9 v1 rfl rfl) h1
  clear hA0 hval0
  refine (walk a0 len0 cap0 l0 hl0 a1 (env_of hL) w1).mono ?_
  rintro e W' ⟨rfl, bel⟩
  exact ⟨_, rfl, _, _, _, [], _, [], hW', trodAll_mk1 (shut_bool Tryz.underlying4 _), (trodAll_cons_mk (Below.trod laidOut (by kernel_rfl) (of_decide_eq_true (by kernel_rfl)) h0 bel lt0) (trodAll_cons_mk (shut_string Tryz.underlying9 w1) trodAll_mk0)), rfl, bel.frame _, fun h => by cases h⟩

theorem over : Rows.respBackRow.holds Tryz.pinned (OpenSpec.ofChange Rows.respBackSpec) :=
  OpenClaim.holds_of_cond 5 Tryz.f5 rfl rfl rfl rfl rfl rfl rfl ⟨rfl, rfl, rfl, rfl, rfl⟩ rfl rfl rfl rfl rfl (by kernel_rfl) Tryz.func5 (by kernel_rfl)
    (of_decide_eq_true (by kernel_rfl)) (by unfold Func.isWrapper; first | (rw [if_pos (by decide +kernel)]; kernel_rfl) | (rw [if_neg (by decide +kernel)]; exact ⟨rfl, rfl⟩))
    (fun os started H enc _ F => by rw [OpenClaim.pre_eq_preRow]; exact lifted os started H enc F)

/-- No parameter wants a stand-in. -/
theorem plain (f : FuncId) (fn : Func) (hf : Tryz.pinned.checked.prog.funcNamed Rows.respBackRow.func = some f) (hfn : Tryz.pinned.checked.prog.funcs[f]? = some fn) :
    true = Tryz.pinned.checked.prog.looks [] ∧ ∀ (j : Nat) t, fn.params[j]? = some t → Tryz.pinned.checked.prog.wantsStandIn t = false := by
  obtain rfl : f = 5 := Option.some.inj ((show Tryz.prog.funcNamed Rows.respBackRow.func = some 5 by kernel_rfl).symm.trans hf) |>.symm
  obtain rfl : fn = Tryz.f5 := (Option.some.inj (Tryz.func5.symm.trans hfn)).symm
  refine ⟨by kernel_rfl, fun j t ht => ?_⟩
  rw [Tryz.params5] at ht
  have hm := Array.mem_of_getElem? ht
  simp only [List.mem_toArray, List.mem_cons, List.not_mem_nil, or_false, or_self] at hm
  rcases hm with rfl | rfl
  · exact (show Tryz.prog.wantsStandIn 22 = false by kernel_rfl)
  · exact (show Tryz.prog.wantsStandIn 9 = false by kernel_rfl)
end Go.Proofs.YtpjcpdnolcehcaaGreatDoor.respBack
namespace Go.Proofs.YtpjcpdnolcehcaaGreatDoor
/-- THE STATEMENT. -/
theorem respBack_holds : Rows.RespBackCardSaid :=
  Claim7.holds_tied_plain_at .later [] _ _ _ _ respBack.over (fun _ h => by cases h) (by kernel_rfl) (fun _ h => by cases h) respBack_row_tie rfl ⟨rfl, rfl⟩ (by kernel_rfl) rfl respBack.plain (by kernel_rfl)
#print axioms respBack_holds
end Go.Proofs.YtpjcpdnolcehcaaGreatDoor
