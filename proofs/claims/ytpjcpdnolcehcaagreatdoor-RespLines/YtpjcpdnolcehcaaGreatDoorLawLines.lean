/- Proved here: two lists of lines, one behind the other, are told as both, and read as both (RespLines returns true for every input, and leaves its arguments as they were). No condition beyond what the card says: five tables and two errors of the library hold what its text lays. -/
import Derived.Test.YtpjcpdnolcehcaaGreatDoorCards
import Derived.Test.YtpjcpdnolcehcaaGreatDoorTie
import Derived.Test.YtpjcpdnolcehcaaGreatDoorM35
import Derived.Test.YtpjcpdnolcehcaaGreatDoorM38
import Derived.Test.YtpjcpdnolcehcaaGreatDoorP8
import Derived.Test.YtpjcpdnolcehcaaGreatDoorFrame2
import Derived.ProofKit
import Derived.OpenShut
import Derived.ShutString
import Derived.Below
namespace Go.Proofs.YtpjcpdnolcehcaaGreatDoor.respLines
open Go.ChangeShapes Go.WideShapes Go.ChangeAt Go.RowKit
open Go.ChangeMaps (open_string shut_string)
set_option linter.unusedVariables false
set_option linter.unusedSimpArgs false

theorem told_read (ls : List Ln) (hn : ∀ l ∈ ls, NumN l) (h : ls.all lineB = true) : parseP (printP ls) = some ls := by
  rw [List.all_eq_true] at h
  have := parse_back ls (fun l hl => ⟨h l hl, hn l hl⟩)
  unfold parseP
  rw [this.1]
  simp
theorem parse_of (w : World) (s : Bs) (hE : Env w) (hs : s.length ≤ 1000000) : Calls Tryz.prog 15 #[.string (str s)] w (PaIs (parseP s) w) :=
  parse_any w s hE (by omega) (fun l hl => read_small hs hl)
set_option maxRecDepth 100000 in
set_option maxHeartbeats 8000000 in
theorem walkL (w : World) (ua ub : Value) (xs ys : List Ln) (hE : Env w) (ha : LsAt w (· < w.heap.size) ua xs) (hb : LsAt w (· < w.heap.size) ub ys) (hfa : ∀ l ∈ xs, FitN l) (hfb : ∀ l ∈ ys, FitN l) (hla : xs.length ≤ maxLen) (hlb : ys.length ≤ maxLen) :
    Calls Tryz.prog 6 #[ua, ub] w (Bo true w) := by
  have CW := few_any w _ ua xs ha hfa hla
  have HE := hid hE
  rcases hf1 : fewB xs with _ | _
  · rw [hf1] at CW
    clear ha hb hfa hfb hla hlb hf1 hE
    go_enter Tryz.func6, Tryz.ntmps6
    go_wp2_with fail
    refine CW.mono ?_
    rintro e w1 ⟨rfl, b1⟩
    have B1 := hid b1
    clear b1 CW
    go_wp2_with fail
    refine (alive_any _ (HE.out.later B1.out)).mono ?_
    rintro e w2 ⟨rfl, b2⟩
    have B2 := hid (B1.out.trans (b2.mono B1.out.size))
    clear b2
    go_wp2_with fail
    go_ret
    exact ⟨rfl, B2.out⟩
  have CX := hid (fun (w' : World) (hW : Below w.heap.size w w') => few_any w' _ ub ys (hb.up hW) hfb hlb)
  rw [hf1] at CW
  rcases hf2 : fewB ys with _ | _
  · rw [hf2] at CX
    clear ha hb hfa hfb hla hlb hf1 hf2 hE
    go_enter Tryz.func6, Tryz.ntmps6
    go_wp2_with fail
    refine CW.mono ?_
    rintro e w1 ⟨rfl, b1⟩
    have B1 := hid b1
    have CY := CX.out w1 B1.out
    clear b1 CW CX
    go_wp2_with fail
    refine CY.mono ?_
    rintro e w2 ⟨rfl, b2⟩
    have B2 := hid (B1.out.trans (b2.mono B1.out.size))
    clear b2 CY
    go_wp2_with fail
    refine (alive_any _ (HE.out.later B2.out)).mono ?_
    rintro e w3 ⟨rfl, b3⟩
    have B3 := hid (B2.out.trans (b3.mono B2.out.size))
    clear b3
    go_wp2_with fail
    go_ret
    exact ⟨rfl, B3.out⟩
  rw [hf2] at CX
  obtain ⟨la, ma, na, pa⟩ := few_use hf1 hfa
  obtain ⟨lb, mb, nb, pb⟩ := few_use hf2 hfb
  have nz : ∀ l ∈ xs ++ ys, NumN l := fun l hl => (List.mem_append.1 hl).elim (na l) (nb l)
  have pz : ((xs ++ ys).flatMap lineT).length ≤ 600800 := by rw [List.flatMap_append, List.length_append]; omega
  have lz : (xs ++ ys).length ≤ 80 := by rw [List.length_append]; omega
  have pla := Nat.le_trans (printP_le xs) pa
  have plb := Nat.le_trans (printP_le ys) pb
  have HTR := hid (told_read (xs ++ ys) nz)
  have HPA := hid (printP_app xs ys)
  have CBo := hid (fun (w' : World) (hW : Below w.heap.size w w') => both (ha.up hW) (hb.up hW) (by omega) (by omega))
  have CPa := hid (fun (w' : World) (hW : Below w.heap.size w w') => print_any w' _ xs (hE.later hW) (ha.up hW) na (by omega) (by omega))
  have CPb := hid (fun (w' : World) (hW : Below w.heap.size w w') => print_any w' _ ys (hE.later hW) (hb.up hW) nb (by omega) (by omega))
  have CAl := hid (fun (w' : World) (hW : Below w.heap.size w w') => alive_any w' (hE.later hW))
  obtain ⟨aa, ac, rfl, hac⟩ := ha.slice
  obtain ⟨ba, bc, rfl, hbc⟩ := hb.slice
  obtain ⟨zs, hz⟩ : ∃ zs, xs ++ ys = zs := ⟨_, rfl⟩
  rw [hz] at HTR HPA CBo nz pz lz
  have HNz := hid nz
  have HPz := hid pz
  have HLz := hid lz
  obtain ⟨P, hP⟩ : ∃ P, printP xs = P := ⟨_, rfl⟩
  obtain ⟨Q, hQ⟩ : ∃ Q, printP ys = Q := ⟨_, rfl⟩
  rw [hP] at pla HPA CPa
  rw [hQ] at plb HPA CPb
  clear ha hb hfa hfb hla hlb hf1 hf2 ma mb na nb pa pb nz pz lz hz hP hQ hE
  go_enter Tryz.func6, Tryz.ntmps6
  go_wp2_with fail
  refine CW.mono ?_
  rintro e w1 ⟨rfl, b1⟩
  have B1 := hid b1
  have CY := CX.out w1 B1.out
  clear b1 CW CX
  go_wp2_with fail
  refine CY.mono ?_
  rintro e w2 ⟨rfl, b2⟩
  have B2 := hid (B1.out.trans (b2.mono B1.out.size))
  obtain ⟨v1, wq1, v2, w3, hr1, hr2, hls, b3⟩ := CBo.out w2 B2.out
  have B3 := hid (B2.out.trans (b3.mono B2.out.size))
  have hbs := empty22
  obtain ⟨rows, hv, hzr, hrow⟩ := hls
  have hrl : rows.length = zs.length := by rw [hzr, List.length_map]
  obtain ⟨a, c, rfl, hc⟩ := hv.slice
  rw [List.length_map, hrl] at hr2 hc
  have HV := hid hv
  have HR := hid hrow
  have HZr := hid hzr
  have HRl := hid hrl
  have hlz : (zs.length : Int) ≤ 80 := by have := HLz.out; omega
  clear b2 b3 CY B1 hv hrow hzr hrl
  go_wp2_with (at_builtin; first | refine wpList_append_run rfl rfl hr1 ?_ | refine wpList_append_run rfl rfl hr2 ?_)
  clear hr1 hr2
  go_loopw [26] (fun i wr => ∃ k : Nat, k ≤ zs.length ∧ i = .int .i64 k ∧ Below w3.heap.size w3 wr ∧ (∀ p ∈ rows.take k, lineB p.2 = true)) (fun i _ => zs.length - (intOf i).toNat)
  case atStart => exact ⟨0, by omega, rfl, Below.refl _ _, by simp⟩
  case round =>
    obtain ⟨k, hk, rfl, h2, h3⟩ := hrel
    have H2 := hid h2
    have H3 := hid h3
    clear h2 h3
    by_cases hlt : k < zs.length
    · have hlt' : (k : Int) < zs.length := by omega
      have hltr : k < rows.length := by have := HRl.out; omega
      have hne : rows.map (·.1) ≠ [] := by intro e; have := congrArg List.length e; simp at this; subst this; simp at hltr
      obtain ⟨g, o, c', he, hc', hga, hN, hg⟩ := (HV.out.low H2.out).at_ hne
      simp only [Value.slice.injEq] at he
      obtain ⟨rfl, hlen2, rfl⟩ := he
      obtain ⟨p, hpk⟩ : ∃ p, rows[k] = p := ⟨_, rfl⟩
      have hp := HR.out rows[k] (List.getElem_mem hltr)
      have hc5 := hga.l k rows[k].1 (by rw [List.getElem?_map, List.getElem?_eq_getElem hltr]; rfl)
      rw [hpk] at hp hc5
      have hxm : p.2 ∈ zs := by rw [HZr.out, ← hpk]; exact List.mem_map_of_mem (List.getElem_mem hltr)
      have hyes : lineB p.2 = true → ∀ q ∈ rows.take (k + 1), lineB q.2 = true := by
        intro hh q hq
        rw [List.take_succ_eq_append_getElem hltr, List.mem_append] at hq
        rcases hq with hq | hq
        · exact H3.out q hq
        · simp at hq; rw [hq, hpk]; exact hh
      obtain ⟨⟨rt, ⟨va, vb, vc⟩, rs, ⟨ca, cb, cc⟩, rx⟩, x⟩ := p
      obtain ⟨c0, c1, c2, c3, c4⟩ := hc5
      simp only [Sl.v] at c1 c3 hxm hyes
      have ha : Below wr.heap.size wr (wr.alloc (.cells #[.string (str rt), .slice va vb vc, .string (str rs), .slice ca cb cc, .string (str rx)] 28)) := al _ _
      have hv5 : L5 (wr.alloc (.cells #[.string (str rt), .slice va vb vc, .string (str rs), .slice ca cb cc, .string (str rx)] 28)) wr.heap.size ⟨rt, (va, vb, vc), rs, (ca, cb, cc), rx⟩ := L5.new wr ⟨rt, (va, vb, vc), rs, (ca, cb, cc), rx⟩
      have HA := hid ha
      have CR := right_any _ _ ⟨rt, (va, vb, vc), rs, (ca, cb, cc), rx⟩ x ((hp.low H2.out).low (HA.out.mono H2.out.size)) (HNz.out x hxm)
      rw [lV_mk] at CR
      obtain ⟨x0, x1, x2, x3, x4⟩ := hv5.cs
      simp only [Sl.v] at x1 x3
      have HY := hid hyes
      clear hga hp hxm ha hpk hyes hv5 hlen2 hc'
      rcases hb : lineB x with _ | _
      · rw [hb] at CR
        go_wp2_with fail
        refine CR.mono ?_
        rintro e w4 ⟨rfl, b4⟩
        have B4 := hid (B3.out.trans ((H2.out.trans (HA.out.mono H2.out.size)).trans (b4.mono (Nat.le_trans H2.out.size HA.out.size)) |>.mono B3.out.size))
        clear b4 CR x0 x1 x2 x3 x4
        go_wp2_with fail
        refine (CAl.out _ B4.out).mono ?_
        rintro e w5 ⟨rfl, b5⟩
        have B5 := hid (B4.out.trans (b5.mono B4.out.size))
        clear b5
        go_wp2_with fail
        go_ret
        exact ⟨rfl, B5.out⟩
      · rw [hb] at CR
        have hY := hid (HY.out hb)
        clear hb
        go_wp2_with fail
        refine CR.mono ?_
        rintro e w4 ⟨rfl, b4⟩
        have B4 := hid ((H2.out.trans (HA.out.mono H2.out.size)).trans (b4.mono (Nat.le_trans H2.out.size HA.out.size)))
        clear b4 CR x0 x1 x2 x3 x4
        go_wp2_with fail
        go_round
        case rel => exact ⟨k + 1, by omega, by go_num, B4.out, hY.out⟩
        case measure => simp [intOf]; omega
    · have hlt' : ¬ (k : Int) < zs.length := by omega
      have hall : zs.all lineB = true := by
        rw [List.all_eq_true]
        intro x hx
        rw [HZr.out] at hx
        obtain ⟨p, hp, rfl⟩ := List.mem_map.1 hx
        refine H3.out p ?_
        rw [List.take_of_length_le (by have := HRl.out; omega)]
        exact hp
      have HPQ := hid (HPA.out hall)
      have HTR2 := hid (HTR.out hall)
      have HB4 := hid (B3.out.trans (H2.out.mono B3.out.size))
      have hsp := str_size P
      have hsq := str_size Q
      have hP' : (P.length : Int) ≤ 300400 := by omega
      have hQ' : (Q.length : Int) ≤ 300400 := by omega
      have HPar := hid (fun (w' : World) (hW : Below w.heap.size w w') => show Calls Tryz.prog 15 #[.string (str P ++ str Q)] w' (PaIs (some zs) w') from by
        have := parse_of w' (P ++ Q) (HE.out.later hW) (by rw [List.length_append]; omega)
        rw [show parseP (P ++ Q) = some zs from by rw [← HPQ.out]; exact HTR2.out, ← app_str] at this
        exact this)
      have CPz := hid (fun (w' : World) (u : Value) (hW : Below w.heap.size w w') (hu : LsAt w' (· < w'.heap.size) u zs) => show Calls Tryz.prog 13 #[u] w' (fun e w2 => e = .returned (.string (str P ++ str Q)) ∧ Below w'.heap.size w' w2) from by
        have := print_any w' u zs (HE.out.later hW) hu HNz.out (by have := HLz.out; omega) (by have := HPz.out; omega)
        rw [HPQ.out, ← app_str] at this
        exact this)
      clear hall HPA HTR H2 H3 HV HR HZr HRl HPQ HTR2 hlt
      have D1 := CPa.out wr HB4.out
      go_wp2_with fail
      refine D1.mono ?_
      rintro e w5 ⟨rfl, b5⟩
      have B5 := hid (HB4.out.trans (b5.mono HB4.out.size))
      have D2 := CPb.out w5 B5.out
      clear b5 D1 HB4
      go_wp2_with fail
      refine D2.mono ?_
      rintro e w6 ⟨rfl, b6⟩
      have B6 := hid (B5.out.trans (b6.mono B5.out.size))
      have D3 := HPar.out w6 B6.out
      clear b6 D2 B5
      go_wp2_with fail
      refine D3.mono ?_
      rintro e w7 ⟨u7, rfl, hls7, b7⟩
      have B7 := hid (B6.out.trans (b7.mono B6.out.size))
      simp only [paN, paL, Option.getD_some] at *
      obtain ⟨ta, tc, rfl, _⟩ := hls7.slice
      have HLs := hid hls7
      obtain ⟨v8, wq8, v9, w9, hr8, hr9, hls9, b9⟩ := CBo.out w7 B7.out
      have B9 := hid (B7.out.trans (b9.mono B7.out.size))
      have D9 := CPz.out w9 v9 B9.out hls9
      have HLs9 := hid (HLs.out.later b9)
      obtain ⟨fa, fc, rfl, _⟩ := hls9.slice
      clear b7 D3 hls7 hls9 b9 B6 HLs
      go_wp2_with (at_builtin; first | refine wpList_append_run rfl rfl hr8 ?_ | refine wpList_append_run rfl rfl hr9 ?_)
      clear hr8 hr9
      refine D9.mono ?_
      rintro e w10 ⟨rfl, b10⟩
      have B10 := hid (B9.out.trans (b10.mono B9.out.size))
      have HLs10 := hid (HLs9.out.later b10)
      have CN := no_any 0 w10
      clear b10 D9 HLs9
      go_wp2_with fail
      refine CN.mono ?_
      rintro e w11 ⟨rfl, rfl⟩
      obtain ⟨v12, wq12, v13, w13, hr12, hr13, hls13, b13⟩ := CBo.out _ B10.out
      have B13 := hid (B10.out.trans (b13.mono B10.out.size))
      have DS := same_any w13 _ _ _ _ zs (HLs10.out.later b13) hls13 HNz.out (by have := HLz.out; omega)
      obtain ⟨ga, gc, rfl, _⟩ := hls13.slice
      clear b13 hls13 HLs10 CN
      go_wp2_with (at_builtin; first | refine wpList_append_runG (by rfl) rfl rfl hr12 ?_ | refine wpList_append_runG (by rfl) rfl rfl hr13 ?_)
      clear hr12 hr13
      refine DS.mono ?_
      rintro e w14 ⟨rfl, b14⟩
      have B14 := hid (B13.out.trans (b14.mono B13.out.size))
      clear b14 DS
      go_wp2_with fail
      refine (CAl.out _ B14.out).mono ?_
      rintro e w15 ⟨rfl, b15⟩
      have B15 := hid (B14.out.trans (b15.mono B14.out.size))
      clear b15
      go_wp2_with fail
      go_ret
      exact ⟨rfl, B15.out⟩
theorem walk {w : World} (ua : Option Addr) (ul uc : Nat) (xs : List Ln) (hu : LinesOk' w ua ul uc xs) (va : Option Addr) (vl vc : Nat) (ys : List Ln) (hv : LinesOk' w va vl vc ys) (hE : Env w) :
    Calls Tryz.prog 6 #[.slice ua ul uc, .slice va vl vc] w fun e w' => e = .returned (.bool true) ∧ Below w.heap.size w w' := by
  obtain ⟨u1, u2, u3, u4⟩ := hu
  obtain ⟨v1, v2, v3, v4⟩ := hv
  exact walkL w _ _ xs ys hE u1 v1 u4 v4 (by omega) (by omega)

theorem witness (os : Os) {H : Type} (enc : TypeId × Value → H) :
    (OpenSpec.ofChange Rows.respLinesSpec).preRow enc Tryz.prog Tryz.f6 Rows.respLinesRow.domain false Rows.respLinesRow.laid ((laidWorld os).forCall (fun _ _ => 0) ⟨#[], #[.slice none 0 0, .slice none 0 0], []⟩).memory #[.slice none 0 0, .slice none 0 0] := by
  have hw : (DataW.whole enc Tryz.prog ((laidWorld os).forCall (fun _ _ => 0) ⟨#[], #[.slice none 0 0, .slice none 0 0], []⟩).memory Tryz.f6.params.toList Rows.respLinesSpec.vars false (#[.slice none 0 0, .slice none 0 0] : Array Value).toList 8).map (fun x => (x.1, x.2.1)) =
      some ([.nil, .nil], []) := by kernel_rfl
  obtain ⟨⟨x1, x2, x3⟩, hx, hx1⟩ := Option.map_eq_some_iff.1 hw
  simp only [Prod.mk.injEq] at hx1
  obtain ⟨rfl, rfl⟩ := hx1
  exact OpenSpec.preRow_of_cond 8 hx (by kernel_rfl) (fun k hk => by cases hk) (by kernel_rfl) (laid_met os _)

set_option maxRecDepth 100000 in
set_option maxHeartbeats 2000000 in
theorem lifted (os : Os) (started : os.Started) (H : Type) (enc : TypeId × Value → H) (F : Stop.Interp) :
    ReturnsInHanded {} Tryz.checked os 6 .any ((OpenSpec.ofChange Rows.respLinesSpec).preRow enc Tryz.prog Tryz.f6 Rows.respLinesRow.domain false Rows.respLinesRow.laid) (((OpenSpec.ofChange Rows.respLinesSpec).at F).post enc Tryz.prog Tryz.f6 false true false false) := by
  refine returnsInHanded_of_row (C := Tryz.checked) (s := OpenSpec.ofChange Rows.respLinesSpec) own started (by kernel_rfl) Tryz.func6
    (witness_row_atRef (enc := enc) (C := Tryz.checked) false (laidWorld os) #[.slice none 0 0, .slice none 0 0] rfl (by kernel_rfl) (by kernel_rfl) (by kernel_rfl) (witness os enc)) ?_
  intro W base args ds gs before hval0 hW _ _ _ hL hsh _
  have hval : ∀ (j : Nat) t v, Tryz.f6.params[j]? = some t → args[j]? = some v → Value.okWide Tryz.prog W .any base t v := hval0
  have hW' := hW
  obtain ⟨p, q, hA0, hV, rfl, hfz, hnd⟩ := hW
  have hA : DataW.TrodAll enc Tryz.prog W 0 (fun _ => true) true Tryz.f6.params.toList args.toList ds p := hA0
  rw [Tryz.params6] at hA hval
  obtain ⟨v0, vs0, d0, ds0, p0, q0, hargs, rfl, rfl, h0, r0⟩ := trodAll_cons hA
  obtain ⟨v1, vs1, d1, ds1, p1, q1, rfl, rfl, rfl, h1, r1⟩ := trodAll_cons r0
  obtain ⟨rfl, rfl, rfl⟩ := trodAll_nil r1
  obtain rfl : args = #[v0, v1] := by cases args; simp_all
  obtain ⟨rfl, rfl⟩ := trodVars_none hV
  obtain ⟨a0, len0, cap0, rfl⟩ := okWide_slice Tryz.underlying22 (hval 0 22 v0 rfl rfl)
  have lt0 : ∀ x ∈ p0, x.block < W.heap.size := by obtain ⟨m, hm⟩ := h0; exact DataW.trod_lt m _ _ _ hm
  obtain ⟨l0, hl0⟩ : ∃ l, LinesOk' W a0 len0 cap0 l := by obtain ⟨fuel, hf⟩ := h0; exact open_lines hf
  obtain ⟨a1, len1, cap1, rfl⟩ := okWide_slice Tryz.underlying22 (hval 1 22 v1 rfl rfl)
  have lt1 : ∀ x ∈ p1, x.block < W.heap.size := by obtain ⟨m, hm⟩ := h1; exact DataW.trod_lt m _ _ _ hm
  obtain ⟨l1, hl1⟩ : ∃ l, LinesOk' W a1 len1 cap1 l := by obtain ⟨fuel, hf⟩ := h1; exact open_lines hf
  clear hA0 hval0
  refine (walk a0 len0 cap0 l0 hl0 a1 len1 cap1 l1 hl1 (env_of hL) ).mono ?_
  rintro e W' ⟨rfl, bel⟩
  exact ⟨_, rfl, _, _, _, [], _, [], hW', trodAll_mk1 (shut_bool Tryz.underlying4 _), (trodAll_cons_mk (Below.trod laidOut (by kernel_rfl) (of_decide_eq_true (by kernel_rfl)) h0 bel lt0) (trodAll_cons_mk (Below.trod laidOut (by kernel_rfl) (of_decide_eq_true (by kernel_rfl)) h1 bel lt1) trodAll_mk0)), rfl, bel.frame _, fun h => by cases h⟩

theorem over : Rows.respLinesRow.holds Tryz.pinned (OpenSpec.ofChange Rows.respLinesSpec) :=
  OpenClaim.holds_of_cond 6 Tryz.f6 rfl rfl rfl rfl rfl rfl rfl ⟨rfl, rfl, rfl, rfl, rfl⟩ rfl rfl rfl rfl rfl (by kernel_rfl) Tryz.func6 (by kernel_rfl)
    (of_decide_eq_true (by kernel_rfl)) (by unfold Func.isWrapper; first | (rw [if_pos (by decide +kernel)]; kernel_rfl) | (rw [if_neg (by decide +kernel)]; exact ⟨rfl, rfl⟩))
    (fun os started H enc _ F => by rw [OpenClaim.pre_eq_preRow]; exact lifted os started H enc F)

/-- No parameter wants a stand-in. -/
theorem plain (f : FuncId) (fn : Func) (hf : Tryz.pinned.checked.prog.funcNamed Rows.respLinesRow.func = some f) (hfn : Tryz.pinned.checked.prog.funcs[f]? = some fn) :
    true = Tryz.pinned.checked.prog.looks [] ∧ ∀ (j : Nat) t, fn.params[j]? = some t → Tryz.pinned.checked.prog.wantsStandIn t = false := by
  obtain rfl : f = 6 := Option.some.inj ((show Tryz.prog.funcNamed Rows.respLinesRow.func = some 6 by kernel_rfl).symm.trans hf) |>.symm
  obtain rfl : fn = Tryz.f6 := (Option.some.inj (Tryz.func6.symm.trans hfn)).symm
  refine ⟨by kernel_rfl, fun j t ht => ?_⟩
  rw [Tryz.params6] at ht
  have hm := Array.mem_of_getElem? ht
  simp only [List.mem_toArray, List.mem_cons, List.not_mem_nil, or_false, or_self] at hm
  rcases hm with rfl
  · exact (show Tryz.prog.wantsStandIn 22 = false by kernel_rfl)
end Go.Proofs.YtpjcpdnolcehcaaGreatDoor.respLines
namespace Go.Proofs.YtpjcpdnolcehcaaGreatDoor
/-- THE STATEMENT. -/
theorem respLines_holds : Rows.RespLinesCardSaid :=
  Claim7.holds_tied_plain_at .later [] _ _ _ _ respLines.over (fun _ h => by cases h) (by kernel_rfl) (fun _ h => by cases h) respLines_row_tie rfl ⟨rfl, rfl⟩ (by kernel_rfl) rfl respLines.plain (by kernel_rfl)
#print axioms respLines_holds
end Go.Proofs.YtpjcpdnolcehcaaGreatDoor
