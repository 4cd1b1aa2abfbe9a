/- Proved here: whatever came: behind MaxLiteral bytes of x, a line end, and a line, this line comes as a command, and nothing is left (WireEnds returns true for every input, and leaves its arguments as they were). No condition beyond what the card says: five tables and two errors of the library hold what its text lays. -/
import Derived.Test.YtikcbgoocljgnaaDoorCards
import Derived.Test.YtikcbgoocljgnaaDoorTie
import Derived.Test.YtikcbgoocljgnaaDoorL3
import Derived.Test.YtikcbgoocljgnaaDoorL2
import Derived.ProofKit
import Derived.OpenShut
import Derived.ShutString
import Derived.Below
namespace Go.Proofs.YtikcbgoocljgnaaDoor.wireEnds
open Go.ChangeShapes Go.WideShapes Go.ChangeAt Go.RowKit
open Go.ChangeMaps (open_string shut_string)
set_option linter.unusedVariables false
set_option linter.unusedSimpArgs false

theorem fs_base {w w5 w6 : World} {b : Nat} {own : List Nat} {F : Fd} (hb : Below w.heap.size w w5) (h : FS w5 w6 b own F) : FS w w6 b own F :=
  ⟨h.f, fun g hg => Nat.le_trans hb.size (h.n g hg), hb.trans (h.k.mono hb.size), h.s⟩
theorem ga_one10 (w : World) : GA eB (w.alloc (.cells #[.int .u8 10] 5)) w.heap.size 0 [10] := ga_lit eB w [10]
theorem take_nl : takeP Fd.zero [10] = (Fd.zero, [(1, [[]], [])]) := rfl
def idleB (F : Fd) : Bool := match F.nx with | .no => true | _ => false
theorem idleB_yes {F : Fd} (h : idleB F = true) : F.nx = .no := by
  unfold idleB at h
  split at h
  · assumption
  · cases h
theorem idleB_no {F : Fd} (h : idleB F = false) : F.nx ≠ .no := by
  intro e
  unfold idleB at h
  rw [e] at h
  cases h
theorem idle2 {w : World} {b : Nat} {own : List Nat} {F : Fd} (h : FAt w b own F) : Calls Tryd.prog 14 #[.pointer (some ⟨b, 0, none⟩)] w fun e w' => e = .returned (.bool (idleB F)) ∧ Below w.heap.size w w' := idle_any h
theorem take_n {w0 w : World} {b : Nat} {own : List Nat} {F : Fd} (h : FS w0 w b own F) (g o c n : Nat) (s : Bs) (hn : s.length = n) (hc : n ≤ c) (hb : GA eB w g o s) (hno : g ∉ own) (hgl : g < w.heap.size) (hsl : n ≤ 1000000) :
    Calls Tryd.prog 12 #[.pointer (some ⟨b, 0, none⟩), .slice (some ⟨g, o, none⟩) n c] w (TkIs w0 w b own (takeP F s).1 (takeP F s).2) := by
  subst hn
  exact take_fs h g o c s hc hb hno hgl hsl
theorem many_setc (c : UInt8) (j k : Nat) (h : j < k) : (many j c ++ many (k - j) 0).set j c = many (j + 1) c ++ many (k - (j + 1)) 0 := by
  have e : many (k - j) 0 = 0 :: many (k - (j + 1)) 0 := by rw [show k - j = (k - (j + 1)) + 1 by omega]; rfl
  rw [e, List.set_append_right _ _ (by rw [many_len]; omega), many_len, Nat.sub_self, List.set_cons_zero, many_add j 1]
  simp [many]
theorem ev_one2 {w : World} {v : Value} {own : List Nat} {k : Int} {T L : List Bs} (h : EvL w v own [(k, T, L)]) : ∃ g c vT, v = .slice (some ⟨g, 0, none⟩) 1 c ∧ w.cell? ⟨g, 0, none⟩ = some (.int .i64 k) ∧ w.cell? ⟨g, 1, none⟩ = some vT ∧ GL eS w vT T := by
  obtain ⟨es, h1, h2, h3, h4⟩ := h
  match es, h3 with
  | [e], _ =>
    obtain ⟨g, c, hv, _⟩ := ownsRow_some h1 (by simp)
    obtain ⟨a1, a2, _⟩ := h4 0 e (k, T, L) rfl rfl
    obtain ⟨a, c', hv', _, hr⟩ := h1.gl
    rcases hr with hr | ⟨g', o', ha, hga, _⟩
    · simp at hr
    · rw [hv] at hv'
      simp only [Value.slice.injEq] at hv'
      obtain ⟨rfl, _, rfl⟩ := hv'
      simp only [Option.some.injEq, Addr.mk.injEq] at ha
      obtain ⟨rfl, rfl, _⟩ := ha
      obtain ⟨q0, q1, _⟩ := hga.e 0 e rfl
      refine ⟨g, c, Sl.v e.2.1, hv, ?_, ?_, a2.gl⟩
      · rw [show (0 + 0 * 3 : Nat) = 0 from rfl] at q0
        rw [q0, a1]
      · exact q1
/-- The bytes of x lie beside the feed. -/
structure Xs (w wr : World) (b X : Nat) (own : List Nat) (F : Fd) : Prop where
  f : FS w wr b own F
  x : GA eB wr X 0 (many 50000 120)
  n : X ∉ own
  l : X < wr.heap.size
set_option maxRecDepth 100000 in
set_option maxHeartbeats 8000000 in
theorem walk {w : World} (a : Option Addr) (len cap : Nat) (T : List Tl) (h : TailsOk w a len cap T) (lnb : ByteArray) (hE : Env w) (hln : lnb.size ≤ maxLen) : Calls Tryd.prog 6 #[.slice a len cap, .string lnb] w fun e w' => e = .returned (.bool true) ∧ Below w.heap.size w w' := by
  obtain ⟨ln, rfl⟩ : ∃ ln, lnb = str ln := ⟨lnb.data.toList, (str_of lnb).symm⟩
  have hz := str_size ln
  rw [hz] at hln
  have hmx : ln.length ≤ 9223372036854775807 := hln
  have HX := hid (text_any h)
  clear h hln hE
  go_enter Tryd.func6, Tryd.ntmps6
  go_wp2_with fail
  refine HX.out.mono ?_
  rintro e w1 ⟨s, ok, rfl, hs, hb1⟩
  have HB1 := hid hb1
  clear hb1 HX
  cases ok with
  | false =>
    clear hs
    go_wp2_with fail
    refine (alive_ok w1).mono ?_
    rintro e wz ⟨rfl, hbz⟩
    have HBz := hid (HB1.out.trans (hbz.mono HB1.out.size))
    clear hbz
    go_wp2_with fail
    go_ret
    exact ⟨rfl, HBz.out⟩
  | true =>
    have hsl := hs rfl
    clear hs
    have hal : Below w1.heap.size w1 (w1.alloc (.cells #[.string (str ln)] 9)) := (Below.refl _ _).alloc (Nat.le_refl _) _
    have HCl := hid (clean_any (T := [ln]) (L := []) (gl_text (heap_alloc_new w1 (.cells #[.string (str ln)] 9))) (gl_nil eS _) (by simp) (by simp) (by simpa [lens] using hmx))
    have HB2 := hid (HB1.out.trans (hal.mono HB1.out.size))
    clear hal HB1
    go_wp2_with fail
    refine HCl.out.mono ?_
    rintro e w2 ⟨r, rfl, hr, hb2⟩
    have HB3 := hid (HB2.out.trans (hb2.mono HB2.out.size))
    clear hb2 HB2 HCl
    cases r with
    | false =>
      clear hr
      go_wp2_with fail
      refine (alive_ok w2).mono ?_
      rintro e wz ⟨rfl, hbz⟩
      have HBz := hid (HB3.out.trans (hbz.mono HB3.out.size))
      clear hbz
      go_wp2_with fail
      go_ret
      exact ⟨rfl, HBz.out⟩
    | true =>
      obtain ⟨_, _, hok, hl4⟩ := hr rfl
      have hll : ln.length ≤ 4000 := by simpa [lens] using hl4
      have HTo := hid (take_one ln (hok ln (by simp)) hll)
      have HN := hid (fs_new w2)
      clear hr hok hl4
      go_wp2_with fail
      refine HN.out.mono ?_
      rintro e w3 ⟨rfl, hf3⟩
      have hf3' := fs_base HB3.out hf3
      have hcv := strW_conv w3 s
      have HCT := hid (take_text hf3' s (by omega))
      have HIl := hid (idl_take s Fd.zero (fun _ => rfl))
      have hzs := str_size s
      clear hf3 hf3' HN
      generalize (takeP Fd.zero s).1 = F1 at *
      generalize (takeP Fd.zero s).2 = L1 at *
      go_wp2_with fail
      refine HCT.out.mono ?_
      rintro e w4 ⟨v4, own4, rfl, hf4, _, _, _, _⟩
      have HF4 := hid hf4
      have hmk : (Instr.makeSlice 31 (.int .i64 50000) (.int .i64 50000)).run Tryd.prog w4 = .ok (.slice (some ⟨w4.heap.size, 0, none⟩) 50000 50000) (w4.alloc (.cells (eB.cs (many 50000 0)).toArray 5)) := made_bytes 50000 (by omega) w4
      have hgo := go_made eB w4 (many 50000 0) (by rw [many_len]; omega)
      rw [many_len] at hgo
      have hgo0 : GO eB (w4.alloc (.cells (eB.cs (many 50000 0)).toArray 5)) w4.heap.size (.slice (some ⟨w4.heap.size, 0, none⟩) 50000 50000) (many 0 120 ++ many (50000 - 0) 0) := by rw [Nat.sub_zero]; exact hgo
      have HG := hid hgo0
      have HB : Hid (Below w4.heap.size w4 (w4.alloc (.cells (eB.cs (many 50000 0)).toArray 5))) := (Below.refl _ _).alloc (Nat.le_refl _) _
      clear hgo hgo0 hf4 HCT hcv
      generalize w4.alloc (.cells (eB.cs (many 50000 0)).toArray 5) = W at *
      go_wp2_with fail
      go_loopw [34] (fun i wr => ∃ j : Nat, j ≤ 50000 ∧ i = .int .i64 j ∧ GO eB wr w4.heap.size (.slice (some ⟨w4.heap.size, 0, none⟩) 50000 50000) (many j 120 ++ many (50000 - j) 0) ∧ Below w4.heap.size w4 wr) (fun i _ => 50000 - (intOf i).toNat)
      case atStart => exact ⟨0, by omega, rfl, HG.out, HB.out⟩
      case round =>
        obtain ⟨j, hj, rfl, hg, hb⟩ := hrel
        have hlen : (many j 120 ++ many (50000 - j) 0).length = 50000 := by rw [List.length_append, many_len, many_len]; omega
        by_cases hlt : j < 50000
        · have hlt' : (j : Int) < 50000 := by omega
          have st := go_set eB hg hlen j (by rw [hlen]; exact hlt) 0 (by decide) 120 (.int .u8 120) rfl rfl
          simp only [show eB.k = 1 from rfl, Nat.mul_one, Nat.add_zero] at st
          rw [many_setc 120 j 50000 hlt] at st
          obtain ⟨hfz, hg', _⟩ := st
          have hc : ∃ v, wr.cell? ⟨w4.heap.size, j, none⟩ = some v := by
            have hx : j < (many j 120 ++ many (50000 - j) 0).length := by rw [hlen]; exact hlt
            have := World.ownsRow.cells hg rfl j _ (by
              have := eB.cs_at (many j 120 ++ many (50000 - j) 0) j 0 _ _ (List.getElem?_eq_getElem hx) rfl
              simpa [eB] using this)
            rw [Addr.add_mid, Nat.zero_add] at this
            exact ⟨_, this⟩
          obtain ⟨v, hc⟩ := hc
          have HG1 := hid hg'
          have HB1 := hid (hb.setCell (p := ⟨w4.heap.size, j, none⟩) (Nat.le_refl _) (.int .u8 120))
          clear hg hb hg' hlen HG HB
          go_wp2_with fail
          go_roundw
          case rel => exact ⟨j + 1, by omega, by go_num, HG1.out, HB1.out⟩
          case measure => simp [intOf]; omega
        · have hlt' : ¬ (j : Int) < 50000 := by omega
          have hjk : j = 50000 := by omega
          subst hjk
          rw [Nat.sub_self, show many 0 (0 : UInt8) = [] from rfl, List.append_nil] at hg
          have HX0 : Hid (Xs w wr w2.heap.size w4.heap.size own4 F1) := by
            obtain ⟨a9, c9, hv9, _, hr9⟩ := hg.gl
            rcases hr9 with e | ⟨g', o', ha, hga, hgl⟩
            · have := congrArg List.length e; rw [many_len] at this; simp at this
            · simp only [Value.slice.injEq] at hv9
              obtain ⟨rfl, _, rfl⟩ := hv9
              simp only [Option.some.injEq, Addr.mk.injEq] at ha
              obtain ⟨rfl, rfl, _⟩ := ha
              exact ⟨HF4.out.later hb, hga, fun e => by have := HF4.out.f.lt _ e; omega, hgl⟩
          clear hg hb hlen HG HB HF4
          go_wp2_with fail
          go_loopw [41] (fun i wr => ∃ (k : Nat) (own : List Nat) (F : Fd), k ≤ 21 ∧ i = .int .i64 k ∧ Xs w wr w2.heap.size w4.heap.size own F ∧ ((k = 0 ∧ F = F1) ∨ F = Fd.zero)) (fun i _ => 21 - (intOf i).toNat)
          case atStart => exact ⟨0, own4, F1, by omega, rfl, HX0.out, .inl ⟨rfl, rfl⟩⟩
          case round =>
            obtain ⟨k, own, F, hk, rfl, hxs, hF⟩ := hrel
            have HXs := hid hxs
            have HFF := hid hF
            clear hxs hF HX0
            by_cases hk21 : k < 21
            · have hk21' : (k : Int) < 21 := by omega
              have HI := hid (idle2 HXs.out.f.f)
              have HZ : Hid (F.nx = .no → F = Fd.zero) := fun hn => by
                rcases HFF.out with ⟨_, e⟩ | e
                · rw [e] at hn ⊢; exact HIl.out hn
                · exact e
              cases hid' : idleB F with
              | true =>
                rw [hid'] at HI
                have hz0 := HZ.out (idleB_yes hid')
                go_wp2_with fail
                refine HI.out.mono ?_
                rintro e w10 ⟨rfl, hb10⟩
                have HFz : Hid (FS w w10 w2.heap.size own Fd.zero) := by rw [← hz0]; exact HXs.out.f.later hb10
                clear hb10 HI hid' hz0 HZ HXs HFF
                generalize w10 = wr at *
                have hal1 : Below wr.heap.size wr (wr.alloc (.cells #[.int .u8 10] 5)) := (Below.refl _ _).alloc (Nat.le_refl _) _
                have CT := take_at (HFz.out.later hal1) wr.heap.size 0 1 1 [10] rfl (by omega) (ga_one10 wr) (fun e => by have := HFz.out.f.lt _ e; omega) (by simp) (by omega) take_nl
                have HCT := hid CT
                clear CT hal1
                go_wp2_with fail
                refine HCT.out.mono ?_
                rintro e w20 ⟨v20, own20, rfl, hf20, _, _, _, _⟩
                obtain ⟨lx, hlx⟩ : ∃ lx, ln ++ [13, 10] = lx := ⟨_, rfl⟩
                have eL : str ln ++ ⟨#[13, 10]⟩ = str lx := by rw [← hlx, ← app_str]; rfl
                have hlxl : lx.length ≤ 5000 := by rw [← hlx]; simp; omega
                have hto := HTo.out
                rw [hlx] at hto
                have hcv := strW_conv w20 lx
                have CT := take_text hf20 lx (by omega)
                rw [hto] at CT
                have HCT2 := hid CT
                have zx := str_size lx
                clear hlx hto HTo
                clear CT hf20 HCT
                go_wp2_with fail
                refine HCT2.out.mono ?_
                rintro e w21 ⟨v21, own21, rfl, hf21, he21, _, _, _⟩
                obtain ⟨g1, c1, vT, rfl, k1, k2, hgT⟩ := ev_one2 he21
                obtain ⟨aT, cT, hvT, _⟩ := id hgT
                subst hvT
                have hal2 : Below w21.heap.size w21 (w21.alloc (.cells #[.string (str ln)] 9)) := (Below.refl _ _).alloc (Nat.le_refl _) _
                have CX := texts_any (hgT.later hal2) (gl_text (heap_alloc_new w21 (.cells #[.string (str ln)] 9))) (by simp) (by simp)
                rw [show decide (([ln] : List Bs) = [ln]) = true by simp] at CX
                have HCX : Hid (Calls Tryd.prog 19 #[.slice aT 1 cT, .slice (some ⟨w21.heap.size, 0, none⟩) 1 1] (w21.alloc (.cells #[.string (str ln)] 9)) fun e w' => e = .returned (.bool true) ∧ ∃ n, w' = (w21.alloc (.cells #[.string (str ln)] 9)).drewN n) := CX
                have HF21 := hid (hf21.later hal2)
                simp only [List.length_cons, List.length_nil, Nat.zero_add] at k2
                clear CX hgT hf21 he21 hal2 HCT2 hcv
                go_wp2_with fail
                refine HCX.out.mono ?_
                rintro e w22 ⟨rfl, n22, hw22⟩
                have hd22 : Below (w21.alloc (.cells #[.string (str ln)] 9)).heap.size (w21.alloc (.cells #[.string (str ln)] 9)) w22 := by rw [hw22]; exact drewN_below _ _ _
                have hf22 := HF21.out.later hd22
                have HI := hid (idle_any hf22.f)
                have HB22 := hid hf22.k
                clear hw22 hd22 hf22 HF21 HCX k1 k2
                simp only [Fd.zero] at HI
                go_wp2_with fail
                refine HI.out.mono ?_
                rintro e w23 ⟨rfl, hb23⟩
                have HB23 := hid (HB22.out.trans (hb23.mono HB22.out.size))
                clear hb23 HI
                go_wp2_with fail
                refine (alive_ok w23).mono ?_
                rintro e wz ⟨rfl, hbz⟩
                have HBz := hid (HB23.out.trans (hbz.mono HB23.out.size))
                clear hbz
                go_wp2_with fail
                go_ret
                exact ⟨rfl, HBz.out⟩
              | false =>
                rw [hid'] at HI
                have HnI := hid (idleB_no hid')
                go_wp2_with fail
                refine HI.out.mono ?_
                rintro e w10 ⟨rfl, hb10⟩
                have hf10 := HXs.out.f.later hb10
                have CT := take_n hf10 w4.heap.size 0 50000 50000 (many 50000 120) (many_len 50000 120) (Nat.le_refl _) (HXs.out.x.later hb10) HXs.out.n (Nat.lt_of_lt_of_le HXs.out.l hb10.size) (by omega)
                have HCT := hid CT
                have HGx := hid (HXs.out.x.later hb10)
                have hlx : w4.heap.size < w10.heap.size := Nat.lt_of_lt_of_le HXs.out.l hb10.size
                have HOz := hid (out_zero F HnI.out (fun e => by have := HXs.out.f.s.lit e; omega))
                have HXn := hid HXs.out.n
                clear CT hf10 hb10 HI hid'
                generalize (takeP F (many 50000 120)).1 = F2 at *
                generalize (takeP F (many 50000 120)).2 = L2 at *
                go_wp2_with fail
                refine HCT.out.mono ?_
                rintro e w11 ⟨v11, own11, rfl, hf11, _, _, hk11, ho11⟩
                have hgx : GA eB w11 w4.heap.size 0 (many 50000 120) := fun j i x v h1 h2 => Kept.cell hk11 (HGx.out j i x v h1 h2) HXn.out
                have hnx : w4.heap.size ∉ own11 := fun e => by rcases ho11 _ e with e | e; exact HXn.out e; omega
                have hl11 : w4.heap.size < w11.heap.size := Nat.lt_of_lt_of_le hlx hk11.size
                have hal1 : Below w11.heap.size w11 (w11.alloc (.cells #[.int .u8 10] 5)) := (Below.refl _ _).alloc (Nat.le_refl _) _
                have CT := take_n (hf11.later hal1) w11.heap.size 0 1 1 [10] rfl (by omega) (ga_one10 w11) (fun e => by have := hf11.f.lt _ e; omega) (by simp) (by omega)
                rw [HOz.out] at CT
                have HCT2 := hid CT
                have HGx2 := hid (hgx.later hal1)
                have HXn2 := hid hnx
                have hl12 : w4.heap.size < (w11.alloc (.cells #[.int .u8 10] 5)).heap.size := by simp; omega
                clear CT hf11 hk11 ho11 hgx hnx hal1 HCT HGx HXn
                generalize (takeP F2 [10]).2 = L3 at *
                go_wp2_with fail
                refine HCT2.out.mono ?_
                rintro e w12 ⟨v12, own12, rfl, hf12, _, _, hk12, ho12⟩
                have HX2 : Hid (Xs w w12 w2.heap.size w4.heap.size own12 Fd.zero) := ⟨hf12, fun j i x v h1 h2 => Kept.cell hk12 (HGx2.out j i x v h1 h2) HXn2.out, (fun e => by rcases ho12 _ e with e | e; exact HXn2.out e; omega), Nat.lt_of_lt_of_le hl12 hk12.size⟩
                clear hf12 hk12 ho12 HCT2 HGx2 HXn2
                go_wp2_with fail
                go_roundw
                case rel => exact ⟨k + 1, own12, Fd.zero, by omega, by go_num, HX2.out, .inr rfl⟩
                case measure => simp [intOf]; omega
            · have hk21' : ¬ (k : Int) < 21 := by omega
              have HFz : Hid (FS w wr w2.heap.size own Fd.zero) := by
                rcases HFF.out with ⟨e, _⟩ | e
                · omega
                · rw [← e]; exact HXs.out.f
              clear HXs HFF
              have hal1 : Below wr.heap.size wr (wr.alloc (.cells #[.int .u8 10] 5)) := (Below.refl _ _).alloc (Nat.le_refl _) _
              have CT := take_at (HFz.out.later hal1) wr.heap.size 0 1 1 [10] rfl (by omega) (ga_one10 wr) (fun e => by have := HFz.out.f.lt _ e; omega) (by simp) (by omega) take_nl
              have HCT := hid CT
              clear CT hal1
              go_wp2_with fail
              refine HCT.out.mono ?_
              rintro e w20 ⟨v20, own20, rfl, hf20, _, _, _, _⟩
              obtain ⟨lx, hlx⟩ : ∃ lx, ln ++ [13, 10] = lx := ⟨_, rfl⟩
              have eL : str ln ++ ⟨#[13, 10]⟩ = str lx := by rw [← hlx, ← app_str]; rfl
              have hlxl : lx.length ≤ 5000 := by rw [← hlx]; simp; omega
              have hto := HTo.out
              rw [hlx] at hto
              have hcv := strW_conv w20 lx
              have CT := take_text hf20 lx (by omega)
              rw [hto] at CT
              have HCT2 := hid CT
              have zx := str_size lx
              clear hlx hto HTo
              clear CT hf20 HCT
              go_wp2_with fail
              refine HCT2.out.mono ?_
              rintro e w21 ⟨v21, own21, rfl, hf21, he21, _, _, _⟩
              obtain ⟨g1, c1, vT, rfl, k1, k2, hgT⟩ := ev_one2 he21
              obtain ⟨aT, cT, hvT, _⟩ := id hgT
              subst hvT
              have hal2 : Below w21.heap.size w21 (w21.alloc (.cells #[.string (str ln)] 9)) := (Below.refl _ _).alloc (Nat.le_refl _) _
              have CX := texts_any (hgT.later hal2) (gl_text (heap_alloc_new w21 (.cells #[.string (str ln)] 9))) (by simp) (by simp)
              rw [show decide (([ln] : List Bs) = [ln]) = true by simp] at CX
              have HCX : Hid (Calls Tryd.prog 19 #[.slice aT 1 cT, .slice (some ⟨w21.heap.size, 0, none⟩) 1 1] (w21.alloc (.cells #[.string (str ln)] 9)) fun e w' => e = .returned (.bool true) ∧ ∃ n, w' = (w21.alloc (.cells #[.string (str ln)] 9)).drewN n) := CX
              have HF21 := hid (hf21.later hal2)
              simp only [List.length_cons, List.length_nil, Nat.zero_add] at k2
              clear CX hgT hf21 he21 hal2 HCT2 hcv
              go_wp2_with fail
              refine HCX.out.mono ?_
              rintro e w22 ⟨rfl, n22, hw22⟩
              have hd22 : Below (w21.alloc (.cells #[.string (str ln)] 9)).heap.size (w21.alloc (.cells #[.string (str ln)] 9)) w22 := by rw [hw22]; exact drewN_below _ _ _
              have hf22 := HF21.out.later hd22
              have HI := hid (idle_any hf22.f)
              have HB22 := hid hf22.k
              clear hw22 hd22 hf22 HF21 HCX k1 k2
              simp only [Fd.zero] at HI
              go_wp2_with fail
              refine HI.out.mono ?_
              rintro e w23 ⟨rfl, hb23⟩
              have HB23 := hid (HB22.out.trans (hb23.mono HB22.out.size))
              clear hb23 HI
              go_wp2_with fail
              refine (alive_ok w23).mono ?_
              rintro e wz ⟨rfl, hbz⟩
              have HBz := hid (HB23.out.trans (hbz.mono HB23.out.size))
              clear hbz
              go_wp2_with fail
              go_ret
              exact ⟨rfl, HBz.out⟩

theorem witness (os : Os) {H : Type} (enc : TypeId × Value → H) :
    (OpenSpec.ofChange Rows.wireEndsSpec).preRow enc Tryd.prog Tryd.f6 Rows.wireEndsRow.domain false Rows.wireEndsRow.laid ((laidWorld os).forCall (fun _ _ => 0) ⟨#[], #[.slice none 0 0, .string ⟨#[]⟩], []⟩).memory #[.slice none 0 0, .string ⟨#[]⟩] := by
  have hw : (DataW.whole enc Tryd.prog ((laidWorld os).forCall (fun _ _ => 0) ⟨#[], #[.slice none 0 0, .string ⟨#[]⟩], []⟩).memory Tryd.f6.params.toList Rows.wireEndsSpec.vars false (#[.slice none 0 0, .string ⟨#[]⟩] : Array Value).toList 8).map (fun x => (x.1, x.2.1)) =
      some ([.nil, .lit (.string [])], []) := by kernel_rfl
  obtain ⟨⟨x1, x2, x3⟩, hx, hx1⟩ := Option.map_eq_some_iff.1 hw
  simp only [Prod.mk.injEq] at hx1
  obtain ⟨rfl, rfl⟩ := hx1
  exact OpenSpec.preRow_of_cond 8 hx (by kernel_rfl) (fun k hk => by cases hk) (by kernel_rfl) (laid_met os _)

set_option maxRecDepth 100000 in
set_option maxHeartbeats 2000000 in
theorem lifted (os : Os) (started : os.Started) (H : Type) (enc : TypeId × Value → H) (F : Stop.Interp) :
    ReturnsInHanded {} Tryd.checked os 6 .any ((OpenSpec.ofChange Rows.wireEndsSpec).preRow enc Tryd.prog Tryd.f6 Rows.wireEndsRow.domain false Rows.wireEndsRow.laid) (((OpenSpec.ofChange Rows.wireEndsSpec).at F).post enc Tryd.prog Tryd.f6 false true false false) := by
  refine returnsInHanded_of_row (C := Tryd.checked) (s := OpenSpec.ofChange Rows.wireEndsSpec) own started (by kernel_rfl) Tryd.func6
    (witness_row_atRef (enc := enc) (C := Tryd.checked) false (laidWorld os) #[.slice none 0 0, .string ⟨#[]⟩] rfl (by kernel_rfl) (by kernel_rfl) (by kernel_rfl) (witness os enc)) ?_
  intro W base args ds gs before hval0 hW _ _ _ hL hsh _
  have hval : ∀ (j : Nat) t v, Tryd.f6.params[j]? = some t → args[j]? = some v → Value.okWide Tryd.prog W .any base t v := hval0
  have hW' := hW
  obtain ⟨p, q, hA0, hV, rfl, hfz, hnd⟩ := hW
  have hA : DataW.TrodAll enc Tryd.prog W 0 (fun _ => true) true Tryd.f6.params.toList args.toList ds p := hA0
  rw [Tryd.params6] at hA hval
  obtain ⟨v0, vs0, d0, ds0, p0, q0, hargs, rfl, rfl, h0, r0⟩ := trodAll_cons hA
  obtain ⟨v1, vs1, d1, ds1, p1, q1, rfl, rfl, rfl, h1, r1⟩ := trodAll_cons r0
  obtain ⟨rfl, rfl, rfl⟩ := trodAll_nil r1
  obtain rfl : args = #[v0, v1] := by cases args; simp_all
  obtain ⟨rfl, rfl⟩ := trodVars_none hV
  obtain ⟨a0, len0, cap0, rfl⟩ := okWide_slice Tryd.underlying22 (hval 0 22 v0 rfl rfl)
  have lt0 : ∀ x ∈ p0, x.block < W.heap.size := by obtain ⟨m, hm⟩ := h0; exact DataW.trod_lt m _ _ _ hm
  obtain ⟨l0, hl0⟩ : ∃ l, TailsOk W a0 len0 cap0 l := by obtain ⟨fuel, hf⟩ := h0; exact open_tails hf
  obtain ⟨a1, rfl, rfl, rfl, w1⟩ := open_string Tryd.underlying9 (hval 1 9 v1 rfl rfl) h1
  clear hA0 hval0
  refine (walk a0 len0 cap0 l0 hl0 a1 (env_of hL) w1).mono ?_
  rintro e W' ⟨rfl, bel⟩
  exact ⟨_, rfl, _, _, _, [], _, [], hW', trodAll_mk1 (shut_bool Tryd.underlying4 _), (trodAll_cons_mk (Below.trod laidOut (by kernel_rfl) (of_decide_eq_true (by kernel_rfl)) h0 bel lt0) (trodAll_cons_mk (shut_string Tryd.underlying9 w1) trodAll_mk0)), rfl, bel.frame _, fun h => by cases h⟩

theorem over : Rows.wireEndsRow.holds Tryd.pinned (OpenSpec.ofChange Rows.wireEndsSpec) :=
  OpenClaim.holds_of_cond 6 Tryd.f6 rfl rfl rfl rfl rfl rfl rfl ⟨rfl, rfl, rfl, rfl, rfl⟩ rfl rfl rfl rfl rfl (by kernel_rfl) Tryd.func6 (by kernel_rfl)
    (of_decide_eq_true (by kernel_rfl)) (by unfold Func.isWrapper; first | (rw [if_pos (by decide +kernel)]; kernel_rfl) | (rw [if_neg (by decide +kernel)]; exact ⟨rfl, rfl⟩))
    (fun os started H enc _ F => by rw [OpenClaim.pre_eq_preRow]; exact lifted os started H enc F)

/-- No parameter wants a stand-in. -/
theorem plain (f : FuncId) (fn : Func) (hf : Tryd.pinned.checked.prog.funcNamed Rows.wireEndsRow.func = some f) (hfn : Tryd.pinned.checked.prog.funcs[f]? = some fn) :
    true = Tryd.pinned.checked.prog.looks [] ∧ ∀ (j : Nat) t, fn.params[j]? = some t → Tryd.pinned.checked.prog.wantsStandIn t = false := by
  obtain rfl : f = 6 := Option.some.inj ((show Tryd.prog.funcNamed Rows.wireEndsRow.func = some 6 by kernel_rfl).symm.trans hf) |>.symm
  obtain rfl : fn = Tryd.f6 := (Option.some.inj (Tryd.func6.symm.trans hfn)).symm
  refine ⟨by kernel_rfl, fun j t ht => ?_⟩
  rw [Tryd.params6] at ht
  have hm := Array.mem_of_getElem? ht
  simp only [List.mem_toArray, List.mem_cons, List.not_mem_nil, or_false, or_self] at hm
  rcases hm with rfl | rfl
  · exact (show Tryd.prog.wantsStandIn 22 = false by kernel_rfl)
  · exact (show Tryd.prog.wantsStandIn 9 = false by kernel_rfl)
end Go.Proofs.YtikcbgoocljgnaaDoor.wireEnds
namespace Go.Proofs.YtikcbgoocljgnaaDoor
/-- THE STATEMENT. -/
theorem wireEnds_holds : Rows.WireEndsCardSaid :=
  Claim7.holds_tied_plain_at .later [] _ _ _ _ wireEnds.over (fun _ h => by cases h) (by kernel_rfl) (fun _ h => by cases h) wireEnds_row_tie rfl ⟨rfl, rfl⟩ (by kernel_rfl) rfl wireEnds.plain (by kernel_rfl)
#print axioms wireEnds_holds
end Go.Proofs.YtikcbgoocljgnaaDoor
