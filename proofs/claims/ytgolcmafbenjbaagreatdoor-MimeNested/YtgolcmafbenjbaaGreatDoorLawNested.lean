/- Proved here: a message within a message, as deep as one likes, is told up to MaxNest parts within one another; its header and its text are told at its path (MimeNested returns true for every input, and leaves its arguments as they were). No condition beyond what the card says: two tables of the library hold what its text lays. -/
import Derived.Test.YtgolcmafbenjbaaGreatDoorCards
import Derived.Test.YtgolcmafbenjbaaGreatDoorTie
import Derived.Test.YtgolcmafbenjbaaGreatDoorFrame
import Derived.Test.YtgolcmafbenjbaaGreatDoorQ4
import Derived.Test.YtgolcmafbenjbaaGreatDoorQ5
import Derived.ProofKit
import Derived.OpenShut
import Derived.ShutString
import Derived.Below
namespace Go.Proofs.YtgolcmafbenjbaaGreatDoor.mimeNested
open Go.ChangeShapes Go.WideShapes Go.ChangeAt Go.RowKit
open Go.ChangeMaps (open_string shut_string)
set_option linter.unusedVariables false
set_option linter.unusedSimpArgs false

theorem ss (l : Bs) : ((str l).toList == (str l).toList) = true := by simp
def Sec (s : Bs) (v : Value) (what : ByteArray) (t : Bs) (W : World) : Prop := Calls Tryz.prog 17 #[.string (str s), v, .string what] W fun e w' => e = .returned (.tuple #[.string (str t), .bool true]) ∧ Below W.heap.size W w'
theorem sec_of {s : Bs} {v : Value} {what : ByteArray} {o : Option Bs} {W : World} (h : Calls Tryz.prog 17 #[.string (str s), v, .string what] W (SOut o W)) (t : Bs) (ho : o = some t) : Sec s v what t W := by
  refine h.mono ?_
  rintro e w' ⟨hb, hv⟩
  subst ho
  exact ⟨hv, hb⟩
set_option maxRecDepth 100000 in
set_option maxHeartbeats 8000000 in
theorem walk (a0 : Int) (a1 : ByteArray) {w : World} (he : Env w) (b0 : -9223372036854775808 ≤ a0 ∧ a0 ≤ 9223372036854775807) (h1 : a1.size ≤ maxLen) :
    Calls Tryz.prog 7 #[.int .i64 a0, .string a1] w fun e w' => e = .returned (.bool true) ∧ Below w.heap.size w w' := by
  obtain ⟨s, rfl⟩ : ∃ s, a1 = str s := ⟨a1.data.toList, (str_of a1).symm⟩
  unfold maxLen at h1
  have hx := str_size s
  rw [hx] at h1
  have HE := hid he
  clear he
  have t1 : -12 < a0.tmod 12 ∧ a0.tmod 12 < 12 := ⟨Int.lt_tmod_of_pos a0 (by omega), Int.tmod_lt_of_pos a0 (by omega)⟩
  obtain ⟨k, e1, l1⟩ : ∃ k : Nat, (a0.tmod 12 + 12).tmod 12 = (k : Int) ∧ k < 12 := by
    have h2 : 0 ≤ (a0.tmod 12 + 12).tmod 12 := Int.tmod_nonneg _ (by omega)
    have h3 : (a0.tmod 12 + 12).tmod 12 < 12 := Int.tmod_lt_of_pos _ (by omega)
    exact ⟨((a0.tmod 12 + 12).tmod 12).toNat, by omega, by omega⟩
  by_cases g0 : (500 : Int) < s.length
  · go_enter Tryz.func7, Tryz.ntmps7
    go_wp2_with fail
    refine (alive_any HE.out).mono ?_
    rintro e wz ⟨rfl, hb⟩
    have HBz := hid (hb)
    clear hb
    go_wp2_with fail
    go_ret
    exact ⟨rfl, HBz.out⟩
  · have hs5 : s.length ≤ 500 := by omega
    have hap0 : (⟨#[83, 117, 98, 106, 101, 99, 116, 58, 32, 105, 110, 13, 10, 13, 10]⟩ : ByteArray) ++ str s = str (nest s 0) := app_str hSub s
    have hz0 : (⟨#[83, 117, 98, 106, 101, 99, 116, 58, 32, 105, 110, 13, 10, 13, 10]⟩ : ByteArray).size = 15 := rfl
    have HAp : Hid (∀ j, (⟨#[67, 111, 110, 116, 101, 110, 116, 45, 84, 121, 112, 101, 58, 32, 109, 101, 115, 115, 97, 103, 101, 47, 114, 102, 99, 56, 50, 50, 13, 10, 13, 10]⟩ : ByteArray) ++ str (nest s j) = str (nest s (j + 1))) := fun j => app_str hMsg (nest s j)
    have HLn := hid (nest_len s)
    go_enter Tryz.func7, Tryz.ntmps7
    go_wp2_with fail
    go_loopw [5, 26] (fun sv i wr => ∃ j : Nat, j ≤ k + 1 ∧ i = .int .i64 j ∧ sv = .string (str (nest s j)) ∧ w = wr) (fun _ i _ => 20 - (intOf i).toNat)
    case atStart => exact ⟨0, by omega, rfl, rfl, rfl⟩
    case round =>
      obtain ⟨j, hj, rfl, rfl, rfl⟩ := hrel
      by_cases hlt : j < k + 1
      · have hlt' : (j : Int) < 1 + (k : Int) := by omega
        have hap := HAp.out j
        have hzj : (str (nest s j)).size ≤ 1000 := by rw [str_size, HLn.out]; omega
        have hz1 : (⟨#[67, 111, 110, 116, 101, 110, 116, 45, 84, 121, 112, 101, 58, 32, 109, 101, 115, 115, 97, 103, 101, 47, 114, 102, 99, 56, 50, 50, 13, 10, 13, 10]⟩ : ByteArray).size = 32 := rfl
        have hno : ¬ 9223372036854775807 < (⟨#[67, 111, 110, 116, 101, 110, 116, 45, 84, 121, 112, 101, 58, 32, 109, 101, 115, 115, 97, 103, 101, 47, 114, 102, 99, 56, 50, 50, 13, 10, 13, 10]⟩ : ByteArray).size + (str (nest s j)).size := by rw [hz1]; omega
        generalize hq : str (nest s j) = q at *
        generalize hr : str (nest s (j + 1)) = r at *
        go_wp2_with fail
        go_roundw
        case rel => exact ⟨j + 1, by omega, by go_num, by rw [← hr], by first | rfl | trivial⟩
        case measure => simp [intOf]; omega
      · have hlt' : ¬ (j : Int) < 1 + (k : Int) := by omega
        have hjk : j = k + 1 := by omega
        subst hjk
        clear hlt hap0 hz0
        have HSt := hid (struc_any (nest s (k + 1)) HE.out (by rw [nest_len]; omega))
        unfold PtOut at HSt
        have HCh := hid (nest_chain s (k + 1))
        have HSc : Hid (k + 1 ≤ 7 → headSM (nest s (k + 1)) (List.replicate (k + 1) 1) = some hSub ∧ textSM (nest s (k + 1)) (List.replicate (k + 1) 1) = some s) := fun h => nest_secs s (k + 1) (by omega) h
        have HL1 : Hid ((nest s (k + 1)).length ≤ 1000) := by rw [Hid, nest_len]; omega
        generalize hM : nest s (k + 1) = M at *
        clear hM HAp HLn
        generalize hP : strucM M = P at *
        clear hP
        go_wp2_with fail
        refine HSt.out.mono ?_
        rintro e w1 ⟨⟨vp, vi, vd, vk, rfl, hpt⟩, hb1⟩
        obtain ⟨pa, pn, pc, ia, n1, c1, da, n2, c2, ka', kn, kc', rfl, rfl, rfl, hvk⟩ := hpt.slices
        obtain ⟨ka, kc, hvk', _⟩ := KsAt.slice hpt.k
        rw [hvk'] at hvk
        simp only [Value.slice.injEq] at hvk
        obtain ⟨rfl, rfl, rfl⟩ := hvk
        subst hvk'
        have hA := below1 w1 (.cells (ptC P.d (.slice pa pn pc) (.slice ia n1 c1) (.slice da n2 c2) (.slice ka P.kids.length kc)) 33)
        have HD0 := hid (d11_new w1 P.d (.slice pa pn pc) (.slice ia n1 c1) (.slice da n2 c2) (.slice ka P.kids.length kc))
        have HPt0 := hid ((hpt.mono (N' := fun q => q < w1.heap.size) (fun q hq _ => hq)).later hA)
        have HB0 := hid (hb1.trans (hA.mono hb1.size))
        have HLw := hid hb1.size
        clear hpt hb1 hA HSt
        unfold ptV ptC at *
        go_wp2_with fail
        generalize (w1.alloc (.cells #[.string (str P.d.ty), .string (str P.d.sub), .slice pa pn pc, .slice ia n1 c1, .slice da n2 c2, .string (str P.d.enc), .int .i64 P.d.hd, .int .i64 P.d.fr, .int .i64 P.d.to, .int .i64 P.d.lns, .slice ka P.kids.length kc] 33)) = X at *
        generalize w1.heap.size = pb at *
        go_loopw [7] (fun dv wr => ∃ (c t : Nat) (q : Pt) (pa : Option Addr) (pn pc : Nat) (ia : Option Addr) (n1 c1 : Nat) (da : Option Addr) (n2 c2 : Nat) (ka : Option Addr) (kc : Nat), dv = .int .i64 ((1 + t : Nat) : Int) ∧ c + t = min (k + 1) 7 ∧ Chain c q ∧ D11 wr pb q.d (.slice pa pn pc) (.slice ia n1 c1) (.slice da n2 c2) (.slice ka q.kids.length kc) ∧ PtAt wr (fun b => b < pb) 7 q (.slice pa pn pc) (.slice ia n1 c1) (.slice da n2 c2) (.slice ka q.kids.length kc) ∧ Below w.heap.size w wr) (fun dv _ => 20 - (intOf dv).toNat)
        case atStart => exact ⟨_, 0, P, _, _, _, _, _, _, _, _, _, _, _, rfl, by omega, HCh.out, HD0.out, HPt0.out, HB0.out⟩
        case round =>
          obtain ⟨c, t, q, pa, pn, pc, ia, n1, c1, da, n2, c2, ka, kc, rfl, hct, hch, hd, hpt, hb⟩ := hrel
          have HD := hid hd
          have HPt := hid hpt
          have HB := hid hb
          obtain ⟨x0, x1, x2, x3, x4, x5, x6, x7, x8, x9, x10⟩ := hd.cs
          clear hd hpt hb HD0 HPt0 HB0 HCh x0 x1 x2 x3 x4 x5 x6 x7 x8 x9
          have ht7 : t ≤ 7 := by omega
          cases c with
          | zero =>
            have hk0 : q.kids.length = 0 := by rw [show q.kids = [] from hch]; rfl
            rw [hk0] at x10
            clear hch HD HPt hk0
            by_cases hk6 : k < 7
            · have ht : t = k + 1 := by omega
              subst ht
              have hmn : min (1 + (k : Int) + 1) 8 = 1 + (k : Int) + 1 := by omega
              have hne : ((1 + (k + 1) : Nat) : Int) = 1 + (k : Int) + 1 := by omega
              have hge : ¬ (8 : Int) ≤ 1 + (k : Int) := by omega
              have HS := hid (HSc.out (by omega))
              have hmk := made_ints (k + 1) (by omega) wr
              rw [show ((k + 1 : Nat) : Int) = 1 + (k : Int) by omega] at hmk
              have hOn : OnesAt (wr.alloc (.cells (List.replicate (k + 1) (.int .i64 0)).toArray 3)) wr.heap.size (k + 1) 0 := by rw [ones_zero]; exact heap_alloc_new _ _
              have HOn := hid hOn
              have HBa := hid (HB.out.trans ((below1 wr (.cells (List.replicate (k + 1) (.int .i64 0)).toArray 3)).mono HB.out.size))
              generalize (wr.alloc (.cells (List.replicate (k + 1) (.int .i64 0)).toArray 3)) = Z at *
              have HG := hid HB.out.size
              generalize wr.heap.size = g at *
              clear hOn hct HSc HB
              rw [hne]
              go_wp2_with fail
              go_loopw [9, 55] (fun iv i wr => ∃ j : Nat, j ≤ k + 1 ∧ i = .int .i64 j ∧ OnesAt wr g (k + 1) j ∧ Below w.heap.size w wr) (fun _ i _ => 20 - (intOf i).toNat)
              case atStart => exact ⟨0, by omega, rfl, HOn.out, HBa.out⟩
              case round =>
                obtain ⟨j, hj, rfl, hon, hbj⟩ := hrel
                by_cases hlt : j < k + 1
                · have hlt' : (j : Int) < ((k + 1 : Nat) : Int) := by omega
                  obtain ⟨y1, y2⟩ := hon.cell hlt
                  have HO := hid (hon.set hlt)
                  have HBj := hid (hbj.setCell (p := ⟨g, j, none⟩) HG.out (.int .i64 1))
                  clear hon hbj HOn HBa
                  go_wp2_with fail
                  go_roundw
                  case rel => exact ⟨j + 1, by omega, by go_num, HO.out, HBj.out⟩
                  case measure => simp [intOf]; omega
                · have hlt' : ¬ (j : Int) < ((k + 1 : Nat) : Int) := by omega
                  have hjk : j = k + 1 := by omega
                  subst hjk
                  have HIl := hid hon.il
                  have HBj := hid hbj
                  have HC1 := hid (sec_of (sect_head M (HE.out.below HBj.out HE.out.pos) (by have := HL1.out; omega) _ _ HIl.out (by simp; omega)) hSub HS.out.1)
                  unfold Sec at HC1
                  clear hon hbj HOn HBa
                  go_wp2_with fail
                  refine HC1.out.mono ?_
                  rintro e w3 ⟨rfl, hb3⟩
                  have HB3 := hid (HBj.out.trans (hb3.mono HBj.out.size))
                  have HC2 := hid (sec_of (sect_text M (HE.out.below HB3.out HE.out.pos) (by have := HL1.out; omega) _ _ (HIl.out.later hb3) (by simp; omega)) s HS.out.2)
                  unfold Sec at HC2
                  clear hb3 HC1 HIl
                  go_wp2_with fail
                  refine HC2.out.mono ?_
                  rintro e w4 ⟨rfl, hb4⟩
                  have HB4 := hid (HB3.out.trans (hb4.mono HB3.out.size))
                  have r1 : ((str hSub).toList == [83, 117, 98, 106, 101, 99, 116, 58, 32, 105, 110, 13, 10, 13, 10]) = true := by rw [toL]; rfl
                  have r2 := ss s
                  clear hb4 HC2
                  go_wp2_with fail
                  refine (alive_any (HE.out.below HB4.out HE.out.pos)).mono ?_
                  rintro e wz ⟨rfl, hb⟩
                  have HBz := hid (HB4.out.trans (hb.mono HB4.out.size))
                  clear hb
                  go_wp2_with fail
                  go_ret
                  exact ⟨rfl, HBz.out⟩
            · have ht : t = 7 := by omega
              subst ht
              have hmn : min (1 + (k : Int) + 1) 8 = 8 := by omega
              have hge : (8 : Int) ≤ 1 + (k : Int) := by omega
              clear hct HSc
              go_wp2_with fail
              refine (alive_any (HE.out.below HB.out HE.out.pos)).mono ?_
              rintro e wz ⟨rfl, hb⟩
              have HBz := hid (HB.out.trans (hb.mono HB.out.size))
              clear hb
              go_wp2_with fail
              go_ret
              exact ⟨rfl, HBz.out⟩
          | succ c =>
            obtain ⟨r, hqr, hcr⟩ := hch
            have hl1 : q.kids.length = 1 := by rw [hqr]; rfl
            obtain ⟨g, o, kc9, hvk, wp, wi, wd, wk, hcs, hkp⟩ := HPt.out.kid 0 r (by rw [hqr]; rfl)
            rw [hl1] at hvk x10 HD HPt
            simp only [Value.slice.injEq] at hvk
            obtain ⟨rfl, _, rfl⟩ := hvk
            obtain ⟨qa, qn, qc, ja, n3, c3, ea, n4, c4, la', ln4', c5', rfl, rfl, rfl, hvl⟩ := hkp.slices
            obtain ⟨la, c5, hvl', _⟩ := KsAt.slice hkp.k
            rw [hvl'] at hvl
            simp only [Value.slice.injEq] at hvl
            obtain ⟨rfl, rfl, rfl⟩ := hvl
            subst hvl'
            simp only [Nat.zero_mul, Nat.add_zero] at hcs
            obtain ⟨y0, y1, y2, y3, y4, y5, y6, y7, y8, y9, y10⟩ := kid_cells (w := wr) (g := g) (b := o) hcs
            have q1 := row11_is HD.out r.d (.slice qa qn qc) (.slice ja n3 c3) (.slice ea n4 c4) (.slice la r.kids.length c5)
            have q2 := row11_self wr pb r.d (.slice qa qn qc) (.slice ja n3 c3) (.slice ea n4 c4) (.slice la r.kids.length c5)
            have HQ1 := hid q1
            have HK := hid (hkp.kept q2 (fun i hi hN => by rw [List.mem_singleton] at hi; have : i < pb := hN; omega))
            have HBn := hid (below_kept HB.out q2 (by simp; exact HLw.out) HB.out.size)
            have HCr := hid hcr
            clear hcs hkp hqr hcr hl1 q1 q2 HPt HSc
            go_wp2_with (refine wpList_store33 (d := r.d) (pa := qa) (pn := qn) (pc := qc) (ia := ja) (n1 := n3) (c1 := c3) (da := ea) (n2 := n4) (c2 := c4) (ka := la) (kn := r.kids.length) (kc := c5) rfl rfl HD.out ?_)
            go_roundw
            case rel => exact ⟨c, t + 1, r, _, _, _, _, _, _, _, _, _, _, _, by go_num, by omega, HCr.out, HQ1.out, HK.out, HBn.out⟩
            case measure => simp [intOf]; omega

theorem witness (os : Os) {H : Type} (enc : TypeId × Value → H) :
    (OpenSpec.ofChange Rows.mimeNestedSpec).preRow enc Tryz.prog Tryz.f7 Rows.mimeNestedRow.domain false Rows.mimeNestedRow.laid ((laidWorld os).forCall (fun _ _ => 0) ⟨#[], #[.int .i64 0, .string ⟨#[]⟩], []⟩).memory #[.int .i64 0, .string ⟨#[]⟩] := by
  have hw : (DataW.whole enc Tryz.prog ((laidWorld os).forCall (fun _ _ => 0) ⟨#[], #[.int .i64 0, .string ⟨#[]⟩], []⟩).memory Tryz.f7.params.toList Rows.mimeNestedSpec.vars false (#[.int .i64 0, .string ⟨#[]⟩] : Array Value).toList 8).map (fun x => (x.1, x.2.1)) =
      some ([.lit (.int .i64 0), .lit (.string [])], []) := by kernel_rfl
  obtain ⟨⟨x1, x2, x3⟩, hx, hx1⟩ := Option.map_eq_some_iff.1 hw
  simp only [Prod.mk.injEq] at hx1
  obtain ⟨rfl, rfl⟩ := hx1
  exact OpenSpec.preRow_of_cond 8 hx (by kernel_rfl) (fun k hk => by cases hk) (by kernel_rfl) (laid_met os _)

set_option maxRecDepth 100000 in
set_option maxHeartbeats 2000000 in
theorem lifted (os : Os) (started : os.Started) (H : Type) (enc : TypeId × Value → H) (F : Stop.Interp) :
    ReturnsInHanded {} Tryz.checked os 7 .any ((OpenSpec.ofChange Rows.mimeNestedSpec).preRow enc Tryz.prog Tryz.f7 Rows.mimeNestedRow.domain false Rows.mimeNestedRow.laid) (((OpenSpec.ofChange Rows.mimeNestedSpec).at F).post enc Tryz.prog Tryz.f7 false true false false) := by
  refine returnsInHanded_of_row (C := Tryz.checked) (s := OpenSpec.ofChange Rows.mimeNestedSpec) own started (by kernel_rfl) Tryz.func7
    (witness_row_atRef (enc := enc) (C := Tryz.checked) false (laidWorld os) #[.int .i64 0, .string ⟨#[]⟩] rfl (by kernel_rfl) (by kernel_rfl) (by kernel_rfl) (witness os enc)) ?_
  intro W base args ds gs before hval0 hW _ _ _ hL hsh _
  have hval : ∀ (j : Nat) t v, Tryz.f7.params[j]? = some t → args[j]? = some v → Value.okWide Tryz.prog W .any base t v := hval0
  have hW' := hW
  obtain ⟨p, q, hA0, hV, rfl, hfz, hnd⟩ := hW
  have hA : DataW.TrodAll enc Tryz.prog W 0 (fun _ => true) true Tryz.f7.params.toList args.toList ds p := hA0
  rw [Tryz.params7] at hA hval
  obtain ⟨v0, vs0, d0, ds0, p0, q0, hargs, rfl, rfl, h0, r0⟩ := trodAll_cons hA
  obtain ⟨v1, vs1, d1, ds1, p1, q1, rfl, rfl, rfl, h1, r1⟩ := trodAll_cons r0
  obtain ⟨rfl, rfl, rfl⟩ := trodAll_nil r1
  obtain rfl : args = #[v0, v1] := by cases args; simp_all
  obtain ⟨rfl, rfl⟩ := trodVars_none hV
  obtain ⟨a0, rfl, rfl, rfl, w0⟩ := open_int Tryz.underlying3 (hval 0 3 v0 rfl rfl) h0
  obtain ⟨a1, rfl, rfl, rfl, w1⟩ := open_string Tryz.underlying9 (hval 1 9 v1 rfl rfl) h1
  clear hA0 hval0
  refine (walk a0 a1 (env_of hsh) (bounds_i64 w0) w1).mono ?_
  rintro e W' ⟨rfl, bel⟩
  exact ⟨_, rfl, _, _, _, [], _, [], hW', trodAll_mk1 (shut_bool Tryz.underlying4 _), (trodAll_cons_mk (shut_int Tryz.underlying3 w0) (trodAll_cons_mk (shut_string Tryz.underlying9 w1) trodAll_mk0)), rfl, bel.frame _, fun h => by cases h⟩

theorem over : Rows.mimeNestedRow.holds Tryz.pinned (OpenSpec.ofChange Rows.mimeNestedSpec) :=
  OpenClaim.holds_of_cond 7 Tryz.f7 rfl rfl rfl rfl rfl rfl rfl ⟨rfl, rfl, rfl, rfl, rfl⟩ rfl rfl rfl rfl rfl (by kernel_rfl) Tryz.func7 (by kernel_rfl)
    (of_decide_eq_true (by kernel_rfl)) (by unfold Func.isWrapper; first | (rw [if_pos (by decide +kernel)]; kernel_rfl) | (rw [if_neg (by decide +kernel)]; exact ⟨rfl, rfl⟩))
    (fun os started H enc _ F => by rw [OpenClaim.pre_eq_preRow]; exact lifted os started H enc F)

/-- No parameter wants a stand-in. -/
theorem plain (f : FuncId) (fn : Func) (hf : Tryz.pinned.checked.prog.funcNamed Rows.mimeNestedRow.func = some f) (hfn : Tryz.pinned.checked.prog.funcs[f]? = some fn) :
    false = Tryz.pinned.checked.prog.looks [] ∧ ∀ (j : Nat) t, fn.params[j]? = some t → Tryz.pinned.checked.prog.wantsStandIn t = false := by
  obtain rfl : f = 7 := Option.some.inj ((show Tryz.prog.funcNamed Rows.mimeNestedRow.func = some 7 by kernel_rfl).symm.trans hf) |>.symm
  obtain rfl : fn = Tryz.f7 := (Option.some.inj (Tryz.func7.symm.trans hfn)).symm
  refine ⟨by kernel_rfl, fun j t ht => ?_⟩
  rw [Tryz.params7] at ht
  have hm := Array.mem_of_getElem? ht
  simp only [List.mem_toArray, List.mem_cons, List.not_mem_nil, or_false, or_self] at hm
  rcases hm with rfl | rfl
  · exact (show Tryz.prog.wantsStandIn 3 = false by kernel_rfl)
  · exact (show Tryz.prog.wantsStandIn 9 = false by kernel_rfl)
end Go.Proofs.YtgolcmafbenjbaaGreatDoor.mimeNested
namespace Go.Proofs.YtgolcmafbenjbaaGreatDoor
/-- THE STATEMENT. -/
theorem mimeNested_holds : Rows.MimeNestedCardSaid :=
  Claim7.holds_tied_plain_at .later [] _ _ _ _ mimeNested.over (fun _ h => by cases h) (by kernel_rfl) (fun _ h => by cases h) mimeNested_row_tie rfl ⟨rfl, rfl⟩ (by kernel_rfl) rfl mimeNested.plain (by kernel_rfl)
#print axioms mimeNested_holds
end Go.Proofs.YtgolcmafbenjbaaGreatDoor
