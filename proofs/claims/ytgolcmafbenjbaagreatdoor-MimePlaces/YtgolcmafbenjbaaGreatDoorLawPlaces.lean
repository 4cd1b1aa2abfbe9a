/- Proved here: each part lies in the content of the one that it is a kid of, one behind the other; the whole one is the message; there are not too many; each has the section that its places tell (MimePlaces returns true for every input, and leaves its arguments as they were). No condition beyond what the card says: two tables of the library hold what its text lays. -/
import Derived.Test.YtgolcmafbenjbaaGreatDoorCards
import Derived.Test.YtgolcmafbenjbaaGreatDoorTie
import Derived.Test.YtgolcmafbenjbaaGreatDoorFrame
import Derived.Test.YtgolcmafbenjbaaGreatDoorQ3
import Derived.ProofKit
import Derived.OpenShut
import Derived.ShutString
import Derived.Below
namespace Go.Proofs.YtgolcmafbenjbaaGreatDoor.mimePlaces
open Go.ChangeShapes Go.WideShapes Go.ChangeAt Go.RowKit
open Go.ChangeMaps (open_string shut_string)
set_option linter.unusedVariables false
set_option linter.unusedSimpArgs false

theorem il_nil (w : World) : IL w (.slice none 0 0) [] := ⟨none, 0, rfl, Nat.le_refl _, .inl rfl⟩
theorem ss (l : Bs) : ((str l).toList == (str l).toList) = true := by simp
theorem sn (l : Bs) : ((str l).toList != (str l).toList) = false := by simp [bne]
/-- A place among so many. -/
theorem among (c : Int) (n : Nat) (h : 0 < n) : -(n : Int) < Int.tmod c (n : Int) ∧ Int.tmod c (n : Int) < n ∧ ∃ k : Nat, k < n ∧ Int.tmod (Int.tmod c (n : Int) + n) (n : Int) = k := by
  have h1 : Int.tmod c (n : Int) < (n : Int) := Int.tmod_lt_of_pos c (by omega)
  have h2 : -(n : Int) < Int.tmod c (n : Int) := Int.lt_tmod_of_pos c (by omega)
  refine ⟨h2, h1, ?_⟩
  have h3 : 0 ≤ Int.tmod (Int.tmod c (n : Int) + n) (n : Int) := Int.tmod_nonneg _ (by omega)
  have h4 : Int.tmod (Int.tmod c (n : Int) + n) (n : Int) < (n : Int) := Int.tmod_lt_of_pos _ (by omega)
  exact ⟨(Int.tmod (Int.tmod c (n : Int) + n) (n : Int)).toNat, by omega, by omega⟩
def Sec (s : Bs) (v : Value) (what : ByteArray) (t : Bs) (ok : Bool) (W : World) : Prop := Calls Tryz.prog 17 #[.string (str s), v, .string what] W fun e w' => e = .returned (.tuple #[.string (str t), .bool ok]) ∧ Below W.heap.size W w'
theorem sec_of {s : Bs} {v : Value} {what : ByteArray} {o : Option Bs} {W : World} (h : Calls Tryz.prog 17 #[.string (str s), v, .string what] W (SOut o W)) (t : Bs) (ok : Bool) (ho : o = if ok then some t else none) (ht : ok = false → t = []) : Sec s v what t ok W := by
  refine h.mono ?_
  rintro e w' ⟨hb, hv⟩
  subst ho
  cases ok with
  | true => exact ⟨hv, hb⟩
  | false => rw [ht rfl]; exact ⟨hv, hb⟩
set_option maxRecDepth 100000 in
set_option maxHeartbeats 8000000 in
theorem walk (a0 : ByteArray) (a1 : Int) {w : World} (he : Env w) (h0 : a0.size ≤ maxLen) (b1 : -9223372036854775808 ≤ a1 ∧ a1 ≤ 9223372036854775807) :
    Calls Tryz.prog 5 #[.string a0, .int .i64 a1] w fun e w' => e = .returned (.bool true) ∧ Below w.heap.size w w' := by
  obtain ⟨s, rfl⟩ : ∃ s, a0 = str s := ⟨a0.data.toList, (str_of a0).symm⟩
  unfold maxLen at h0
  have hx := str_size s
  rw [hx] at h0
  have HE := hid he
  clear he
  by_cases g0 : (3000 : Int) < s.length
  · go_enter Tryz.func5, Tryz.ntmps5
    go_wp2_with fail
    refine (alive_any HE.out).mono ?_
    rintro e wz ⟨rfl, hb⟩
    have HBz := hid (hb)
    clear hb
    go_wp2_with fail
    go_ret
    exact ⟨rfl, HBz.out⟩
  · have hs3 : s.length ≤ 3000 := by omega
    have HSt := hid (struc_any s HE.out (by omega))
    unfold PtOut at HSt
    have HPl := hid (pl_struc s)
    have HWi := hid (wi_struc s)
    obtain ⟨hc1, hc2⟩ := struc_cnt s
    have hhd := struc_hd s
    have hto := struc_to s
    have hfr := (pl_struc s).at
    obtain ⟨th, hth⟩ : ∃ x, s.take (strucM s).d.fr = x := ⟨_, rfl⟩
    obtain ⟨tt, htt⟩ : ∃ x, s.drop (strucM s).d.fr = x := ⟨_, rfl⟩
    have hap : th ++ tt = s := by rw [← hth, ← htt]; exact List.take_append_drop _ _
    have HS1 : Hid (∀ W, Env W → Sec s (.slice none 0 0) ⟨#[72, 69, 65, 68, 69, 82]⟩ th true W) := fun W h => sec_of (sect_head s h (by omega) [] _ (il_nil W) (by simp)) th true (by rw [sec_head, hth]; rfl) (by simp)
    have HS2 : Hid (∀ W, Env W → Sec s (.slice none 0 0) ⟨#[84, 69, 88, 84]⟩ tt true W) := fun W h => sec_of (sect_text s h (by omega) [] _ (il_nil W) (by simp)) tt true (by rw [sec_text, htt]; rfl) (by simp)
    have HS3 : Hid (∀ W, Env W → Sec s (.slice none 0 0) ⟨#[]⟩ s true W) := fun W h => sec_of (sect_body s h (by omega) [] _ (il_nil W) (by simp)) s true (by rw [sec_body]; rfl) (by simp)
    have HS4 : Hid (partedB (strucM s) = false → ∀ W q, W.heap.size = q → Env W → Sec s (.slice (some ⟨q, 0, none⟩) 1 1) ⟨#[]⟩ tt true (W.alloc (.cells #[.int .i64 1] 3))) := fun hp W q hq h => by subst hq; exact sec_of (sect_body s (h.later (below1 _ _)) (by omega) [1] _ (il_one W 1) (by simp)) tt true (by rw [sec_one s hp, htt]; rfl) (by simp)
    have HS5 : Hid (partedB (strucM s) = false → ∀ W q, W.heap.size = q → Env W → Sec s (.slice (some ⟨q, 0, none⟩) 1 1) ⟨#[]⟩ [] false (W.alloc (.cells #[.int .i64 2] 3))) := fun hp W q hq h => by subst hq; exact sec_of (sect_body s (h.later (below1 _ _)) (by omega) [2] _ (il_one W 2) (by simp)) [] false (by rw [sec_two s hp]; rfl) (by simp)
    have HS6 : Hid (partedB (strucM s) = true → ∀ (i : Nat) (k : Pt), (strucM s).kids[i]? = some k → ∀ W q, W.heap.size = q → Env W → Sec s (.slice (some ⟨q, 0, none⟩) 1 1) ⟨#[]⟩ (inn s k.d.fr k.d.to) true (W.alloc (.cells #[.int .i64 ((i : Int) + 1)] 3))) := fun hp i k hk W q hq h => by subst hq; exact sec_of (sect_body s (h.later (below1 _ _)) (by omega) [(i : Int) + 1] _ (il_one W _) (by simp)) _ true (by rw [sec_kid s hp i k hk]; rfl) (by simp)
    have HS7 : Hid (partedB (strucM s) = true → ∀ (i : Nat) (k : Pt), (strucM s).kids[i]? = some k → ∀ W q, W.heap.size = q → Env W → Sec s (.slice (some ⟨q, 0, none⟩) 1 1) ⟨#[77, 73, 77, 69]⟩ (inn s k.d.hd k.d.fr) true (W.alloc (.cells #[.int .i64 ((i : Int) + 1)] 3))) := fun hp i k hk W q hq h => by subst hq; exact sec_of (sect_mime s (h.later (below1 _ _)) (by omega) [(i : Int) + 1] _ (il_one W _) (by simp)) _ true (by rw [sec_mime s hp i k hk]; rfl) (by simp)
    have HS8 : Hid (partedB (strucM s) = true → ∀ W q, W.heap.size = q → Env W → Sec s (.slice (some ⟨q, 0, none⟩) 1 1) ⟨#[]⟩ [] false (W.alloc (.cells #[.int .i64 (((strucM s).kids.length : Int) + 1)] 3))) := fun hp W q hq h => by subst hq; exact sec_of (sect_body s (h.later (below1 _ _)) (by omega) [((strucM s).kids.length : Int) + 1] _ (il_one W _) (by simp)) [] false (by rw [sec_over s hp]; rfl) (by simp)
    have HKs := hid (kids_le 6 (strucM s) (by show cntD 7 (strucM s) ≤ 1000; omega))
    unfold Sec at *
    have hpb : partedB (strucM s) = (isMulti (strucM s).d && decide (0 < (strucM s).kids.length)) := rfl
    have HPb := hid hpb
    have hfe : (str s).extract 0 (strucM s).d.fr = str th := by rw [← hth]; exact take_str s _
    have HCo : Hid (∀ W N vp vi vd vk, PtAt W N 7 (strucM s) vp vi vd vk → Calls Tryz.prog 15 #[ptV (strucM s).d vp vi vd vk] W fun e w' => e = .returned (.int .i64 (cntD 7 (strucM s))) ∧ Below W.heap.size W w') := fun W N vp vi vd vk h => cnt_ok 7 W N _ _ _ _ _ h (by omega) HKs.out
    have HWo : Hid (∀ W N vp vi vd vk, PtAt W N 7 (strucM s) vp vi vd vk → Calls Tryz.prog 16 #[ptV (strucM s).d vp vi vd vk, .int .i64 0, .int .i64 s.length] W fun e w' => e = .returned (.bool true) ∧ Below W.heap.size W w') := fun W N vp vi vd vk h => within_ok 7 W N _ _ _ _ _ 0 s.length h HWi.out (by omega)
    generalize cntD 7 (strucM s) = cn at *
    generalize strucM s = P at *
    have r1 : ((P.d.hd : Int) != 0) = false := by rw [hhd]; rfl
    have r2 : ((P.d.to : Int) != (s.length : Int)) = false := by rw [hto]; simp [bne]
    have r3 : ¬ ((cn : Int) < 1) := by omega
    have r4 : ¬ ((60 : Int) < (cn : Int)) := by omega
    have hapl : ¬ 9223372036854775807 < (str th).size + (str tt).size := by rw [str_size, str_size, ← List.length_append, hap]; omega
    have happ : str th ++ str tt = str s := by rw [app_str, hap]
    have r5 := sn s
    have r6 := sn th
    have r7 := ss tt
    have hfl : P.d.fr ≤ s.length := by omega
    have hfl' : (P.d.fr : Int) ≤ s.length := by omega
    have Hto := hid hto
    clear hc1 hc2 hhd hto hth htt hap hpb hfr HWi
    go_enter Tryz.func5, Tryz.ntmps5
    go_wp2_with fail
    refine HSt.out.mono ?_
    rintro e w1 ⟨⟨vp, vi, vd, vk, rfl, hpt⟩, hb1⟩
    obtain ⟨pa, pn, pc, ia, n1, c1, da, n2, c2, ka, kn, kc, rfl, rfl, rfl, hvk⟩ := hpt.slices
    obtain ⟨ka', kc', hvk', _⟩ := KsAt.slice hpt.k
    rw [hvk'] at hvk
    simp only [Value.slice.injEq] at hvk
    obtain ⟨rfl, rfl, rfl⟩ := hvk
    subst hvk'
    have hA := below1 w1 (.cells (ptC P.d (.slice pa pn pc) (.slice ia n1 c1) (.slice da n2 c2) (.slice ka' P.kids.length kc')) 33)
    have HD0 := hid (d11_new w1 P.d (.slice pa pn pc) (.slice ia n1 c1) (.slice da n2 c2) (.slice ka' P.kids.length kc'))
    have HPt0 := hid (hpt.later hA)
    have HB0 := hid (hb1.trans (hA.mono hb1.size))
    clear hpt hb1 hA HSt
    unfold ptV ptC at *
    go_wp2_with fail
    generalize (w1.alloc (.cells #[.string (str P.d.ty), .string (str P.d.sub), .slice pa pn pc, .slice ia n1 c1, .slice da n2 c2, .string (str P.d.enc), .int .i64 P.d.hd, .int .i64 P.d.fr, .int .i64 P.d.to, .int .i64 P.d.lns, .slice ka' P.kids.length kc'] 33)) = X at *
    generalize w1.heap.size = pb at *
    obtain ⟨x0, x1, x2, x3, x4, x5, x6, x7, x8, x9, x10⟩ := HD0.out.cs
    refine (HCo.out _ _ _ _ _ _ HPt0.out).mono ?_
    rintro e w2 ⟨rfl, hb2⟩
    clear x0 x1 x2 x3 x4 x5 x6 x7 x8 x9 x10
    have HD2 := hid (HD0.out.later hb2)
    have HPt2 := hid (HPt0.out.later hb2)
    have HB2 := hid (HB0.out.trans (hb2.mono HB0.out.size))
    clear HD0 HPt0 HB0
    clear hb2
    obtain ⟨x0, x1, x2, x3, x4, x5, x6, x7, x8, x9, x10⟩ := HD2.out.cs
    go_wp2_with fail
    refine (HWo.out _ _ _ _ _ _ HPt2.out).mono ?_
    rintro e w3 ⟨rfl, hb3⟩
    clear x0 x1 x2 x3 x4 x5 x6 x7 x8 x9 x10
    have HD3 := hid (HD2.out.later hb3)
    have HPt3 := hid (HPt2.out.later hb3)
    have HB3 := hid (HB2.out.trans (hb3.mono HB2.out.size))
    clear HD2 HPt2 HB2
    clear hb3
    obtain ⟨x0, x1, x2, x3, x4, x5, x6, x7, x8, x9, x10⟩ := HD3.out.cs
    go_wp2_with fail
    refine (HS1.out _ (HE.out.below HB3.out HE.out.pos)).mono ?_
    rintro e w4 ⟨rfl, hb4⟩
    clear x0 x1 x2 x3 x4 x5 x6 x7 x8 x9 x10
    have HD4 := hid (HD3.out.later hb4)
    have HPt4 := hid (HPt3.out.later hb4)
    have HB4 := hid (HB3.out.trans (hb4.mono HB3.out.size))
    clear HD3 HPt3 HB3
    clear hb4
    go_wp2_with fail
    refine (HS2.out _ (HE.out.below HB4.out HE.out.pos)).mono ?_
    rintro e w5 ⟨rfl, hb5⟩
    have HD5 := hid (HD4.out.later hb5)
    have HPt5 := hid (HPt4.out.later hb5)
    have HB5 := hid (HB4.out.trans (hb5.mono HB4.out.size))
    clear HD4 HPt4 HB4
    clear hb5
    go_wp2_with fail
    refine (HS3.out _ (HE.out.below HB5.out HE.out.pos)).mono ?_
    rintro e w6 ⟨rfl, hb6⟩
    have HD6 := hid (HD5.out.later hb6)
    have HPt6 := hid (HPt5.out.later hb6)
    have HB6 := hid (HB5.out.trans (hb6.mono HB5.out.size))
    clear HD5 HPt5 HB5
    clear hb6
    obtain ⟨x0, x1, x2, x3, x4, x5, x6, x7, x8, x9, x10⟩ := HD6.out.cs

    by_cases hm : P.d.ty = wMulti
    · have hm1 : (str P.d.ty).toList = [109, 117, 108, 116, 105, 112, 97, 114, 116] := by rw [toL, hm]; rfl
      by_cases hk : 0 < P.kids.length
      · have hpt : partedB P = true := by rw [HPb.out]; simp [isMulti, hm, hk]
        have hkz : ((P.kids.length : Int) == 0) = false := by rw [beq_eq_false_iff_ne]; omega
        have Hm := hid hm
        clear hm
        go_wp2_with fail
        obtain ⟨m1, m2, i, hi, him⟩ := among a1 P.kids.length hk
        obtain ⟨k, hki⟩ : ∃ k, P.kids[i]? = some k := ⟨P.kids[i], List.getElem?_eq_getElem hi⟩
        obtain ⟨g, o, kc9, hvk, wp, wi, wd, wk, hcs, hkp⟩ := HPt6.out.kid i k hki
        simp only [Value.slice.injEq] at hvk
        obtain ⟨rfl, _, rfl⟩ := hvk
        have hpl := (HPl.out.kid (List.mem_of_getElem? hki)).at
        have HS6k := hid (HS6.out hpt i k hki)
        have HS7k := hid (HS7.out hpt i k hki)
        have HS8k := hid (HS8.out hpt)
        obtain ⟨qa, qn, qc, ja, n3, c3, ea, n4, c4, la, ln4, c5, rfl, rfl, rfl, rfl⟩ := hkp.slices
        have hex : (str s).extract k.d.fr k.d.to = str (inn s k.d.fr k.d.to) := mid_str s _ _
        have hex2 : (str s).extract k.d.hd k.d.fr = str (inn s k.d.hd k.d.fr) := mid_str s _ _
        have t1 := ss (inn s k.d.fr k.d.to)
        have t2 := ss (inn s k.d.hd k.d.fr)
        generalize inn s k.d.fr k.d.to = yt at *
        generalize inn s k.d.hd k.d.fr = yh at *
        have hM0 : ¬ P.kids.length = 0 := by omega
        have hi' : (i : Int) < P.kids.length := by omega
        generalize P.kids.length = K at *
        go_quiet (fail)
        have hKl : K ≤ 1000 := HKs.out
        have hw : wrap64 (a1.tmod ↑K + ↑K) = a1.tmod ↑K + ↑K := by unfold wrap64; omega
        rw [hw, him]
        have hb7 : Below w6.heap.size w6 (w6.drewN nq) := ⟨rfl, rfl, rfl, Nat.le_refl _, fun _ _ => rfl⟩
        generalize w6.drewN nq = w7 at *
        clear x0 x1 x2 x3 x4 x5 x6 x7 x8 x9 x10
        have HD7 := hid (HD6.out.later hb7)
        have HPt7 := hid (HPt6.out.later hb7)
        have HB7 := hid (HB6.out.trans (hb7.mono HB6.out.size))
        clear HD6 HPt6 HB6
        have hbk : Kept [] w6 w7 := Kept.ofBelow hb7 []
        obtain ⟨y0, y1, y2, y3, y4, y5, y6, y7, y8, y9, y10⟩ := kid_cells (w := w7) (g := g) (b := o + i * 11) (fun i' x hx => hbk.cell (hcs i' x hx) (by simp))
        clear hb7 hbk hcs hkp m1 m2 him hw hki HS6 HS7 HS8
        obtain ⟨x0, x1, x2, x3, x4, x5, x6, x7, x8, x9, x10⟩ := HD7.out.cs
        have hA8 := below1 w7 (.cells (ptC k.d (.slice qa qn qc) (.slice ja n3 c3) (.slice ea n4 c4) (.slice la ln4 c5)) 33)
        have HKD8 := hid (d11_new w7 k.d (.slice qa qn qc) (.slice ja n3 c3) (.slice ea n4 c4) (.slice la ln4 c5))
        have hsz : (w7.alloc (.cells (ptC k.d (.slice qa qn qc) (.slice ja n3 c3) (.slice ea n4 c4) (.slice la ln4 c5)) 33)).heap.size = w7.heap.size + 1 := World.size_alloc _ _
        have HSz := hid hsz
        have HD8 := hid (HD7.out.later hA8)
        have HPt8 := hid (HPt7.out.later hA8)
        have HB8 := hid (HB7.out.trans (hA8.mono HB7.out.size))
        clear HD7 HPt7 HB7
        clear hA8 hsz
        unfold ptV ptC at *
        go_wp2_with fail
        generalize (w7.alloc (.cells #[.string (str k.d.ty), .string (str k.d.sub), .slice qa qn qc, .slice ja n3 c3, .slice ea n4 c4, .string (str k.d.enc), .int .i64 k.d.hd, .int .i64 k.d.fr, .int .i64 k.d.to, .int .i64 k.d.lns, .slice la ln4 c5] 33)) = W8 at *
        refine (HS6k.out _ _ HSz.out (HE.out.below HB8.out HE.out.pos)).mono ?_
        rintro e w9 ⟨rfl, hb9'⟩
        have hb9 := (below1 W8 (.cells #[.int .i64 ((i : Int) + 1)] 3)).trans (hb9'.mono (below1 W8 (.cells #[.int .i64 ((i : Int) + 1)] 3)).size)
        have HKD9 := hid (HKD8.out.later hb9)
        clear x0 x1 x2 x3 x4 x5 x6 x7 x8 x9 x10
        have HD9 := hid (HD8.out.later hb9)
        have HPt9 := hid (HPt8.out.later hb9)
        have HB9 := hid (HB8.out.trans (hb9.mono HB8.out.size))
        clear HD8 HPt8 HB8
        clear hb9 hb9' y0 y1 y2 y3 y4 y5 y6 y7 y8 y9 y10
        go_wp2_with fail
        refine (HS7k.out _ _ rfl (HE.out.below HB9.out HE.out.pos)).mono ?_
        rintro e w10 ⟨rfl, hb10'⟩
        have hb10 := (below1 w9 (.cells #[.int .i64 ((i : Int) + 1)] 3)).trans (hb10'.mono (below1 w9 (.cells #[.int .i64 ((i : Int) + 1)] 3)).size)
        have HKD10 := hid (HKD9.out.later hb10)
        have HD10 := hid (HD9.out.later hb10)
        have HPt10 := hid (HPt9.out.later hb10)
        have HB10 := hid (HB9.out.trans (hb10.mono HB9.out.size))
        clear HD9 HPt9 HB9
        clear hb10 hb10'
        obtain ⟨x0, x1, x2, x3, x4, x5, x6, x7, x8, x9, x10⟩ := HD10.out.cs
        go_wp2_with fail
        refine (HS8k.out _ _ rfl (HE.out.below HB10.out HE.out.pos)).mono ?_
        rintro e w11 ⟨rfl, hb11'⟩
        have hb11 := (below1 w10 (.cells #[.int .i64 ((K : Int) + 1)] 3)).trans (hb11'.mono (below1 w10 (.cells #[.int .i64 ((K : Int) + 1)] 3)).size)
        have HKD11 := hid (HKD10.out.later hb11)
        clear x0 x1 x2 x3 x4 x5 x6 x7 x8 x9 x10
        have HD11 := hid (HD10.out.later hb11)
        have HPt11 := hid (HPt10.out.later hb11)
        have HB11 := hid (HB10.out.trans (hb11.mono HB10.out.size))
        clear HD10 HPt10 HB10
        clear hb11 hb11'
        obtain ⟨x0, x1, x2, x3, x4, x5, x6, x7, x8, x9, x10⟩ := HKD11.out.cs
        obtain ⟨z1, z2, z3⟩ := hpl
        have z2' : (k.d.fr : Int) ≤ k.d.to := by omega
        have z3' : (k.d.to : Int) ≤ s.length := by omega
        have z1' : (k.d.hd : Int) ≤ k.d.fr := by omega
        have z4 : k.d.fr ≤ s.length := by omega
        have z4' : (k.d.fr : Int) ≤ s.length := by omega
        go_wp2_with fail
        refine (alive_any (HE.out.below HB11.out HE.out.pos)).mono ?_
        rintro e wz ⟨rfl, hb⟩
        have HBz := hid (HB11.out.trans (hb.mono HB11.out.size))
        clear hb
        go_wp2_with fail
        go_ret
        exact ⟨rfl, HBz.out⟩
      · have hpt : partedB P = false := by rw [HPb.out]; simp [hk]
        have hk0 : P.kids.length = 0 := by omega
        have hkz : ((P.kids.length : Int) == 0) = true := by rw [hk0]; rfl
        have Hm := hid hm
        have Hk0 := hid hk0
        clear hm hk hk0
        go_wp2_with fail
        refine (HS4.out hpt _ _ rfl (HE.out.below HB6.out HE.out.pos)).mono ?_
        rintro e w7 ⟨rfl, hb7⟩
        clear x0 x1 x2 x3 x4 x5 x6 x7 x8 x9 x10
        have hA7 := below1 w6 (.cells #[.int .i64 1] 3)
        have HB7 := hid (HB6.out.trans ((hA7.trans (hb7.mono hA7.size)).mono HB6.out.size))
        clear hb7 hA7
        go_wp2_with fail
        refine (HS5.out hpt _ _ rfl (HE.out.below HB7.out HE.out.pos)).mono ?_
        rintro e w8 ⟨rfl, hb8⟩
        have hA8 := below1 w7 (.cells #[.int .i64 2] 3)
        have HB8 := hid (HB7.out.trans ((hA8.trans (hb8.mono hA8.size)).mono HB7.out.size))
        clear hb8 hA8
        go_wp2_with fail
        refine (alive_any (HE.out.below HB8.out HE.out.pos)).mono ?_
        rintro e wz ⟨rfl, hb⟩
        have HBz := hid (HB8.out.trans (hb.mono HB8.out.size))
        clear hb
        go_wp2_with fail
        go_ret
        exact ⟨rfl, HBz.out⟩
    · have hm1 : ¬ (str P.d.ty).toList = [109, 117, 108, 116, 105, 112, 97, 114, 116] := by rw [toL]; exact hm
      have hpt : partedB P = false := by rw [HPb.out]; simp [isMulti, hm]
      have Hm := hid hm
      clear hm
      go_wp2_with fail
      refine (HS4.out hpt _ _ rfl (HE.out.below HB6.out HE.out.pos)).mono ?_
      rintro e w7 ⟨rfl, hb7⟩
      clear x0 x1 x2 x3 x4 x5 x6 x7 x8 x9 x10
      have hA7 := below1 w6 (.cells #[.int .i64 1] 3)
      have HB7 := hid (HB6.out.trans ((hA7.trans (hb7.mono hA7.size)).mono HB6.out.size))
      clear hb7 hA7
      go_wp2_with fail
      refine (HS5.out hpt _ _ rfl (HE.out.below HB7.out HE.out.pos)).mono ?_
      rintro e w8 ⟨rfl, hb8⟩
      have hA8 := below1 w7 (.cells #[.int .i64 2] 3)
      have HB8 := hid (HB7.out.trans ((hA8.trans (hb8.mono hA8.size)).mono HB7.out.size))
      clear hb8 hA8
      go_wp2_with fail
      refine (alive_any (HE.out.below HB8.out HE.out.pos)).mono ?_
      rintro e wz ⟨rfl, hb⟩
      have HBz := hid (HB8.out.trans (hb.mono HB8.out.size))
      clear hb
      go_wp2_with fail
      go_ret
      exact ⟨rfl, HBz.out⟩

theorem witness (os : Os) {H : Type} (enc : TypeId × Value → H) :
    (OpenSpec.ofChange Rows.mimePlacesSpec).preRow enc Tryz.prog Tryz.f5 Rows.mimePlacesRow.domain false Rows.mimePlacesRow.laid ((laidWorld os).forCall (fun _ _ => 0) ⟨#[], #[.string ⟨#[]⟩, .int .i64 0], []⟩).memory #[.string ⟨#[]⟩, .int .i64 0] := by
  have hw : (DataW.whole enc Tryz.prog ((laidWorld os).forCall (fun _ _ => 0) ⟨#[], #[.string ⟨#[]⟩, .int .i64 0], []⟩).memory Tryz.f5.params.toList Rows.mimePlacesSpec.vars false (#[.string ⟨#[]⟩, .int .i64 0] : Array Value).toList 8).map (fun x => (x.1, x.2.1)) =
      some ([.lit (.string []), .lit (.int .i64 0)], []) := by kernel_rfl
  obtain ⟨⟨x1, x2, x3⟩, hx, hx1⟩ := Option.map_eq_some_iff.1 hw
  simp only [Prod.mk.injEq] at hx1
  obtain ⟨rfl, rfl⟩ := hx1
  exact OpenSpec.preRow_of_cond 8 hx (by kernel_rfl) (fun k hk => by cases hk) (by kernel_rfl) (laid_met os _)

set_option maxRecDepth 100000 in
set_option maxHeartbeats 2000000 in
theorem lifted (os : Os) (started : os.Started) (H : Type) (enc : TypeId × Value → H) (F : Stop.Interp) :
    ReturnsInHanded {} Tryz.checked os 5 .any ((OpenSpec.ofChange Rows.mimePlacesSpec).preRow enc Tryz.prog Tryz.f5 Rows.mimePlacesRow.domain false Rows.mimePlacesRow.laid) (((OpenSpec.ofChange Rows.mimePlacesSpec).at F).post enc Tryz.prog Tryz.f5 false true false false) := by
  refine returnsInHanded_of_row (C := Tryz.checked) (s := OpenSpec.ofChange Rows.mimePlacesSpec) own started (by kernel_rfl) Tryz.func5
    (witness_row_atRef (enc := enc) (C := Tryz.checked) false (laidWorld os) #[.string ⟨#[]⟩, .int .i64 0] rfl (by kernel_rfl) (by kernel_rfl) (by kernel_rfl) (witness os enc)) ?_
  intro W base args ds gs before hval0 hW _ _ _ hL hsh _
  have hval : ∀ (j : Nat) t v, Tryz.f5.params[j]? = some t → args[j]? = some v → Value.okWide Tryz.prog W .any base t v := hval0
  have hW' := hW
  obtain ⟨p, q, hA0, hV, rfl, hfz, hnd⟩ := hW
  have hA : DataW.TrodAll enc Tryz.prog W 0 (fun _ => true) true Tryz.f5.params.toList args.toList ds p := hA0
  rw [Tryz.params5] at hA hval
  obtain ⟨v0, vs0, d0, ds0, p0, q0, hargs, rfl, rfl, h0, r0⟩ := trodAll_cons hA
  obtain ⟨v1, vs1, d1, ds1, p1, q1, rfl, rfl, rfl, h1, r1⟩ := trodAll_cons r0
  obtain ⟨rfl, rfl, rfl⟩ := trodAll_nil r1
  obtain rfl : args = #[v0, v1] := by cases args; simp_all
  obtain ⟨rfl, rfl⟩ := trodVars_none hV
  obtain ⟨a0, rfl, rfl, rfl, w0⟩ := open_string Tryz.underlying9 (hval 0 9 v0 rfl rfl) h0
  obtain ⟨a1, rfl, rfl, rfl, w1⟩ := open_int Tryz.underlying3 (hval 1 3 v1 rfl rfl) h1
  clear hA0 hval0
  refine (walk a0 a1 (env_of hsh) w0 (bounds_i64 w1)).mono ?_
  rintro e W' ⟨rfl, bel⟩
  exact ⟨_, rfl, _, _, _, [], _, [], hW', trodAll_mk1 (shut_bool Tryz.underlying4 _), (trodAll_cons_mk (shut_string Tryz.underlying9 w0) (trodAll_cons_mk (shut_int Tryz.underlying3 w1) trodAll_mk0)), rfl, bel.frame _, fun h => by cases h⟩

theorem over : Rows.mimePlacesRow.holds Tryz.pinned (OpenSpec.ofChange Rows.mimePlacesSpec) :=
  OpenClaim.holds_of_cond 5 Tryz.f5 rfl rfl rfl rfl rfl rfl rfl ⟨rfl, rfl, rfl, rfl, rfl⟩ rfl rfl rfl rfl rfl (by kernel_rfl) Tryz.func5 (by kernel_rfl)
    (of_decide_eq_true (by kernel_rfl)) (by unfold Func.isWrapper; first | (rw [if_pos (by decide +kernel)]; kernel_rfl) | (rw [if_neg (by decide +kernel)]; exact ⟨rfl, rfl⟩))
    (fun os started H enc _ F => by rw [OpenClaim.pre_eq_preRow]; exact lifted os started H enc F)

/-- No parameter wants a stand-in. -/
theorem plain (f : FuncId) (fn : Func) (hf : Tryz.pinned.checked.prog.funcNamed Rows.mimePlacesRow.func = some f) (hfn : Tryz.pinned.checked.prog.funcs[f]? = some fn) :
    false = Tryz.pinned.checked.prog.looks [] ∧ ∀ (j : Nat) t, fn.params[j]? = some t → Tryz.pinned.checked.prog.wantsStandIn t = false := by
  obtain rfl : f = 5 := Option.some.inj ((show Tryz.prog.funcNamed Rows.mimePlacesRow.func = some 5 by kernel_rfl).symm.trans hf) |>.symm
  obtain rfl : fn = Tryz.f5 := (Option.some.inj (Tryz.func5.symm.trans hfn)).symm
  refine ⟨by kernel_rfl, fun j t ht => ?_⟩
  rw [Tryz.params5] at ht
  have hm := Array.mem_of_getElem? ht
  simp only [List.mem_toArray, List.mem_cons, List.not_mem_nil, or_false, or_self] at hm
  rcases hm with rfl | rfl
  · exact (show Tryz.prog.wantsStandIn 9 = false by kernel_rfl)
  · exact (show Tryz.prog.wantsStandIn 3 = false by kernel_rfl)
end Go.Proofs.YtgolcmafbenjbaaGreatDoor.mimePlaces
namespace Go.Proofs.YtgolcmafbenjbaaGreatDoor
/-- THE STATEMENT. -/
theorem mimePlaces_holds : Rows.MimePlacesCardSaid :=
  Claim7.holds_tied_plain_at .later [] _ _ _ _ mimePlaces.over (fun _ h => by cases h) (by kernel_rfl) (fun _ h => by cases h) mimePlaces_row_tie rfl ⟨rfl, rfl⟩ (by kernel_rfl) rfl mimePlaces.plain (by kernel_rfl)
#print axioms mimePlaces_holds
end Go.Proofs.YtgolcmafbenjbaaGreatDoor
