/- Proved here: whatever is written, read, flushed, whenever the power goes, and whatever crashes keep, a disk answers, and has, what the document says (DiskPlays returns true for every input, and leaves its arguments as they were). No condition. -/
import Derived.Test.YtahhhpmpgkfkdaaRows
import Derived.Test.YtahhhpmpgkfkdaaAlike
namespace Go.Proofs.Ytahhhpmpgkfkdaa.diskPlays
open Go.ChangeShapes Go.WideShapes Go.ChangeAt Go.RowKit
set_option linter.unusedVariables false

theorem pair_made {w0 wA w3 : World} {b r q : Nat} {own rown : List Nat} {D E D' : DS} {v : ActV} {e : Ending} (hp : Pair w0 wA b r own rown D E) (hm : MadeDisk wA D' e w3) (hS : BoxS q v wA) :
    ∃ b3, e = .returned (.pointer (some ⟨b3, 0, none⟩)) ∧ BoxS q v w3 ∧ Hid (∃ own3, Pair w0 w3 b3 r own3 rown D' E ∧ ∀ i ∈ own3, i ∉ own) ∧ Hid (Pair w0 w3 b r own rown D E) := by
  obtain ⟨b3, own3, rfl, hd, hb⟩ := hm
  have hp3 := hp.later hb
  refine ⟨b3, rfl, box_later hb hS.1 hS.2.1 hS.2.2.1 hS.2.2.2.1 hS.2.2.2.2, ⟨own3, ⟨disk_base hd hp.b.size, hp3.r, fun i hi hm => ?_, hp3.b⟩, fun i hi hm => ?_⟩, hp3⟩
  · have := (hd.lt i hi).1; have := (hp.r.lt i hm).2; omega
  · have := (hd.lt i hi).1; have := (hp.d.lt i hm).2; omega
theorem pair_rmade {w0 wA w3 : World} {b r q : Nat} {own rown : List Nat} {D E E' : DS} {v : ActV} {e : Ending} (hp : Pair w0 wA b r own rown D E) (hm : RMade wA E' e w3) (hS : BoxS q v wA) :
    ∃ r3, e = .returned (.pointer (some ⟨r3, 0, none⟩)) ∧ BoxS q v w3 ∧ Hid (∃ own rown3, Pair w0 w3 b r3 own rown3 D E') := by
  obtain ⟨r3, rown3, rfl, hd, hb⟩ := hm
  have hp3 := hp.later hb
  refine ⟨r3, rfl, box_later hb hS.1 hS.2.1 hS.2.2.1 hS.2.2.2.1 hS.2.2.2.2, own, rown3, ⟨hp3.d, rdisk_base hd hp.b.size, fun i hi hm => ?_, hp3.b⟩⟩
  have := (hd.lt i hm).1; have := (hp.d.lt i hi).2; omega
theorem pair_rmade' {w0 wA w3 : World} {b r : Nat} {own rown : List Nat} {D E E' : DS} {e : Ending} (hp : Pair w0 wA b r own rown D E) (hm : RMade wA E' e w3) :
    ∃ r3, e = .returned (.pointer (some ⟨r3, 0, none⟩)) ∧ Hid (∃ own rown3, Pair w0 w3 b r3 own rown3 D E') := by
  obtain ⟨r3, rown3, rfl, hd, hb⟩ := hm
  have hp3 := hp.later hb
  refine ⟨r3, rfl, own, rown3, ⟨hp3.d, rdisk_base hd hp.b.size, fun i hi hm => ?_, hp3.b⟩⟩
  have := (hd.lt i hm).1; have := (hp.d.lt i hi).2; omega
theorem pair_aside {w0 w w' : World} {b b3 r : Nat} {own own3 rown : List Nat} {D E : DS} (hp : Pair w0 w b3 r own3 rown D E) (ho : Pair w0 w b r own rown D E) (hd : ∀ i ∈ own3, i ∉ own) (hk : Kept own w w') : Pair w0 w' b3 r own3 rown D E :=
  ⟨hp.d.keep hk hd, hp.r.keep hk (fun i hi hm => ho.dj i hm hi), hp.dj, below_kept ho.b hk (fun i hi => (ho.d.lt i hi).1) ho.b.size⟩
theorem write_of {w0 w w4 : World} {b r g : Nat} {own rown : List Nat} {D E : DS} {c : Int} (ho : Pair w0 w b r own rown D E) (hg : w.heap.size ≤ g) (hgg : w4.heap[g]? = some (.cells (bc (rep 512 c)).toArray 5 (0, 0))) (hb : Below w.heap.size w w4) (hst : D.steps < 1000) (hwt : D.waits.length < 200) :
    Calls Try.prog 17 #[.pointer (some ⟨b, 0, none⟩), .int .i64 0, .slice (some ⟨g, 0, none⟩) 512 512] w4 (Did w4 w0.heap.size b own (D.write 0 (rep 512 c)).1 (D.write 0 (rep 512 c)).2) := by
  refine write_all (ho.later hb).d hst hwt 0 (some ⟨g, 0, none⟩) 512 512 (rep 512 c) (by decide) ⟨rep_length _ _, fun _ => ⟨_, rfl, fun j u hu => by rw [Addr.add_mid, Nat.zero_add]; exact of_take hgg 512 (by omega) j u hu⟩⟩ (fun x hx hm => ?_)
  simp only [Option.some.injEq] at hx
  subst hx
  have := (ho.d.lt _ hm).2
  simp only at this
  omega
theorem copy_all {w : World} {B b : Nat} {own : List Nat} {D : DS} (h : Disk w B b own D) : Calls Try.prog 16 #[.pointer (some ⟨b, 0, none⟩)] w (MadeDisk w D) := by
  obtain ⟨bs, sc, wv, hd, rfl⟩ := h
  exact copy_any hd
theorem rcopy_all {w : World} {B b : Nat} {own : List Nat} {D : DS} (h : RDisk w B b own D) : Calls Try.prog 19 #[.pointer (some ⟨b, 0, none⟩)] w (RMade w D) := by
  obtain ⟨bs, sc, wv, hd, rfl⟩ := h
  exact rcopy_any hd
theorem both_start {w w1 w2 : World} {b r n : Nat} {own rown : List Nat} (hd : Disk w1 w.heap.size b own (DS.blank n)) (hb : Below w.heap.size w w1) (hr : RDisk w2 w1.heap.size r rown (DS.blank n)) (hb2 : Below w1.heap.size w1 w2) : Both w w2 b r 0 own rown (DS.blank n) := by
  refine ⟨⟨hd.keep (Kept.ofBelow hb2 []) (by simp), rdisk_base hr hb.size, fun i hi hm => ?_, hb.trans (hb2.mono hb.size)⟩, by simp [DS.blank], by simp [DS.blank]⟩
  have := (hd.lt i hi).2; have := (hr.lt i hm).1; omega
theorem Both_later {w0 w w' : World} {b r k : Nat} {own rown : List Nat} {D : DS} (h : Both w0 w b r k own rown D) (hb : Below w.heap.size w w') : Both w0 w' b r k own rown D := ⟨h.p.later hb, h.s, h.w⟩

set_option maxRecDepth 100000 in
set_option maxHeartbeats 4000000 in
theorem walk_no (n : Int) (v : Value) (w : World) (h : n < 1 ∨ 4096 < n) : Calls Try.prog 3 #[.int .i64 n, v] w fun e w' => e = .returned (.bool true) ∧ Below w.heap.size w w' := by
  have HN := hid h
  clear h
  go_enter Try.func3, Try.ntmps3
  go_wp2_with (first | (go_at_call 9; refine (new_no n _ HN.out).mono ?_; rintro e w ⟨rfl, rfl⟩) | (go_at_call 10; refine (rnew_no n _ HN.out).mono ?_; rintro e w ⟨rfl, rfl⟩) | (go_at_call 11; refine (no_any _ _).mono ?_; rintro e w ⟨rfl, rfl⟩) | (go_at_call 12; refine (alive_any _).mono ?_; rintro e w2 ⟨rfl, hb2⟩))
  go_ret
  exact ⟨rfl, hb2⟩

set_option maxRecDepth 100000 in
set_option maxHeartbeats 8000000 in
theorem walk_yes (n : Nat) (a : Option Addr) (len cap : Nat) (l : List ActV) (w : World) (h1 : 1 ≤ n) (h2 : n ≤ 4096) (h : ActsOk w a len l) :
    Calls Try.prog 3 #[.int .i64 n, .slice a len cap] w fun e w' => e = .returned (.bool true) ∧ Below w.heap.size w w' := by
  have hm := h.2.1
  unfold maxLen at hm
  have HA := hid h
  clear h
  go_enter Try.func3, Try.ntmps3
  go_wp2_with fail
  refine (new_yes n _ h1 h2).mono ?_
  rintro e w1 ⟨b, own, rfl, hd, hb⟩
  have HD := hid hd
  have HB := hid hb
  clear hd hb
  go_wp2_with fail
  refine (rnew_yes n _ h1 h2).mono ?_
  rintro e w2 ⟨r, rown, rfl, hr, hb2⟩
  have HBO := hid (both_start HD.out HB.out hr hb2)
  clear hr hb2 HD HB
  go_wp2_with (first | (go_at_call 11; refine (no_any _ _).mono ?_; rintro e w3 ⟨rfl, rfl⟩))
  refine (alive_any _).mono ?_
  rintro e w3 ⟨rfl, hb3⟩
  have HBP := hid (Both_later HBO.out hb3)
  clear HBO hb3
  go_wp2_with fail
  refine (few_any _ a len cap l (HA.out.below HBP.out.p.b)).mono ?_
  rintro e w4 ⟨⟨f, rfl, hr⟩, rfl⟩
  cases f with
  | false =>
    clear hr
    go_wp2_with fail
    go_ret
    exact ⟨rfl, HBP.out.p.b⟩
  | true =>
    have h80 : len ≤ 80 := hr rfl
    clear hr
    go_wp2_with fail
    go_loopw [5, 7, 46] (fun d rr q wr => ∃ (k b r : Nat), k ≤ len ∧ q = .int .i64 k ∧ d = .pointer (some ⟨b, 0, none⟩) ∧ rr = .pointer (some ⟨r, 0, none⟩) ∧ Hid (BothEx w wr b r k)) (fun _ _ q _ => len - (intOf q).toNat)
    case atStart => exact ⟨0, b, r, by omega, rfl, rfl, rfl, ⟨_, _, _, HBP.out⟩⟩
    case round =>
      obtain ⟨k, b, r, hk, rfl, rfl, rfl, hP⟩ := hrel
      obtain ⟨own, rown, D, hp⟩ := hP.out
      clear HBP
      by_cases hlt : k < len
      · rcases HA.out.2.2 with h0 | ⟨ab, ao, rfl, hk2⟩
        · omega
        · have hkl : k < l.length := by rw [HA.out.1]; exact hlt
          have hat := (hk2 k hkl).below hp.p.b
          obtain ⟨v, hv⟩ : ∃ v, v = l[k] := ⟨_, rfl⟩
          rw [← hv] at hat
          obtain ⟨c0, c1, c2, c3, c4, n1, n2, hko⟩ := hat
          have hst : D.steps < 1000 := by have := hp.s; omega
          have hwt : D.waits.length < 200 := by have := hp.w; omega
          have HP2 := hid hp
          have HKo := hid hko
          clear hp hko hk2 hv hP
          have HPA := hid (HP2.out.p.alloc (boxX v))
          have HBA := hid ((Below.refl wr.heap.size wr).alloc (Nat.le_refl _) (boxX v))
          by_cases k4 : v.kind = 4
          · have e4 : (v.kind == 4) = true := by simp [k4]
            have HPD := hid HPA.out.drew
            have HKA := hid (HKo.out.below HBA.out.drew)
            have hS0 := box_is wr v
            have HCR := hid (crash_all HPD.out.d v.ka v.klen v.kcap v.ks HKA.out)
            clear k4
            go_wp2_with fail
            go_region_held3 (fun w' => w'.cell? ⟨wr.heap.size, 0, none⟩ = some (.int .i64 v.kind) ∧ w'.cell? ⟨wr.heap.size, 1, none⟩ = some (.int .i64 v.at_) ∧ w'.cell? ⟨wr.heap.size, 2, none⟩ = some (.int .i64 v.n) ∧ w'.cell? ⟨wr.heap.size, 3, none⟩ = some (.int .u8 v.by_) ∧ w'.cell? ⟨wr.heap.size, 4, none⟩ = some (.slice v.ka v.klen v.kcap)) (first | assumption | go_keep) (first | (go_at_call 15; obtain ⟨own3, hp4, hdj4⟩ := HP3.out; refine (rcrash_all hp4.r v.ka v.klen v.kcap v.ks HK3.out).mono ?_; intro e w4 hmade2; obtain ⟨r4, rfl, hS4, HP4⟩ := pair_rmade hp4 hmade2 hS3; clear hp4 hdj4) | (go_at_call 14; refine HCR.out.mono ?_; intro e w3 hmade; obtain ⟨b3, rfl, hS3, HP3, HPo⟩ := pair_made HPD.out hmade hS0; have HK3 := hid (HKA.out.below hmade.choose_spec.choose_spec.2.2)))
            clear hS3 hS4 hmade hmade2
            have HBN : Hid (BothEx w w4 b3 r4 (k + 1)) := by
              obtain ⟨o, ro, hp4⟩ := HP4.out
              exact ⟨o, ro, _, hp4, by simp [DS.crash]; omega, by simp [DS.crash]⟩
            go_wp2_with fail
            obtain ⟨ownN, rownN, DN, hbN⟩ := HBN.out
            refine (alike_any hbN).mono ?_
            rintro e wN ⟨rfl, hbx⟩
            have HBX := hid hbx
            clear hbx hbN HBN
            go_wp2_with fail
            go_roundw
            case rel => exact ⟨k + 1, _, _, by omega, by go_num, rfl, rfl, HBX⟩
            case measure => simp [intOf]; omega
          · have e4 : (v.kind == 4) = false := by simp [k4]
            by_cases k5 : v.kind = 5
            · have e5 : (v.kind == 5) = true := by simp [k5]
              clear k4 k5
              go_wp2_with fail
              refine (copy_all HPA.out.d).mono ?_
              intro e w3 hmade
              obtain ⟨b3, rfl, hS3, HP3, HPo⟩ := pair_made HPA.out hmade (box_is wr v)
              obtain ⟨s0, s1, s2, s3, s4⟩ := hS3
              clear hmade
              go_wp2_with fail
              refine (of_512 _ _).mono ?_
              rintro e w4 ⟨g, rfl, hgB, hgg, hb4⟩
              have HWR := hid (write_of HPo.out hgB hgg hb4 hst hwt)
              have HP4 : Hid (∃ own3, Pair w w4 b3 r own3 rown D D ∧ ∀ i ∈ own3, i ∉ own) := by
                obtain ⟨own3, hp3, hdj⟩ := HP3.out
                exact ⟨own3, hp3.later hb4, hdj⟩
              have HPq := hid (HPo.out.later hb4)
              clear hgg hb4 HP3 HPo s0 s1 s2 s3 s4
              go_wp2_with fail
              refine HWR.out.mono ?_
              rintro e w5 ⟨rfl, own5, hd5, hk5, hf5⟩
              have HP5 : Hid (∃ own3, Pair w w5 b3 r own3 rown D D) := by
                obtain ⟨own3, hp3, hdj⟩ := HP4.out
                exact ⟨own3, pair_aside hp3 HPq.out hdj hk5⟩
              clear hd5 hk5 hf5 HP4 HPq HWR
              go_wp2_with fail
              obtain ⟨own6, hp6⟩ := HP5.out
              refine (rcopy_all hp6.r).mono ?_
              intro e w6 hmade
              obtain ⟨r6, rfl, HP6⟩ := pair_rmade' hp6 hmade
              have HBN : Hid (BothEx w w6 b3 r6 (k + 1)) := by
                obtain ⟨o, ro, hp7⟩ := HP6.out
                exact ⟨o, ro, _, hp7, by have := HP2.out.s; omega, by have := HP2.out.w; omega⟩
              clear hmade hp6 HP5
              go_wp2_with fail
              obtain ⟨ownN, rownN, DN, hbN⟩ := HBN.out
              refine (alike_any hbN).mono ?_
              rintro e wN ⟨rfl, hbx⟩
              have HBX := hid hbx
              clear hbx hbN HBN
              go_wp2_with fail
              go_roundw
              case rel => exact ⟨k + 1, _, _, by omega, by go_num, rfl, rfl, HBX⟩
              case measure => simp [intOf]; omega
            · have e5 : (v.kind == 5) = false := by simp [k5]
              have HBb := hid (Both_later HP2.out HBA.out)
              have HDO : Hid (Calls Try.prog 20 #[.pointer (some ⟨b, 0, none⟩), .pointer (some ⟨r, 0, none⟩), .agg #[.int .i64 v.kind, .int .i64 v.at_, .int .i64 v.n, .int .u8 v.by_, .slice v.ka v.klen v.kcap]] (wr.alloc (boxX v)) (DoPost w b r (k + 1))) := by
                by_cases k0 : v.kind = 0
                · exact do_write v HBb.out (by omega) n1 n2 k0
                · exact do_rest v HBb.out (by omega) n1 n2 k0
              clear k4 k5
              go_wp2_with fail
              refine HDO.out.mono ?_
              rintro e w3 ⟨rfl, hbx⟩
              have HBN := hid hbx
              clear hbx
              go_wp2_with fail
              obtain ⟨ownN, rownN, DN, hbN⟩ := HBN.out
              refine (alike_any hbN).mono ?_
              rintro e wN ⟨rfl, hbx⟩
              have HBX := hid hbx
              clear hbx hbN HBN
              go_wp2_with fail
              go_roundw
              case rel => exact ⟨k + 1, _, _, by omega, by go_num, rfl, rfl, HBX⟩
              case measure => simp [intOf]; omega
      · have e : k = len := by omega
        subst e
        have HP2 := hid hp
        clear hp hP
        go_wp2_with fail
        go_ret
        exact ⟨rfl, HP2.out.p.b⟩

theorem walk (n : Int) (a : Option Addr) (len cap : Nat) (l : List ActV) (w : World) (h : ActsOk w a len l) : Calls Try.prog 3 #[.int .i64 n, .slice a len cap] w fun e w' => e = .returned (.bool true) ∧ Below w.heap.size w w' := by
  by_cases hn : n < 1 ∨ 4096 < n
  · exact walk_no n _ w hn
  · obtain ⟨m, rfl⟩ : ∃ m : Nat, n = m := ⟨n.toNat, by omega⟩
    exact walk_yes m a len cap l w (by omega) (by omega) h

theorem own : ownKnob Try.prog.godebug = none := by kernel_rfl
theorem laidOut : laidOutB Try.prog = true := by kernel_rfl

set_option maxRecDepth 100000 in
theorem lifted (os : Os) (started : os.Started) (H : Type) (enc : TypeId × Value → H) :
    ReturnsInHanded {} Try.checked os 3 .any (Rows.diskPlaysSpec.pre6 enc Try.prog Try.f3 Rows.diskPlaysRow.domain false) (Rows.diskPlaysSpec.post enc Try.prog Try.f3 false true false false) := by
  refine returnsInHanded_of_change (C := Try.checked) own started (by kernel_rfl) Try.func3
    (ChangeSpec.witness6 (enc := enc) (C := Try.checked) false ⟨#[], #[.int .i64 0, .slice none 0 0], []⟩ 8 (by kernel_rfl) (by kernel_rfl) (by kernel_rfl) (by kernel_rfl)) ?_
  intro W base args ds gs before hval0 hW hcnd _
  have hval : ∀ (j : Nat) t v, Try.f3.params[j]? = some t → args[j]? = some v → Value.okWide Try.prog W .any base t v := hval0
  have hW' := hW
  obtain ⟨p, q, hA0, hV, rfl, hfz, hnd⟩ := hW
  have hA : DataW.TrodAll enc Try.prog W 0 (fun _ => true) true Try.f3.params.toList args.toList ds p := hA0
  rw [Try.params3] at hA hval
  obtain ⟨v0, vs0, d0, ds0, p0, q0, hargs, rfl, rfl, h0, r0⟩ := trodAll_cons hA
  obtain ⟨v1, vs1, d1, ds1, p1, q1, rfl, rfl, rfl, h1, r1⟩ := trodAll_cons r0
  obtain ⟨rfl, rfl, rfl⟩ := trodAll_nil r1
  obtain rfl : args = #[v0, v1] := by cases args; simp_all
  obtain ⟨rfl, rfl⟩ := trodVars_none hV
  obtain ⟨a0, rfl, rfl, rfl, w0⟩ := open_int Try.underlying3 (hval 0 3 v0 rfl rfl) h0
  obtain ⟨a1, len1, cap1, rfl⟩ := okWide_slice Try.underlying22 (hval 1 22 v1 rfl rfl)
  have lt1 : ∀ x ∈ p1, x.block < W.heap.size := by obtain ⟨m, hm⟩ := h1; exact DataW.trod_lt m _ _ _ hm
  obtain ⟨l1, hl1⟩ : ∃ l, ActsOk W a1 len1 l := by obtain ⟨fuel, hf⟩ := h1; exact open_acts hf
  clear hA0 hval0
  refine (walk a0 a1 len1 cap1 l1 W hl1).mono fun e W' ⟨he, bel⟩ => ?_
  subst he
  exact ⟨_, rfl, _, _, _, [], _, [], hW', trodAll_mk1 (shut_bool Try.underlying4 _), (trodAll_cons_mk (shut_int Try.underlying3 w0) (trodAll_cons_mk (Below.trod laidOut (by kernel_rfl) (of_decide_eq_true (by kernel_rfl)) h1 bel lt1) trodAll_mk0)), rfl, bel.frame _, fun h => by cases h⟩

theorem over : Rows.diskPlaysRow.holds Try.pinned (OpenSpec.ofChange Rows.diskPlaysSpec) :=
  OpenClaim.holds_of_wide 3 Try.f3 rfl rfl rfl rfl rfl rfl rfl ⟨rfl, rfl, rfl, rfl, rfl⟩ rfl rfl rfl rfl rfl (by kernel_rfl) Try.func3 (by kernel_rfl)
    (of_decide_eq_true (by kernel_rfl)) (by unfold Func.isWrapper; first | (rw [if_pos (by decide +kernel)]; kernel_rfl) | (rw [if_neg (by decide +kernel)]; exact ⟨rfl, rfl⟩))
    (fun os started H enc _ => lifted os started H enc)
end Go.Proofs.Ytahhhpmpgkfkdaa.diskPlays
namespace Go.Proofs.Ytahhhpmpgkfkdaa
/-- THE STATEMENT. -/
theorem diskPlays_holds : Rows.DiskPlaysSaid := diskPlays.over
#print axioms diskPlays_holds
end Go.Proofs.Ytahhhpmpgkfkdaa
