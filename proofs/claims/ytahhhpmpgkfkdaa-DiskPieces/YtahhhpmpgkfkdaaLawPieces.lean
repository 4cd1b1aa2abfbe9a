/- Proved here: each byte behind a crash is what it was when it was flushed last, or what a write that waited has there (DiskPieces returns true for every input, and leaves its arguments as they were). No condition. -/
import Derived.Test.YtahhhpmpgkfkdaaRows
import Derived.Test.YtahhhpmpgkfkdaaPMid
import Derived.Test.YtahhhpmpgkfkdaaOpen2
namespace Go.Proofs.Ytahhhpmpgkfkdaa.diskPieces
open Go.ChangeShapes Go.WideShapes Go.ChangeAt Go.RowKit Go.Maps
set_option linter.unusedVariables false

theorem step_power (D : DS) (h : D.step.1 = true) : D.step.2.gone = false := by
  unfold DS.step at *
  split at h
  · cases h
  · rename_i hn
    rw [if_neg hn]
    simpa using fun e => hn (.inl e)
theorem box_is' (wr : World) (v : ActV) : BoxS wr.heap.size v (wr.alloc (boxX v)).drew := ⟨by simp [boxX], by simp [boxX], by simp [boxX], by simp [boxX], by simp [boxX]⟩
theorem cell_alloc1 (w : World) (x : Value) : (w.alloc (.cells #[x] 5)).cell? ⟨w.heap.size, 0, none⟩ = some x := by simp
def PEx (w0 wr : World) (b bb mb j : Nat) (F : DS) : Prop := ∃ own bown ex D G, PInv w0 wr b bb mb j own bown ex D F G
theorem pnext {w0 w2 : World} {b bb mb j : Nat} {own own0 bown ex ex0 : List Nat} {D F : DS} {G0 : DataW Unit} {i : Int} {l : List Int} {wz : World} (h : PInv w0 wz b bb mb j own0 bown ex0 D F G0) (hm : ∃ G', PMid w0 w2 b bb mb (j + 1) own bown ex (D.write i l).2 F G' ∧ Told (D.write i l).2.waits G') (hw : (D.write i l).1 = 0) : Hid (PEx w0 w2 b bb mb (j + 1) F) := by
  obtain ⟨G', hp, ht⟩ := hm
  obtain ⟨e1, e2, _⟩ := write_ok D i l hw
  have hg := write_grow D i l
  exact ⟨own, bown, ex, _, G', hp.d, hp.o, hp.g, hp.sh, hp.dj, hp.m1, hp.ex1, hp.mB, by have := h.s; have := hg.2.1; omega, by have := h.w; have := hg.2.2; omega, hg.1.trans h.n, e2.trans h.secs, ht, hp.b⟩
theorem of_write {w0 w2 w4 : World} {b bb mb j q g : Nat} {own bown ex : List Nat} {D F : DS} {G : DataW Unit} {v : ActV} {at_ : Int} (hp : PInv w0 w2 b bb mb j own bown ex D F G) (hst : D.steps < 1000) (hwt : D.waits.length < 200) (hg : w2.heap.size ≤ g) (hgg : w4.heap[g]? = some (.cells (bc (rep 512 v.by_)).toArray 5 (0, 0))) (hb : Below w2.heap.size w2 w4) (hS : BoxS q v w2) :
    Hid (BoxS q v w4) ∧ Hid (PInv w0 w4 b bb mb j own bown ex D F G) ∧ Hid (Calls Try.prog 17 #[.pointer (some ⟨b, 0, none⟩), .int .i64 at_, .slice (some ⟨g, 0, none⟩) 512 512] w4 (Did w4 w0.heap.size b own (D.write at_ (rep 512 v.by_)).1 (D.write at_ (rep 512 v.by_)).2)) := by
  have hp4 := hp.later hb
  refine ⟨box_later hb hS.1 hS.2.1 hS.2.2.1 hS.2.2.2.1 hS.2.2.2.2, hp4, ?_⟩
  refine write_all hp4.d hst hwt at_ (some ⟨g, 0, none⟩) 512 512 (rep 512 v.by_) (by decide) ⟨rep_length _ _, fun _ => ⟨_, rfl, fun j u hu => by rw [Addr.add_mid, Nat.zero_add]; exact of_take hgg 512 (by omega) j u hu⟩⟩ (fun x hx hm => ?_)
  simp only [Option.some.injEq] at hx
  subst hx
  have := (hp.d.lt _ hm).2
  simp only at this
  omega
def Wrote (w0 w4 w5 : World) (b bb mb j q : Nat) (own bown ex : List Nat) (D F : DS) (G : DataW Unit) (v : ActV) (at_ : Int) : Prop :=
  ∃ own', Disk w5 w0.heap.size b own' (D.write at_ (rep 512 v.by_)).2 ∧ Kept own w4 w5 ∧ ∀ k ∈ own', k ∈ own ∨ w4.heap.size ≤ k
theorem did_box {w0 w4 w5 : World} {b bb mb j q : Nat} {own bown ex : List Nat} {D F : DS} {G : DataW Unit} {v : ActV} {at_ : Int} {e : Ending} (hS : BoxS q v w4) (hd : Did w4 w0.heap.size b own (D.write at_ (rep 512 v.by_)).1 (D.write at_ (rep 512 v.by_)).2 e w5) (hq : q ∉ own) :
    e = .returned (.int .i64 (D.write at_ (rep 512 v.by_)).1) ∧ BoxS q v w5 ∧ Hid (Wrote w0 w4 w5 b bb mb j q own bown ex D F G v at_) := by
  obtain ⟨rfl, own', h1, h2, h3⟩ := hd
  exact ⟨rfl, box_kept h2 hq hS.1 hS.2.1 hS.2.2.1 hS.2.2.2.1 hS.2.2.2.2, ⟨own', h1, h2, h3⟩⟩
theorem u_slice {W : World} {base : Nat} {u : Value} {zs : List Int} (h : W.ownsInts base 5 .u8 u zs) : ∃ au cu, u = .slice au zs.length cu ∧ ∀ jj (hj : jj < zs.length), ∃ gz, au = some ⟨gz, 0, none⟩ ∧ W.cell? ⟨gz, jj, none⟩ = some (.int .u8 zs[jj]) := by
  have h1 := h.1
  rcases h.1.2 with ⟨rfl, h0⟩ | ⟨g, cap, cur, rfl, _⟩
  · exact ⟨none, 0, by rw [h0], fun jj hj => by omega⟩
  · refine ⟨_, _, rfl, fun jj hj => ⟨g, rfl, ?_⟩⟩
    rw [h1.cellAt jj (by omega)]
    simp [List.getElem?_eq_getElem hj]
theorem row_cell {W : World} {g : Nat} {l : List Int} (h : W.heap[g]? = some (.cells (bc l).toArray 5 (0, 0))) (k : Nat) (hk : k < l.length) : W.cell? ⟨g, k, none⟩ = some (.int .u8 l[k]) := by
  simp only [World.cell?, h]
  simp [bc, hk]
theorem row_later {W W' : World} {g : Nat} {o : Obj} (h : W.heap[g]? = some o) (hb : Below W.heap.size W W') : W'.heap[g]? = some o := (hb.block g (Array.getElem?_eq_some_iff.1 h).1).trans h
/-- A byte behind the crash is the one from ahead, or one that the map tells. -/
theorem piece {D F : DS} {G : DataW Unit} {w0 wr W : World} {b bb mb j base : Nat} {own bown ex : List Nat} {u : Value} {zs : List Int} (hp : PInv w0 wr b bb mb j own bown ex D (F.crash []) G) (ks : List (Int × Int)) (i k : Nat) (hi : i < F.n) (hk : k < 512)
    (hoi : W.ownsInts base 5 .u8 u zs) (hat : G.atKey (.int .i64 i) .nil = rowDatum .u8 u zs) (h1 : k < ((D.crash ks).read i).length) (h2 : k < ((F.crash []).read i).length) : ((D.crash ks).read i)[k] = ((F.crash []).read i)[k] ∨ ((D.crash ks).read i)[k] ∈ zs := by
  obtain ⟨bs, sc, wv, hd, _⟩ := hp.d
  have hn : D.n = F.n := hp.n
  have hb : Bytes F.n D.waits F.secs (ks.foldl (keep1 D.waits) D.secs) := crash_bytes F.n D.waits F.secs (fun x hx => by rw [← hn]; exact hd.good.w x hx) ks D.secs (by rw [← hn]; exact hd.good.len) (fun i hi k hk => by rw [show D.secs = F.secs from hp.secs]; exact .inl rfl)
  have e1 : (D.crash ks).read i = sec (ks.foldl (keep1 D.waits) D.secs) i := rfl
  have e2 : (F.crash []).read i = sec F.secs i := rfl
  have hx := hb i hi k hk
  rw [← e1, ← e2, List.getElem?_eq_getElem h1, List.getElem?_eq_getElem h2] at hx
  rcases hx with hx | ⟨x, hx1, hx2, hx3⟩
  · exact .inl (by simpa using hx)
  · right
    obtain ⟨c, hc, hz⟩ := told_zs hp.told hoi hat x hx1 hx2
    rw [hc] at hx3
    have : (rep 512 c)[k]? = some c := by unfold rep; rw [List.getElem?_replicate, if_pos hk]
    rw [this] at hx3
    simp only [Option.some.injEq] at hx3
    rw [hx3]; exact hz
theorem pinv_start {w w2 w3 : World} {b bb : Nat} {own bown : List Nat} {F : DS} (hd : Disk w2 w.heap.size b own F) (hb2 : Below w.heap.size w w2) (ho : Disk w3 w2.heap.size bb bown (F.crash [])) (hb3 : Below w2.heap.size w2 w3) (hw : F.waits = []) (hs : F.steps ≤ 81) :
    PInv w (w3.alloc (.map #[] 0)) b bb w3.heap.size 0 own bown [] F (F.crash []) (.map []) := by
  have hB3 : Below w.heap.size w w3 := hb2.trans (hb3.mono hb2.size)
  have hd3 := hd.keep (Kept.ofBelow hb3 []) (by simp)
  refine ⟨hd3.keep (Kept.alloc [] _ _) (by simp), disk_base (ho.keep (Kept.alloc [] _ _) (by simp)) hb2.size, World.ownsGroups_made _ _ _ _ _, World.Shuns_made _ _, fun i hi hm => ?_, fun hm => ?_, by simp, hB3.size, hs, by rw [hw]; simp, rfl, rfl, by rw [hw]; intro x hx; simp at hx, hB3.alloc hB3.size _⟩
  · have := (hd.lt i hi).2; have := (ho.lt i hm).1; omega
  · simp only [List.append_nil, List.mem_append] at hm
    rcases hm with hm | hm
    · have := (hd3.lt _ hm).2; omega
    · have := (ho.lt _ hm).2; omega

set_option maxRecDepth 100000 in
set_option maxHeartbeats 8000000 in
theorem walk (n : Int) (a1 : Option Addr) (len1 cap1 : Nat) (l1 : List ActV) (a : Option Addr) (len cap : Nat) (l : List ActV) (ka : Option Addr) (klen kcap : Nat) (ks : List (Int × Int)) (w : World) (hA1 : ActsOk w a1 len1 l1) (hA : ActsOk w a len l) (hby : ∀ v ∈ l, 0 ≤ v.by_ ∧ v.by_ ≤ 255) (hK : KeepsOk w ka klen ks) :
    Calls Try.prog 5 #[.int .i64 n, .slice a1 len1 cap1, .slice a len cap, .slice ka klen kcap] w fun e w' => e = .returned (.bool true) ∧ Below w.heap.size w w' := by
  have hkm := hK.2.1
  have hlm := hA.2.1
  unfold maxLen at hkm hlm
  have HA := hid hA
  have HA1 := hid hA1
  have HK := hid hK
  have HBy := hid hby
  have hmm := @run_makeMap Try.prog
  clear hA hK hA1 hby
  go_enter Try.func5, Try.ntmps5
  go_wp2_with fail
  refine (play_any n a1 len1 cap1 l1 w HA1.out).mono ?_
  rintro e w1 (⟨rfl, hb⟩ | ⟨m, rfl, b, own, D0, rfl, hp⟩)
  · go_wp2_with (first | (go_at_call 12; refine (alive_any _).mono ?_; rintro e w2 ⟨rfl, hb2⟩))
    go_ret
    exact ⟨rfl, hb.trans (hb2.mono hb.size)⟩
  · have HP := hid hp
    clear hp
    by_cases h30 : 30 < len
    · have h30' : (30 : Int) < len := by omega
      go_wp2_with (first | (go_at_call 12; refine (alive_any _).mono ?_; rintro e w2 ⟨rfl, hb2⟩))
      go_ret
      exact ⟨rfl, HP.out.b.trans (hb2.mono HP.out.b.size)⟩
    · have h30' : ¬ (30 : Int) < len := by omega
      by_cases h200 : 200 < klen
      · have h200' : (200 : Int) < klen := by omega
        go_wp2_with (first | (go_at_call 12; refine (alive_any _).mono ?_; rintro e w2 ⟨rfl, hb2⟩))
        go_ret
        exact ⟨rfl, HP.out.b.trans (hb2.mono HP.out.b.size)⟩
      · have h200' : ¬ (200 : Int) < klen := by omega
        have hst : D0.steps < 1000 := by have := HP.out.s; omega
        go_wp2_with fail
        refine (flush_all HP.out.d hst).mono ?_
        rintro e w2 ⟨rfl, own2, hd2, hk2, _⟩
        have hb2 := HP.out.d.below hk2 HP.out.b (Nat.le_refl _)
        cases hpw : D0.step.1 with
        | false =>
          have e1 : D0.flush = (9, D0.step.2) := by simp [DS.flush, hpw]
          rw [e1]
          clear e1 hd2 hk2 hpw
          go_wp2_with (first | (go_at_call 11; refine (no_any _ _).mono ?_; rintro e w2 ⟨rfl, rfl⟩) | (go_at_call 12; refine (alive_any _).mono ?_; rintro e w3 ⟨rfl, hb3⟩))
          go_ret
          exact ⟨rfl, hb2.trans (hb3.mono hb2.size)⟩
        | true =>
          have e1 : D0.flush = (0, D0.step.2.flushed) := by simp [DS.flush, hpw]
          have hsF := (flush_grow D0).2.1
          rw [e1] at hd2 hsF ⊢
          obtain ⟨F, hF⟩ : ∃ F, F = D0.step.2.flushed := ⟨_, rfl⟩
          have hF1 : F.waits = [] := by rw [hF]; rfl
          have hF2 : F.gone = false := by rw [hF]; exact step_power D0 hpw
          have hF3 : F.n = m := by rw [hF]; show D0.step.2.n = m; rw [DS.step_n]; exact HP.out.n
          have hF4 : F.steps ≤ 81 := by rw [hF]; have := HP.out.s; simp only at hsF; omega
          rw [← hF] at hd2
          have hm4 : m ≤ 4096 := by
            obtain ⟨bs, sc, wv, hda, _⟩ := hd2
            rw [← hF3]; exact hda.good.n2
          have HCR := hid (crash_all hd2 none 0 0 [] ⟨rfl, by unfold maxLen; omega, .inl rfl⟩)
          have HD2 := hid hd2
          have H1 := hid hF1
          have H2 := hid hF2
          have H3 := hid hF3
          clear e1 hk2 hpw hF hF1 hF2 hF3 hd2 HP hst hsF
          go_wp2_with (first | (go_at_call 11; refine (no_any _ _).mono ?_; rintro e w2 ⟨rfl, rfl⟩))
          refine HCR.out.mono ?_
          rintro e w3 ⟨bb, bown, rfl, hd3, hb3⟩
          have HS := hid (pinv_start HD2.out hb2 hd3 hb3 H1.out hF4)
          clear hd3 hb3 HCR HD2
          obtain ⟨mb, hmb⟩ : ∃ mb, mb = w3.heap.size := ⟨_, rfl⟩
          go_wp2_with fail
          rw [← hmb] at HS ⊢
          clear hmm
          go_loopw [50] (fun q wr => ∃ k : Nat, k ≤ len ∧ q = .int .i64 k ∧ Hid (PEx w wr b bb mb k (F.crash []))) (fun q _ => len - (intOf q).toNat)
          case atStart => exact ⟨0, by omega, rfl, ⟨_, _, _, _, _, HS.out⟩⟩
          case round =>
            clear HS hmb
            obtain ⟨k, hk, rfl, hPx⟩ := hrel
            obtain ⟨own, bown, ex, D, G, hp⟩ := hPx.out
            by_cases hlt : k < len
            · rcases HA.out.2.2 with h0 | ⟨ab, ao, rfl, hk2⟩
              · omega
              · have hkl : k < l.length := by rw [HA.out.1]; exact hlt
                have hat := (hk2 k hkl).below hp.b
                obtain ⟨v, hv⟩ : ∃ v, v = l[k] := ⟨_, rfl⟩
                obtain ⟨hb0, hb1⟩ := HBy.out l[k] (List.getElem_mem hkl)
                rw [← hv] at hat hb0 hb1
                obtain ⟨c0, c1, c2, c3, c4, n1, n2, hko⟩ := hat
                have hst : D.steps < 1000 := by have := hp.s; omega
                have hwt : D.waits.length < 200 := by have := hp.w; omega
                have HP2 := hid hp
                have HPM := hid (hp.mark (boxX v))
                have HPd := hid (HPM.out.later ((Below.refl _ _).drew))
                have hS0 := box_is' wr v
                have HQ := hid (show wr.heap.size ∉ own from fun hm => by have := (hp.d.lt _ hm).2; omega)
                clear hp hko hk2 hv hPx n1 n2
                by_cases hw0 : (D.write v.at_ (rep 512 v.by_)).1 = 0
                · have ew : ((D.write v.at_ (rep 512 v.by_)).1 == 0) = true := by simp [hw0]
                  have HWO := hid hw0
                  obtain ⟨ws1, ws2, ws3, ws4⟩ := write_ok D v.at_ (rep 512 v.by_) hw0
                  obtain ⟨i, hati⟩ : ∃ i : Nat, v.at_ = i := ⟨v.at_.toNat, by omega⟩
                  have hi4 : i < 4096 := by
                    have := HP2.out.n
                    have : (F.crash []).n = F.n := rfl
                    have := H3.out
                    omega
                  have HWS := hid (show (D.write v.at_ (rep 512 v.by_)).2.waits = D.waits ++ [((i : Int), rep 512 v.by_)] by rw [ws1, hati])
                  have HAT := hid hati
                  clear ws1 ws2 ws3 ws4 hw0 hati
                  go_wp2_with fail
                  go_region_held3 (fun w' => w'.cell? ⟨wr.heap.size, 0, none⟩ = some (.int .i64 v.kind) ∧ w'.cell? ⟨wr.heap.size, 1, none⟩ = some (.int .i64 v.at_) ∧ w'.cell? ⟨wr.heap.size, 2, none⟩ = some (.int .i64 v.n) ∧ w'.cell? ⟨wr.heap.size, 3, none⟩ = some (.int .u8 v.by_) ∧ w'.cell? ⟨wr.heap.size, 4, none⟩ = some (.slice v.ka v.klen v.kcap)) (first | assumption | go_keep) (first | (go_at_call 11; refine (no_any _ _).mono ?_; rintro e w5 ⟨rfl, rfl⟩) | (go_at_call 17; refine HWR.out.mono ?_; intro e w5 hdid; obtain ⟨rfl, hS5, HWO5⟩ := did_box (bb := bb) (mb := mb) (j := k) (bown := bown) (ex := [wr.heap.size]) (F := F) (G := G) hS4.out hdid HQ.out) | (go_at_call 18; refine (of_512 _ _).mono ?_; rintro e w4 ⟨g, rfl, hgB, hgg, hb4⟩; obtain ⟨hS4, HP4, HWR⟩ := of_write (at_ := v.at_) HPd.out hst hwt hgB hgg hb4 hS0))
                  clear hdid hgg hb4
                  have HM : Hid (∃ own5, PMid w w5.drew b bb mb k own5 bown [wr.heap.size] (D.write v.at_ (rep 512 v.by_)).2 (F.crash []) G) := by
                    obtain ⟨own5, q1, q2, q3⟩ := HWO5.out
                    obtain ⟨h1, h2, h3, h4, h5, h6, h7, h8⟩ := HP4.out.wrote q1 q2 q3
                    exact ⟨own5, PMid.later ⟨h1, h2, h3, h4, h5, h6, h7, HP4.out.mB, h8⟩ ((Below.refl _ _).drew)⟩
                  obtain ⟨own5, hM5⟩ := HM.out
                  have HM := hid hM5
                  clear hM5 hS0 HPM HPd HWR HP4 HWO5
                  go_wp2_with fail
                  refine wp_region_held_drew (S := BoxS wr.heap.size v) (by kernel_rfl) hS5 ?_
                  intro hS
                  refine anyH_take 0 ⟨some 63, .move (.tmp 11), _, _, _, none⟩ (.map (some mb)) rfl rfl (by kernel_rfl) (by kernel_rfl) (by kernel_rfl) (fun _ _ _ h => h) (fun _ _ => rfl) hS ?_
                  simp only [Act.put, List.setIfInBounds_toArray, List.set_cons_zero, List.set_cons_succ]
                  refine anyH_take 1 ⟨some 64, .fieldAddr 35 (.tmp 13) 1, _, _, _, none⟩ (.pointer (some ⟨wr.heap.size, 1, none⟩)) rfl rfl (by kernel_rfl) (by kernel_rfl) (by kernel_rfl) (fun _ _ _ h => h) (fun w _ => exec_v (fieldk35 _ 1 w (by omega))) hS ?_
                  simp only [Act.put, List.setIfInBounds_toArray, List.set_cons_zero, List.set_cons_succ]
                  refine anyH_take 2 ⟨some 65, .load 3 (.tmp 64), _, _, _, none⟩ (.int .i64 (i : Nat)) rfl rfl (by kernel_rfl) (by kernel_rfl) (by kernel_rfl) (fun _ _ _ h => h) (fun X hX => exec_v (loadk3' (HAT.out ▸ hX.2.1))) hS ?_
                  simp only [Act.put, List.setIfInBounds_toArray, List.set_cons_zero, List.set_cons_succ]
                  refine anyH_take 3 ⟨some 66, .move (.tmp 11), _, _, _, none⟩ (.map (some mb)) rfl rfl (by kernel_rfl) (by kernel_rfl) (by kernel_rfl) (fun _ _ _ h => h) (fun _ _ => rfl) hS ?_
                  simp only [Act.put, List.setIfInBounds_toArray, List.set_cons_zero, List.set_cons_succ]
                  refine anyH_take 4 ⟨some 67, .fieldAddr 35 (.tmp 13) 1, _, _, _, none⟩ (.pointer (some ⟨wr.heap.size, 1, none⟩)) rfl rfl (by kernel_rfl) (by kernel_rfl) (by kernel_rfl) (fun _ _ _ h => h) (fun w _ => exec_v (fieldk35 _ 1 w (by omega))) hS ?_
                  simp only [Act.put, List.setIfInBounds_toArray, List.set_cons_zero, List.set_cons_succ]
                  refine anyH_take 5 ⟨some 68, .load 3 (.tmp 67), _, _, _, none⟩ (.int .i64 (i : Nat)) rfl rfl (by kernel_rfl) (by kernel_rfl) (by kernel_rfl) (fun _ _ _ h => h) (fun X hX => exec_v (loadk3' (HAT.out ▸ hX.2.1))) hS ?_
                  simp only [Act.put, List.setIfInBounds_toArray, List.set_cons_zero, List.set_cons_succ]
                  refine anyH_take 7 ⟨some 70, .fieldAddr 35 (.tmp 13) 3, _, _, _, none⟩ (.pointer (some ⟨wr.heap.size, 3, none⟩)) rfl rfl (by kernel_rfl) (by kernel_rfl) (by kernel_rfl) (fun _ _ _ h => h) (fun w _ => exec_v (fieldk35 _ 3 w (by omega))) hS ?_
                  simp only [Act.put, List.setIfInBounds_toArray, List.set_cons_zero, List.set_cons_succ]
                  refine anyH_take 8 ⟨some 71, .load 5 (.tmp 70), _, _, _, none⟩ (.int .u8 v.by_) rfl rfl (by kernel_rfl) (by kernel_rfl) (by kernel_rfl) (fun _ _ _ h => h) (fun X hX => exec_v (loadk5 hX.2.2.2.1)) hS ?_
                  simp only [Act.put, List.setIfInBounds_toArray, List.set_cons_zero, List.set_cons_succ]
                  refine anyH_two 6 9 (by kernel_rfl) ?_ ?_
                  · obtain ⟨u, zs, hrunL, hat, hoi, hzl, hback, hshv⟩ := groups_look HM.out.g (by unfold maxLen; omega) i hi4
                    refine wpOp_run (o := ⟨some 69, .lookup 52 (.tmp 66) (.tmp 68) false, _, _, _, none⟩) rfl rfl (exec_lookup (m := .map (some mb)) (i := .int .i64 (i : Nat)) rfl rfl hrunL) ⟨hS, ?_⟩
                    simp only [Act.put, List.setIfInBounds_toArray, List.set_cons_zero, List.set_cons_succ]
                    have hSa : BoxS wr.heap.size v (w5.drew.alloc (.cells #[.int .u8 v.by_] 5)) := box_kept (Kept.alloc [] _ _) (by simp) hS.1 hS.2.1 hS.2.2.1 hS.2.2.2.1 hS.2.2.2.2
                    refine anyH_one 9 ⟨some 72, .buildSlice 40 1 #[(0, .tmp 71)], _, _, _, none⟩ (.slice (some ⟨w5.heap.size, 0, none⟩) 1 1) (w5.drew.alloc (.cells #[.int .u8 v.by_] 5)) (by kernel_rfl) rfl rfl (exec_buildSlice (X := .int .u8 v.by_) rfl (slice40k v.by_ w5.drew)) hSa ?_
                    simp only [Act.put, List.setIfInBounds_toArray, List.set_cons_zero, List.set_cons_succ]
                    obtain ⟨v', w6, w7, hrunA, hrunM, hS6, hS7, HPM⟩ := pmid_store (g9 := w5.heap.size) HM.out (by omega) hi4 hat hoi hzl hback hshv (fun row => World.grownBy_alloc _ _ row) (cell_alloc1 _ _) hb0 hb1 (by simp) hS HP2.out.told HWS.out
                    refine anyH_one 10 ⟨some 73, .call { callee := .builtin .append, args := #[.tmp 69, .tmp 72], argTypes := #[40, 40] }, _, _, _, none⟩ v' w6 (by kernel_rfl) rfl rfl (exec_append (u := u) (s := .slice (some ⟨w5.heap.size, 0, none⟩) 1 1) rfl rfl hrunA) hS6 ?_
                    simp only [Act.put, List.setIfInBounds_toArray, List.set_cons_zero, List.set_cons_succ]
                    refine anyH_oneSkip 11 ⟨none, .mapUpdate 52 (.tmp 63) (.tmp 65) (.tmp 73), _, _, _, none⟩ w7 (by kernel_rfl) rfl rfl (exec_mapUpdate (m := .map (some mb)) (i := .int .i64 (i : Nat)) (v := v') rfl rfl rfl hrunM) hS7 ?_
                    refine wpAnyH_done (by kernel_rfl) ?_ _
                    clear hS hS6 hS7 hrunA hrunM hat hoi hzl hback hshv hrunL
                    go_wp2_with fail
                    go_roundw
                    case rel => exact ⟨k + 1, by omega, by go_num, pnext HP2.out HPM.out HWO.out⟩
                    case measure => simp [intOf]; omega
                  · have hSa : BoxS wr.heap.size v (w5.drew.alloc (.cells #[.int .u8 v.by_] 5)) := box_kept (Kept.alloc [] _ _) (by simp) hS.1 hS.2.1 hS.2.2.1 hS.2.2.2.1 hS.2.2.2.2
                    refine wpOp_run (o := ⟨some 72, .buildSlice 40 1 #[(0, .tmp 71)], _, _, _, none⟩) (v := .slice (some ⟨w5.heap.size, 0, none⟩) 1 1) (w' := w5.drew.alloc (.cells #[.int .u8 v.by_] 5)) rfl rfl (exec_buildSlice (X := .int .u8 v.by_) rfl (slice40k v.by_ w5.drew)) ⟨hSa, ?_⟩
                    simp only [Act.put, List.setIfInBounds_toArray, List.set_cons_zero, List.set_cons_succ]
                    have HM1 := hid (HM.out.later ((Below.refl _ _).alloc (Nat.le_refl _) (.cells #[.int .u8 v.by_] 5)))
                    obtain ⟨u, zs, hrunL, hat, hoi, hzl, hback, hshv⟩ := groups_look HM1.out.g (by unfold maxLen; omega) i hi4
                    refine anyH_one 6 ⟨some 69, .lookup 52 (.tmp 66) (.tmp 68) false, _, _, _, none⟩ u _ (by kernel_rfl) rfl rfl (exec_lookup (m := .map (some mb)) (i := .int .i64 (i : Nat)) rfl rfl hrunL) hSa ?_
                    simp only [Act.put, List.setIfInBounds_toArray, List.set_cons_zero, List.set_cons_succ]
                    obtain ⟨v', w6, w7, hrunA, hrunM, hS6, hS7, HPM⟩ := pmid_store (g9 := w5.heap.size) HM1.out (by omega) hi4 hat hoi hzl hback hshv (fun row => ⟨rfl, rfl, rfl, Nat.le_refl _, fun _ _ _ => rfl⟩) (cell_alloc1 _ _) hb0 hb1 (by simp) hSa HP2.out.told HWS.out
                    clear hSa
                    refine anyH_one 10 ⟨some 73, .call { callee := .builtin .append, args := #[.tmp 69, .tmp 72], argTypes := #[40, 40] }, _, _, _, none⟩ v' w6 (by kernel_rfl) rfl rfl (exec_append (u := u) (s := .slice (some ⟨w5.heap.size, 0, none⟩) 1 1) rfl rfl hrunA) hS6 ?_
                    simp only [Act.put, List.setIfInBounds_toArray, List.set_cons_zero, List.set_cons_succ]
                    refine anyH_oneSkip 11 ⟨none, .mapUpdate 52 (.tmp 63) (.tmp 65) (.tmp 73), _, _, _, none⟩ w7 (by kernel_rfl) rfl rfl (exec_mapUpdate (m := .map (some mb)) (i := .int .i64 (i : Nat)) (v := v') rfl rfl rfl hrunM) hS7 ?_
                    refine wpAnyH_done (by kernel_rfl) ?_ _
                    clear hS hS6 hS7 hrunA hrunM hat hoi hzl hback hshv hrunL
                    go_wp2_with fail
                    go_roundw
                    case rel => exact ⟨k + 1, by omega, by go_num, pnext HP2.out HPM.out HWO.out⟩
                    case measure => simp [intOf]; omega
                · have ew : ((D.write v.at_ (rep 512 v.by_)).1 == 0) = false := by simp [hw0]
                  have HWO := hid hw0
                  clear hw0
                  go_wp2_with fail
                  go_region_held3 (fun w' => w'.cell? ⟨wr.heap.size, 0, none⟩ = some (.int .i64 v.kind) ∧ w'.cell? ⟨wr.heap.size, 1, none⟩ = some (.int .i64 v.at_) ∧ w'.cell? ⟨wr.heap.size, 2, none⟩ = some (.int .i64 v.n) ∧ w'.cell? ⟨wr.heap.size, 3, none⟩ = some (.int .u8 v.by_) ∧ w'.cell? ⟨wr.heap.size, 4, none⟩ = some (.slice v.ka v.klen v.kcap)) (first | assumption | go_keep) (first | (go_at_call 11; refine (no_any _ _).mono ?_; rintro e w5 ⟨rfl, rfl⟩) | (go_at_call 17; refine HWR.out.mono ?_; intro e w5 hdid; obtain ⟨rfl, hS5, HWO5⟩ := did_box (bb := bb) (mb := mb) (j := k) (bown := bown) (ex := [wr.heap.size]) (F := F) (G := G) hS4.out hdid HQ.out) | (go_at_call 18; refine (of_512 _ _).mono ?_; rintro e w4 ⟨g, rfl, hgB, hgg, hb4⟩; obtain ⟨hS4, HP4, HWR⟩ := of_write (at_ := v.at_) HPd.out hst hwt hgB hgg hb4 hS0))
                  clear hdid hgg hb4
                  have HN : Hid (PEx w w5 b bb mb (k + 1) (F.crash [])) := by
                    obtain ⟨own5, q1, q2, q3⟩ := HWO5.out
                    exact ⟨own5, bown, _, _, G, HP4.out.bad q1 q2 q3 HWO.out groups_mono⟩
                  clear hS0 HPM HPd HWR HP4 HWO5
                  go_wp2_with fail
                  go_roundw
                  case rel => exact ⟨k + 1, by omega, by go_num, HN⟩
                  case measure => simp [intOf]; omega
            · have e : k = len := by omega
              subst e
              have HP2 := hid hp
              have HCR := hid (crash_all hp.d ka klen kcap ks (HK.out.later hp.b))
              clear hp hPx hlt HBy
              go_wp2_with fail
              refine HCR.out.mono ?_
              rintro e w4 ⟨b4, own4, rfl, hd4, hb4⟩
              have HP4 := hid (HP2.out.later hb4)
              have HO4 := hid (disk_base hd4 HP2.out.b.size)
              have hnF : (F.crash []).n = m := H3.out
              have hnD : (D.crash ks).n = m := by show D.n = m; rw [← H3.out]; exact HP2.out.n
              have HnF := hid hnF
              have HnD := hid hnD
              clear hd4 hb4 HCR HP2 hnF hnD
              go_wp2_with fail
              go_loopw [15] (fun q wr => ∃ i : Nat, i ≤ 20 ∧ i ≤ m ∧ q = .int .i64 i ∧ Hid (PInv w wr b bb mb k own bown ex D (F.crash []) G) ∧ Hid (Disk wr w.heap.size b4 own4 (D.crash ks))) (fun q _ => 20 - (intOf q).toNat)
              case atStart => exact ⟨0, by omega, by omega, rfl, HP4, HO4⟩
              case round =>
                clear HP4 HO4
                obtain ⟨i, h20, him, rfl, hP, hO⟩ := hrel
                by_cases hlt : i < m ∧ i < 20
                · obtain ⟨hlt, hl2⟩ := hlt
                  have hlt' : (i : Int) < m := by omega
                  have hl2' : (i : Int) < 20 := by omega
                  obtain ⟨bs1, sc1, wv1, hdb, _⟩ := hP.out.o
                  have HR1 := hid (read_yes hdb i (by rw [HnF.out]; exact hlt) rfl)
                  have HL1 := hid (read_length hdb i (by rw [HnF.out]; exact hlt))
                  clear hdb
                  go_wp2_with fail
                  refine HR1.out.mono ?_
                  rintro e w5 ⟨g5, rfl, hg5, hh5, hb5⟩
                  have HP5 := hid (hP.out.later hb5)
                  have hO5 := hO.out.keep (Kept.ofBelow hb5 []) (by simp)
                  obtain ⟨bs2, sc2, wv2, hdo, _⟩ := hO5
                  have HR2 := hid (read_yes hdo i (by rw [HnD.out]; exact hlt) rfl)
                  have HL2 := hid (read_length hdo i (by rw [HnD.out]; exact hlt))
                  have HO5 := hid (hO.out.keep (Kept.ofBelow hb5 []) (by simp))
                  have HH5 := hid hh5
                  clear hdo hb5 hh5 hP hO HR1
                  go_wp2_with fail
                  refine HR2.out.mono ?_
                  rintro e w6 ⟨g6, rfl, hg6, hh6, hb6⟩
                  have HP6 := hid (HP5.out.later hb6)
                  have HO6 := hid (HO5.out.keep (Kept.ofBelow hb6 []) (by simp))
                  have HH5b := hid (row_later HH5.out hb6)
                  have HH6 := hid hh6
                  clear hb6 hh6 HP5 HO5 HH5 HR2 hg5 hg6
                  go_wp2_with (first | (go_at_call 11; refine (no_any _ _).mono ?_; rintro e w6 ⟨rfl, rfl⟩))
                  go_loopw [120] (fun q wr => ∃ kk : Nat, kk ≤ 512 ∧ q = .int .i64 kk ∧ Hid (Below w6.heap.size w6 wr)) (fun q _ => 512 - (intOf q).toNat)
                  case atStart => exact ⟨0, by omega, rfl, Below.refl _ _⟩
                  case round =>
                    obtain ⟨kk, hkk, rfl, hB⟩ := hrel
                    by_cases hlt5 : kk < 512
                    · have hk5 : (kk : Int) < 512 := by omega
                      have x5 := row_cell (row_later HH5b.out hB.out) kk (by rw [HL1.out]; exact hlt5)
                      have x6 := row_cell (row_later HH6.out hB.out) kk (by rw [HL2.out]; exact hlt5)
                      obtain ⟨Y, hY⟩ : ∃ Y, Y = ((F.crash []).read i)[kk]'(by rw [HL1.out]; exact hlt5) := ⟨_, rfl⟩
                      obtain ⟨X, hX⟩ : ∃ X, X = ((D.crash ks).read i)[kk]'(by rw [HL2.out]; exact hlt5) := ⟨_, rfl⟩
                      rw [← hY] at x5
                      rw [← hX] at x6
                      have HY := hid hY
                      have HX := hid hX
                      clear hY hX
                      go_wp2_with fail
                      go_quiet (fail)
                      obtain ⟨W, hW⟩ : ∃ W, W = wr.drewN nq := ⟨_, rfl⟩
                      have hBn : Below w6.heap.size w6 W := by rw [hW]; exact below_drewN hB.out nq
                      have y6 : W.cell? ⟨g6, kk, none⟩ = some (.int .u8 X) := by rw [hW]; exact x6
                      rw [← hW]
                      have hpW := HP6.out.later hBn
                      obtain ⟨u, zs, hrunL, hat, hoi, hzl, _, _⟩ := groups_look hpW.g (by unfold maxLen; omega) i (by omega)
                      obtain ⟨au, cu, rfl, hzc⟩ := u_slice hoi
                      have hor := piece hpW ks i kk (by rw [H3.out]; exact hlt) hlt5 hoi hat (by rw [HL2.out]; exact hlt5) (by rw [HL1.out]; exact hlt5)
                      rw [← HX.out, ← HY.out] at hor
                      have HOR := hid hor
                      have HZC := hid hzc
                      have HBn := hid hBn
                      have hzs : zs.length ≤ 100 := by omega
                      clear hor hzc hBn hpW hat hoi x5 x6 hW hB
                      go_wp2_with fail
                      go_loop [21, 136] (fun o q => ∃ (jj : Nat) (B : Bool), jj ≤ zs.length ∧ q = .int .i64 jj ∧ o = .bool B ∧ ((X = Y ∨ X ∈ zs.take jj) → B = true)) (fun _ q => zs.length - (intOf q).toNat)
                      case atStart => exact ⟨0, _, by omega, rfl, rfl, fun h => by simpa using h⟩
                      case round =>
                        obtain ⟨jj, B, hjj, rfl, rfl, hBt⟩ := hrel
                        by_cases hltj : jj < zs.length
                        · obtain ⟨gz, rfl, hzj⟩ := HZC.out jj hltj
                          obtain ⟨Z, hZ⟩ : ∃ Z, Z = zs[jj] := ⟨_, rfl⟩
                          rw [← hZ] at hzj
                          have HZ := hid hZ
                          have HBt := hid hBt
                          clear hZ hBt
                          cases B with
                          | true =>
                            go_wp2_with fail
                            go_round
                            case rel => exact ⟨jj + 1, true, by omega, by go_num, rfl, fun _ => rfl⟩
                            case measure => simp [intOf]; omega
                          | false =>
                            go_wp2_with fail
                            go_round
                            case rel =>
                              refine ⟨jj + 1, _, by omega, by go_num, rfl, fun h => ?_⟩
                              rw [List.take_succ_eq_append_getElem hltj, ← HZ.out] at h
                              simp only [List.mem_append, List.mem_singleton] at h
                              rcases h with h | h | h
                              · have := HBt.out (.inl h); cases this
                              · have := HBt.out (.inr h); cases this
                              · simp [h]
                            case measure => simp [intOf]; omega
                        · have ej : jj = zs.length := by omega
                          subst ej
                          rw [List.take_length] at hBt
                          obtain rfl : B = true := hBt HOR.out
                          clear hBt
                          go_wp2_with fail
                          go_roundw
                          case rel => exact ⟨kk + 1, by omega, by go_num, HBn⟩
                          case measure => simp [intOf]; omega
                    · have h5' : kk = 512 := by omega
                      subst h5'
                      go_wp2_with fail
                      go_roundw
                      case rel => exact ⟨i + 1, by omega, by omega, by go_num, HP6.out.later hB.out, HO6.out.keep (Kept.ofBelow hB.out []) (by simp)⟩
                      case measure => simp [intOf]; omega
                · by_cases h40 : i < m
                  · have h40' : ¬ (i : Int) < 20 := by omega
                    have h41' : (i : Int) < m := by omega
                    clear hlt
                    go_wp2_with (first | (go_at_call 12; refine (alive_any _).mono ?_; rintro e w7 ⟨rfl, hb7⟩))
                    go_ret
                    exact ⟨rfl, hP.out.b.trans (hb7.mono hP.out.b.size)⟩
                  · have h40' : ¬ (i : Int) < m := by omega
                    clear hlt
                    go_wp2_with (first | (go_at_call 12; refine (alive_any _).mono ?_; rintro e w7 ⟨rfl, hb7⟩))
                    go_ret
                    exact ⟨rfl, hP.out.b.trans (hb7.mono hP.out.b.size)⟩

theorem own : ownKnob Try.prog.godebug = none := by kernel_rfl
theorem laidOut : laidOutB Try.prog = true := by kernel_rfl

set_option maxRecDepth 100000 in
theorem lifted (os : Os) (started : os.Started) (H : Type) (enc : TypeId × Value → H) :
    ReturnsInHanded {} Try.checked os 5 .any (Rows.diskPiecesSpec.pre6 enc Try.prog Try.f5 Rows.diskPiecesRow.domain false) (Rows.diskPiecesSpec.post enc Try.prog Try.f5 false true false false) := by
  refine returnsInHanded_of_change (C := Try.checked) own started (by kernel_rfl) Try.func5
    (ChangeSpec.witness6 (enc := enc) (C := Try.checked) false ⟨#[], #[.int .i64 0, .slice none 0 0, .slice none 0 0, .slice none 0 0], []⟩ 8 (by kernel_rfl) (by kernel_rfl) (by kernel_rfl) (by kernel_rfl)) ?_
  intro W base args ds gs before hval0 hW hcnd _
  have hval : ∀ (j : Nat) t v, Try.f5.params[j]? = some t → args[j]? = some v → Value.okWide Try.prog W .any base t v := hval0
  have hW' := hW
  obtain ⟨p, q, hA0, hV, rfl, hfz, hnd⟩ := hW
  have hA : DataW.TrodAll enc Try.prog W 0 (fun _ => true) true Try.f5.params.toList args.toList ds p := hA0
  rw [Try.params5] at hA hval
  obtain ⟨v0, vs0, d0, ds0, p0, q0, hargs, rfl, rfl, h0, r0⟩ := trodAll_cons hA
  obtain ⟨v1, vs1, d1, ds1, p1, q1, rfl, rfl, rfl, h1, r1⟩ := trodAll_cons r0
  obtain ⟨v2, vs2, d2, ds2, p2, q2, rfl, rfl, rfl, h2, r2⟩ := trodAll_cons r1
  obtain ⟨v3, vs3, d3, ds3, p3, q3, rfl, rfl, rfl, h3, r3⟩ := trodAll_cons r2
  obtain ⟨rfl, rfl, rfl⟩ := trodAll_nil r3
  obtain rfl : args = #[v0, v1, v2, v3] := by cases args; simp_all
  obtain ⟨rfl, rfl⟩ := trodVars_none hV
  obtain ⟨a0, rfl, rfl, rfl, w0⟩ := open_int Try.underlying3 (hval 0 3 v0 rfl rfl) h0
  obtain ⟨a1, len1, cap1, rfl⟩ := okWide_slice Try.underlying22 (hval 1 22 v1 rfl rfl)
  have lt1 : ∀ x ∈ p1, x.block < W.heap.size := by obtain ⟨m, hm⟩ := h1; exact DataW.trod_lt m _ _ _ hm
  obtain ⟨l1, hl1⟩ : ∃ l, ActsOk W a1 len1 l := by obtain ⟨fuel, hf⟩ := h1; exact open_acts hf
  obtain ⟨a2, len2, cap2, rfl⟩ := okWide_slice Try.underlying22 (hval 2 22 v2 rfl rfl)
  have lt2 : ∀ x ∈ p2, x.block < W.heap.size := by obtain ⟨m, hm⟩ := h2; exact DataW.trod_lt m _ _ _ hm
  obtain ⟨l2, hl2, hb2⟩ : ∃ l, ActsOk W a2 len2 l ∧ ∀ v ∈ l, 0 ≤ v.by_ ∧ v.by_ ≤ 255 := by obtain ⟨fuel, hf⟩ := h2; exact open_acts2 hf
  obtain ⟨a3, len3, cap3, rfl⟩ := okWide_slice Try.underlying33 (hval 3 33 v3 rfl rfl)
  have lt3 : ∀ x ∈ p3, x.block < W.heap.size := by obtain ⟨m, hm⟩ := h3; exact DataW.trod_lt m _ _ _ hm
  obtain ⟨l3, hl3⟩ : ∃ l, KeepsOk W a3 len3 l := by obtain ⟨fuel, hf⟩ := h3; exact open_keeps hf
  clear hA0 hval0
  refine (walk a0 a1 len1 cap1 l1 a2 len2 cap2 l2 a3 len3 cap3 l3 W hl1 hl2 hb2 hl3).mono fun e W' ⟨he, bel⟩ => ?_
  subst he
  exact ⟨_, rfl, _, _, _, [], _, [], hW', trodAll_mk1 (shut_bool Try.underlying4 _), (trodAll_cons_mk (shut_int Try.underlying3 w0) (trodAll_cons_mk (Below.trod laidOut (by kernel_rfl) (of_decide_eq_true (by kernel_rfl)) h1 bel lt1) (trodAll_cons_mk (Below.trod laidOut (by kernel_rfl) (of_decide_eq_true (by kernel_rfl)) h2 bel lt2) (trodAll_cons_mk (Below.trod laidOut (by kernel_rfl) (of_decide_eq_true (by kernel_rfl)) h3 bel lt3) trodAll_mk0)))), rfl, bel.frame _, fun h => by cases h⟩

theorem over : Rows.diskPiecesRow.holds Try.pinned (OpenSpec.ofChange Rows.diskPiecesSpec) :=
  OpenClaim.holds_of_wide 5 Try.f5 rfl rfl rfl rfl rfl rfl rfl ⟨rfl, rfl, rfl, rfl, rfl⟩ rfl rfl rfl rfl rfl (by kernel_rfl) Try.func5 (by kernel_rfl)
    (of_decide_eq_true (by kernel_rfl)) (by unfold Func.isWrapper; first | (rw [if_pos (by decide +kernel)]; kernel_rfl) | (rw [if_neg (by decide +kernel)]; exact ⟨rfl, rfl⟩))
    (fun os started H enc _ => lifted os started H enc)
end Go.Proofs.Ytahhhpmpgkfkdaa.diskPieces
namespace Go.Proofs.Ytahhhpmpgkfkdaa
/-- THE STATEMENT. -/
theorem diskPieces_holds : Rows.DiskPiecesSaid := diskPieces.over
#print axioms diskPieces_holds
end Go.Proofs.Ytahhhpmpgkfkdaa
