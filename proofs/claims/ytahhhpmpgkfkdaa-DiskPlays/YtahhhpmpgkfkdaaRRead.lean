/- What this text holds: Read, Write and Flush of the document's own disk. -/
import Derived.Test.YtahhhpmpgkfkdaaRBase
namespace Go.Proofs.Ytahhhpmpgkfkdaa
open Go.RowKit
set_option linter.unusedVariables false

set_option maxRecDepth 100000 in
set_option maxHeartbeats 1000000 in
theorem rread_range {w : World} {B r gl lc : Nat} {wv : Value} {D : DS} (h : RDiskAt w B r gl lc wv D) (i : Int) (hi : ¬ (0 ≤ i ∧ i < D.n)) :
    Calls Try.prog 37 #[.pointer (some ⟨r, 0, none⟩), .int .i64 i] w fun e w' => e = .returned (.tuple #[.string ⟨#[]⟩, .int .i64 3]) ∧ w' = w := by
  obtain ⟨c0, c1, c2, c3, c4⟩ := h.cells
  have hn := h.good.n2
  clear h
  by_cases h0 : i < 0
  · clear hi
    go_enter Try.func37, Try.ntmps37
    go_wp2
    go_ret2
    exact ⟨rfl, rfl⟩
  · have h1 : (D.n : Int) ≤ i := by omega
    clear hi
    go_enter Try.func37, Try.ntmps37
    go_wp2
    go_ret2
    exact ⟨rfl, rfl⟩

set_option maxRecDepth 100000 in
set_option maxHeartbeats 1000000 in
theorem rread_gone {w : World} {B r gl lc : Nat} {wv : Value} {D : DS} (h : RDiskAt w B r gl lc wv D) (i : Nat) (hi : i < D.n) (hg : D.gone = true) :
    Calls Try.prog 37 #[.pointer (some ⟨r, 0, none⟩), .int .i64 i] w fun e w' => e = .returned (.tuple #[.string ⟨#[]⟩, .int .i64 9]) ∧ w' = w := by
  obtain ⟨c0, c1, c2, c3, c4⟩ := h.cells
  have hn := h.good.n2
  have h0 : ¬ (i : Int) < 0 := by omega
  have h1 : (i : Int) < D.n := by omega
  clear h
  go_enter Try.func37, Try.ntmps37
  go_wp2
  go_ret2
  exact ⟨rfl, rfl⟩

set_option maxRecDepth 100000 in
set_option maxHeartbeats 2000000 in
theorem rread_yes {w : World} {B r gl lc : Nat} {wv : Value} {D : DS} (h : RDiskAt w B r gl lc wv D) (i : Nat) (hi : i < D.n) (hg : D.gone = false) :
    Calls Try.prog 37 #[.pointer (some ⟨r, 0, none⟩), .int .i64 i] w fun e w' => e = .returned (.tuple #[.string (strOf (D.read i)), .int .i64 0]) ∧ w' = w := by
  obtain ⟨a, c, rfl⟩ := h.wvSlice
  obtain ⟨c0, c1, c2, c3, c4⟩ := h.cells
  have hn := h.good.n2
  have hwl := h.good.wl
  have h0 : ¬ (i : Int) < 0 := by omega
  have h1 : (i : Int) < D.n := by omega
  have hL := rsec_cell h i hi
  have HH := hid h
  clear h
  go_enter Try.func37, Try.ntmps37
  go_wp2
  go_loop [6, 7] (fun s q => ∃ k : Nat, k ≤ D.waits.length ∧ q = .int .i64 k ∧ s = .string (strOf (lastW (D.waits.take k) i (sec D.secs i)))) (fun _ q => D.waits.length - (intOf q).toNat)
  case atStart => exact ⟨0, by omega, rfl, rfl⟩
  case round =>
    obtain ⟨k, hk, rfl, rfl⟩ := hrel
    by_cases hlt : k < D.waits.length
    · obtain ⟨gw, wc, e, hc1, hc2⟩ := rwait_cells HH.out k hlt
      simp only [Value.slice.injEq, true_and] at e
      obtain ⟨rfl, rfl⟩ := e
      have hts : lastW (D.waits.take (k + 1)) i (sec D.secs i) = if (D.waits[k]).1 = i then (D.waits[k]).2 else lastW (D.waits.take k) i (sec D.secs i) := by
        rw [List.take_succ_eq_append_getElem hlt, lastW_append]; rfl
      have HT := hid hts
      clear hts
      by_cases hat : (D.waits[k]).1 = i
      · have hat2 : ((D.waits[k]).1 == (i : Int)) = true := by simp [hat]
        have HA := hid hat
        clear hat
        go_wp2
        go_round
        case rel => exact ⟨k + 1, by omega, by go_num, by rw [HT.out, if_pos HA.out]⟩
        case measure => simp [intOf]; omega
      · have hat2 : ((D.waits[k]).1 == (i : Int)) = false := by simp [hat]
        have HA := hid hat
        clear hat
        go_wp2
        go_round
        case rel => exact ⟨k + 1, by omega, by go_num, by rw [HT.out, if_neg HA.out]⟩
        case measure => simp [intOf]; omega
    · have e : k = D.waits.length := by omega
      subst e
      rw [List.take_length]
      go_wp2
      go_ret2
      exact ⟨rfl, rfl⟩

theorem strs_lay (n : Nat) (s : List Int) (i : Nat) (b : List Int) (hs : s.length = n * 512) (hi : i < n) (hb : b.length ≤ 512) : strs n (layS s i b) = (strs n s).set i (.string (strOf (b ++ (sec s i).drop b.length))) := by
  apply List.ext_getElem?
  intro j
  rw [List.getElem?_set]
  by_cases hj : j < n
  · rw [strs_at n _ j hj]
    by_cases e : i = j
    · subst e
      rw [if_pos rfl, if_pos (by rw [strs_length]; exact hi), sec_layS_same s n i b hs hi hb]
    · rw [if_neg e, strs_at n _ j hj, sec_layS_other s n i j b hs hi hb (fun h => e h.symm)]
  · rw [List.getElem?_eq_none (by rw [strs_length]; omega)]
    split
    · omega
    · rw [List.getElem?_eq_none (by rw [strs_length]; omega)]

/-- A sector of the document's own disk is another one. -/
theorem RDiskAt.setSec {w : World} {B r gl lc : Nat} {wv : Value} {D : DS} (h : RDiskAt w B r gl lc wv D) (i : Nat) (b : List Int) (hi : i < D.n) (hb : b.length ≤ 512) :
    RDiskAt (w.setCell ⟨gl, i, none⟩ (.string (strOf (b ++ (sec D.secs i).drop b.length)))) B r gl lc wv { D with secs := layS D.secs i b } := by
  obtain ⟨h1, h2⟩ := h.L.stored i (.string (strOf (b ++ (sec D.secs i).drop b.length)))
  have hl := layS_length D.secs D.n i b h.good.len hi hb
  refine { blk := ?_, L := ?_, W := ?_, ne1 := h.ne1, ne2 := h.ne2, ne3 := h.ne3, hB := h.hB, good := { h.good with len := hl } }
  · rw [h2.block r (Array.getElem?_eq_some_iff.1 h.blk).1 (by simpa using (Ne.symm h.ne1))]; exact h.blk
  · rw [strs_lay D.n D.secs i b h.good.len hi hb]; exact h1
  · exact ownsRow_block h.W fun k hk => h2.block k (h.W.lt k hk).2 (by rw [← hk]; exact h.ne3)

set_option maxRecDepth 100000 in
set_option maxHeartbeats 2000000 in
theorem rflush_power {w : World} {B r gl lc : Nat} {wv : Value} {D : DS} (h : RDiskAt w B r gl lc wv D) (hs : D.steps < 1000) (hp : D.step.1 = false) :
    Calls Try.prog 38 #[.pointer (some ⟨r, 0, none⟩)] w fun e w' => e = .returned (.int .i64 9) ∧ RDiskAt w' B r gl lc wv D.step.2 ∧ Kept [r] w w' := by
  have HH := hid h
  have HP := hid hp
  clear h hp
  go_enter Try.func38, Try.ntmps38
  go_wp2_with (go_at_call 43; refine (rstep_any HH.out hs).mono ?_; rw [HP.out]; rintro e w1 ⟨rfl, hd, hk⟩)
  go_ret
  exact ⟨rfl, hd, hk⟩

set_option maxRecDepth 100000 in
set_option maxHeartbeats 4000000 in
theorem rflush_yes {w : World} {B r gl lc : Nat} {wv : Value} {D : DS} (h : RDiskAt w B r gl lc wv D) (hs : D.steps < 1000) (hp : D.step.1 = true) :
    Calls Try.prog 38 #[.pointer (some ⟨r, 0, none⟩)] w fun e w' => e = .returned (.int .i64 0) ∧ RDiskAt w' B r gl lc (.slice none 0 0) D.step.2.flushed ∧ Kept [r, gl] w w' := by
  have HH := hid h
  have HP := hid hp
  clear h hp
  go_enter Try.func38, Try.ntmps38
  go_wp2_with (go_at_call 43; refine (rstep_any HH.out hs).mono ?_; rw [HP.out]; rintro e w1 ⟨rfl, hd, hk⟩; obtain ⟨a, c, rfl⟩ := hd.wvSlice; have HD := hid hd; have HW := hd.good.wl; clear hd)
  obtain ⟨E, hE⟩ : ∃ E, E = D.step.2 := ⟨_, rfl⟩
  rw [← hE] at HD HW
  have HE := hid hE
  clear hE
  go_loopw [3] (fun q wr => ∃ k : Nat, k ≤ E.waits.length ∧ q = .int .i64 k ∧ RDiskAt wr B r gl lc (.slice a E.waits.length c) { E with secs := layAll E.secs (E.waits.take k) } ∧ Kept [gl] w1 wr) (fun q _ => E.waits.length - (intOf q).toNat)
  case atStart => exact ⟨0, by omega, rfl, by simpa [layAll] using HD.out, Kept.refl _ _⟩
  case round =>
    obtain ⟨k, hkl, rfl, hdr, hkr⟩ := hrel
    obtain ⟨f0, f1, f2, f3, f4⟩ := hdr.cells
    simp only at f0 f1 f2 f3 f4
    by_cases hlt : k < E.waits.length
    · obtain ⟨gw, wc, e, hc1, hc2⟩ := rwait_cells hdr k hlt
      simp only [Value.slice.injEq, true_and] at e
      obtain ⟨rfl, rfl⟩ := e
      obtain ⟨at_, hat⟩ : ∃ m : Nat, (E.waits[k]).1 = m := ⟨(E.waits[k]).1.toNat, by have := (hdr.good.w _ (List.getElem_mem hlt)).1; omega⟩
      have hatn : at_ < E.n := by have := (hdr.good.w _ (List.getElem_mem hlt)).2.1; simp only at this; omega
      have hatn' : (at_ : Int) < E.n := by omega
      have hx : (E.waits[k]).2.length = 512 := (hdr.good.w _ (List.getElem_mem hlt)).2.2
      simp only at hc1 hc2
      rw [hat] at hc1
      have hsc := rsec_cell hdr at_ hatn
      have hfz : wr.frozen? ⟨gl, at_, none⟩ = false := hdr.L.frozenAt at_
      have hne1 : gl ≠ r := hdr.ne1
      have hne2 : gw ≠ gl := by have := hdr.ne3; simpa [Value.ownBlock] using this
      have hne1' : ¬ gl = r := hne1
      have hne2' : ¬ gl = gw := fun h => hne2 h.symm
      have HA := hid hat
      have HX := hid hx
      have HR := hid hdr
      clear hat hx hdr
      obtain ⟨S, hS⟩ : ∃ S, S = strOf (E.waits[k]).2 := ⟨_, rfl⟩
      rw [← hS] at hc2
      have HSe := hid hS
      clear hS
      go_wp2
      go_region_held3 (fun w' => w'.cell? ⟨r, 0, none⟩ = some (.slice (some ⟨gl, 0, none⟩) E.n lc) ∧ w'.cell? ⟨r, 1, none⟩ = some (.slice (some ⟨gw, 0, none⟩) E.waits.length c) ∧ w'.cell? ⟨gw, k * 2, none⟩ = some (.int .i64 at_) ∧ w'.cell? ⟨gw, k * 2 + 1, none⟩ = some (.string S)) (first | go_keep) (fail)
      go_wp2
      go_roundw
      case rel =>
        refine ⟨k + 1, by omega, by go_num, ?_, ?_⟩
        · have h2 := HR.out.setSec at_ (E.waits[k]).2 hatn (by rw [HX.out]; omega)
          have e0 : (sec (layAll E.secs (E.waits.take k)) at_).drop (E.waits[k]).2.length = [] := List.drop_of_length_le (by rw [HX.out, sec_length _ at_ E.n HR.out.good.len hatn]; omega)
          have e : layAll E.secs (E.waits.take (k + 1)) = layS (layAll E.secs (E.waits.take k)) at_ (E.waits[k]).2 := by
            rw [List.take_succ_eq_append_getElem hlt, layAll_snoc, HA.out, Int.toNat_natCast]
          simp only [e0, List.append_nil, ← HSe.out] at h2
          rw [e]
          exact h2.keep (Kept.drew [] _) (by simp)
        · exact hkr.trans ((Kept.setCell [gl] wr _ _ (by simp)).trans (Kept.drew [gl] _) (fun _ _ h => h)) (fun _ _ h => h)
      case measure => simp [intOf]; omega
    · have e : k = E.waits.length := by omega
      subst e
      have hfr := hdr.free 1
      rw [List.take_length] at hdr
      have HR := hid hdr
      clear hdr
      go_wp2
      go_ret
      refine ⟨rfl, by rw [← HE.out]; exact HR.out.setNoWaits, ?_⟩
      exact ((hk.mono (fun k _ h => by simp only [List.mem_singleton] at h; simp [h])).trans hkr (fun k _ h => by simp only [List.mem_singleton] at h; simp [h])).trans (Kept.setCell [r] _ _ _ (by simp)) (fun k _ h => by simp only [List.mem_singleton] at h; simp [h])

set_option maxRecDepth 100000 in
set_option maxHeartbeats 1000000 in
theorem rwrite_len {w : World} {B r gl lc : Nat} {wv : Value} {D : DS} (h : RDiskAt w B r gl lc wv D) (i : Int) (a : Option Addr) (len cap : Nat) (hl : len ≠ 512) (hm : len ≤ maxLen) :
    Calls Try.prog 36 #[.pointer (some ⟨r, 0, none⟩), .int .i64 i, .slice a len cap] w fun e w' => e = .returned (.int .i64 2) ∧ w' = w := by
  have hl2 : ((len : Int) != 512) = true := by rw [bne_iff_ne]; omega
  unfold maxLen at hm
  clear h
  go_enter Try.func36, Try.ntmps36
  go_wp2_with fail
  go_ret
  exact ⟨rfl, rfl⟩

set_option maxRecDepth 100000 in
set_option maxHeartbeats 1000000 in
theorem rwrite_range {w : World} {B r gl lc : Nat} {wv : Value} {D : DS} (h : RDiskAt w B r gl lc wv D) (i : Int) (a : Option Addr) (cap : Nat) (hi : ¬ (0 ≤ i ∧ i < D.n)) :
    Calls Try.prog 36 #[.pointer (some ⟨r, 0, none⟩), .int .i64 i, .slice a 512 cap] w fun e w' => e = .returned (.int .i64 3) ∧ w' = w := by
  obtain ⟨c0, c1, c2, c3, c4⟩ := h.cells
  have hn := h.good.n2
  clear h
  by_cases h0 : i < 0
  · clear hi
    go_enter Try.func36, Try.ntmps36
    go_wp2_with fail
    go_ret
    exact ⟨rfl, rfl⟩
  · have h1 : (D.n : Int) ≤ i := by omega
    clear hi
    go_enter Try.func36, Try.ntmps36
    go_wp2_with fail
    go_ret
    exact ⟨rfl, rfl⟩

set_option maxRecDepth 100000 in
set_option maxHeartbeats 1000000 in
theorem rwrite_power {w : World} {B r gl lc : Nat} {wv : Value} {D : DS} (h : RDiskAt w B r gl lc wv D) (i : Nat) (a : Option Addr) (cap : Nat) (hi : i < D.n) (hs : D.steps < 1000) (hp : D.step.1 = false) :
    Calls Try.prog 36 #[.pointer (some ⟨r, 0, none⟩), .int .i64 i, .slice a 512 cap] w fun e w' => e = .returned (.int .i64 9) ∧ RDiskAt w' B r gl lc wv D.step.2 ∧ Kept [r] w w' := by
  obtain ⟨c0, c1, c2, c3, c4⟩ := h.cells
  have hn := h.good.n2
  have h0 : ¬ (i : Int) < 0 := by omega
  have h1 : (i : Int) < D.n := by omega
  have HH := hid h
  have HP := hid hp
  clear h hp
  go_enter Try.func36, Try.ntmps36
  go_wp2_with (go_at_call 43; refine (rstep_any HH.out hs).mono ?_; rw [HP.out]; rintro e w1 ⟨rfl, hd, hk⟩)
  go_ret
  exact ⟨rfl, hd, hk⟩
end Go.Proofs.Ytahhhpmpgkfkdaa
