/- What this text holds: 'Flush': what waits is laid. -/
import Derived.Test.YtambgimfbdecpaaDWrite
namespace Go.Proofs.Ytambgimfbdecpaa
open Go.RowKit
set_option linter.unusedVariables false

/-- All writes laid, one behind the other. -/
def layAll (l : List Int) (ws : List (Int × List Int)) : List Int := ws.foldl (fun s x => layS s x.1.toNat x.2) l
theorem layAll_snoc (l : List Int) (ws : List (Int × List Int)) (x : Int × List Int) : layAll l (ws ++ [x]) = layS (layAll l ws) x.1.toNat x.2 := by simp [layAll]
theorem layS_length (l : List Int) (n i : Nat) (b : List Int) (hl : l.length = n * 512) (hi : i < n) (hb : b.length ≤ 512) : (layS l i b).length = n * 512 := by
  unfold layS
  rw [length_splice _ _ _ (by omega)]
  exact hl

/-- The disk behind a flush. -/
def DS.flushed (D : DS) : DS := { D with secs := layAll D.secs D.waits, waits := [] }

theorem DiskAt.setSecs {w w' : World} {B b bs sc : Nat} {wv : Value} {D : DS} (h : DiskAt w B b bs sc wv D) (l : List Int) (hg : w.grownBy w' (some bs)) (ho : w'.ownsRow B 96 512 (.slice (some ⟨bs, 0, none⟩) D.n sc) D.n (bc l)) :
    DiskAt w' B b bs sc wv { D with secs := l } := by
  have hl := ho.1
  rw [bc_length] at hl
  refine { blk := ?_, secs := ho, waits := ?_, ne1 := h.ne1, ne2 := h.ne2, ne3 := h.ne3, hB := h.hB, good := { h.good with len := hl } }
  · rw [hg.block b (Array.getElem?_eq_some_iff.1 h.blk).1 (by simpa using (Ne.symm h.ne1))]; exact h.blk
  · exact ownsRow_block h.waits fun i hi => hg.block i (h.waits.lt i hi).2 (by rw [← hi]; exact h.ne3)

theorem DiskAt.setNoWaits {w : World} {B b bs sc : Nat} {wv : Value} {D : DS} (h : DiskAt w B b bs sc wv D) :
    DiskAt (w.setCell ⟨b, 1, none⟩ (.slice none 0 0)) B b bs sc (.slice none 0 0) { D with waits := [] } := by
  have hk := Kept.setCell [b] w ⟨b, 1, none⟩ (.slice none 0 0) (by simp)
  refine { blk := ?_, secs := ?_, waits := World.ownsRow_nil _ _ _ _, ne1 := h.ne1, ne2 := by simp [Value.ownBlock], ne3 := by simp [Value.ownBlock], hB := h.hB, good := { h.good with wl := by simp, w := by simp } }
  · simp [World.setCell, Array.getElem?_modify, h.blk]
  · exact ownsRow_block h.secs fun i hi => hk.block i (h.secs.lt i hi).2 (by simp only [Value.ownBlock, Option.some.injEq] at hi; subst hi; simpa using h.ne1)

theorem lay_512 {w : World} {B b bs n sc : Nat} {l : List Int} (h0 : w.cell? ⟨b, 0, none⟩ = some (.slice (some ⟨bs, 0, none⟩) n sc))
    (h : w.ownsRow B 96 512 (.slice (some ⟨bs, 0, none⟩) n sc) n (bc l)) (i : Nat) (hi : i < n) (hn : n ≤ 4096) (a : Addr) (c : Nat) (bytes : List Int) (hl : bytes.length = 512)
    (hsrc : ∀ j v, (bc bytes)[j]? = some v → w.cell? (a.add j) = some v) :
    Calls Try.prog 47 #[.pointer (some ⟨b, 0, none⟩), .int .i64 i, .slice (some a) 512 c] w fun e w' => e = .returned (.tuple #[]) ∧
      w'.ownsRow B 96 512 (.slice (some ⟨bs, 0, none⟩) n sc) n (bc (layS l i bytes)) ∧ w.grownBy w' (some bs) := by
  have := lay_any h0 h i hi hn a c bytes (by omega) hsrc
  rw [hl] at this
  exact this

set_option maxRecDepth 100000 in
set_option maxHeartbeats 1000000 in
theorem flush_power {w : World} {B b bs sc : Nat} {wv : Value} {D : DS} (h : DiskAt w B b bs sc wv D) (hs : D.steps < 1000) (hp : D.step.1 = false) :
    Calls Try.prog 92 #[.pointer (some ⟨b, 0, none⟩)] w fun e w' => e = .returned (.int .i64 9) ∧ DiskAt w' B b bs sc wv D.step.2 ∧ Kept [b] w w' := by
  have HH := hid h
  have HP := hid hp
  clear h hp
  go_enter Try.func92, Try.ntmps92
  go_wp2_with (go_at_call 49; refine (step_any HH.out hs).mono ?_; rw [HP.out]; rintro e w1 ⟨rfl, hd, hk⟩)
  go_ret
  exact ⟨rfl, hd, hk⟩

set_option maxRecDepth 100000 in
set_option maxHeartbeats 2000000 in
theorem flush_yes {w : World} {B b bs sc : Nat} {wv : Value} {D : DS} (h : DiskAt w B b bs sc wv D) (hs : D.steps < 1000) (hp : D.step.1 = true) :
    Calls Try.prog 92 #[.pointer (some ⟨b, 0, none⟩)] w fun e w' => e = .returned (.int .i64 0) ∧ DiskAt w' B b bs sc (.slice none 0 0) D.step.2.flushed ∧ Kept [b, bs] w w' := by
  have HH := hid h
  have HP := hid hp
  clear h hp
  go_enter Try.func92, Try.ntmps92
  go_wp2_with (go_at_call 49; refine (step_any HH.out hs).mono ?_; rw [HP.out]; rintro e w1 ⟨rfl, hd, hk⟩; obtain ⟨a, c, rfl⟩ := hd.wvSlice; obtain ⟨d0, d1, d2, d3, d4⟩ := hd.cells; have HD := hid hd; have HW := hd.good.wl; clear hd)
  obtain ⟨E, hE⟩ : ∃ E, E = D.step.2 := ⟨_, rfl⟩
  rw [← hE] at HD HW d0 d1 d2 d3 d4 ⊢
  have HE := hid hE
  clear hE
  go_loopw [14] (fun q wr => ∃ k : Nat, k ≤ E.waits.length ∧ q = .int .i64 k ∧ DiskAt wr B b bs sc (.slice a E.waits.length c) { E with secs := layAll E.secs (E.waits.take k) } ∧ Kept [bs] w1 wr) (fun q _ => E.waits.length - (intOf q).toNat)
  case atStart => exact ⟨0, by omega, rfl, by simpa [layAll] using HD.out, Kept.refl _ _⟩
  case round =>
    obtain ⟨k, hkl, rfl, hdr, hkr⟩ := hrel
    obtain ⟨f0, f1, f2, f3, f4⟩ := hdr.cells
    simp only at f0 f1 f2 f3 f4
    by_cases hlt : k < E.waits.length
    · obtain ⟨bw, wc, e, hc1, hc2⟩ := wait_cells hdr k hlt
      simp only [Value.slice.injEq, true_and] at e
      obtain ⟨rfl, rfl⟩ := e
      have HR := hid hdr
      have HC := hid hc2
      clear hdr hc2 d0 d1 d2 d3 d4
      obtain ⟨at_, hat⟩ : ∃ m : Nat, (E.waits[k]).1 = m := ⟨(E.waits[k]).1.toNat, by have := (HR.out.good.w _ (List.getElem_mem hlt)).1; omega⟩
      have hatn : at_ < E.n := by have := (HR.out.good.w _ (List.getElem_mem hlt)).2.1; simp only at this; omega
      have hx : (E.waits[k]).2.length = 512 := (HR.out.good.w _ (List.getElem_mem hlt)).2.2
      have hn2 : E.n ≤ 4096 := HR.out.good.n2
      simp only at hc1
      rw [hat] at hc1
      have HA := hid hat
      have HX := hid hx
      clear hat hx
      have hlay := lay_512 (w := wr.drew) f0 HR.out.secs at_ hatn hn2 ⟨bw, k * 513 + 1, none⟩ 512 (E.waits[k]).2 HX.out HC.out
      have HN1 : Hid (some b ≠ some bs) := by have := HR.out.ne1; simp only [ne_eq, Option.some.injEq]; exact fun h => this h.symm
      have HN2 : Hid (some bw ≠ some bs) := HR.out.ne3
      have HL := hid hlay
      clear hlay
      go_wp2
      go_region_held3 (fun w' => w'.cell? ⟨b, 1, none⟩ = some (.slice (some ⟨bw, 0, none⟩) E.waits.length c) ∧ w'.cell? ⟨bw, k * 513, none⟩ = some (.int .i64 at_)) (first | go_keep) (first | (go_at_call 47; refine HL.out.mono ?_; rintro e w2 ⟨rfl, ho, hg⟩; have hb1 : w2.cell? ⟨b, 1, none⟩ = some (.slice (some ⟨bw, 0, none⟩) E.waits.length c) := hg.cell f1 HN1.out; have hb2 : w2.cell? ⟨bw, k * 513, none⟩ = some (.int .i64 at_) := hg.cell hc1 HN2.out))
      clear hb1 hb2
      go_wp2
      go_roundw
      case rel =>
        refine ⟨k + 1, by omega, by go_num, ?_, ?_⟩
        · have h2 := (HR.out.keep (Kept.drew [] wr) (by simp)).setSecs _ hg ho
          have e : layAll E.secs (E.waits.take (k + 1)) = layS (layAll E.secs (E.waits.take k)) at_ (E.waits[k]).2 := by
            rw [List.take_succ_eq_append_getElem hlt, layAll_snoc, HA.out, Int.toNat_natCast]
          rw [e]
          exact h2
        · exact hkr.trans ((Kept.drew [bs] wr).trans (Kept.ofGrown hg [bs] (fun k h => by simpa using h.symm)) (fun _ _ h => h)) (fun _ _ h => h)
      case measure => simp [intOf]; omega
    · have e : k = E.waits.length := by omega
      subst e
      have hfr := hdr.free 1
      rw [List.take_length] at hdr
      have HR := hid hdr
      clear hdr d0 d1 d2 d3 d4
      go_wp2
      go_ret
      refine ⟨rfl, by rw [← HE.out]; exact HR.out.setNoWaits, ?_⟩
      exact ((hk.mono (fun k _ h => by simp only [List.mem_singleton] at h; simp [h])).trans hkr (fun k _ h => by simp only [List.mem_singleton] at h; simp [h])).trans (Kept.setCell [b] _ _ _ (by simp)) (fun k _ h => by simp only [List.mem_singleton] at h; simp [h])
end Go.Proofs.Ytambgimfbdecpaa
