/- What this text holds: 'Crash': a new disk, with what was kept of the writes that waited. -/
import Derived.Test.YtambgimfbdecpaaDFlush
import Derived.Deep.QuietTactic
import Derived.BigQuiet
namespace Go.Proofs.Ytambgimfbdecpaa
open Go.RowKit
set_option linter.unusedVariables false

/-- How many bytes a keep keeps. -/
def keepN (k : Int) : Nat := (min (max k 0) 512).toNat
/-- What one keep does to the sectors. -/
def keep1 (ws : List (Int × List Int)) (s : List Int) (k : Int × Int) : List Int :=
  if h : 0 ≤ k.1 ∧ k.1.toNat < ws.length then layS s (ws[k.1.toNat]).1.toNat ((ws[k.1.toNat]).2.take (keepN k.2)) else s
/-- The disk behind a crash. -/
def DS.crash (D : DS) (ks : List (Int × Int)) : DS := { n := D.n, secs := ks.foldl (keep1 D.waits) D.secs, waits := [], fuse := -1, gone := false, steps := 0 }

theorem DiskAt.base {w : World} {B B' b bs sc : Nat} {wv : Value} {D : DS} (h : DiskAt w B b bs sc wv D) (hB : B' ≤ B) : DiskAt w B' b bs sc wv D :=
  { h with secs := ownsRow_base h.secs hB, waits := ownsRow_base h.waits hB, hB := Nat.le_trans hB h.hB }

/-- The keeps of a slice lie in memory. -/
def KeepsAt (w : World) (kb ko : Nat) (ks : List (Int × Int)) : Prop :=
  ∀ j (hj : j < ks.length), w.cell? ⟨kb, ko + j * 2, none⟩ = some (.int .i64 (ks[j]).1) ∧ w.cell? ⟨kb, ko + j * 2 + 1, none⟩ = some (.int .i64 (ks[j]).2)

/-- The new disk, ahead of what was kept. -/
theorem crash_start {w w1 : World} {B b bs sc : Nat} {wv : Value} {D : DS} (h : DiskAt w B b bs sc wv D) {g c : Nat} (hg : w.heap.size ≤ g) (ho : w1.ownsRow w.heap.size 96 512 (.slice (some ⟨g, 0, none⟩) D.n c) D.n (bc D.secs)) (hb : Below w.heap.size w w1) :
    DiskAt (w1.alloc (.cells #[.slice (some ⟨g, 0, none⟩) D.n c, .slice none 0 0, .int .i64 (-1), .bool false, .int .i64 0] 83)) w.heap.size w1.heap.size g c (.slice none 0 0) (D.crash []) ∧
    Below w.heap.size w (w1.alloc (.cells #[.slice (some ⟨g, 0, none⟩) D.n c, .slice none 0 0, .int .i64 (-1), .bool false, .int .i64 0] 83)) := by
  have hlt := (ho.lt g rfl).2
  refine ⟨{ blk := heap_alloc_new _ _, secs := ho.alloc _, waits := World.ownsRow_nil _ _ _ _, ne1 := by omega, ne2 := by simp [Value.ownBlock], ne3 := by simp [Value.ownBlock], hB := hb.size, good := ?_ }, hb.alloc hb.size _⟩
  exact ⟨h.good.n1, h.good.n2, h.good.len, by simp [DS.crash], by simp [DS.crash], by simp [DS.crash], by simp [DS.crash], by simp [DS.crash], by simp [DS.crash]⟩

/-- What a call of Crash ends in: a new disk; nothing that was there has turned. -/
def MadeDisk (w : World) (E : DS) (e : Ending) (w' : World) : Prop :=
  ∃ b' own, e = .returned (.pointer (some ⟨b', 0, none⟩)) ∧ Disk w' w.heap.size b' own E ∧ Below w.heap.size w w'

set_option maxRecDepth 100000 in
set_option maxHeartbeats 2000000 in
theorem crash_none {w : World} {B b bs sc : Nat} {wv : Value} {D : DS} (h : DiskAt w B b bs sc wv D) (ka : Option Addr) (kc : Nat) :
    Calls Try.prog 19 #[.pointer (some ⟨b, 0, none⟩), .slice ka 0 kc] w (MadeDisk w (D.crash [])) := by
  obtain ⟨c0, c1, c2, c3, c4⟩ := h.cells
  have hn1 := h.good.n1
  have hn2 := h.good.n2
  have HH := hid h
  clear h
  go_enter Try.func19, Try.ntmps19
  go_wp2_with (go_at_call 46; refine (another_any c0 HH.out.secs hn1 hn2).mono ?_; rintro e w1 ⟨g, c, rfl, hg, ho, hb⟩; obtain ⟨hd1, hb1⟩ := crash_start HH.out hg ho hb; have HD := hid hd1; have HB := hid hb1; clear hd1 hb1 ho)
  go_loop [19] (fun q => q = .int .i64 0) (fun q => 0)
  case atStart => rfl
  case round =>
    subst hrel
    go_wp2
    go_ret
    exact ⟨_, _, rfl, ⟨_, _, _, HD.out, rfl⟩, HB.out⟩

theorem keep1_length (ws : List (Int × List Int)) (s : List Int) (k : Int × Int) (n : Nat) (hs : s.length = n * 512) (hw : ∀ x ∈ ws, 0 ≤ x.1 ∧ x.1 < n ∧ x.2.length = 512) : (keep1 ws s k).length = n * 512 := by
  unfold keep1
  split
  · rename_i h
    obtain ⟨h1, h2, h3⟩ := hw _ (List.getElem_mem h.2)
    exact layS_length _ _ _ _ hs (by omega) (by simp; omega)
  · exact hs

theorem crash_snoc (D : DS) (ks : List (Int × Int)) (k : Nat) (hk : k < ks.length) : D.crash (ks.take (k + 1)) = { D.crash (ks.take k) with secs := keep1 D.waits (D.crash (ks.take k)).secs ks[k] } := by
  unfold DS.crash
  rw [List.take_succ_eq_append_getElem hk, List.foldl_append]
  rfl
theorem crash_skip (D : DS) (ks : List (Int × Int)) (k : Nat) (hk : k < ks.length) (h : ¬ (0 ≤ (ks[k]).1 ∧ (ks[k]).1.toNat < D.waits.length)) : D.crash (ks.take (k + 1)) = D.crash (ks.take k) := by
  rw [crash_snoc D ks k hk]
  unfold keep1
  rw [dif_neg h]
theorem lay_le {w : World} {B b bs n sc : Nat} {l : List Int} (h0 : w.cell? ⟨b, 0, none⟩ = some (.slice (some ⟨bs, 0, none⟩) n sc))
    (h : w.ownsRow B 96 512 (.slice (some ⟨bs, 0, none⟩) n sc) n (bc l)) (i : Nat) (hi : i < n) (hn : n ≤ 4096) (a : Addr) (c : Nat) (bytes : List Int) (m : Nat) (hl : bytes.length = m) (hm : m ≤ 512)
    (hsrc : ∀ j v, (bc bytes)[j]? = some v → w.cell? (a.add j) = some v) :
    Calls Try.prog 47 #[.pointer (some ⟨b, 0, none⟩), .int .i64 i, .slice (some a) m c] w fun e w' => e = .returned (.tuple #[]) ∧
      w'.ownsRow B 96 512 (.slice (some ⟨bs, 0, none⟩) n sc) n (bc (layS l i bytes)) ∧ w.grownBy w' (some bs) := by
  have := lay_any h0 h i hi hn a c bytes (by omega) hsrc
  rw [hl] at this
  exact this
theorem bc_take_at {l : List Int} {m j : Nat} {v : Value} (h : (bc (l.take m))[j]? = some v) : (bc l)[j]? = some v := by
  simp only [bc, List.map_take, List.getElem?_take] at h ⊢
  split at h
  · exact h
  · cases h
theorem keep1_in (ws : List (Int × List Int)) (s : List Int) (k : Int × Int) (q : Nat) (hq : q < ws.length) (at_ m : Nat) (h1 : k.1 = q) (hat : (ws[q]).1 = at_) (hm : keepN k.2 = m) : keep1 ws s k = layS s at_ ((ws[q]).2.take m) := by
  have e : k.1.toNat = q := by omega
  unfold keep1
  rw [dif_pos ⟨by omega, by omega⟩]
  simp only [e, hat, hm, Int.toNat_natCast]
theorem Kept.allocN (S : List Nat) (w : World) (o : Obj) (n : Nat) : Kept S w ((w.alloc o).drewN n) :=
  (Kept.alloc S w o).trans ⟨rfl, rfl, rfl, Nat.le_refl _, fun k _ _ => rfl⟩ (fun _ _ h => h) (T := S)

set_option maxRecDepth 100000 in
set_option maxHeartbeats 4000000 in
theorem crash_some {w : World} {B b bs sc : Nat} {wv : Value} {D : DS} (h : DiskAt w B b bs sc wv D) (kb ko kc : Nat) (ks : List (Int × Int)) (hm : ks.length ≤ maxLen) (hks : KeepsAt w kb ko ks) :
    Calls Try.prog 19 #[.pointer (some ⟨b, 0, none⟩), .slice (some ⟨kb, ko, none⟩) ks.length kc] w (MadeDisk w (D.crash ks)) := by
  unfold maxLen at hm
  obtain ⟨a, wc, rfl⟩ := h.wvSlice
  obtain ⟨c0, c1, c2, c3, c4⟩ := h.cells
  have hn1 := h.good.n1
  have hn2 := h.good.n2
  have hwl := h.good.wl
  have HH := hid h
  have HK := hid hks
  clear h hks
  go_enter Try.func19, Try.ntmps19
  go_wp2_with (go_at_call 46; refine (another_any c0 HH.out.secs hn1 hn2).mono ?_; rintro e w1 ⟨g, c, rfl, hg, ho, hb⟩; obtain ⟨hd1, hb1⟩ := crash_start HH.out hg ho hb; have HD := hid hd1; have HB := hid hb1; clear hd1 hb1 ho)
  go_loopw [19] (fun q wr => ∃ k : Nat, k ≤ ks.length ∧ q = .int .i64 k ∧ DiskAt wr w.heap.size w1.heap.size g c (.slice none 0 0) (D.crash (ks.take k)) ∧ Below w.heap.size w wr) (fun q _ => ks.length - (intOf q).toNat)
  case atStart => exact ⟨0, by omega, rfl, HD.out, HB.out⟩
  case round =>
    obtain ⟨k, hkl, rfl, hdr, hbr⟩ := hrel
    by_cases hlt : k < ks.length
    · obtain ⟨k1, k2⟩ := HK.out k hlt
      have m1 : wr.cell? ⟨kb, ko + k * 2, none⟩ = some (.int .i64 (ks[k]).1) := cell_later hbr k1
      have m2 : wr.cell? ⟨kb, ko + k * 2 + 1, none⟩ = some (.int .i64 (ks[k]).2) := cell_later hbr k2
      obtain ⟨W, hW⟩ : ∃ W, W = (ks[k]).1 := ⟨_, rfl⟩
      obtain ⟨Y, hY⟩ : ∃ Y, Y = (ks[k]).2 := ⟨_, rfl⟩
      rw [← hW] at m1
      rw [← hY] at m2
      have HWe := hid hW
      have HYe := hid hY
      have HR := hid hdr
      have f1 : ∀ O : Obj, (wr.alloc O).cell? ⟨b, 1, none⟩ = some (.slice a D.waits.length wc) := fun O => by
        have := cell_later hbr c1
        rw [World.cell?_alloc_some _ _ _ (by simp [this]), this]
      clear hdr k1 k2 HD HB hW hY
      by_cases h0 : W < 0
      · have hd0 : decide (W < 0) = true := by simpa using h0
        have hsk : D.crash (ks.take (k + 1)) = D.crash (ks.take k) := crash_skip D ks k hlt (by rw [← HWe.out]; omega)
        have HSk := hid hsk
        clear hsk
        go_wp2
        go_quiet (fail)
        go_wp2
        go_roundw
        case rel =>
          refine ⟨k + 1, by omega, by go_num, ?_, ?_⟩
          · rw [HSk.out]; exact HR.out.keep (Kept.allocN [] wr _ _) (by simp)
          · exact below_drewN (hbr.alloc hbr.size _) _
        case measure => simp [intOf]; omega
      · have hd0 : decide (W < 0) = false := by simpa using h0
        obtain ⟨q, rfl⟩ : ∃ q : Nat, W = q := ⟨W.toNat, by omega⟩
        by_cases h1 : q < D.waits.length
        · have hd1 : decide ((D.waits.length : Int) ≤ (q : Int)) = false := by simp; omega
          obtain ⟨bw, wc', e, hc1, hc2⟩ := wait_cells HH.out q h1
          simp only [Value.slice.injEq, true_and] at e
          obtain ⟨rfl, rfl⟩ := e
          obtain ⟨at_, hat⟩ : ∃ m : Nat, (D.waits[q]).1 = m := ⟨(D.waits[q]).1.toNat, by have := (HH.out.good.w _ (List.getElem_mem h1)).1; omega⟩
          have hatn : at_ < D.n := by have := (HH.out.good.w _ (List.getElem_mem h1)).2.1; omega
          have hx : (D.waits[q]).2.length = 512 := (HH.out.good.w _ (List.getElem_mem h1)).2.2
          rw [hat] at hc1
          have p1 : ∀ O : Obj, (wr.alloc O).cell? ⟨bw, q * 513, none⟩ = some (.int .i64 at_) := fun O => by
            have := cell_later hbr hc1
            rw [World.cell?_alloc_some _ _ _ (by simp [this]), this]
          have hdn : ∀ nq, DiskAt ((wr.alloc (.cells #[.int .i64 (q : Int), .int .i64 Y] 94)).drewN nq) w.heap.size w1.heap.size g c (.slice none 0 0) (D.crash (ks.take k)) := fun nq => HR.out.keep (Kept.allocN [] wr _ _) (by simp)
          have HL : Hid (∀ nq m, m ≤ 512 → Calls Try.prog 47 #[.pointer (some ⟨w1.heap.size, 0, none⟩), .int .i64 at_, .slice (some ⟨bw, q * 513 + 1, none⟩) m 512] ((wr.alloc (.cells #[.int .i64 (q : Int), .int .i64 Y] 94)).drewN nq) fun e w' => e = .returned (.tuple #[]) ∧
              w'.ownsRow w.heap.size 96 512 (.slice (some ⟨g, 0, none⟩) D.n c) D.n (bc (layS (D.crash (ks.take k)).secs at_ ((D.waits[q]).2.take m))) ∧ ((wr.alloc (.cells #[.int .i64 (q : Int), .int .i64 Y] 94)).drewN nq).grownBy w' (some g)) := fun nq m hm =>
            lay_le (hdn nq).cells.1 (hdn nq).secs at_ hatn hn2 ⟨bw, q * 513 + 1, none⟩ 512 _ m (by simp [hx]; omega) hm (fun j v hv => by
              have h9 := cell_later hbr (hc2 j v (bc_take_at hv))
              show (wr.alloc _).cell? _ = _
              rw [World.cell?_alloc_some _ _ _ (by simp [h9]), h9])
          have hbw : b < w.heap.size := (HH.out.lt b (by simp)).2
          have hbw2 : bw < w.heap.size := (HH.out.waits.lt bw rfl).2
          have hgr : g < wr.heap.size := (HR.out.lt g (by simp)).2
          have HN1 := hid (show some b ≠ some g by simp only [ne_eq, Option.some.injEq]; omega)
          have HN2 := hid (show some bw ≠ some g by simp only [ne_eq, Option.some.injEq]; omega)
          have HN3 := hid (show some wr.heap.size ≠ some g by simp only [ne_eq, Option.some.injEq]; omega)
          have HA := hid hat
          clear hat hx hdn hc1 hc2
          rcases (by omega : Y < 0 ∨ (0 ≤ Y ∧ Y ≤ 512) ∨ 512 < Y) with hy | hy | hy
          · skip
            go_wp2
            go_quiet (fail)
            go_wp2
            go_region_held3 (fun w' => w'.cell? ⟨b, 1, none⟩ = some (.slice (some ⟨bw, 0, none⟩) D.waits.length wc) ∧ w'.cell? ⟨wr.heap.size, 0, none⟩ = some (.int .i64 q) ∧ w'.cell? ⟨bw, q * 513, none⟩ = some (.int .i64 at_)) (first | go_keep) (first | (go_at_call 47; refine (HL.out _ 0 (by omega)).mono ?_; rintro e w2 ⟨rfl, ho, hg⟩; have hb1 : w2.cell? ⟨b, 1, none⟩ = some (.slice (some ⟨bw, 0, none⟩) D.waits.length wc) := hg.cell (f1 _) HN1.out; have hb2 : w2.cell? ⟨bw, q * 513, none⟩ = some (.int .i64 at_) := hg.cell (p1 _) HN2.out; have hb3 : w2.cell? ⟨wr.heap.size, 0, none⟩ = some (.int .i64 q) := hg.cell (by simp) HN3.out))
            clear hb1 hb2 hb3
            go_wp2
            go_roundw
            case rel =>
              refine ⟨k + 1, by omega, by go_num, ?_, ?_⟩
              · rw [crash_snoc D ks k hlt, keep1_in D.waits _ _ q h1 at_ 0 HWe.out.symm HA.out (by rw [← HYe.out]; unfold keepN; omega)]
                exact (HR.out.keep (Kept.allocN [] wr _ _) (by simp)).setSecs _ hg ho
              · exact (below_drewN (hbr.alloc hbr.size _) _).grown hg (by have := hbr.size; simp; omega) (fun k hk => by simp only [Option.some.injEq] at hk; omega)
            case measure => simp [intOf]; omega
          · obtain ⟨y, rfl⟩ : ∃ y : Nat, Y = y := ⟨Y.toNat, by omega⟩
            have hy1 : (y : Int) ≤ 512 := hy.2
            clear hy
            go_wp2
            go_quiet (fail)
            go_wp2
            go_region_held3 (fun w' => w'.cell? ⟨b, 1, none⟩ = some (.slice (some ⟨bw, 0, none⟩) D.waits.length wc) ∧ w'.cell? ⟨wr.heap.size, 0, none⟩ = some (.int .i64 q) ∧ w'.cell? ⟨bw, q * 513, none⟩ = some (.int .i64 at_)) (first | go_keep) (first | (go_at_call 47; refine (HL.out _ y (by omega)).mono ?_; rintro e w2 ⟨rfl, ho, hg⟩; have hb1 : w2.cell? ⟨b, 1, none⟩ = some (.slice (some ⟨bw, 0, none⟩) D.waits.length wc) := hg.cell (f1 _) HN1.out; have hb2 : w2.cell? ⟨bw, q * 513, none⟩ = some (.int .i64 at_) := hg.cell (p1 _) HN2.out; have hb3 : w2.cell? ⟨wr.heap.size, 0, none⟩ = some (.int .i64 q) := hg.cell (by simp) HN3.out))
            clear hb1 hb2 hb3
            go_wp2
            go_roundw
            case rel =>
              refine ⟨k + 1, by omega, by go_num, ?_, ?_⟩
              · rw [crash_snoc D ks k hlt, keep1_in D.waits _ _ q h1 at_ y HWe.out.symm HA.out (by rw [← HYe.out]; unfold keepN; omega)]
                exact (HR.out.keep (Kept.allocN [] wr _ _) (by simp)).setSecs _ hg ho
              · exact (below_drewN (hbr.alloc hbr.size _) _).grown hg (by have := hbr.size; simp; omega) (fun k hk => by simp only [Option.some.injEq] at hk; omega)
            case measure => simp [intOf]; omega
          · have hy0 : ¬ Y < 0 := by omega
            go_wp2
            go_quiet (fail)
            go_wp2
            go_region_held3 (fun w' => w'.cell? ⟨b, 1, none⟩ = some (.slice (some ⟨bw, 0, none⟩) D.waits.length wc) ∧ w'.cell? ⟨wr.heap.size, 0, none⟩ = some (.int .i64 q) ∧ w'.cell? ⟨bw, q * 513, none⟩ = some (.int .i64 at_)) (first | go_keep) (first | (go_at_call 47; refine (HL.out _ 512 (by omega)).mono ?_; rintro e w2 ⟨rfl, ho, hg⟩; have hb1 : w2.cell? ⟨b, 1, none⟩ = some (.slice (some ⟨bw, 0, none⟩) D.waits.length wc) := hg.cell (f1 _) HN1.out; have hb2 : w2.cell? ⟨bw, q * 513, none⟩ = some (.int .i64 at_) := hg.cell (p1 _) HN2.out; have hb3 : w2.cell? ⟨wr.heap.size, 0, none⟩ = some (.int .i64 q) := hg.cell (by simp) HN3.out))
            clear hb1 hb2 hb3
            go_wp2
            go_roundw
            case rel =>
              refine ⟨k + 1, by omega, by go_num, ?_, ?_⟩
              · rw [crash_snoc D ks k hlt, keep1_in D.waits _ _ q h1 at_ 512 HWe.out.symm HA.out (by rw [← HYe.out]; unfold keepN; omega)]
                exact (HR.out.keep (Kept.allocN [] wr _ _) (by simp)).setSecs _ hg ho
              · exact (below_drewN (hbr.alloc hbr.size _) _).grown hg (by have := hbr.size; simp; omega) (fun k hk => by simp only [Option.some.injEq] at hk; omega)
            case measure => simp [intOf]; omega
        · have hd1 : decide ((D.waits.length : Int) ≤ (q : Int)) = true := by simp; omega
          have hsk : D.crash (ks.take (k + 1)) = D.crash (ks.take k) := crash_skip D ks k hlt (by rw [← HWe.out]; omega)
          have HSk := hid hsk
          clear hsk
          go_wp2
          go_quiet (fail)
          go_wp2
          go_roundw
          case rel =>
            refine ⟨k + 1, by omega, by go_num, ?_, ?_⟩
            · rw [HSk.out]; exact HR.out.keep (Kept.allocN [] wr _ _) (by simp)
            · exact below_drewN (hbr.alloc hbr.size _) _
          case measure => simp [intOf]; omega
    · have e : k = ks.length := by omega
      subst e
      rw [List.take_length] at hdr
      have HR := hid hdr
      clear hdr
      go_wp2
      go_ret
      exact ⟨_, _, rfl, ⟨_, _, _, HR.out, rfl⟩, hbr⟩
end Go.Proofs.Ytambgimfbdecpaa
