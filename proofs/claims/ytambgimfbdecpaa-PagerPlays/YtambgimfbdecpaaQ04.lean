/- What this text holds: 'Crash': a new disk, with what was kept of the writes that waited. · What this text holds: plain facts on sectors and on what is laid over them. · What this text holds: more small moves for a region that leaves its order open, for operations that stand behind a guard, and for calls. · What this text holds: the calls of a disk once more, each with all its answers in one. -/
import Derived.Test.YtambgimfbdecpaaQ03
import Derived.Deep.QuietTactic
import Derived.BigQuiet
namespace Go.Proofs.Ytambgimfbdecpaa
open Go.RowKit
set_option linter.unusedVariables false

/-- How many bytes a keep keeps. -/
def keepN (k : Int) : Nat := (min (max k 0) 512).toNat
/-- What one keep does to the sectors. -/
def keep1 (ws : List (Int × List Int)) (s : List Int) (k : Int × Int) : List Int :=
  if h : 0 ≤ k.1 ∧ k.1.toNat < ws.length then layS s (ws[k.1.toNat]).1.toNat ((ws[k.1.toNat]).2.take (keepN k.2)) else s
/-- The disk behind a crash. -/
def DS.crash (D : DS) (ks : List (Int × Int)) : DS := { n := D.n, secs := ks.foldl (keep1 D.waits) D.secs, waits := [], fuse := -1, gone := false, steps := 0 }

theorem DiskAt.base {w : World} {B B' b bs sc : Nat} {wv : Value} {D : DS} (h : DiskAt w B b bs sc wv D) (hB : B' ≤ B) : DiskAt w B' b bs sc wv D :=
  { h with secs := ownsRow_base h.secs hB, waits := ownsRow_base h.waits hB, hB := Nat.le_trans hB h.hB }

/-- The keeps of a slice lie in memory. -/
def KeepsAt (w : World) (kb ko : Nat) (ks : List (Int × Int)) : Prop :=
  ∀ j (hj : j < ks.length), w.cell? ⟨kb, ko + j * 2, none⟩ = some (.int .i64 (ks[j]).1) ∧ w.cell? ⟨kb, ko + j * 2 + 1, none⟩ = some (.int .i64 (ks[j]).2)

/-- The new disk, ahead of what was kept. -/
theorem crash_start {w w1 : World} {B b bs sc : Nat} {wv : Value} {D : DS} (h : DiskAt w B b bs sc wv D) {g c : Nat} (hg : w.heap.size ≤ g) (ho : w1.ownsRow w.heap.size 96 512 (.slice (some ⟨g, 0, none⟩) D.n c) D.n (bc D.secs)) (hb : Below w.heap.size w w1) :
    DiskAt (w1.alloc (.cells #[.slice (some ⟨g, 0, none⟩) D.n c, .slice none 0 0, .int .i64 (-1), .bool false, .int .i64 0] 83)) w.heap.size w1.heap.size g c (.slice none 0 0) (D.crash []) ∧
    Below w.heap.size w (w1.alloc (.cells #[.slice (some ⟨g, 0, none⟩) D.n c, .slice none 0 0, .int .i64 (-1), .bool false, .int .i64 0] 83)) := by
  have hlt := (ho.lt g rfl).2
  refine ⟨{ blk := heap_alloc_new _ _, secs := ho.alloc _, waits := World.ownsRow_nil _ _ _ _, ne1 := by omega, ne2 := by simp [Value.ownBlock], ne3 := by simp [Value.ownBlock], hB := hb.size, good := ?_ }, hb.alloc hb.size _⟩
  exact ⟨h.good.n1, h.good.n2, h.good.len, by simp [DS.crash], by simp [DS.crash], by simp [DS.crash], by simp [DS.crash], by simp [DS.crash], by simp [DS.crash]⟩

/-- What a call of Crash ends in: a new disk; nothing that was there has turned. -/
def MadeDisk (w : World) (E : DS) (e : Ending) (w' : World) : Prop :=
  ∃ b' own, e = .returned (.pointer (some ⟨b', 0, none⟩)) ∧ Disk w' w.heap.size b' own E ∧ Below w.heap.size w w'

set_option maxRecDepth 100000 in
set_option maxHeartbeats 2000000 in
theorem crash_none {w : World} {B b bs sc : Nat} {wv : Value} {D : DS} (h : DiskAt w B b bs sc wv D) (ka : Option Addr) (kc : Nat) :
    Calls Try.prog 19 #[.pointer (some ⟨b, 0, none⟩), .slice ka 0 kc] w (MadeDisk w (D.crash [])) := by
  obtain ⟨c0, c1, c2, c3, c4⟩ := h.cells
  have hn1 := h.good.n1
  have hn2 := h.good.n2
  have HH := hid h
  clear h
  go_enter Try.func19, Try.ntmps19
  go_wp2_with (go_at_call 46; refine (another_any c0 HH.out.secs hn1 hn2).mono ?_; rintro e w1 ⟨g, c, rfl, hg, ho, hb⟩; obtain ⟨hd1, hb1⟩ := crash_start HH.out hg ho hb; have HD := hid hd1; have HB := hid hb1; clear hd1 hb1 ho)
  go_loop [19] (fun q => q = .int .i64 0) (fun q => 0)
  case atStart => rfl
  case round =>
    subst hrel
    go_wp2
    go_ret
    exact ⟨_, _, rfl, ⟨_, _, _, HD.out, rfl⟩, HB.out⟩

theorem keep1_length (ws : List (Int × List Int)) (s : List Int) (k : Int × Int) (n : Nat) (hs : s.length = n * 512) (hw : ∀ x ∈ ws, 0 ≤ x.1 ∧ x.1 < n ∧ x.2.length = 512) : (keep1 ws s k).length = n * 512 := by
  unfold keep1
  split
  · rename_i h
    obtain ⟨h1, h2, h3⟩ := hw _ (List.getElem_mem h.2)
    exact layS_length _ _ _ _ hs (by omega) (by simp; omega)
  · exact hs

theorem crash_snoc (D : DS) (ks : List (Int × Int)) (k : Nat) (hk : k < ks.length) : D.crash (ks.take (k + 1)) = { D.crash (ks.take k) with secs := keep1 D.waits (D.crash (ks.take k)).secs ks[k] } := by
  unfold DS.crash
  rw [List.take_succ_eq_append_getElem hk, List.foldl_append]
  rfl
theorem crash_skip (D : DS) (ks : List (Int × Int)) (k : Nat) (hk : k < ks.length) (h : ¬ (0 ≤ (ks[k]).1 ∧ (ks[k]).1.toNat < D.waits.length)) : D.crash (ks.take (k + 1)) = D.crash (ks.take k) := by
  rw [crash_snoc D ks k hk]
  unfold keep1
  rw [dif_neg h]
theorem lay_le {w : World} {B b bs n sc : Nat} {l : List Int} (h0 : w.cell? ⟨b, 0, none⟩ = some (.slice (some ⟨bs, 0, none⟩) n sc))
    (h : w.ownsRow B 96 512 (.slice (some ⟨bs, 0, none⟩) n sc) n (bc l)) (i : Nat) (hi : i < n) (hn : n ≤ 4096) (a : Addr) (c : Nat) (bytes : List Int) (m : Nat) (hl : bytes.length = m) (hm : m ≤ 512)
    (hsrc : ∀ j v, (bc bytes)[j]? = some v → w.cell? (a.add j) = some v) :
    Calls Try.prog 47 #[.pointer (some ⟨b, 0, none⟩), .int .i64 i, .slice (some a) m c] w fun e w' => e = .returned (.tuple #[]) ∧
      w'.ownsRow B 96 512 (.slice (some ⟨bs, 0, none⟩) n sc) n (bc (layS l i bytes)) ∧ w.grownBy w' (some bs) := by
  have := lay_any h0 h i hi hn a c bytes (by omega) hsrc
  rw [hl] at this
  exact this
theorem bc_take_at {l : List Int} {m j : Nat} {v : Value} (h : (bc (l.take m))[j]? = some v) : (bc l)[j]? = some v := by
  simp only [bc, List.map_take, List.getElem?_take] at h ⊢
  split at h
  · exact h
  · cases h
theorem keep1_in (ws : List (Int × List Int)) (s : List Int) (k : Int × Int) (q : Nat) (hq : q < ws.length) (at_ m : Nat) (h1 : k.1 = q) (hat : (ws[q]).1 = at_) (hm : keepN k.2 = m) : keep1 ws s k = layS s at_ ((ws[q]).2.take m) := by
  have e : k.1.toNat = q := by omega
  unfold keep1
  rw [dif_pos ⟨by omega, by omega⟩]
  simp only [e, hat, hm, Int.toNat_natCast]
theorem Kept.allocN (S : List Nat) (w : World) (o : Obj) (n : Nat) : Kept S w ((w.alloc o).drewN n) :=
  (Kept.alloc S w o).trans ⟨rfl, rfl, rfl, Nat.le_refl _, fun k _ _ => rfl⟩ (fun _ _ h => h) (T := S)

set_option maxRecDepth 100000 in
set_option maxHeartbeats 4000000 in
theorem crash_some {w : World} {B b bs sc : Nat} {wv : Value} {D : DS} (h : DiskAt w B b bs sc wv D) (kb ko kc : Nat) (ks : List (Int × Int)) (hm : ks.length ≤ maxLen) (hks : KeepsAt w kb ko ks) :
    Calls Try.prog 19 #[.pointer (some ⟨b, 0, none⟩), .slice (some ⟨kb, ko, none⟩) ks.length kc] w (MadeDisk w (D.crash ks)) := by
  unfold maxLen at hm
  obtain ⟨a, wc, rfl⟩ := h.wvSlice
  obtain ⟨c0, c1, c2, c3, c4⟩ := h.cells
  have hn1 := h.good.n1
  have hn2 := h.good.n2
  have hwl := h.good.wl
  have HH := hid h
  have HK := hid hks
  clear h hks
  go_enter Try.func19, Try.ntmps19
  go_wp2_with (go_at_call 46; refine (another_any c0 HH.out.secs hn1 hn2).mono ?_; rintro e w1 ⟨g, c, rfl, hg, ho, hb⟩; obtain ⟨hd1, hb1⟩ := crash_start HH.out hg ho hb; have HD := hid hd1; have HB := hid hb1; clear hd1 hb1 ho)
  go_loopw [19] (fun q wr => ∃ k : Nat, k ≤ ks.length ∧ q = .int .i64 k ∧ DiskAt wr w.heap.size w1.heap.size g c (.slice none 0 0) (D.crash (ks.take k)) ∧ Below w.heap.size w wr) (fun q _ => ks.length - (intOf q).toNat)
  case atStart => exact ⟨0, by omega, rfl, HD.out, HB.out⟩
  case round =>
    obtain ⟨k, hkl, rfl, hdr, hbr⟩ := hrel
    by_cases hlt : k < ks.length
    · obtain ⟨k1, k2⟩ := HK.out k hlt
      have m1 : wr.cell? ⟨kb, ko + k * 2, none⟩ = some (.int .i64 (ks[k]).1) := cell_later hbr k1
      have m2 : wr.cell? ⟨kb, ko + k * 2 + 1, none⟩ = some (.int .i64 (ks[k]).2) := cell_later hbr k2
      obtain ⟨W, hW⟩ : ∃ W, W = (ks[k]).1 := ⟨_, rfl⟩
      obtain ⟨Y, hY⟩ : ∃ Y, Y = (ks[k]).2 := ⟨_, rfl⟩
      rw [← hW] at m1
      rw [← hY] at m2
      have HWe := hid hW
      have HYe := hid hY
      have HR := hid hdr
      have f1 : ∀ O : Obj, (wr.alloc O).cell? ⟨b, 1, none⟩ = some (.slice a D.waits.length wc) := fun O => by
        have := cell_later hbr c1
        rw [World.cell?_alloc_some _ _ _ (by simp [this]), this]
      clear hdr k1 k2 HD HB hW hY
      by_cases h0 : W < 0
      · have hd0 : decide (W < 0) = true := by simpa using h0
        have hsk : D.crash (ks.take (k + 1)) = D.crash (ks.take k) := crash_skip D ks k hlt (by rw [← HWe.out]; omega)
        have HSk := hid hsk
        clear hsk
        go_wp2
        go_quiet (fail)
        go_wp2
        go_roundw
        case rel =>
          refine ⟨k + 1, by omega, by go_num, ?_, ?_⟩
          · rw [HSk.out]; exact HR.out.keep (Kept.allocN [] wr _ _) (by simp)
          · exact below_drewN (hbr.alloc hbr.size _) _
        case measure => simp [intOf]; omega
      · have hd0 : decide (W < 0) = false := by simpa using h0
        obtain ⟨q, rfl⟩ : ∃ q : Nat, W = q := ⟨W.toNat, by omega⟩
        by_cases h1 : q < D.waits.length
        · have hd1 : decide ((D.waits.length : Int) ≤ (q : Int)) = false := by simp; omega
          obtain ⟨bw, wc', e, hc1, hc2⟩ := wait_cells HH.out q h1
          simp only [Value.slice.injEq, true_and] at e
          obtain ⟨rfl, rfl⟩ := e
          obtain ⟨at_, hat⟩ : ∃ m : Nat, (D.waits[q]).1 = m := ⟨(D.waits[q]).1.toNat, by have := (HH.out.good.w _ (List.getElem_mem h1)).1; omega⟩
          have hatn : at_ < D.n := by have := (HH.out.good.w _ (List.getElem_mem h1)).2.1; omega
          have hx : (D.waits[q]).2.length = 512 := (HH.out.good.w _ (List.getElem_mem h1)).2.2
          rw [hat] at hc1
          have p1 : ∀ O : Obj, (wr.alloc O).cell? ⟨bw, q * 513, none⟩ = some (.int .i64 at_) := fun O => by
            have := cell_later hbr hc1
            rw [World.cell?_alloc_some _ _ _ (by simp [this]), this]
          have hdn : ∀ nq, DiskAt ((wr.alloc (.cells #[.int .i64 (q : Int), .int .i64 Y] 94)).drewN nq) w.heap.size w1.heap.size g c (.slice none 0 0) (D.crash (ks.take k)) := fun nq => HR.out.keep (Kept.allocN [] wr _ _) (by simp)
          have HL : Hid (∀ nq m, m ≤ 512 → Calls Try.prog 47 #[.pointer (some ⟨w1.heap.size, 0, none⟩), .int .i64 at_, .slice (some ⟨bw, q * 513 + 1, none⟩) m 512] ((wr.alloc (.cells #[.int .i64 (q : Int), .int .i64 Y] 94)).drewN nq) fun e w' => e = .returned (.tuple #[]) ∧
              w'.ownsRow w.heap.size 96 512 (.slice (some ⟨g, 0, none⟩) D.n c) D.n (bc (layS (D.crash (ks.take k)).secs at_ ((D.waits[q]).2.take m))) ∧ ((wr.alloc (.cells #[.int .i64 (q : Int), .int .i64 Y] 94)).drewN nq).grownBy w' (some g)) := fun nq m hm =>
            lay_le (hdn nq).cells.1 (hdn nq).secs at_ hatn hn2 ⟨bw, q * 513 + 1, none⟩ 512 _ m (by simp [hx]; omega) hm (fun j v hv => by
              have h9 := cell_later hbr (hc2 j v (bc_take_at hv))
              show (wr.alloc _).cell? _ = _
              rw [World.cell?_alloc_some _ _ _ (by simp [h9]), h9])
          have hbw : b < w.heap.size := (HH.out.lt b (by simp)).2
          have hbw2 : bw < w.heap.size := (HH.out.waits.lt bw rfl).2
          have hgr : g < wr.heap.size := (HR.out.lt g (by simp)).2
          have HN1 := hid (show some b ≠ some g by simp only [ne_eq, Option.some.injEq]; omega)
          have HN2 := hid (show some bw ≠ some g by simp only [ne_eq, Option.some.injEq]; omega)
          have HN3 := hid (show some wr.heap.size ≠ some g by simp only [ne_eq, Option.some.injEq]; omega)
          have HA := hid hat
          clear hat hx hdn hc1 hc2
          rcases (by omega : Y < 0 ∨ (0 ≤ Y ∧ Y ≤ 512) ∨ 512 < Y) with hy | hy | hy
          · skip
            go_wp2
            go_quiet (fail)
            go_wp2
            go_region_held3 (fun w' => w'.cell? ⟨b, 1, none⟩ = some (.slice (some ⟨bw, 0, none⟩) D.waits.length wc) ∧ w'.cell? ⟨wr.heap.size, 0, none⟩ = some (.int .i64 q) ∧ w'.cell? ⟨bw, q * 513, none⟩ = some (.int .i64 at_)) (first | go_keep) (first | (go_at_call 47; refine (HL.out _ 0 (by omega)).mono ?_; rintro e w2 ⟨rfl, ho, hg⟩; have hb1 : w2.cell? ⟨b, 1, none⟩ = some (.slice (some ⟨bw, 0, none⟩) D.waits.length wc) := hg.cell (f1 _) HN1.out; have hb2 : w2.cell? ⟨bw, q * 513, none⟩ = some (.int .i64 at_) := hg.cell (p1 _) HN2.out; have hb3 : w2.cell? ⟨wr.heap.size, 0, none⟩ = some (.int .i64 q) := hg.cell (by simp) HN3.out))
            clear hb1 hb2 hb3
            go_wp2
            go_roundw
            case rel =>
              refine ⟨k + 1, by omega, by go_num, ?_, ?_⟩
              · rw [crash_snoc D ks k hlt, keep1_in D.waits _ _ q h1 at_ 0 HWe.out.symm HA.out (by rw [← HYe.out]; unfold keepN; omega)]
                exact (HR.out.keep (Kept.allocN [] wr _ _) (by simp)).setSecs _ hg ho
              · exact (below_drewN (hbr.alloc hbr.size _) _).grown hg (by have := hbr.size; simp; omega) (fun k hk => by simp only [Option.some.injEq] at hk; omega)
            case measure => simp [intOf]; omega
          · obtain ⟨y, rfl⟩ : ∃ y : Nat, Y = y := ⟨Y.toNat, by omega⟩
            have hy1 : (y : Int) ≤ 512 := hy.2
            clear hy
            go_wp2
            go_quiet (fail)
            go_wp2
            go_region_held3 (fun w' => w'.cell? ⟨b, 1, none⟩ = some (.slice (some ⟨bw, 0, none⟩) D.waits.length wc) ∧ w'.cell? ⟨wr.heap.size, 0, none⟩ = some (.int .i64 q) ∧ w'.cell? ⟨bw, q * 513, none⟩ = some (.int .i64 at_)) (first | go_keep) (first | (go_at_call 47; refine (HL.out _ y (by omega)).mono ?_; rintro e w2 ⟨rfl, ho, hg⟩; have hb1 : w2.cell? ⟨b, 1, none⟩ = some (.slice (some ⟨bw, 0, none⟩) D.waits.length wc) := hg.cell (f1 _) HN1.out; have hb2 : w2.cell? ⟨bw, q * 513, none⟩ = some (.int .i64 at_) := hg.cell (p1 _) HN2.out; have hb3 : w2.cell? ⟨wr.heap.size, 0, none⟩ = some (.int .i64 q) := hg.cell (by simp) HN3.out))
            clear hb1 hb2 hb3
            go_wp2
            go_roundw
            case rel =>
              refine ⟨k + 1, by omega, by go_num, ?_, ?_⟩
              · rw [crash_snoc D ks k hlt, keep1_in D.waits _ _ q h1 at_ y HWe.out.symm HA.out (by rw [← HYe.out]; unfold keepN; omega)]
                exact (HR.out.keep (Kept.allocN [] wr _ _) (by simp)).setSecs _ hg ho
              · exact (below_drewN (hbr.alloc hbr.size _) _).grown hg (by have := hbr.size; simp; omega) (fun k hk => by simp only [Option.some.injEq] at hk; omega)
            case measure => simp [intOf]; omega
          · have hy0 : ¬ Y < 0 := by omega
            go_wp2
            go_quiet (fail)
            go_wp2
            go_region_held3 (fun w' => w'.cell? ⟨b, 1, none⟩ = some (.slice (some ⟨bw, 0, none⟩) D.waits.length wc) ∧ w'.cell? ⟨wr.heap.size, 0, none⟩ = some (.int .i64 q) ∧ w'.cell? ⟨bw, q * 513, none⟩ = some (.int .i64 at_)) (first | go_keep) (first | (go_at_call 47; refine (HL.out _ 512 (by omega)).mono ?_; rintro e w2 ⟨rfl, ho, hg⟩; have hb1 : w2.cell? ⟨b, 1, none⟩ = some (.slice (some ⟨bw, 0, none⟩) D.waits.length wc) := hg.cell (f1 _) HN1.out; have hb2 : w2.cell? ⟨bw, q * 513, none⟩ = some (.int .i64 at_) := hg.cell (p1 _) HN2.out; have hb3 : w2.cell? ⟨wr.heap.size, 0, none⟩ = some (.int .i64 q) := hg.cell (by simp) HN3.out))
            clear hb1 hb2 hb3
            go_wp2
            go_roundw
            case rel =>
              refine ⟨k + 1, by omega, by go_num, ?_, ?_⟩
              · rw [crash_snoc D ks k hlt, keep1_in D.waits _ _ q h1 at_ 512 HWe.out.symm HA.out (by rw [← HYe.out]; unfold keepN; omega)]
                exact (HR.out.keep (Kept.allocN [] wr _ _) (by simp)).setSecs _ hg ho
              · exact (below_drewN (hbr.alloc hbr.size _) _).grown hg (by have := hbr.size; simp; omega) (fun k hk => by simp only [Option.some.injEq] at hk; omega)
            case measure => simp [intOf]; omega
        · have hd1 : decide ((D.waits.length : Int) ≤ (q : Int)) = true := by simp; omega
          have hsk : D.crash (ks.take (k + 1)) = D.crash (ks.take k) := crash_skip D ks k hlt (by rw [← HWe.out]; omega)
          have HSk := hid hsk
          clear hsk
          go_wp2
          go_quiet (fail)
          go_wp2
          go_roundw
          case rel =>
            refine ⟨k + 1, by omega, by go_num, ?_, ?_⟩
            · rw [HSk.out]; exact HR.out.keep (Kept.allocN [] wr _ _) (by simp)
            · exact below_drewN (hbr.alloc hbr.size _) _
          case measure => simp [intOf]; omega
    · have e : k = ks.length := by omega
      subst e
      rw [List.take_length] at hdr
      have HR := hid hdr
      clear hdr
      go_wp2
      go_ret
      exact ⟨_, _, rfl, ⟨_, _, _, HR.out, rfl⟩, hbr⟩
end Go.Proofs.Ytambgimfbdecpaa
namespace Go.Proofs.Ytambgimfbdecpaa
set_option linter.unusedVariables false

theorem getElem?_splice (l : List Int) (o : Nat) (b : List Int) (h : o + b.length ≤ l.length) (p : Nat) :
    (splice l o b)[p]? = if o ≤ p ∧ p < o + b.length then b[p - o]? else l[p]? := by
  unfold splice
  rw [List.getElem?_append, List.length_take, Nat.min_eq_left (by omega)]
  by_cases h1 : p < o
  · rw [if_pos h1, if_neg (by omega), List.getElem?_take, if_pos h1]
  · rw [if_neg h1, List.getElem?_append]
    by_cases h2 : p < o + b.length
    · rw [if_pos (by omega), if_pos ⟨by omega, h2⟩]
    · rw [if_neg (by omega), if_neg (by omega), List.getElem?_drop]
      congr 1
      omega

theorem getElem?_sec (l : List Int) (i m : Nat) : (sec l i)[m]? = if m < 512 then l[i * 512 + m]? else none := by
  unfold sec
  rw [List.getElem?_take]
  split
  · rw [List.getElem?_drop]
  · rfl

theorem sec_layS_same (l : List Int) (n i : Nat) (b : List Int) (hl : l.length = n * 512) (hi : i < n) (hb : b.length ≤ 512) : sec (layS l i b) i = b ++ (sec l i).drop b.length := by
  apply List.ext_getElem?
  intro m
  rw [getElem?_sec, List.getElem?_append, List.getElem?_drop, getElem?_sec]
  unfold layS
  by_cases hm : m < 512
  · rw [if_pos hm, getElem?_splice _ _ _ (by omega)]
    by_cases h2 : m < b.length
    · rw [if_pos ⟨by omega, by omega⟩, if_pos h2]
      congr 1; omega
    · rw [if_neg (by omega), if_neg h2, if_pos (by omega)]
      congr 1; omega
  · rw [if_neg hm, if_neg (by omega), if_neg (by omega)]

theorem sec_layS_other (l : List Int) (n i j : Nat) (b : List Int) (hl : l.length = n * 512) (hi : i < n) (hb : b.length ≤ 512) (hij : j ≠ i) : sec (layS l i b) j = sec l j := by
  apply List.ext_getElem?
  intro m
  rw [getElem?_sec, getElem?_sec]
  unfold layS
  by_cases hm : m < 512
  · rw [if_pos hm, if_pos hm, getElem?_splice _ _ _ (by omega), if_neg]
    intro h
    rcases Nat.lt_or_gt_of_ne hij with h' | h'
    · have : (j + 1) * 512 ≤ i * 512 := Nat.mul_le_mul_right _ h'
      omega
    · have : (i + 1) * 512 ≤ j * 512 := Nat.mul_le_mul_right _ h'
      omega
  · rw [if_neg hm, if_neg hm]

theorem sec_rep (n i : Nat) (c : Int) (hi : i < n) : sec (rep (n * 512) c) i = rep 512 c := by
  unfold sec rep
  rw [List.drop_replicate, List.take_replicate]
  congr 1
  have : (i + 1) * 512 ≤ n * 512 := Nat.mul_le_mul_right _ hi
  omega
theorem rep_take (n m : Nat) (c : Int) (h : m ≤ n) : (rep n c).take m = rep m c := by
  unfold rep; rw [List.take_replicate, Nat.min_eq_left h]
theorem rep_drop (n m : Nat) (c : Int) : (rep n c).drop m = rep (n - m) c := by
  unfold rep; rw [List.drop_replicate]

/-- A string of bytes. -/
def strOf (l : List Int) : ByteArray := l.foldl (fun r n => r.push (UInt8.ofNat n.toNat)) ByteArray.empty

def aD0 : DS := DS.blank 4
def aD1 : DS := { aD0.step.2 with waits := aD0.step.2.waits ++ [(((1 : Nat) : Int), rep 512 120)] }
theorem aD0_step : aD0.step.1 = true := by simp [aD0, DS.blank, DS.step]
theorem aD0_steps : aD0.steps = 0 := rfl
theorem aD1_is : aD1 = { n := 4, secs := rep (4 * 512) 0, waits := [(1, rep 512 120)], fuse := -1, gone := false, steps := 1 } := by
  unfold aD1 aD0 DS.blank DS.step
  rfl
theorem aD1_read : aD1.read 1 = rep 512 120 := by rw [aD1_is]; rfl
theorem aD1_read0 : (aD1.crash []).read 1 = rep 512 0 := by
  rw [aD1_is]
  simp only [DS.read, DS.crash, lastW, List.foldl_nil]
  exact sec_rep 4 1 0 (by omega)
theorem aD1_read3 : (aD1.crash [(0, 3)]).read 1 = rep 3 120 ++ rep 509 0 := by
  rw [aD1_is]
  have e : keep1 [(1, rep 512 120)] (rep (4 * 512) 0) (0, 3) = layS (rep (4 * 512) 0) 1 ((rep 512 120).take 3) := keep1_in _ _ _ 0 (by simp) 1 3 rfl rfl rfl
  simp only [DS.read, DS.crash, lastW, List.foldl_nil, List.foldl_cons]
  rw [e, sec_layS_same _ 4 1 _ (rep_length _ _) (by omega) (by rw [rep_take _ _ _ (by omega), rep_length]; omega), sec_rep 4 1 0 (by omega), rep_take _ _ _ (by omega), rep_length, rep_drop]
theorem strOf_data (l : List Int) : ∀ r : ByteArray, (l.foldl (fun r n => r.push (UInt8.ofNat n.toNat)) r).data.toList = r.data.toList ++ l.map fun n => UInt8.ofNat n.toNat := by
  induction l with
  | nil => intro r; simp
  | cons x l ih => intro r; rw [List.foldl_cons, ih]; simp
theorem strOf_toList (l : List Int) : (strOf l).data.toList = l.map fun n => UInt8.ofNat n.toNat := by
  unfold strOf; rw [strOf_data]; rfl
theorem strOf_append (l m : List Int) : strOf (l ++ m) = strOf l ++ strOf m := by
  apply ByteArray.ext
  apply Array.toList_inj.1
  rw [strOf_toList, ByteArray.data_append, Array.toList_append, strOf_toList, strOf_toList, List.map_append]
theorem str_xxx : (⟨#[120, 120, 120]⟩ : ByteArray) ++ strOf (rep 509 0) = strOf (rep 3 120 ++ rep 509 0) := by
  rw [strOf_append]
  rfl
end Go.Proofs.Ytambgimfbdecpaa
namespace Go.Proofs.Ytambgimfbdecpaa
open Go.RowKit
set_option linter.unusedVariables false

section
variable {P : Program} {ops : Array Oper} {Q : Exit → Act → World → Prop} {md : Region.Mode} {S : World → Prop}

theorem anyH_takeW (i : Nat) (o : Oper) (v : Value) {fuel : Nat} {listed : Array Bool} {a : Act} {w : World} (hi : ops[i]? = some o) (hw : Region.wanted o (yielded ops a.tmps) = true)
    (hs : Region.noSelect ops = true) (hf : Region.free md ops listed i = true) (hr : (Region.ready md ops listed).contains i = true)
    (hQ : ∀ c a w, Q (.panic c) (a.put o.dst v) w → Q (.panic c) a w) (hrun : ∀ w, S w → (execOp a.eval o).run P w = .ok (.value v) w) (hS : S w)
    (h : wpAnyH P md ops Q S fuel (listed.setIfInBounds i true) (a.put o.dst v) w) : wpAnyH P md ops Q S (fuel + 1) listed a w :=
  wpAnyH_take hi hs hf hr hQ (.inl ⟨hw, hrun⟩) hS h

theorem wpOp_runW {i : Nat} {o : Oper} {K : Act → World → Prop} {a : Act} {w w' : World} {v : Value} (ho : ops[i]? = some o) (hw : Region.wanted o (yielded ops a.tmps) = true) (hrun : (execOp a.eval o).run P w = .ok (.value v) w')
    (h : K (a.put o.dst v) w') : wpOp P ops Q i K a w := by
  refine wpOp_step ho fun K' hK => ?_
  rw [if_pos hw]
  unfold Oper.wp
  rw [hrun]
  exact hK _ _ h
theorem wpOp_callW {i : Nat} {o : Oper} {K : Act → World → Prop} {a : Act} {w : World} {f : FuncId} {args : Array Value} (ho : ops[i]? = some o) (hw : Region.wanted o (yielded ops a.tmps) = true) (hrun : (execOp a.eval o).run P w = .ok (.enter f args) w)
    (h : Calls P f args w fun e w' => ∃ v, e = .returned v ∧ K (a.put o.dst v) w') : wpOp P ops Q i K a w := by
  refine wpOp_step ho fun K' hK => ?_
  rw [if_pos hw]
  unfold Oper.wp
  rw [hrun]
  refine Calls.mono h fun e w' he => ?_
  obtain ⟨v, rfl, hv⟩ := he
  exact hK _ _ hv

theorem anyH_oneW (i : Nat) (o : Oper) (v : Value) (w' : World) {fuel : Nat} {listed : Array Bool} {a : Act} {w : World} (hr : Region.ready md ops listed = [i]) (hi : ops[i]? = some o) (hw : Region.wanted o (yielded ops a.tmps) = true)
    (hrun : (execOp a.eval o).run P w = .ok (.value v) w') (hS : S w')
    (h : wpAnyH P md ops Q S fuel (listed.setIfInBounds i true) (a.put o.dst v) w') : wpAnyH P md ops Q S (fuel + 1) listed a w := by
  refine wpAnyH_all hr (by simp) fun j hj => ?_
  obtain rfl := List.mem_singleton.1 hj
  exact wpOp_runW hi hw hrun ⟨hS, h⟩

theorem anyH_callW (i : Nat) (o : Oper) (f : FuncId) (args : Array Value) {fuel : Nat} {listed : Array Bool} {a : Act} {w : World} (hr : Region.ready md ops listed = [i]) (hi : ops[i]? = some o) (hw : Region.wanted o (yielded ops a.tmps) = true)
    (hrun : (execOp a.eval o).run P w = .ok (.enter f args) w)
    (h : Calls P f args w fun e w' => ∃ v, e = .returned v ∧ S w' ∧ wpAnyH P md ops Q S fuel (listed.setIfInBounds i true) (a.put o.dst v) w') : wpAnyH P md ops Q S (fuel + 1) listed a w := by
  refine wpAnyH_all hr (by simp) fun j hj => ?_
  obtain rfl := List.mem_singleton.1 hj
  exact wpOp_callW hi hw hrun h
end

theorem exec_eqlStr {a : Act} {x y : Operand} {s t : ByteArray} {w : World} {d : Option Tmp} {T ty T2 : Nat} {pos : String} {af : Array Edge} {g : Option (Nat × Bool)} (hx : a.eval x = .string s) (hy : a.eval y = .string t) (h : s = t) :
    (execOp a.eval ⟨d, .binOp .eql T x y T2, ty, pos, af, g⟩).run Try.prog w = .ok (.value (.bool true)) w := by
  subst h
  simp [execOp, hx, hy, eqGuard, binOp, Op.stringOp]
theorem exec_addStr {a : Act} {x y : Operand} {s t : ByteArray} {w : World} {d : Option Tmp} {T ty T2 : Nat} {pos : String} {af : Array Edge} {g : Option (Nat × Bool)} (hx : a.eval x = .string s) (hy : a.eval y = .string t) (hl : s.size + t.size ≤ 1000000) :
    (execOp a.eval ⟨d, .binOp .add T x y T2, ty, pos, af, g⟩).run Try.prog w = .ok (.value (.string (s ++ t))) w := by
  simp [execOp, hx, hy, eqGuard, binOp, Op.stringOp]
  omega
theorem slice40 (b : Nat) (w : World) : (Instr.sliceAt 46 (.slice (some ⟨b, 0, none⟩) 512 512) (some (.int .i64 3)) none none).run Try.prog w = .ok (.slice (some ⟨b, 3, none⟩) 509 509) w := by kernel_rfl
theorem exec_call11 {a : Act} {x : Operand} {v : Value} {w : World} {d : Option Tmp} {ty : Nat} {ts : Array Nat} {pos : String} {af : Array Edge} {g : Option (Nat × Bool)} (hx : a.eval x = v) :
    (execOp a.eval ⟨d, .call { callee := .value (.func 11), args := #[x], argTypes := ts }, ty, pos, af, g⟩).run Try.prog w = .ok (.enter 11 #[v]) w := by
  simp only [execOp, resolve, List.map_toArray, List.map_cons, List.map_nil, hx]
  kernel_rfl
theorem exec_call23 {a : Act} {x : Operand} {v : Value} {w : World} {d : Option Tmp} {ty : Nat} {ts : Array Nat} {pos : String} {af : Array Edge} {g : Option (Nat × Bool)} (hx : a.eval x = v) :
    (execOp a.eval ⟨d, .call { callee := .value (.func 92), args := #[x], argTypes := ts }, ty, pos, af, g⟩).run Try.prog w = .ok (.enter 92 #[v]) w := by
  simp only [execOp, resolve, List.map_toArray, List.map_cons, List.map_nil, hx]
  kernel_rfl
end Go.Proofs.Ytambgimfbdecpaa
namespace Go.Proofs.Ytambgimfbdecpaa
open Go.RowKit
set_option linter.unusedVariables false

theorem below_kept {B : Nat} {w w2 w3 : World} {S : List Nat} (h : Below B w w2) (k : Kept S w2 w3) (hS : ∀ i ∈ S, B ≤ i) (hB : B ≤ w2.heap.size) : Below B w w3 := h.trans (k.below hS hB)

/-- A call of a disk has answered r, and the disk is D' now; nothing but its own blocks has turned. -/
def Did (w : World) (B b : Nat) (own : List Nat) (r : Int) (D' : DS) (e : Ending) (w' : World) : Prop :=
  e = .returned (.int .i64 r) ∧ ∃ own', Disk w' B b own' D' ∧ Kept own w w' ∧ ∀ k ∈ own', k ∈ own ∨ w.heap.size ≤ k

/-- What Flush answers, and the disk behind it. -/
def DS.flush (D : DS) : Int × DS := if D.step.1 then (0, D.step.2.flushed) else (9, D.step.2)
/-- What Write answers, and the disk behind it. -/
def DS.write (D : DS) (i : Int) (l : List Int) : Int × DS :=
  if l.length ≠ 512 then (2, D) else if ¬ (0 ≤ i ∧ i < D.n) then (3, D) else if D.step.1 then (0, { D.step.2 with waits := D.step.2.waits ++ [(i, l)] }) else (9, D.step.2)

theorem flush_all {w : World} {B b : Nat} {own : List Nat} {D : DS} (h : Disk w B b own D) (hs : D.steps < 1000) :
    Calls Try.prog 92 #[.pointer (some ⟨b, 0, none⟩)] w (Did w B b own D.flush.1 D.flush.2) := by
  obtain ⟨bs, sc, wv, hd, rfl⟩ := h
  cases hp : D.step.1 with
  | true =>
    refine (flush_yes hd hs hp).mono ?_
    rintro e w' ⟨rfl, hd', hk⟩
    simp only [DS.flush, hp, if_true]
    refine ⟨rfl, _, ⟨bs, sc, _, hd', rfl⟩, hk.mono (fun k _ h => by simp only [List.mem_cons, List.not_mem_nil, or_false] at h ⊢; rcases h with h | h; exact .inl h; exact .inr (.inl h)), fun k hk => .inl ?_⟩
    simp only [Value.ownBlock, Option.toList_none, List.mem_cons, List.not_mem_nil, or_false] at hk ⊢
    rcases hk with h | h
    · exact .inl h
    · exact .inr (.inl h)
  | false =>
    refine (flush_power hd hs hp).mono ?_
    rintro e w' ⟨rfl, hd', hk⟩
    simp only [DS.flush, hp]
    exact ⟨rfl, _, ⟨bs, sc, _, hd', rfl⟩, hk.mono (fun k _ h => by simp only [List.mem_cons, List.not_mem_nil, or_false] at h; simp [h]), fun k hk => .inl hk⟩

/-- A slice of bytes that a call is handed. -/
def BytesAt (w : World) (a : Option Addr) (len : Nat) (l : List Int) : Prop := l.length = len ∧ (0 < len → ∃ x, a = some x ∧ ∀ j v, (bc l)[j]? = some v → w.cell? (x.add j) = some v)

theorem write_all {w : World} {B b : Nat} {own : List Nat} {D : DS} (h : Disk w B b own D) (hs : D.steps < 1000) (hwl : D.waits.length < 200) (i : Int) (a : Option Addr) (len cap : Nat) (l : List Int) (hm : len ≤ maxLen) (hl : BytesAt w a len l) (ha : ∀ x, a = some x → x.block ∉ own) :
    Calls Try.prog 21 #[.pointer (some ⟨b, 0, none⟩), .int .i64 i, .slice a len cap] w (Did w B b own (D.write i l).1 (D.write i l).2) := by
  obtain ⟨bs, sc, wv, hd, rfl⟩ := h
  obtain ⟨hl1, hl2⟩ := hl
  have hBw : B ≤ w.heap.size := Nat.le_trans hd.hB (Nat.le_of_lt (hd.lt b (by simp)).2)
  by_cases h1 : len = 512
  · subst h1
    by_cases h2 : 0 ≤ i ∧ i < D.n
    · obtain ⟨q, rfl⟩ : ∃ q : Nat, i = q := ⟨i.toNat, by omega⟩
      obtain ⟨x, rfl, hx⟩ := hl2 (by omega)
      cases hp : D.step.1 with
      | true =>
        refine (write_yes hd q x cap l hl1 hx (fun e => ha x rfl (by rw [e]; simp)) (by omega) hs hp hwl hBw).mono ?_
        rintro e w' ⟨rfl, wv', hd', hk, hfr⟩
        have e1 : D.write q l = (0, { D.step.2 with waits := D.step.2.waits ++ [((q : Int), l)] }) := by simp only [DS.write, hl1, ne_eq, not_true_eq_false, if_false, h2, hp, if_true]; simp
        rw [e1]
        refine ⟨rfl, _, ⟨bs, sc, wv', hd', rfl⟩, hk.mono (fun k _ h => by simp only [List.mem_cons] at h ⊢; rcases h with h | h; exact .inl h; exact .inr (.inr h)), fun k hk => ?_⟩
        simp only [List.mem_cons, Option.mem_toList] at hk ⊢
        rcases hk with h | h | h
        · exact .inl (.inl h)
        · exact .inl (.inr (.inl h))
        · rcases hfr k h with h | h
          · exact .inl (.inr (.inr h))
          · exact .inr h
      | false =>
        refine (write_power hd q (some x) cap (by omega) hs hp).mono ?_
        rintro e w' ⟨rfl, hd', hk⟩
        have e1 : D.write q l = (9, D.step.2) := by simp only [DS.write, hl1, ne_eq, not_true_eq_false, if_false, h2, hp]; simp
        rw [e1]
        exact ⟨rfl, _, ⟨bs, sc, wv, hd', rfl⟩, hk.mono (fun k _ h => by simp only [List.mem_cons, List.not_mem_nil, or_false] at h; simp [h]), fun k hk => .inl hk⟩
    · refine (write_range hd i a cap h2).mono ?_
      rintro e w' ⟨rfl, rfl⟩
      have e1 : D.write i l = (3, D) := by simp only [DS.write, hl1, ne_eq, not_true_eq_false, if_false, h2]; simp
      rw [e1]
      exact ⟨rfl, _, ⟨bs, sc, wv, hd, rfl⟩, Kept.refl _ _, fun k hk => .inl hk⟩
  · refine (write_len hd i a len cap h1 hm).mono ?_
    rintro e w' ⟨rfl, rfl⟩
    have e1 : D.write i l = (2, D) := by simp only [DS.write, hl1, ne_eq, h1, not_false_eq_true, if_true]
    rw [e1]
    exact ⟨rfl, _, ⟨bs, sc, wv, hd, rfl⟩, Kept.refl _ _, fun k hk => .inl hk⟩

theorem fuse_all {w : World} {B b : Nat} {own : List Nat} {D : DS} (h : Disk w B b own D) (n : Int) (hn : n ≤ 9223372036854775807) :
    Calls Try.prog 17 #[.pointer (some ⟨b, 0, none⟩), .int .i64 n] w fun e w' => e = .returned (.tuple #[]) ∧ Disk w' B b own (D.fused n) ∧ Kept own w w' := by
  obtain ⟨bs, sc, wv, hd, rfl⟩ := h
  refine (fuse_any hd n hn).mono ?_
  rintro e w' ⟨rfl, hd', hk⟩
  exact ⟨rfl, ⟨bs, sc, wv, hd', rfl⟩, hk.mono (fun k _ h => by simp only [List.mem_cons, List.not_mem_nil, or_false] at h; simp [h])⟩

/-- What a call keeps below B. -/
theorem Disk.below {w w' w0 : World} {B b : Nat} {own : List Nat} {D : DS} (h : Disk w B b own D) (hk : Kept own w w') (hb : Below B w0 w) (hB : B ≤ w0.heap.size) : Below B w0 w' :=
  below_kept hb hk (fun i hi => (h.lt i hi).1) (Nat.le_trans hB hb.size)
end Go.Proofs.Ytambgimfbdecpaa
