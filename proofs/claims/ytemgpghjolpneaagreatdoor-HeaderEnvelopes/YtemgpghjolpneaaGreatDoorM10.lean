/- What this text holds: the reader of addresses: what it takes, says, and hands out. -/
import Derived.Test.YtemgpghjolpneaaGreatDoorM9
namespace Go.Proofs.YtemgpghjolpneaaGreatDoor
open Go.RowKit
set_option linter.unusedVariables false
set_option linter.unusedSimpArgs false

/-- What a call of the reader at block b leaves as it was. -/
structure Fr (B b : Nat) (w w' : World) : Prop where
  below : Below B w w'
  kept : Go.Lib.OthersKept 5 (some b) w w'
theorem Fr.refl (B b : Nat) (w : World) : Fr B b w w := ⟨Below.refl _ _, Go.Lib.OthersKept.refl _ _ _⟩
theorem Fr.trans {B b : Nat} {w w1 w2 : World} (h : Fr B b w w1) (h' : Fr B b w1 w2) : Fr B b w w2 := ⟨h.below.trans h'.below, h.kept.trans h'.kept⟩
theorem Fr.of {B b : Nat} {w w' : World} (h : Below w.heap.size w w') (hB : B ≤ w.heap.size) : Fr B b w w' :=
  ⟨h.mono hB, fun k o hk _ _ => (h.block k (lt_of_some hk)).trans hk⟩
theorem Fr.set {B b : Nat} (w : World) (o : Nat) (v : Value) (hB : B ≤ b) : Fr B b w (w.setCell ⟨b, o, none⟩ v) :=
  ⟨(Below.refl _ _).setCell hB _, (Go.Lib.OthersKept.refl 5 (some b) w).setCell _ rfl _⟩
theorem RAt.base_le {w : World} {B b : Nat} {l d : Bs} (h : RAt w B b l d) : B ≤ w.heap.size := by have := h.lt; have := h.base; omega
theorem RAt.next_yes {w : World} {B b : Nat} {c : UInt8} {l d : Bs} (h : RAt w B b (c :: l) d) (hl : l.length ≤ 10000000) :
    Calls Tryz.prog 47 #[.pointer (some ⟨b, 0, none⟩)] w fun e w' => e = .returned (.tuple #[.int .u8 c.toNat, .bool true]) ∧ RAt w' B b l d ∧ Fr B b w w' := by
  refine (Go.Proofs.YtemgpghjolpneaaGreatDoor.next_yes h.left.1 h.left.2 hl).mono ?_
  rintro e w' ⟨rfl, rfl⟩
  exact ⟨rfl, h.set _, Fr.set _ _ _ h.base⟩
theorem RAt.next_no {w : World} {B b : Nat} {d : Bs} (h : RAt w B b [] d) :
    Calls Tryz.prog 47 #[.pointer (some ⟨b, 0, none⟩)] w fun e w' => e = .returned (.tuple #[.int .u8 0, .bool false]) ∧ w' = w := Go.Proofs.YtemgpghjolpneaaGreatDoor.next_no h.left.1

theorem say_store {w w' : World} {B b : Nat} {v v' x : Value} {l : List UInt8} (hb : w.heap[b]? = some (.cells #[x, v] 64 (0, 0))) (ho : w.ownsRow B 5 1 v l.length (bu l)) (hB : B ≤ b) (hBw : B ≤ w.heap.size) {l' : List UInt8}
    (hg : w.grownBy w' v.ownBlock) (ho' : w'.ownsRow B 5 1 v' l'.length (bu l')) :
    w'.cell? ⟨b, 1, none⟩ = some v ∧ w'.frozen? ⟨b, 1, none⟩ = false ∧ (w'.setCell ⟨b, 1, none⟩ v').heap[b]? = some (.cells #[x, v'] 64 (0, 0)) ∧ (w'.setCell ⟨b, 1, none⟩ v').ownsRow B 5 1 v' l'.length (bu l') ∧ Fr B b w (w'.setCell ⟨b, 1, none⟩ v') := by
  have hlt := lt_of_some hb
  have hb' : w'.heap[b]? = some (.cells #[x, v] 64 (0, 0)) := by
    rw [hg.block b hlt (fun e => own_ne (by decide) hb ho e.symm)]; exact hb
  have hk : Go.Lib.OthersKept 5 (some b) w w' := (Go.Lib.OthersKept.refl 5 (some b) w).grown hg (fun g hg2 => by
    rcases ho.2 with ⟨h1, _⟩ | ⟨g', cap, cur, h1, _, h2, _⟩
    · subst h1; simp [Value.ownBlock] at hg2
    · subst h1
      simp only [Value.ownBlock, Option.some.injEq] at hg2
      subst hg2
      exact ⟨_, _, h2⟩)
  refine ⟨by simp [World.cell?, hb'], by simp [World.frozen?, hb'], ?_, ownsRow_setCell_other ho' (own_ne (by decide) hb' ho') _, ((Below.refl B w).grown hg hBw (fun k hk => (ho.lt k hk).1)).setCell hB _, hk.setCell _ rfl _⟩
  rw [heap_setCell_same _ _ _ _ _ _ hb']; rfl

set_option maxRecDepth 100000 in
set_option maxHeartbeats 1000000 in
theorem say_any {w : World} {B b g : Nat} {l d : Bs} (h : RAt w B b l d) (c : UInt8) (hc : w.cell? ⟨g, 0, none⟩ = some (.int .u8 c.toNat)) (h1 : d.length ≤ 100000000) :
    Calls Tryz.prog 72 #[.pointer (some ⟨b, 1, none⟩), .slice (some ⟨g, 0, none⟩) 1 1] w fun e w' => e = .returned (.tuple #[]) ∧ RAt w' B b l (d ++ [c]) ∧ Fr B b w w' := by
  have hBw := h.base_le
  obtain ⟨v0, hb, ho⟩ := h.at_
  obtain ⟨i, hi, hz0, hz1, hz2⟩ := info_parts Tryz.info5
  have hsrc : ∀ j u, (bu [c])[j]? = some u → w.cell? ((⟨g, 0, none⟩ : Addr).add j) = some u := by
    intro j u hu
    rw [Addr.add_mid, Nat.zero_add]
    match j, hu with
    | 0, hu => simp [bu] at hu; rw [← hu]; exact hc
    | (j + 1), hu => simp [bu] at hu
  obtain ⟨v', w', hr, ho', hg, _, _⟩ := run_append_own_at (P := Tryz.prog) w B 60 65 5 i _ 1 1 Tryz.underlying60 hi hz0 hz1 hz2 rfl (by omega) v0 d.length (bu d) ho
    ⟨g, 0, none⟩ 1 1 (bu [c]) (by simp [bu]) hsrc (bu_oneCell _) (by unfold maxLen; omega) (by omega) hBw
  rw [← bu_append, show d.length + 1 = (d ++ [c]).length by simp] at ho'
  obtain ⟨e1, e2, e3, e4, e5⟩ := say_store hb ho h.base hBw hg ho'
  have HR := hid hr
  have HE : Hid (RAt (w'.setCell ⟨b, 1, none⟩ v') B b l (d ++ [c])) := ⟨⟨v', e3, e4⟩, h.base⟩
  have H5 := hid e5
  obtain ⟨sa, sc, rfl⟩ := slice_of ho'
  have c0 : w.cell? ⟨b, 1, none⟩ = some v0 := by simp [World.cell?, hb]
  simp only [List.length_append, List.length_cons, List.length_nil, Nat.zero_add] at HE H5 HR
  clear h hb ho hi hz0 hz1 hz2 hr ho' hg e3 e4 e5 hsrc hc
  go_enter Tryz.func72, Tryz.ntmps72
  go_wp2_with (at_builtin; refine wpList_append_run rfl rfl HR.out ?_)
  go_end0
  exact ⟨rfl, HE.out, H5.out⟩

theorem take_store {w : World} {B b : Nat} {v x : Value} {d : Bs} (hb : w.heap[b]? = some (.cells #[x, v] 64 (0, 0))) (ho : w.ownsRow B 5 1 v d.length (bu d)) (v' : Value) (ho' : w.ownsRow B 5 1 v' 0 (bu [])) :
    (w.setCell ⟨b, 1, none⟩ v').heap[b]? = some (.cells #[x, v'] 64 (0, 0)) ∧ (w.setCell ⟨b, 1, none⟩ v').ownsRow B 5 1 v' ([] : Bs).length (bu []) :=
  ⟨by rw [heap_setCell_same _ _ _ _ _ _ hb]; rfl, ownsRow_setCell_other ho' (own_ne (by decide) hb ho') _⟩
set_option maxRecDepth 100000 in
set_option maxHeartbeats 1000000 in
theorem take_any {w : World} {B b : Nat} {l d : Bs} (h : RAt w B b l d) (h1 : d.length ≤ 100000000) :
    Calls Tryz.prog 48 #[.pointer (some ⟨b, 1, none⟩)] w fun e w' => e = .returned (.string (str (trimA d))) ∧ RAt w' B b l [] ∧ Fr B b w w' := by
  have hBw := h.base_le
  have HH := hid h
  obtain ⟨v0, hb, ho⟩ := h.at_
  have c0 : w.cell? ⟨b, 1, none⟩ = some v0 := by simp [World.cell?, hb]
  have hcv := conv_bytes ho
  have HC := hid (Tryz.strings_Trim_set (str d) ⟨#[9, 10, 13, 32]⟩ w (by rw [str_size]; omega) (by decide) (ascii_of_all (by decide)))
  have HT : Hid (trimA d = Go.Lib.trimS d [9, 10, 13, 32]) := rfl
  have hlt := h.lt
  have hB := h.base
  rcases id ho.2 with ⟨hv, hn⟩ | ⟨g, cap, cur, hv, hg1, hg2, hg3, hg4, hg5, hg6⟩
  · subst hv
    have HO := hid ho
    have HB := hid hb
    clear h hb ho
    go_enter Tryz.func48, Tryz.ntmps48
    go_wp2_with fail
    refine HC.out.mono ?_
    rintro e w1 ⟨rfl, hb1⟩
    have hbb := (hb1.block b hlt).trans HB.out
    have c1 : w1.cell? ⟨b, 1, none⟩ = some (.slice none 0 0) := by simp [World.cell?, hbb]
    have f1 : w1.frozen? ⟨b, 1, none⟩ = false := by simp [World.frozen?, hbb]
    have HS : Hid (RAt (w1.setCell ⟨b, 1, none⟩ (.slice none 0 0)) B b l []) := by
      obtain ⟨e1, e2⟩ := take_store hbb (ownsRow_block HO.out (fun k hk => hb1.block k (HO.out.lt k hk).2)) (.slice none 0 0) ⟨by simp [bu], .inl ⟨rfl, rfl⟩⟩
      exact ⟨⟨_, e1, e2⟩, hB⟩
    have HF := hid ((Fr.of (b := b) hb1 hBw).trans (Fr.set w1 1 (.slice none 0 0) hB))
    clear hb1 hbb
    go_wp2_with fail
    go_ret
    exact ⟨rfl, HS.out, HF.out⟩
  · subst hv
    have HO := hid ho
    have HB := hid hb
    have H0 : Hid (∀ W : World, W.heap[g]? = some (.cells cur 5 (0, 0)) → W.ownsRow B 5 1 (.slice (some ⟨g, 0, none⟩) 0 cap) 0 (bu [])) := fun W hW => ⟨by simp [bu], .inr ⟨g, cap, cur, rfl, hg1, hW, by omega, hg4, hg5, by simp [bu]⟩⟩
    have HG := hid hg2
    clear h hb ho hg1 hg2 hg4 hg5 hg6
    go_enter Tryz.func48, Tryz.ntmps48
    go_wp2_with fail
    refine HC.out.mono ?_
    rintro e w1 ⟨rfl, hb1⟩
    have hbb := (hb1.block b hlt).trans HB.out
    have hgg := (hb1.block g (lt_of_some HG.out)).trans HG.out
    have c1 : w1.cell? ⟨b, 1, none⟩ = some (.slice (some ⟨g, 0, none⟩) d.length cap) := by simp [World.cell?, hbb]
    have f1 : w1.frozen? ⟨b, 1, none⟩ = false := by simp [World.frozen?, hbb]
    have HS : Hid (RAt (w1.setCell ⟨b, 1, none⟩ (.slice (some ⟨g, 0, none⟩) 0 cap)) B b l []) := by
      obtain ⟨e1, e2⟩ := take_store hbb (ownsRow_block HO.out (fun k hk => hb1.block k (HO.out.lt k hk).2)) (.slice (some ⟨g, 0, none⟩) 0 cap) (H0.out _ hgg)
      exact ⟨⟨_, e1, e2⟩, hB⟩
    have HF := hid ((Fr.of (b := b) hb1 hBw).trans (Fr.set w1 1 (.slice (some ⟨g, 0, none⟩) 0 cap) hB))
    clear hb1 hbb hgg
    go_wp2_with fail
    go_ret
    exact ⟨rfl, HS.out, HF.out⟩
end Go.Proofs.YtemgpghjolpneaaGreatDoor
