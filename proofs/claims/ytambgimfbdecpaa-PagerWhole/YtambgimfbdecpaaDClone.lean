/- What this text holds: 'Clone' of sectors and of writes, and 'another'. -/
import Derived.Test.YtambgimfbdecpaaDHeld
namespace Go.Proofs.Ytambgimfbdecpaa
open Go.RowKit
set_option linter.unusedVariables false

theorem hid {p : Prop} (h : p) : Hid p := h

theorem ownsRow_some {w : World} {B n size : Nat} {e : TypeId} {v : Value} {xs : List Value} (h : w.ownsRow B e size v n xs) (h1 : 1 ≤ n) : ∃ g c, v = .slice (some ⟨g, 0, none⟩) n c ∧ B ≤ g := by
  rcases h.2 with ⟨_, h'⟩ | ⟨g, cap, cur, h', hb, _⟩
  · omega
  · exact ⟨g, cap, h', hb⟩

theorem ownsRow_base {w : World} {B B' n size : Nat} {e : TypeId} {v : Value} {xs : List Value} (h : w.ownsRow B e size v n xs) (hB : B' ≤ B) : w.ownsRow B' e size v n xs := by
  refine ⟨h.1, ?_⟩
  rcases h.2 with h' | ⟨g, cap, cur, h', hb, r⟩
  · exact .inl h'
  · exact .inr ⟨g, cap, cur, h', Nat.le_trans hB hb, r⟩

theorem cells_of_owned {w : World} {B bs n sc size : Nat} {e : TypeId} {xs : List Value} (h : w.ownsRow B e size (.slice (some ⟨bs, 0, none⟩) n sc) n xs) :
    ∀ j v, xs[j]? = some v → w.cell? ((⟨bs, 0, none⟩ : Addr).add j) = some v := h.cells rfl

set_option maxRecDepth 100000 in
set_option maxHeartbeats 1000000 in
theorem cloneSecs {w : World} {B bs n sc : Nat} {l : List Int} (h : w.ownsRow B 96 512 (.slice (some ⟨bs, 0, none⟩) n sc) n (bc l)) (h1 : 1 ≤ n) (h2 : n ≤ 4096) :
    Calls Try.prog 80 #[.slice (some ⟨bs, 0, none⟩) n sc] w fun e w' => ∃ g c, e = .returned (.slice (some ⟨g, 0, none⟩) n c) ∧ w.heap.size ≤ g ∧
      w'.ownsRow w.heap.size 96 512 (.slice (some ⟨g, 0, none⟩) n c) n (bc l) ∧ Below w.heap.size w w' := by
  obtain ⟨i, hi, hz0, hz1, hz2⟩ := info_parts Try.info96
  have hnil := fun w : World => Lib.run_eql_slice_nil (P := Try.prog) w
  have hown0 : (w.alloc (.cells #[] 96)).ownsRow w.heap.size 96 512 (.slice (some ⟨w.heap.size, 0, none⟩) 0 0) 0 [] := World.ownsRow_made w #[] 0 (Nat.le_refl _) (by unfold maxLen; omega) (by simp)
  have hc1 := cells_of_owned (h.alloc (.cells #[] 96))
  have hl := h.1
  have HO := hid hown0
  have HC := hid hc1
  have HLn := hid hl
  clear hown0 hc1 hl h
  go_enter Try.func80, Try.ntmps80
  go_wp2_with (at_builtin; refine wpList_append_own _ rfl (.tmp 5) (.tmp 6) 77 rfl w.heap.size 96 i zSec 512 512 Try.underlying77 hi hz0 hz1 hz2 zSec_size (by omega) (.slice (some ⟨w.heap.size, 0, none⟩) 0 0) 0 [] rfl HO.out ⟨bs, 0, none⟩ n sc (bc l) rfl HLn.out HC.out (bc_oneCell _) (by unfold maxLen; omega) (by omega) (by simp) ?_; intro v' w' ho hg hn)
  go_ret
  rw [Nat.zero_add, List.nil_append] at ho
  obtain ⟨g, c, rfl, hgB⟩ := ownsRow_some ho h1
  refine ⟨g, c, rfl, hgB, ho, ?_⟩
  exact ((Below.refl _ _).alloc (Nat.le_refl _) _).grown hg (by simp) (fun k hk => by simp only [Value.ownBlock, Option.some.injEq] at hk; omega)

theorem wcs_oneCell (l : List (Int × List Int)) : ∀ v ∈ wcs l, v.oneCell' = true := by
  intro v hv
  simp only [wcs, List.mem_flatMap, List.mem_cons] at hv
  obtain ⟨x, _, h | h⟩ := hv
  · subst h; rfl
  · exact bc_oneCell _ _ h

set_option maxRecDepth 100000 in
set_option maxHeartbeats 1000000 in
theorem another_any {w : World} {B b bs n sc : Nat} {l : List Int} (h0 : w.cell? ⟨b, 0, none⟩ = some (.slice (some ⟨bs, 0, none⟩) n sc))
    (h : w.ownsRow B 96 512 (.slice (some ⟨bs, 0, none⟩) n sc) n (bc l)) (h1 : 1 ≤ n) (h2 : n ≤ 4096) :
    Calls Try.prog 46 #[.pointer (some ⟨b, 0, none⟩)] w fun e w' => ∃ g c, e = .returned (.agg #[.slice (some ⟨g, 0, none⟩) n c]) ∧ w.heap.size ≤ g ∧
      w'.ownsRow w.heap.size 96 512 (.slice (some ⟨g, 0, none⟩) n c) n (bc l) ∧ Below w.heap.size w w' := by
  have h0' : ∀ O : Obj, (w.alloc O).cell? ⟨b, 0, none⟩ = some (.slice (some ⟨bs, 0, none⟩) n sc) := fun O => by rw [World.cell?_alloc_some _ _ _ (by simp [h0]), h0]
  have H := hid h
  clear h
  go_enter Try.func46, Try.ntmps46
  go_wp2_with (go_at_call 80; refine (cloneSecs (H.out.alloc _) h1 h2).mono ?_; rintro e w1 ⟨g, c, rfl, hg, ho, hb⟩; have hcc : w1.cell? ⟨w.heap.size, 0, none⟩ = some (.slice none 0 0) := (hb.cell (by simp)).trans (by simp); have hff : w1.frozen? ⟨w.heap.size, 0, none⟩ = false := (hb.frozen (by simp)).trans (by simp))
  refine bodyPost_ret (v := .agg #[.slice (some ⟨g, 0, none⟩) n c]) (by simp [results, Try.results46, go_sem, hcc]) rfl ⟨g, c, rfl, ?_, ?_, ?_⟩
  · simp at hg; omega
  · exact ownsRow_base (ownsRow_setCell_below ho (by simp) _) (by simp)
  · exact (((Below.refl _ _).alloc (Nat.le_refl _) _).trans (hb.mono (by simp))).setCell (Nat.le_refl _) _
end Go.Proofs.Ytambgimfbdecpaa
