/- What this text holds: pieces, numbers and strings are put to bytes under way. -/
import Derived.Test.YtpjcpdnolcehcaaGreatDoorM17
namespace Go.Proofs.YtpjcpdnolcehcaaGreatDoor
open Go.RowKit
set_option linter.unusedVariables false
set_option linter.unusedSimpArgs false

def Put (B b : Nat) (l s : Bs) (w : World) (e : Ending) (w' : World) : Prop := e = .returned (.tuple #[]) ∧ UAt w' B b (l ++ s) ∧ Below B w w' ∧ TK w w'
theorem flat_take (L : List Bs) (k : Nat) (hk : k < L.length) : (L.take (k + 1)).flatten = (L.take k).flatten ++ L[k] := by
  rw [List.take_succ_eq_append_getElem hk, List.flatten_append]
  simp
theorem flat_le (L : List Bs) (k : Nat) (hk : k < L.length) : (L.take k).flatten.length + L[k].length ≤ L.flatten.length := by
  have h : L.flatten = (L.take (k + 1)).flatten ++ (L.drop (k + 1)).flatten := by rw [← List.flatten_append, List.take_append_drop]
  have := congrArg List.length h
  rw [List.length_append, flat_take L k hk, List.length_append] at this
  omega
set_option maxRecDepth 100000 in
set_option maxHeartbeats 1000000 in
theorem put_any {w : World} {B b : Nat} {l : Bs} (h : UAt w B b l) (L : List Bs) (g n : Nat) (hn : L.length = n) (hg : w.heap[g]? = some (.cells (eS.cs L).toArray 9 (0, 0))) (hL : L.length ≤ 10) (hl : l.length + L.flatten.length ≤ 1000000000) :
    Calls Tryz.prog 55 #[.pointer (some ⟨b, 0, none⟩), .slice (some ⟨g, 0, none⟩) n n] w (Put B b l L.flatten w) := by
  have hfu := fldU b
  have H := hid h
  have HG := hid hg
  have HN := hid hn
  clear h hg hn
  go_enter Tryz.func55, Tryz.ntmps55
  go_wp2_with fail
  go_loopw [8] (fun i wr => ∃ k : Nat, k ≤ L.length ∧ i = .int .i64 k ∧ UAt wr B b (l ++ (L.take k).flatten) ∧ Below B w wr ∧ TK w wr) (fun i _ => L.length - (intOf i).toNat)
  case atStart => exact ⟨0, by omega, rfl, by simpa using H.out, Below.refl _ _, TK.refl _⟩
  case round =>
    obtain ⟨k, hk, rfl, h1, h2, h3⟩ := hrel
    have H1 := hid h1
    have H2 := hid h2
    have H3 := hid h3
    clear h1 h2 h3
    by_cases hlt : k < L.length
    · have hlt' : (k : Int) < n := by have := HN.out; omega
      have hb := H3.out.at_ g _ _ _ HG.out (.inl (by decide)) (by decide)
      have cc : wr.cell? ⟨g, k, none⟩ = some (.string (str L[k])) := by
        have := eS.cs_at L k 0 L[k] _ (List.getElem?_eq_getElem hlt) rfl
        simp only [show eS.k = 1 from rfl, Nat.mul_one, Nat.add_zero] at this
        simp [World.cell?, hb, this]
      have cc' : wr.cell? ⟨g, 0 + k, none⟩ = some (.string (str L[k])) := by rw [Nat.zero_add]; exact cc
      have hfl := flat_le L k hlt
      have C := H1.out.wstr L[k] (by rw [List.length_append]; omega) (by omega)
      have HF := hid (flat_take L k hlt)
      clear hb hfl
      go_wp2_with fail
      refine C.mono ?_
      rintro e w2 ⟨rfl, k1, k2, k3⟩
      have K1 : Hid (UAt w2 B b (l ++ (L.take (k + 1)).flatten)) := by rw [Hid, HF.out, ← List.append_assoc]; exact k1
      have K2 := hid (H2.out.trans k2)
      have K3 := hid (H3.out.trans k3)
      clear k1 k2 k3 C
      go_wp2_with fail
      go_round
      case rel => exact ⟨k + 1, by omega, by go_num, K1.out, K2.out, K3.out⟩
      case measure => simp [intOf]; omega
    · have hlt' : ¬ (k : Int) < n := by have := HN.out; omega
      have HL : Hid (UAt wr B b (l ++ L.flatten)) := by have := H1.out; rw [List.take_of_length_le (by omega)] at this; exact this
      go_wp2_with fail
      go_end0
      exact ⟨rfl, HL.out, H2.out, H3.out⟩
/-- A slice of texts that was just built. -/
theorem put_new {w : World} {B b : Nat} {l : Bs} (h : UAt w B b l) (L : List Bs) (g n : Nat) (hg : w.heap.size = g) (hn : L.length = n) (hL : L.length ≤ 10) (hl : l.length + L.flatten.length ≤ 1000000000) (cs : Array Value) (hcs : cs = (eS.cs L).toArray) :
    Calls Tryz.prog 55 #[.pointer (some ⟨b, 0, none⟩), .slice (some ⟨g, 0, none⟩) n n] (w.alloc (.cells cs 9)) (Put B b l L.flatten w) := by
  subst hg hcs
  have ha : Below w.heap.size w (w.alloc (.cells (eS.cs L).toArray 9)) := (Below.refl _ _).alloc (Nat.le_refl _) _
  refine (put_any (h.later ha) L _ n hn (heap_alloc_new _ _) hL hl).mono ?_
  rintro e w' ⟨rfl, k1, k2, k3⟩
  exact ⟨rfl, k1, (ha.mono h.B).trans k2, (TK.later ha).trans k3⟩
theorem below_up {w w1 w2 : World} {B : Nat} (hB : B ≤ w.heap.size) (h : Below w.heap.size w w1) (k : Below B w1 w2) : Below B w w2 := (h.mono hB).trans k
set_option maxRecDepth 100000 in
set_option maxHeartbeats 1000000 in
theorem unum_any {w : World} {B b : Nat} {l : Bs} (hE : Env w) (h : UAt w B b l) (n : Int) (h0 : 0 ≤ n) (h1 : n ≤ 9223372036854775807) (hl : l.length + (decP n).length ≤ 1000000000) :
    Calls Tryz.prog 92 #[.pointer (some ⟨b, 0, none⟩), .int .i64 n] w (Put B b l (decP n) w) := by
  have C := itoa_any hE n h0 h1
  have H := hid h
  clear h hE
  generalize decP n = d at *
  go_enter Tryz.func92, Tryz.ntmps92
  go_wp2_with fail
  refine C.mono ?_
  rintro e w1 ⟨rfl, hb⟩
  have D := put_new (H.out.later hb) [d] w1.heap.size 1 rfl rfl (by simp) (by simpa using hl) #[.string (str d)] rfl
  have HB := hid hb
  clear hb C
  go_wp2_with fail
  refine D.mono ?_
  rintro e w2 ⟨rfl, k1, k2, k3⟩
  have K1 := hid k1
  have K2 := hid (below_up H.out.B HB.out k2)
  have K3 := hid ((TK.later HB.out).trans k3)
  clear k1 k2 k3 D
  go_wp2_with fail
  go_end0
  refine ⟨rfl, ?_, K2.out, K3.out⟩
  simpa using K1.out
end Go.Proofs.YtpjcpdnolcehcaaGreatDoor
