/- What this text holds: the chapter's examples. -/
import Derived.Test.YtkipigbfbhecjaaN16
import Derived.Test.YtkipigbfbhecjaaN18
namespace Go.Proofs.Ytkipigbfbhecjaa
open Go.RowKit
set_option linter.unusedVariables false
set_option linter.unusedSimpArgs false

def ex1 : Nd := ⟨true, [⟨#[97]⟩], [⟨⟨#[120]⟩, 0, 0⟩], []⟩
def ex2 : Nd := ⟨true, [⟨#[97]⟩, ⟨#[98]⟩], [⟨⟨#[120]⟩, 0, 0⟩, ⟨⟨#[121]⟩, 0, 0⟩], []⟩
theorem encV_ex1 : encV ex1 = .tuple #[.int .i64 1, .string ⟨#[0, 1, 1, 97, 1, 120]⟩, .int .i64 0] := by kernel_rfl
theorem splitB_ex2 : splitB ex2 = true := by kernel_rfl
theorem key_ex2 : ex2.key 1 = ⟨#[98]⟩ := by kernel_rfl
theorem half_ex2 {i : Nat} (h : HalfAt ex2 (ex2.keys.length - leastN ex2 + 1) i) : i = 1 := by
  have h1 := h.one
  have h2 := h.le
  have e : ex2.keys.length - leastN ex2 + 1 = 1 := by kernel_rfl
  omega
theorem at_alloc (w : World) (cs : List Value) (t : TypeId) : At (w.alloc (.cells cs.toArray t)) (some ⟨w.heap.size, 0, none⟩) cs := by
  refine .inr ⟨_, 0, rfl, fun j v hv => ?_⟩
  have hh := heap_alloc_new w (.cells cs.toArray t)
  simp only [World.cell?, hh, Nat.zero_add]
  simpa using hv
theorem nat_ex1 (w : World) : NAt ((w.alloc (.cells #[.string ⟨#[97]⟩] 9)).alloc (.cells #[.string ⟨#[120]⟩, .int .i64 0, .int .i64 0] 51)) (.agg #[.bool true, .slice (some ⟨w.heap.size, 0, none⟩) 1 1, .slice (some ⟨w.heap.size + 1, 0, none⟩) 1 1, .slice none 0 0]) ex1 := by
  have h1 : At ((w.alloc (.cells #[.string ⟨#[97]⟩] 9)).alloc (.cells #[.string ⟨#[120]⟩, .int .i64 0, .int .i64 0] 51)) (some ⟨w.heap.size, 0, none⟩) (kc ex1.keys) := (at_alloc w [.string ⟨#[97]⟩] 9).later (below_box _ _)
  have h2 : At ((w.alloc (.cells #[.string ⟨#[97]⟩] 9)).alloc (.cells #[.string ⟨#[120]⟩, .int .i64 0, .int .i64 0] 51)) (some ⟨w.heap.size + 1, 0, none⟩) (ic ex1.items) := by
    have := at_alloc (w.alloc (.cells #[.string ⟨#[97]⟩] 9)) [.string ⟨#[120]⟩, .int .i64 0, .int .i64 0] 51
    rw [show (w.alloc (.cells #[.string ⟨#[97]⟩] 9)).heap.size = w.heap.size + 1 by simp] at this
    exact this
  refine ⟨⟨_, 1, _, 1, none, 0, rfl, h1, h2, .inl rfl, ?_, ?_, ?_⟩, ?_, ?_⟩
  · unfold maxLen; exact ⟨Nat.le_refl _, by omega⟩
  · unfold maxLen; exact ⟨Nat.le_refl _, by omega⟩
  · exact ⟨Nat.le_refl _, Nat.zero_le _⟩
  · intro k hk; simp [ex1] at hk; subst hk; unfold maxLen; decide
  · intro x hx; simp [ex1] at hx; subst hx; unfold maxLen; decide
theorem nat_ex2 (w : World) : NAt ((w.alloc (.cells #[.string ⟨#[97]⟩, .string ⟨#[98]⟩] 9)).alloc (.cells #[.string ⟨#[120]⟩, .int .i64 0, .int .i64 0, .string ⟨#[121]⟩, .int .i64 0, .int .i64 0] 51)) (.agg #[.bool true, .slice (some ⟨w.heap.size, 0, none⟩) 2 2, .slice (some ⟨w.heap.size + 1, 0, none⟩) 2 2, .slice none 0 0]) ex2 := by
  have h1 : At ((w.alloc (.cells #[.string ⟨#[97]⟩, .string ⟨#[98]⟩] 9)).alloc (.cells #[.string ⟨#[120]⟩, .int .i64 0, .int .i64 0, .string ⟨#[121]⟩, .int .i64 0, .int .i64 0] 51)) (some ⟨w.heap.size, 0, none⟩) (kc ex2.keys) := (at_alloc w [.string ⟨#[97]⟩, .string ⟨#[98]⟩] 9).later (below_box _ _)
  have h2 : At ((w.alloc (.cells #[.string ⟨#[97]⟩, .string ⟨#[98]⟩] 9)).alloc (.cells #[.string ⟨#[120]⟩, .int .i64 0, .int .i64 0, .string ⟨#[121]⟩, .int .i64 0, .int .i64 0] 51)) (some ⟨w.heap.size + 1, 0, none⟩) (ic ex2.items) := by
    have := at_alloc (w.alloc (.cells #[.string ⟨#[97]⟩, .string ⟨#[98]⟩] 9)) [.string ⟨#[120]⟩, .int .i64 0, .int .i64 0, .string ⟨#[121]⟩, .int .i64 0, .int .i64 0] 51
    rw [show (w.alloc (.cells #[.string ⟨#[97]⟩, .string ⟨#[98]⟩] 9)).heap.size = w.heap.size + 1 by simp] at this
    exact this
  refine ⟨⟨_, 2, _, 2, none, 0, rfl, h1, h2, .inl rfl, ?_, ?_, ?_⟩, ?_, ?_⟩
  · unfold maxLen; exact ⟨Nat.le_refl _, by omega⟩
  · unfold maxLen; exact ⟨Nat.le_refl _, by omega⟩
  · exact ⟨Nat.le_refl _, Nat.zero_le _⟩
  · intro k hk; simp [ex2] at hk; rcases hk with rfl | rfl <;> (unfold maxLen; decide)
  · intro x hx; simp [ex2] at hx; rcases hx with rfl | rfl <;> (unfold maxLen; decide)
theorem below_two (w : World) (a b : Obj) : Below w.heap.size w ((w.alloc a).alloc b) := (below_box w a).trans ((below_box _ b).mono (below_box w a).size)
theorem sm_ex1 : ex1.small := ⟨by decide, by decide, by decide⟩
theorem sm_ex2 : ex2.small := ⟨by decide, by decide, by decide⟩

set_option maxRecDepth 100000 in
set_option maxHeartbeats 400000 in
theorem no_any (n : Int) (w : World) : Calls Try.prog 18 #[.int .i64 n] w fun e w' => e = .returned (.int .i64 n) ∧ w' = w := by
  go_enter Try.func18, Try.ntmps18
  go_wp2
  go_ret
  exact ⟨rfl, rfl⟩

set_option maxRecDepth 100000 in
set_option maxHeartbeats 4000000 in
theorem alive_of (split_any : ∀ (w : World) (v : Value) (n : Nd), NAt w v n → n.small → Calls Try.prog 24 #[v] w (SplitP w n)) (w : World) : Calls Try.prog 11 #[] w fun e w' => e = .returned (.bool true) ∧ Below w.heap.size w w' := by
  have HSp := hid split_any
  clear split_any
  go_enter Try.func11, Try.ntmps11
  go_wp2_with fail
  refine (encode_any (nat_ex1 w) sm_ex1).mono ?_
  rw [encV_ex1]
  rintro e w1 ⟨rfl, hb1⟩
  have HB1 := hid ((below_two w _ _).trans (hb1.mono (below_two w _ _).size))
  clear hb1
  go_wp2_with fail
  refine (HSp.out _ _ _ (nat_ex2 w1) sm_ex2).mono ?_
  rintro e w2 hp
  rcases hp with ⟨h, _⟩ | ⟨_, i, va, vb, hh, rfl, hva, hvb, hb2⟩
  · rw [splitB_ex2] at h; cases h
  · obtain rfl := half_ex2 hh
    rw [key_ex2]
    have HB2 := hid ((HB1.out.trans ((below_two w1 _ _).mono HB1.out.size)).trans (hb2.mono (Nat.le_trans HB1.out.size (below_two w1 _ _).size)))
    obtain ⟨a1, p1, a2, p2, a3, p3, rfl, ha1, _⟩ := hva.at_
    obtain ⟨b1, q1, b2, q2, b3, q3, rfl, _⟩ := hvb.at_
    have ea : (cutA ex2 1).keys = [⟨#[97]⟩] := by kernel_rfl
    have eb : (cutB ex2 1).keys = [⟨#[98]⟩] := by kernel_rfl
    rw [ea] at ha1
    obtain ⟨kb, ko, rfl, hck⟩ := ha1.key 0 (by decide)
    unfold nv
    rw [ea, eb]
    have hck' : w2.cell? ⟨kb, ko, none⟩ = some (.string ⟨#[97]⟩) := hck
    have HLt : kb < w2.heap.size := World.block_lt_of_cell? w2 _ hck'
    clear hva hvb hb2 hh ha1 hck
    generalize (cutA ex2 1).leaf = l1
    generalize (cutA ex2 1).items.length = l2
    generalize (cutA ex2 1).kids.length = l3
    generalize (cutB ex2 1).leaf = m1
    generalize (cutB ex2 1).items.length = m2
    generalize (cutB ex2 1).kids.length = m3
    simp only [List.length_cons, List.length_nil, Nat.zero_add]
    have hstr : (({ data := #[0, 1, 1, 97, 120] } : ByteArray).extract 0 3 ++ { data := #[97, 1, 120] }) = { data := #[0, 1, 1, 97, 1, 120] } := by kernel_rfl
    go_wp2_with (first | (go_at_call 18; refine (no_any _ _).mono ?_; rintro e wz ⟨rfl, rfl⟩))
    go_ret
    exact ⟨rfl, HB2.out.trans ((below_two w2 _ _).mono HB2.out.size)⟩
end Go.Proofs.Ytkipigbfbhecjaa
