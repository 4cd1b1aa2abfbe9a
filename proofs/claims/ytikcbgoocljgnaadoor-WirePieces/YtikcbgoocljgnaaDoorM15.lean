/- What this text holds: a feed takes a byte. -/
import Derived.Test.YtikcbgoocljgnaaDoorM14
namespace Go.Proofs.YtikcbgoocljgnaaDoor
open Go.RowKit
set_option linter.unusedVariables false
set_option linter.unusedSimpArgs false

/-- What one byte comes to. -/
def stepP (F : Fd) (c : UInt8) : Out := match F.nx with
  | .no => ofLineP { F with nx := .line } c
  | .line => ofLineP F c
  | .lit => ⟨ofLiteralF F c, 0, [], []⟩
  | .pline => ⟨pastLineF F c, 0, [], []⟩
  | .plit => ⟨pastLitF F c, 0, [], []⟩
/-- What a feed is between two bytes. -/
structure Sound (F : Fd) : Prop where
  t : F.texts.length ≤ F.lits.length + 1
  l : F.lits.length ≤ 20
  s : F.size ≤ 4000
  u : F.under.length ≤ 60000
  lf : F.left ≤ 999999
  mny : F.many + F.left ≤ 1000000
  lit : F.nx = .lit → 1 ≤ F.left ∧ F.under.length + F.left ≤ 50000 ∧ F.lits.length + 1 ≤ 20 ∧ F.texts.length = F.lits.length + 1
  plit : F.nx = .plit → 1 ≤ F.left
  mz : F.nx = .line ∨ F.nx = .no ∨ F.nx = .lit → F.many = 0
  line : F.nx = .line ∨ F.nx = .no → F.texts.length = F.lits.length ∧ (sufT F.under 13).length + F.size ≤ 4000
theorem sound_zero : Sound Fd.zero := ⟨by simp [Fd.zero], by simp [Fd.zero], by simp [Fd.zero], by simp [Fd.zero], by simp [Fd.zero], by simp [Fd.zero], by simp [Fd.zero], by simp [Fd.zero], by intro _; rfl, by intro _; exact ⟨rfl, by decide⟩⟩
theorem nx_nil (b : Nat) (n : Nx) (w : World) : (binOp .eql 55 (nxV b n) .nilFunc).run Tryd.prog w = .ok (.bool (match n with | .no => true | _ => false)) w := by
  cases n <;> kernel_rfl
theorem nx_guard (b : Nat) (n : Nx) (x y : Operand) (w : World) : (eqGuard .eql 55 x y (nxV b n) .nilFunc).run Tryd.prog w = .ok () w := by
  cases n <;> rfl
set_option maxRecDepth 100000 in
set_option maxHeartbeats 1000000 in
theorem idle_any {w : World} {b : Nat} {own : List Nat} {F : Fd} (h : FAt w b own F) : Calls Tryd.prog 14 #[.pointer (some ⟨b, 0, none⟩)] w fun e w' => e = .returned (.bool (match F.nx with | .no => true | _ => false)) ∧ Below w.heap.size w w' := by
  obtain ⟨vt, vl, vu, f, rfl⟩ := h
  have c7 : w.cell? ⟨b, 7, none⟩ = some (nxV b F.nx) := f.r4.cell 7 rfl
  clear f
  have hq := nx_nil b F.nx w
  have hg := nx_guard b F.nx (.tmp 9) (.const .nilFunc) w
  generalize nxV b F.nx = nv at *
  generalize (match F.nx with | .no => true | _ => false) = r at *
  go_enter Tryd.func14, Tryd.ntmps14
  go_wp2_with fail
  go_ret
  exact ⟨rfl, Below.refl _ _⟩
theorem new_any (w : World) : Calls Tryd.prog 11 #[] w fun e w' => e = .returned (.pointer (some ⟨w.heap.size, 0, none⟩)) ∧ FAt w' w.heap.size [w.heap.size] Fd.zero ∧ Below w.heap.size w w' := by
  have HF : Hid (FAt (w.alloc (.cells #[.slice none 0 0, .slice none 0 0, .int .i64 0, .slice none 0 0, .int .i64 0, .int .i64 0, .bool false, .nilFunc] 57)) w.heap.size [w.heap.size] Fd.zero) :=
    ⟨.slice none 0 0, .slice none 0 0, .slice none 0 0, ⟨heap_alloc_new _ _, GO.nil _ _ _, GO.nil _ _ _, GO.nil _ _ _, fun g hg => by simp [Value.ownBlock] at hg⟩, rfl⟩
  go_enter Tryd.func11, Tryd.ntmps11
  go_wp2_with fail
  go_ret
  exact ⟨rfl, HF.out, (Below.refl _ _).alloc (Nat.le_refl _) _⟩
end Go.Proofs.YtikcbgoocljgnaaDoor
