/- What this text holds: letters of base 64 are written, runs opened and shut. -/
import Derived.Test.YtkmggkcipgfhdaaDoorM1
namespace Go.Proofs.YtkmggkcipgfhdaaDoor
open Go.RowKit
set_option linter.unusedVariables false
set_option linter.unusedSimpArgs false

def abcS : ByteArray := ⟨#[65, 66, 67, 68, 69, 70, 71, 72, 73, 74, 75, 76, 77, 78, 79, 80, 81, 82, 83, 84, 85, 86, 87, 88, 89, 90, 97, 98, 99, 100, 101, 102, 103, 104, 105, 106, 107, 108, 109, 110, 111, 112, 113, 114, 115, 116, 117, 118, 119, 120, 121, 122, 48, 49, 50, 51, 52, 53, 54, 55, 56, 57, 43, 44]⟩
theorem src_one (w : World) (c : UInt8) : Src (w.alloc (.cells #[.int .u8 c.toNat] 5)) (.slice (some ⟨w.heap.size, 0, none⟩) 1 1) [c] := by
  refine ⟨_, _, rfl, fun j u hu => ?_⟩
  rw [Addr.add_mid, Nat.zero_add]
  simp only [World.cell?, heap_alloc_new]
  simpa [bu] using hu
theorem slice42 (c : Int) (w : World) : (Instr.buildSlice 42 1 #[(0, .int .u8 c)]).run Tryd.prog w = .ok (.slice (some ⟨w.heap.size, 0, none⟩) 1 1) (w.alloc (.cells #[.int .u8 c] 5)) := by kernel_rfl

/-- What is taken of the bits that wait, and whether. -/
def t6 (l : List Nat) : Nat := if 6 ≤ l.length then valB (l.take 6) else 0
def d6 (l : List Nat) : List Nat := if 6 ≤ l.length then l.drop 6 else l
def is6 (l : List Nat) : Bool := decide (6 ≤ l.length)
theorem take6 {w : World} {B b : Nat} {s : St} (h : BAt w B b s) (hs : s.bl.length ≤ 32) :
    Calls Tryd.prog 66 #[.pointer (some ⟨b, 0, none⟩), .int .i64 6] w fun e w' => e = .returned (.tuple #[.int .u32 (t6 s.bl), .bool (is6 s.bl)]) ∧ BAt w' B b { s with bl := d6 s.bl } ∧ Kp B b w w' := by
  by_cases h6 : 6 ≤ s.bl.length
  · refine (take_any h 6 hs h6 (by omega)).mono ?_
    rintro e w1 ⟨rfl, h1, hb1⟩
    refine ⟨?_, ?_, hb1⟩
    · simp [t6, is6, h6]
    · simpa [d6, h6] using h1
  · refine (take_no h 6 (by omega) (by omega)).mono ?_
    rintro e w1 ⟨rfl, rfl⟩
    refine ⟨?_, ?_, Kp.refl _ _ _⟩
    · simp [t6, is6, h6]
    · simpa [d6, h6] using h
theorem BAt.count {w : World} {B b : Nat} {s : St} (h : BAt w B b s) : w.cell? ⟨b, 2, none⟩ = some (.int .i64 s.bl.length) := by
  obtain ⟨v0, x, hb, _⟩ := h.at_
  simp [World.cell?, hb]
/-- How much is to be done. -/
def left6 (b : Nat) (i : Value) (w : World) : Nat := (intOf ((w.cell? ⟨b, 2, none⟩).getD (.int .i64 0))).toNat + (match i with | .bool true => 1 | _ => 0)
theorem BAt.left {w : World} {B b : Nat} {s : St} (h : BAt w B b s) (i : Bool) : left6 b (.bool i) w = s.bl.length + (if i then 1 else 0) := by
  unfold left6
  rw [h.count]
  cases i <;> simp [intOf]
/-- How the loop stands. -/
structure Six (B b : Nat) (s : St) (w0 w : World) (l : List Nat) (done : List UInt8) : Prop where
  at_ : BAt w B b { s with out := s.out ++ done, bl := d6 l }
  grp_ : done ++ grp l = grp s.bl
  rst_ : rst l = rst s.bl
  len : l.length ≤ 32
  dn : done.length ≤ 32 - l.length
  bits : Bits l
  below : Kp B b w0 w
theorem let_index : ∀ n : Fin 64, abcS.get! n.val = let64 n.val := by decide +kernel
theorem exec_index9 {a : Act} {x : Operand} {w : World} {d : Option Tmp} {n ty : Nat} {pos : String} {af : Array Edge} {g : Option (Nat × Bool)} (hn : n < 64) (hx : a.eval x = .int .u32 n) :
    (execOp a.eval ⟨d, .index 9 (.const (.string abcS)) x, ty, pos, af, g⟩).run Tryd.prog w = .ok (.value (.int .u8 (let64 n).toNat)) w := by
  have h := let_index ⟨n, hn⟩
  have hsz : abcS.size = 64 := by decide
  simp only [execOp, hx]
  refine exec_v ?_
  show (Instr.index 9 (.string abcS) (.int .u32 n)).run Tryd.prog w = _
  rw [run_index_string w 9 abcS .u32 n Tryd.underlying9, dif_pos ⟨by omega, by rw [hsz]; omega⟩]
  have e : abcS[(n : Int).toNat]'(by rw [hsz]; omega) = let64 n := by
    rw [← h]
    simp [ByteArray.get!, ByteArray.getElem_eq_getElem_data]
    rw [Array.getElem!_eq_getD, Array.getD, dif_pos (show n < abcS.data.size from hn)]
    rfl
  rw [e]
theorem field47 (b : Nat) (w : World) : (Instr.fieldAt 47 (.pointer (some ⟨b, 0, none⟩)) 0).run Tryd.prog w = .ok (.pointer (some ⟨b, 0, none⟩)) w := by kernel_rfl
theorem exec_buildSlice {a : Act} {X : Value} {x : Operand} {w w' : World} {v : Value} {d : Option Tmp} {t n ty : Nat} {pos : String} {af : Array Edge} {g : Option (Nat × Bool)} (hx : a.eval x = X)
    (h : (Instr.buildSlice t n #[(0, X)]).run Tryd.prog w = .ok v w') : (execOp a.eval ⟨d, .buildSlice t n #[(0, x)], ty, pos, af, g⟩).run Tryd.prog w = .ok (.value v) w' := by
  simp only [execOp, List.map_toArray, List.map_cons, List.map_nil, hx]
  exact exec_v h
theorem t6_lt {l : List Nat} (h : Bits l) : t6 l < 64 := by
  unfold t6
  split
  · have := valB_lt (l.take 6) (bits_take h 6)
    rw [List.length_take, Nat.min_eq_left (by assumption)] at this
    exact this
  · omega

set_option maxRecDepth 100000 in
set_option maxHeartbeats 1000000 in
theorem sixes_any {w : World} {B b : Nat} {s : St} (h : BAt w B b s) (hBw : B ≤ w.heap.size) (hs : s.bl.length ≤ 32) (ho : s.out.length ≤ 10000000) :
    Calls Tryd.prog 59 #[.pointer (some ⟨b, 0, none⟩)] w fun e w' => e = .returned (.tuple #[]) ∧ BAt w' B b { s with out := s.out ++ grp s.bl, bl := rst s.bl } ∧ Kp B b w w' := by
  have H := hid h
  have HBw := hid hBw
  clear h hBw
  go_enter Tryd.func59, Tryd.ntmps59
  go_wp2_with (first | (go_at_call 66; refine (take6 H.out hs).mono ?_; rintro e w1 ⟨rfl, h1, hb1⟩; have H1 := hid h1; have HB1 := hid hb1; clear h1 hb1))
  go_loopw [2, 3] (fun i j wr => ∃ l done, i = .int .u32 (t6 l) ∧ j = .bool (is6 l) ∧ Six B b s w wr l done) (fun _ j wr => left6 b j wr)
  case atStart => exact ⟨s.bl, [], rfl, rfl, ⟨by simpa using H1.out, by simp, rfl, hs, by simp, H.out.bits, HB1.out⟩⟩
  case round =>
    obtain ⟨l, done, rfl, rfl, hsix⟩ := hrel
    have HS := hid hsix
    clear hsix
    by_cases h6 : 6 ≤ l.length
    · have hi : is6 l = true := by simp [is6, h6]
      have ht : t6 l < 64 := t6_lt HS.out.bits
      rw [hi]
      go_wp2_with fail
      refine wp_region_held_drew (S := fun w' => True) (by kernel_rfl) trivial ?_
      intro hS
      refine anyH_take 0 ⟨some 15, .move (.tmp 0), _, _, _, none⟩ (.pointer (some ⟨b, 0, none⟩)) rfl rfl (by kernel_rfl) (by kernel_rfl) (by kernel_rfl) (fun _ _ _ h => h) (fun w hw => rfl) hS ?_
      simp only [Act.put, List.setIfInBounds_toArray, List.set_cons_zero, List.set_cons_succ]
      refine anyH_take 1 ⟨some 16, .nilCheck (.tmp 15), _, _, _, none⟩ (.pointer (some ⟨b, 0, none⟩)) rfl rfl (by kernel_rfl) (by kernel_rfl) (by kernel_rfl) (fun _ _ _ h => h) (fun w hw => rfl) hS ?_
      simp only [Act.put, List.setIfInBounds_toArray, List.set_cons_zero, List.set_cons_succ]
      refine anyH_take 2 ⟨some 17, .fieldAddr 47 (.tmp 16) 0, _, _, _, none⟩ (.pointer (some ⟨b, 0, none⟩)) rfl rfl (by kernel_rfl) (by kernel_rfl) (by kernel_rfl) (fun _ _ _ h => h) (fun w hw => exec_v (field47 b w)) hS ?_
      simp only [Act.put, List.setIfInBounds_toArray, List.set_cons_zero, List.set_cons_succ]
      refine anyH_take 3 ⟨some 18, .move (.tmp 2), _, _, _, none⟩ (.int .u32 (t6 l)) rfl rfl (by kernel_rfl) (by kernel_rfl) (by kernel_rfl) (fun _ _ _ h => h) (fun w hw => rfl) hS ?_
      simp only [Act.put, List.setIfInBounds_toArray, List.set_cons_zero, List.set_cons_succ]
      refine anyH_take 4 ⟨some 19, .index 9 (.const (.string abcS)) (.tmp 18), _, _, _, none⟩ (.int .u8 (let64 (t6 l)).toNat) rfl rfl (by kernel_rfl) (by kernel_rfl) (by kernel_rfl) (fun _ _ _ h => h) (fun w hw => exec_index9 ht rfl) hS ?_
      simp only [Act.put, List.setIfInBounds_toArray, List.set_cons_zero, List.set_cons_succ]
      refine anyH_one 5 ⟨some 20, .buildSlice 42 1 #[(0, .tmp 19)], _, _, _, none⟩ (.slice (some ⟨wr.drew.heap.size, 0, none⟩) 1 1) (wr.drew.alloc (.cells #[.int .u8 (let64 (t6 l)).toNat] 5)) (by kernel_rfl) rfl rfl (exec_buildSlice (X := .int .u8 (let64 (t6 l)).toNat) rfl (slice42 _ _)) trivial ?_
      simp only [Act.put, List.setIfInBounds_toArray, List.set_cons_zero, List.set_cons_succ]
      refine anyH_callW 6 ⟨some 21, .call { callee := .value (.func 44), args := #[.tmp 17, .tmp 20], argTypes := #[44, 42] }, _, _, _, none⟩ 44 #[.pointer (some ⟨b, 0, none⟩), .slice (some ⟨wr.drew.heap.size, 0, none⟩) 1 1] (by kernel_rfl) rfl rfl (by kernel_rfl) ?_
      refine (add_any (HS.out.at_.drew.alloc _) (by have := HS.out.below.size; have := HBw.out; simp; omega) (src_one wr.drew _) (by have := HS.out.dn; simp; omega) (by simp)).mono ?_
      rintro e w2 ⟨rfl, h2, hb2⟩
      refine ⟨_, rfl, trivial, ?_⟩
      simp only [Act.put, List.setIfInBounds_toArray, List.set_cons_zero, List.set_cons_succ]
      refine wpAnyH_done (by kernel_rfl) ?_ _
      have e6 : d6 l = l.drop 6 := by simp [d6, h6]
      have hlen := HS.out.len
      have hg := grp_six l h6
      have et : t6 l = valB (l.take 6) := by simp [t6, h6]
      have h3 : Six B b s w w2 l (done ++ [let64 (t6 l)]) → True := fun _ => trivial
      have H2 : Hid (BAt w2 B b { s with out := s.out ++ (done ++ [let64 (t6 l)]), bl := l.drop 6 }) := by
        have := h2
        simp only [e6, List.append_assoc] at this
        exact this
      have HB2 : Hid (Kp B b w w2) := ((HS.out.below.drew).trans (((Kp.refl _ _ _).alloc (by have := HS.out.below.size; have := HBw.out; show B ≤ wr.heap.size; omega) _).trans hb2))
      clear h2 hb2 h3
      go_wp2_with (first | (go_at_call 66; refine (take6 H2.out (by simp; omega)).mono ?_; rintro e w3 ⟨rfl, h3, hb3⟩; have H3 := hid h3; have HB3 := hid hb3; clear h3 hb3))
      go_roundw
      case rel =>
        refine ⟨l.drop 6, done ++ [let64 (t6 l)], rfl, rfl, ⟨H3.out, ?_, ?_, by simp; omega, ?_, bits_drop HS.out.bits 6, HB2.out.trans HB3.out⟩⟩
        · rw [← HS.out.grp_, hg.1, et]; simp
        · rw [← HS.out.rst_, hg.2]
        · have := HS.out.dn; simp; omega
      case measure =>
        rw [H3.out.left, HS.out.at_.left]
        have e7 : (d6 (l.drop 6)).length + (if is6 (l.drop 6) = true then 1 else 0) ≤ (l.drop 6).length := by
          by_cases h12 : 6 ≤ (l.drop 6).length
          · have a1 : d6 (l.drop 6) = (l.drop 6).drop 6 := by simp only [d6, if_pos h12]
            have a2 : is6 (l.drop 6) = true := by simp only [is6, decide_eq_true h12]
            rw [a1, a2, List.length_drop, if_pos rfl]; omega
          · have a1 : d6 (l.drop 6) = l.drop 6 := by simp only [d6, if_neg h12]
            have a2 : is6 (l.drop 6) = false := by simp only [is6, decide_eq_false h12]
            rw [a1, a2]; simp
        simp only [e6, if_true]
        omega
    · have hi : is6 l = false := by simp [is6, h6]
      rw [hi]
      go_wp2_with fail
      go_end0
      have e6 : d6 l = l := by simp [d6, h6]
      have hr := rst_short l (by omega)
      have := HS.out.at_
      have g := HS.out.grp_
      have r := HS.out.rst_
      rw [hr.2, List.append_nil] at g
      rw [hr.1] at r
      rw [e6, g, r] at this
      exact ⟨rfl, this, HS.out.below⟩
end Go.Proofs.YtkmggkcipgfhdaaDoor
