/- What this text holds: what the library's variables hold; the mark of a literal. -/
import Derived.Test.YtikcbgoocljgnaaDoorM24
import Derived.Test.YtikcbgoocljgnaaDoorP2
namespace Go.Proofs.YtikcbgoocljgnaaDoor
open Go.RowKit
set_option linter.unusedVariables false
set_option linter.unusedSimpArgs false

/-- What the library's variables hold. -/
def Env (w : World) : Prop := Go.Lib.TabIs Tryd.prog w "internal/strconv.uint64pow10" .u64 Go.Lib.pow10Tab
theorem g_tab : Tryd.prog.globalNamed "internal/strconv.uint64pow10" = some 0 := by kernel_rfl
theorem Env.keep {w w' : World} {B : Nat} (h : Env w) (hb : Below B w w') (hB : 1 ≤ B) : Env w' := by
  unfold Env Go.Lib.TabIs World.var? at h ⊢
  rw [g_tab] at h ⊢
  simp only [Option.bind_some] at h ⊢
  rw [hb.block 0 (by omega)]; exact h
theorem Env.pos {w : World} (h : Env w) : 1 ≤ w.heap.size := by
  unfold Env Go.Lib.TabIs World.var? at h
  rw [g_tab] at h
  simp only [Option.bind_some] at h
  rcases hh : w.heap[0]? with _ | o
  · rw [hh] at h; simp at h
  · exact lt_of_some hh
theorem Env.later {w w' : World} (h : Env w) (hb : Below w.heap.size w w') : Env w' := h.keep hb h.pos
theorem below_grow (w : World) (k : Nat) (os : Array Obj) : Below w.heap.size w (Go.Sort.grow (w.drewN k) os) :=
  ⟨rfl, rfl, rfl, by simp [Go.Sort.grow], fun i hi => by simp only [Go.Sort.grow, World.heap_drewN]; rw [Array.getElem?_append_left hi]⟩
theorem sound_take : ∀ (s : Bs) (F : Fd), Sound F → Sound (takeP F s).1
  | [], F, h => h
  | c :: s, F, h => sound_take s _ (sound_step F c h)
theorem alive_ok (w : World) : Calls Tryd.prog 10 #[] w fun e w' => e = .returned (.bool true) ∧ Below w.heap.size w w' := alive_any ofLine_ok w
/-- The text of a call, and what lay there is as it was. -/
def TxtIs (t : Bs) (w : World) (e : Ending) (w' : World) : Prop := e = .returned (.string (str t)) ∧ Below w.heap.size w w'
def decB (n : Nat) : Bs := Go.Lib.decDigits n
theorem itoa_any {w : World} (hE : Env w) (n : Nat) (hn : n ≤ 9223372036854775807) : Calls Tryd.prog 33 #[.int .i64 n] w (TxtIs (decB n) w) := by
  refine (Tryd.strconv_Itoa n (by omega) (by omega) w hE).mono ?_
  rintro e w1 ⟨rfl, kk, os, rfl⟩
  refine ⟨?_, below_grow _ _ _⟩
  unfold Go.Lib.itoa decB
  rw [if_neg (by omega)]
  rfl
set_option maxRecDepth 100000 in
set_option maxHeartbeats 1000000 in
theorem markOf_any {w : World} (hE : Env w) (x : Bs) (hx : x.length ≤ 1000000) : Calls Tryd.prog 24 #[.string (str x)] w (TxtIs (markB (decB x.length)) w) := by
  have hz := str_size x
  have C := itoa_any hE x.length (by omega)
  have hd : (decB x.length).length ≤ 1000 := by
    have := (digs x.length).2.2.2 6 (by omega)
    exact Nat.le_trans this (by decide)
  have hs := str_size (decB x.length)
  have HX : Hid ((⟨#[123]⟩ : ByteArray) ++ str (decB x.length) ++ ⟨#[43]⟩ ++ ⟨#[125]⟩ = str (markB (decB x.length))) := by
    have e1 : (⟨#[123]⟩ : ByteArray) = str [123] := rfl
    have e2 : (⟨#[43]⟩ : ByteArray) = str [43] := rfl
    have e3 : (⟨#[125]⟩ : ByteArray) = str [125] := rfl
    rw [Hid, e1, e2, e3, app_str, app_str, app_str]
    simp [markB]
  unfold TxtIs at *
  generalize decB x.length = d at *
  go_enter Tryd.func24, Tryd.ntmps24
  go_wp2_with fail
  refine C.mono ?_
  rintro e w1 ⟨rfl, hb⟩
  have HB := hid hb
  clear hb
  go_wp2_with fail
  go_ret
  rw [← HX.out]
  exact ⟨rfl, HB.out⟩
end Go.Proofs.YtikcbgoocljgnaaDoor
