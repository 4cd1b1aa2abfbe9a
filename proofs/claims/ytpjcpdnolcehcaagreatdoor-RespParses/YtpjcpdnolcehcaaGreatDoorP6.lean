/- What this text holds: the chapter's example as plain data; rows that were just built. -/
import Derived.Test.YtpjcpdnolcehcaaGreatDoorM34
import Derived.Test.YtpjcpdnolcehcaaGreatDoorP5
namespace Go.Proofs.YtpjcpdnolcehcaaGreatDoor
open Go.RowKit
set_option linter.unusedVariables false
set_option linter.unusedSimpArgs false

theorem VAt.top {w : World} {N : Nat → Prop} {r : Rw} {v : Vl} (h : VAt w N r v) : VAt w (· < w.heap.size) r v := h.mono (fun q hq _ => hq)
theorem VAt.up {w w' : World} {r : Rw} {v : Vl} (h : VAt w (· < w.heap.size) r v) (hb : Below w.heap.size w w') : VAt w' (· < w'.heap.size) r v := (h.later hb).mono (fun q hq _ => hq)
theorem VsAt.up {w w' : World} {u : Value} {ks : List Vl} (h : VsAt w (· < w.heap.size) u ks) (hb : Below w.heap.size w w') : VsAt w' (· < w'.heap.size) u ks := (h.later hb).mono (fun q hq _ => hq)
theorem LAt.up {α : Type} {E : En α} {w w' : World} {u : Value} {ks : List α} (h : LAt E w (· < w.heap.size) u ks) (hb : Below w.heap.size w w') : LAt E w' (· < w'.heap.size) u ks := (h.kept (Kept.ofBelow hb []) (by simp)).mono (fun q hq _ => hq)
/-- A list that was just built. -/
theorem built {α : Type} (E : En α) (w : World) (l : List α) (n : Nat) (hn : l.length = n) (hl : l.length ≤ 1000000000) (cs : Array Value) (hcs : cs = (E.cs l).toArray) : LAt E (w.alloc (.cells cs E.T)) (· < (w.alloc (.cells cs E.T)).heap.size) (.slice (some ⟨w.heap.size, 0, none⟩) n n) l := by
  subst hn hcs
  exact ⟨(go_made E w l hl).gl, fun _ g hg => by simp [blk] at hg; subst hg; simp⟩
theorem builtV (w : World) (rows : List (Rw × Vl)) (n : Nat) (hn : rows.length = n) (hl : rows.length ≤ 1000000000) (cs : Array Value) (hcs : cs = (eV.cs (rows.map (·.1))).toArray) (h : ∀ p ∈ rows, VAt w (· < w.heap.size) p.1 p.2) :
    VsAt (w.alloc (.cells cs 43)) (· < (w.alloc (.cells cs 43)).heap.size) (.slice (some ⟨w.heap.size, 0, none⟩) n n) (rows.map (·.2)) :=
  VsAt.of (built eV w (rows.map (fun p : Rw × Vl => p.1)) n (by simpa using hn) (by simpa using hl) cs hcs) (fun p hp => (h p hp).up ((Below.refl _ _).alloc (Nat.le_refl _) _))
theorem builtL (w : World) (rows : List (Lw × Ln)) (n : Nat) (hn : rows.length = n) (hl : rows.length ≤ 1000000000) (cs : Array Value) (hcs : cs = (eL.cs (rows.map (·.1))).toArray) (h : ∀ p ∈ rows, LnAt w (· < w.heap.size) p.1 p.2) :
    LsAt (w.alloc (.cells cs 28)) (· < (w.alloc (.cells cs 28)).heap.size) (.slice (some ⟨w.heap.size, 0, none⟩) n n) (rows.map (·.2)) :=
  ⟨rows, built eL w (rows.map (fun p : Lw × Ln => p.1)) n (by simpa using hn) (by simpa using hl) cs hcs, rfl, fun p hp => ((h p hp).later ((Below.refl _ _).alloc (Nat.le_refl _) _)).mono (fun q hq _ => hq)⟩
def nV (n : Int) : Vl := .mk 1 [] n [] []
def aV (s : Bs) : Vl := .mk 2 s 0 [] []
def tV (s : Bs) : Vl := .mk 3 s 0 [] []
def lV' (l : List Vl) : Vl := .mk 4 [] 0 l []
def bSeen : Bs := [92, 83, 101, 101, 110]
def bFLAGS : Bs := [70, 76, 65, 71, 83]
def bFETCH : Bs := [70, 69, 84, 67, 72]
def bTEXT : Bs := [84, 69, 88, 84]
def bBODY : Bs := [66, 79, 68, 89]
def bRW : Bs := [82, 69, 65, 68, 45, 87, 82, 73, 84, 69]
def exS : Vl := .mk 5 bBODY 0 [aV bTEXT] [0]
def exL : Vl := lV' [aV bFLAGS, lV' [aV bSeen], exS, tV [97]]
def exA : Ln := ⟨[42], [nV 3, aV bFETCH, exL], [], [], []⟩
def exB : Ln := ⟨[97, 49], [], [79, 75], [aV bRW], [100, 111, 110, 101]⟩
def exT : Bs := [42, 32, 51, 32, 70, 69, 84, 67, 72, 32, 40, 70, 76, 65, 71, 83, 32, 40, 92, 83, 101, 101, 110, 41, 32, 66, 79, 68, 89, 91, 84, 69, 88, 84, 93, 60, 48, 62, 32, 34, 97, 34, 41, 13, 10, 97, 49, 32, 79, 75, 32, 91, 82, 69, 65, 68, 45, 87, 82, 73, 84, 69, 93, 32, 100, 111, 110, 101, 13, 10]
theorem num_plain (k : Int) (x : Bs) (n : Int) (hn : I64 n) (hx : x.length ≤ 1000000000) : NumV (.mk k x n [] []) := ⟨hn, hx, by simp, trivial, by simp, by simp⟩
theorem i64_0 : I64 0 := by unfold I64; omega
theorem exS_num : NumV exS := ⟨i64_0, by decide, by intro m hm; simp at hm; subst hm; exact i64_0, ⟨num_plain 2 _ 0 i64_0 (by decide), trivial⟩, by decide, by decide⟩
theorem exL_num : NumL [aV bFLAGS, lV' [aV bSeen], exS, tV [97]] := ⟨num_plain 2 _ 0 i64_0 (by decide), ⟨i64_0, by decide, by simp, ⟨num_plain 2 _ 0 i64_0 (by decide), trivial⟩, by decide, by decide⟩, exS_num, num_plain 3 _ 0 i64_0 (by decide), trivial⟩
theorem exA_num : NumN exA := ⟨⟨num_plain 1 _ 3 (by unfold I64; omega) (by decide), num_plain 2 _ 0 i64_0 (by decide), ⟨i64_0, by decide, by simp, exL_num, by decide, by decide⟩, trivial⟩, trivial, by decide, by decide, by decide, by decide, by decide⟩
theorem exB_num : NumN exB := ⟨trivial, ⟨num_plain 2 _ 0 i64_0 (by decide), trivial⟩, by decide, by decide, by decide, by decide, by decide⟩
theorem exA_right : lineB exA = true := by kernel_rfl
theorem exB_right : lineB exB = true := by kernel_rfl
theorem dec3 : decP 3 = [51] := by rw [decP_nat (by omega)]; exact dec_small (by decide)
theorem dec0 : decP 0 = [48] := by rw [decP_nat (by omega)]; exact dec_small (by decide)
theorem ex_text : [exA, exB].flatMap lineT = exT := by
  have e1 : told (nV 3) = [51] := by rw [told_1 rfl]; exact dec3
  have e2 : told exS = bBODY ++ [91] ++ bTEXT ++ [93] ++ ([60] ++ [48] ++ [62]) := by
    rw [told_5 rfl]
    show bBODY ++ [91] ++ toldL [aV bTEXT] ++ [93] ++ fromP [0] = _
    rw [toldL_cons, told_2 rfl]
    simp only [fromP, List.flatMap_cons, List.flatMap_nil, dec0]
    rfl
  have e3 : told exL = [40] ++ (bFLAGS ++ [32] ++ ([40] ++ bSeen ++ [41]) ++ [32] ++ (bBODY ++ [91] ++ bTEXT ++ [93] ++ ([60] ++ [48] ++ [62])) ++ [32] ++ [34, 97, 34]) ++ [41] := by
    rw [told_4 rfl]
    show [40] ++ toldL [aV bFLAGS, lV' [aV bSeen], exS, tV [97]] ++ [41] = _
    have f1 : told (lV' [aV bSeen]) = [40] ++ bSeen ++ [41] := by
      rw [told_4 rfl]
      show [40] ++ toldL [aV bSeen] ++ [41] = _
      rw [toldL_cons, told_2 rfl]
      rfl
    have f2 : told (tV [97]) = [34, 97, 34] := by rw [told_3 rfl]; rfl
    rw [toldL_cons, told_2 rfl]
    simp only [toldS, f1, f2, e2]
    rfl
  have e4 : lineT exA = [42, 32] ++ ([51] ++ [32] ++ bFETCH ++ [32] ++ told exL) ++ [13, 10] := by
    unfold lineT
    rw [if_neg (by decide), if_neg (by decide)]
    show [42] ++ [32] ++ toldL [nV 3, aV bFETCH, exL] ++ [13, 10] = _
    rw [toldL_cons, e1]
    simp only [toldS, told_2 (v := aV bFETCH) rfl]
    simp [aV, Vl.x]
  have e5 : lineT exB = [97, 49, 32, 79, 75, 32] ++ ([91] ++ bRW ++ [93, 32]) ++ [100, 111, 110, 101, 13, 10] := by
    unfold lineT
    rw [if_neg (by decide), if_pos (by decide)]
    show [97, 49] ++ [32] ++ ([79, 75] ++ [32] ++ codeP [aV bRW] ++ [100, 111, 110, 101]) ++ [13, 10] = _
    unfold codeP
    rw [if_neg (by simp), toldL_cons, told_2 rfl]
    rfl
  rw [List.flatMap_cons, List.flatMap_cons, List.flatMap_nil, e4, e5, e3]
  rfl
theorem ex_print : printP [exA, exB] = exT := by
  rw [← ex_text]
  unfold printP
  rw [if_pos]
  simp only [List.all_cons, List.all_nil, exA_right, exB_right, Bool.and_true]
theorem ex_lines : linesP (exT.length + 1) exT = some [exA, exB] := by
  have := (parse_back [exA, exB] (by
    intro l hl
    simp only [List.mem_cons, List.not_mem_nil, or_false] at hl
    rcases hl with rfl | rfl
    · exact ⟨exA_right, exA_num⟩
    · exact ⟨exB_right, exB_num⟩)).1
  rw [ex_print] at this
  exact this
theorem ex_parse : parseP exT = some [exA, exB] := by
  unfold parseP
  rw [ex_lines]
  simp only
  rw [if_pos ex_print]
end Go.Proofs.YtpjcpdnolcehcaaGreatDoor
