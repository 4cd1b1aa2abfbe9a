/- What this text holds: the program's reader: takes, need, blanks, gap, end. -/
import Derived.Test.YtnjdgbbdjkhpoaaDoorS2
namespace Go.Proofs.YtnjdgbbdjkhpoaaDoor
open Go.RowKit
set_option linter.unusedVariables false
set_option linter.unusedSimpArgs false

theorem has_len {l b : Bs} (h : hasP l b = true) : b.length ≤ l.length := by
  rcases Nat.lt_or_ge l.length b.length with h' | h'
  · rw [has_short h'] at h; cases h
  · exact h'
theorem RAt.more {w v : World} {b : Nat} {s : Rd} (h : RAt w b s) (hv : ∃ n, v = w.drewN n) : RAt v b s := by obtain ⟨n, rfl⟩ := hv; exact h.drewN n
theorem Kept.more {w v : World} {S : List Nat} (hv : ∃ n, v = w.drewN n) : Kept S w v := by obtain ⟨n, rfl⟩ := hv; exact Kept.drewN S w n

set_option maxRecDepth 100000 in
set_option maxHeartbeats 1000000 in
theorem takes_yes {w : World} {b : Nat} {l : Bs} {t : Dt} (h : RAt w b ⟨l, t⟩) (x : Bs) (h1 : l.length ≤ 1000000) (hq : hasP l x = true) :
    Calls Tryd.prog 74 #[.pointer (some ⟨b, 0, none⟩), .string (str x)] w fun e w' => e = .returned (.bool true) ∧ RAt w' b ⟨l.drop x.length, t⟩ ∧ Kept [b] w w' := by
  have hsl := str_size l
  have hsx := str_size x
  have hle := has_len hq
  have hle' : (x.length : Int) ≤ l.length := by omega
  have HD : Hid (∀ m, (str l).extract m l.length = str (l.drop m)) := fun m => by rw [← str_size]; exact drop_str l m
  have H := hid h
  go_enter Tryd.func74, Tryd.ntmps74
  go_wp2_with fail
  refine (has_any H.out x h1 (by simp at *; omega)).mono ?_
  simp only [hq]
  rintro e w1 ⟨rfl, hw⟩
  have H1 := hid (H.out.more hw)
  have HK := hid (Kept.more (S := [b]) hw)
  have c0 := H1.out.c0
  have f0 := H1.out.fz 0
  clear hw h
  go_wp2_with fail
  go_ret
  rw [HD.out]
  exact ⟨rfl, H1.out.setL _, HK.out.trans1 (Kept.setCell _ _ _ _ (by simp))⟩

set_option maxRecDepth 100000 in
set_option maxHeartbeats 1000000 in
theorem takes_no {w : World} {b : Nat} {l : Bs} {t : Dt} (h : RAt w b ⟨l, t⟩) (x : Bs) (h1 : l.length ≤ 1000000) (h2 : x.length ≤ 1000000) (hq : hasP l x = false) :
    Calls Tryd.prog 74 #[.pointer (some ⟨b, 0, none⟩), .string (str x)] w fun e w' => e = .returned (.bool false) ∧ RAt w' b ⟨l, t⟩ ∧ Kept [b] w w' := by
  have H := hid h
  go_enter Tryd.func74, Tryd.ntmps74
  go_wp2_with fail
  refine (has_any H.out x h1 h2).mono ?_
  simp only [hq]
  rintro e w1 ⟨rfl, hw⟩
  have H1 := hid (H.out.more hw)
  have HK := hid (Kept.more (S := [b]) hw)
  clear hw h
  go_wp2_with fail
  go_ret
  exact ⟨rfl, H1.out, HK.out⟩

set_option maxRecDepth 100000 in
set_option maxHeartbeats 1000000 in
theorem need_yes {w : World} {b : Nat} {l : Bs} {t : Dt} (h : RAt w b ⟨l, t⟩) (x : Bs) (h1 : l.length ≤ 1000000) (hq : hasP l x = true) :
    Calls Tryd.prog 71 #[.pointer (some ⟨b, 0, none⟩), .string (str x)] w fun e w' => e = .returned (.tuple #[]) ∧ RAt w' b ⟨l.drop x.length, t⟩ ∧ Kept [b] w w' := by
  have H := hid h
  clear h
  go_enter Tryd.func71, Tryd.ntmps71
  go_wp2_with fail
  refine (takes_yes H.out x h1 hq).mono ?_
  rintro e w1 ⟨rfl, h1, hk⟩
  have H1 := hid h1
  have HK := hid hk
  clear h1 hk
  go_wp2_with fail
  go_end0
  exact ⟨rfl, H1.out, HK.out⟩

set_option maxRecDepth 100000 in
set_option maxHeartbeats 1000000 in
theorem need_no {w : World} {b : Nat} {l : Bs} {t : Dt} (h : RAt w b ⟨l, t⟩) (x : Bs) (h1 : l.length ≤ 1000000) (h2 : x.length ≤ 1000000) (hq : hasP l x = false) :
    Calls Tryd.prog 71 #[.pointer (some ⟨b, 0, none⟩), .string (str x)] w fun e w' => e = .panicked faultC ∧ Kept [b] w w' := by
  have H := hid h
  clear h
  go_enter Tryd.func71, Tryd.ntmps71
  go_wp2_with fail
  refine (takes_no H.out x h1 h2 hq).mono ?_
  rintro e w1 ⟨rfl, h1, hk⟩
  have HK := hid hk
  clear h1 hk
  go_wp2_with fail
  refine (stop_any _).mono ?_
  rintro e w2 ⟨rfl, rfl⟩
  exact ⟨rfl, rfl, HK.out⟩
end Go.Proofs.YtnjdgbbdjkhpoaaDoor
