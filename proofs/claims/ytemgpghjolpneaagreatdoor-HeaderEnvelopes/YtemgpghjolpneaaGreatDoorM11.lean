/- What this text holds: what is quoted, remarks, angles. -/
import Derived.Test.YtemgpghjolpneaaGreatDoorM10
namespace Go.Proofs.YtemgpghjolpneaaGreatDoor
open Go.RowKit
set_option linter.unusedVariables false
set_option linter.unusedSimpArgs false

theorem c_eq {c k : UInt8} (h : c = k) : (c.toNat : Int) = (k.toNat : Int) := by rw [h]
theorem c_ne {c k : UInt8} (h : c ≠ k) : ¬ (c.toNat : Int) = (k.toNat : Int) := fun e => h (UInt8.toNat_inj.1 (by omega))
theorem RAt.leftN {w : World} {B b : Nat} {l d : Bs} (h : RAt w B b l d) : leftN b w = l.length := leftN_is h.left.1
theorem remP_z (s : Bs) : remP 0 s = s := by cases s <;> rfl
theorem remP_nil (n : Nat) : remP n [] = [] := by cases n <;> rfl
theorem remP_esc0 (n : Nat) : remP (n + 1) [92] = [] := by simp [remP]
theorem remP_esc (n : Nat) (e : UInt8) (t : Bs) : remP (n + 1) (92 :: e :: t) = remP (n + 1) t := by rw [remP.eq_def]; simp
theorem remP_open (n : Nat) (t : Bs) : remP (n + 1) (40 :: t) = remP (n + 2) t := by rw [remP.eq_def]; simp
theorem remP_close (n : Nat) (t : Bs) : remP (n + 1) (41 :: t) = remP n t := by rw [remP.eq_def]; simp
theorem remP_other (n : Nat) (c : UInt8) (t : Bs) (h1 : c ≠ 92) (h2 : c ≠ 40) (h3 : c ≠ 41) : remP (n + 1) (c :: t) = remP (n + 1) t := by rw [remP.eq_def]; simp [h1, h2, h3]

set_option maxRecDepth 100000 in
set_option maxHeartbeats 4000000 in
theorem remark_any {w : World} {B b : Nat} {l d : Bs} (h : RAt w B b l d) (hl : l.length ≤ 10000000) :
    Calls Tryz.prog 71 #[.pointer (some ⟨b, 0, none⟩)] w fun e w' => e = .returned (.tuple #[]) ∧ RAt w' B b (remP 1 l) d ∧ Fr B b w w' := by
  have H0 := hid h
  clear h
  go_enter Tryz.func71, Tryz.ntmps71
  go_wp2_with fail
  go_loopw [2] (fun dp wr => ∃ (n : Nat) (r : Bs), dp = .int .i64 n ∧ RAt wr B b r d ∧ Fr B b w wr ∧ remP n r = remP 1 l ∧ n + r.length ≤ l.length + 1) (fun _ wr => leftN b wr)
  case atStart => exact ⟨1, l, rfl, H0.out, Fr.refl _ _ _, rfl, by omega⟩
  case round =>
    obtain ⟨n, r, rfl, hr, hf, he, hn⟩ := hrel
    have HR := hid hr
    have HF := hid hf
    have HE := hid he
    have HM := hid hr.leftN
    clear hr hf he
    by_cases h0 : n = 0
    · subst h0
      have hz : ¬ ((0 : Nat) : Int) > 0 := by omega
      go_wp2_with fail
      go_end0
      have := HE.out
      rw [remP_z] at this
      rw [← this]
      exact ⟨rfl, HR.out, HF.out⟩
    · obtain ⟨m, rfl⟩ : ∃ m, n = m + 1 := ⟨n - 1, by omega⟩
      have hz : (0 : Int) < ((m + 1 : Nat) : Int) := by omega
      cases r with
      | nil =>
        have HC := hid (more_no_any HR.out.left.1)
        have HD : Hid (remP 1 l = []) := by rw [Hid, ← HE.out, remP_nil]
        go_wp2_with fail
        refine HC.out.mono ?_
        rintro e w1 ⟨rfl, rfl⟩
        go_wp2_with fail
        go_end0
        rw [HD.out]
        exact ⟨rfl, HR.out, HF.out⟩
      | cons c t =>
        have HC := hid (more_yes_any HR.out.left.1)
        simp only [List.length_cons] at hn
        have HNx := hid (HR.out.next_yes (by omega))
        by_cases h1 : c = 92
        · have e1 : (c.toNat : Int) = 92 := c_eq h1
          cases t with
          | nil =>
            have HK : Hid (remP (m + 1) [c] = remP (m + 1) []) := by rw [Hid, h1, remP_esc0, remP_nil]
            clear h1
            go_wp2_with fail
            refine HC.out.mono ?_
            rintro e w1 ⟨rfl, rfl⟩
            go_wp2_with fail
            refine HNx.out.mono ?_
            rintro e w2 ⟨rfl, hr2, hf2⟩
            have HR2 := hid hr2
            have HF2 := hid (HF.out.trans hf2)
            clear hr2 hf2
            go_wp2_with fail
            refine HR2.out.next_no.mono ?_
            rintro e w3 ⟨rfl, rfl⟩
            go_wp2_with fail
            go_roundw
            case rel => exact ⟨m + 1, [], by go_num, HR2.out, HF2.out, by rw [← HK.out]; exact HE.out, by simp; omega⟩
            case measure => rw [HM.out, HR2.out.leftN]; simp only [List.length_cons, List.length_nil]; omega
          | cons e t =>
            simp only [List.length_cons] at hn
            have HK : Hid (remP (m + 1) (c :: e :: t) = remP (m + 1) t) := by rw [Hid, h1, remP_esc]
            clear h1
            go_wp2_with fail
            refine HC.out.mono ?_
            rintro e' w1 ⟨rfl, rfl⟩
            go_wp2_with fail
            refine HNx.out.mono ?_
            rintro e' w2 ⟨rfl, hr2, hf2⟩
            have HR2 := hid hr2
            have HF2 := hid (HF.out.trans hf2)
            clear hr2 hf2
            go_wp2_with fail
            refine (HR2.out.next_yes (by omega)).mono ?_
            rintro e' w3 ⟨rfl, hr3, hf3⟩
            have HR3 := hid hr3
            have HF3 := hid (HF2.out.trans hf3)
            clear hr3 hf3
            go_wp2_with fail
            go_roundw
            case rel => exact ⟨m + 1, t, by go_num, HR3.out, HF3.out, by rw [← HK.out]; exact HE.out, by omega⟩
            case measure => rw [HM.out, HR3.out.leftN]; simp only [List.length_cons, List.length_nil]; omega
        · have e1 : ¬ (c.toNat : Int) = 92 := c_ne h1
          by_cases h2 : c = 40
          · have e2 : (c.toNat : Int) = 40 := c_eq h2
            have HK : Hid (remP (m + 1) (c :: t) = remP (m + 2) t) := by rw [Hid, h2, remP_open]
            clear h1 h2
            go_wp2_with fail
            refine HC.out.mono ?_
            rintro e w1 ⟨rfl, rfl⟩
            go_wp2_with fail
            refine HNx.out.mono ?_
            rintro e w2 ⟨rfl, hr2, hf2⟩
            have HR2 := hid hr2
            have HF2 := hid (HF.out.trans hf2)
            clear hr2 hf2
            go_wp2_with fail
            go_roundw
            case rel => exact ⟨m + 2, t, by go_num, HR2.out, HF2.out, by rw [← HK.out]; exact HE.out, by omega⟩
            case measure => rw [HM.out, HR2.out.leftN]; simp only [List.length_cons, List.length_nil]; omega
          · have e2 : ¬ (c.toNat : Int) = 40 := c_ne h2
            by_cases h3 : c = 41
            · have e3 : (c.toNat : Int) = 41 := c_eq h3
              have HK : Hid (remP (m + 1) (c :: t) = remP m t) := by rw [Hid, h3, remP_close]
              clear h1 h2 h3
              go_wp2_with fail
              refine HC.out.mono ?_
              rintro e w1 ⟨rfl, rfl⟩
              go_wp2_with fail
              refine HNx.out.mono ?_
              rintro e w2 ⟨rfl, hr2, hf2⟩
              have HR2 := hid hr2
              have HF2 := hid (HF.out.trans hf2)
              clear hr2 hf2
              go_wp2_with fail
              go_roundw
              case rel => exact ⟨m, t, by go_num, HR2.out, HF2.out, by rw [← HK.out]; exact HE.out, by omega⟩
              case measure => rw [HM.out, HR2.out.leftN]; simp only [List.length_cons, List.length_nil]; omega
            · have e3 : ¬ (c.toNat : Int) = 41 := c_ne h3
              have HK : Hid (remP (m + 1) (c :: t) = remP (m + 1) t) := by rw [Hid, remP_other m c t h1 h2 h3]
              clear h1 h2 h3
              go_wp2_with fail
              refine HC.out.mono ?_
              rintro e w1 ⟨rfl, rfl⟩
              go_wp2_with fail
              refine HNx.out.mono ?_
              rintro e w2 ⟨rfl, hr2, hf2⟩
              have HR2 := hid hr2
              have HF2 := hid (HF.out.trans hf2)
              clear hr2 hf2
              go_wp2_with fail
              go_roundw
              case rel => exact ⟨m + 1, t, by go_num, HR2.out, HF2.out, by rw [← HK.out]; exact HE.out, by omega⟩
              case measure => rw [HM.out, HR2.out.leftN]; simp only [List.length_cons, List.length_nil]; omega

def hdI : Bs → Int
  | [] => 0
  | c :: _ => c.toNat
def boolN : Value → Nat
  | .bool true => 1
  | _ => 0
theorem tail_len (q : Bs) : q.tail.length + boolN (.bool (decide (q ≠ []))) = q.length := by
  cases q with
  | nil => rfl
  | cons c t => simp [boolN]
/-- The next byte, if there is one. -/
theorem RAt.next {w : World} {B b : Nat} {q d : Bs} (h : RAt w B b q d) (hl : q.length ≤ 10000000) :
    Calls Tryz.prog 47 #[.pointer (some ⟨b, 0, none⟩)] w fun e w' => e = .returned (.tuple #[.int .u8 (hdI q), .bool (decide (q ≠ []))]) ∧ RAt w' B b q.tail d ∧ Fr B b w w' := by
  cases q with
  | nil =>
    refine h.next_no.mono ?_
    rintro e w' ⟨rfl, rfl⟩
    exact ⟨by simp [hdI], h, Fr.refl _ _ _⟩
  | cons c t =>
    refine (h.next_yes (by simp at hl; omega)).mono ?_
    rintro e w' ⟨rfl, h1, h2⟩
    exact ⟨by simp [hdI], h1, h2⟩
theorem say_at {w : World} {B b : Nat} {l d : Bs} (h : RAt w B b l d) (c : UInt8) (x : Int) (hx : x = c.toNat) (h1 : d.length ≤ 100000000) :
    Calls Tryz.prog 72 #[.pointer (some ⟨b, 1, none⟩), .slice (some ⟨w.heap.size, 0, none⟩) 1 1] (w.alloc (.cells #[.int .u8 x] 5)) fun e w' => e = .returned (.tuple #[]) ∧ RAt w' B b l (d ++ [c]) ∧ Fr B b w w' := by
  subst hx
  have hal : Below w.heap.size w (w.alloc (.cells #[.int .u8 c.toNat] 5)) := (Below.refl _ _).alloc (Nat.le_refl _) _
  refine (say_any (h.later hal) c (by simp only [World.cell?, heap_alloc_new]; rfl) h1).mono ?_
  rintro e w' ⟨rfl, h2, h3⟩
  exact ⟨rfl, h2, (Fr.of hal h.base_le).trans h3⟩
theorem quoP_end (t : Bs) : quoP (34 :: t) = ([], t) := by rw [quoP.eq_def]; simp
theorem quoP_esc0 : quoP [92] = ([92], []) := by rw [quoP.eq_def]; simp
theorem quoP_esc (e : UInt8) (t : Bs) : quoP (92 :: e :: t) = (e :: (quoP t).1, (quoP t).2) := by rw [quoP.eq_def]; simp
theorem quoP_other (c : UInt8) (t : Bs) (h1 : c ≠ 34) (h2 : c ≠ 92) : quoP (c :: t) = (c :: (quoP t).1, (quoP t).2) := by rw [quoP.eq_def]; simp [h1, h2]
theorem quoP_nil : quoP [] = ([], []) := rfl

set_option maxRecDepth 100000 in
set_option maxHeartbeats 4000000 in
theorem quoted_any {w : World} {B b : Nat} {l d : Bs} (h : RAt w B b l d) (hl : l.length ≤ 4000000) (hd : d.length ≤ 4000000) :
    Calls Tryz.prog 70 #[.pointer (some ⟨b, 0, none⟩)] w fun e w' => e = .returned (.tuple #[]) ∧ RAt w' B b (quoP l).2 (d ++ (quoP l).1) ∧ Fr B b w w' := by
  have HNx := hid (h.next (by omega))
  clear h
  go_enter Tryz.func70, Tryz.ntmps70
  go_wp2_with fail
  refine HNx.out.mono ?_
  rintro e w0 ⟨rfl, hr0, hf0⟩
  have HR0 := hid hr0
  have HF0 := hid hf0
  clear hr0 hf0 HNx
  go_wp2_with fail
  go_loopw [2, 3] (fun bv iv wr => ∃ (q dd : Bs), bv = .int .u8 (hdI q) ∧ iv = .bool (decide (q ≠ [])) ∧ RAt wr B b q.tail dd ∧ Fr B b w wr ∧ (quoP q).2 = (quoP l).2 ∧ dd ++ (quoP q).1 = d ++ (quoP l).1 ∧ dd.length + q.length ≤ d.length + l.length) (fun _ iv wr => leftN b wr + boolN iv)
  case atStart => exact ⟨l, d, rfl, by simp, HR0.out, HF0.out, rfl, rfl, by omega⟩
  case round =>
    obtain ⟨q, dd, rfl, rfl, hr, hf, he1, he2, hn⟩ := hrel
    have HR := hid hr
    have HF := hid hf
    have HE1 := hid he1
    have HE2 := hid he2
    have HM : Hid (leftN b wr + boolN (.bool (decide (q ≠ []))) = q.length) := by rw [Hid, hr.leftN]; exact tail_len q
    clear hr hf he1 he2 HR0 HF0
    cases q with
    | nil =>
      have hz : decide (([] : Bs) ≠ []) = false := by simp
      rw [hz]
      go_wp2_with fail
      go_end0
      rw [← HE1.out, ← HE2.out, quoP_nil, List.append_nil]
      exact ⟨rfl, HR.out, HF.out⟩
    | cons c t =>
      have hz : decide (c :: t ≠ []) = true := by simp
      rw [hz] at HM ⊢
      have hh : hdI (c :: t) = (c.toNat : Int) := rfl
      rw [hh]
      clear hh hz
      simp only [List.length_cons, List.tail_cons] at hn HR HM
      by_cases h1 : c = 34
      · have e1 : (c.toNat : Int) = 34 := c_eq h1
        have HK : Hid (quoP (c :: t) = ([], t)) := by rw [Hid, h1, quoP_end]
        clear h1
        go_wp2_with fail
        go_end0
        rw [← HE1.out, ← HE2.out, HK.out, List.append_nil]
        exact ⟨rfl, HR.out, HF.out⟩
      · have e1 : ¬ (c.toNat : Int) = 34 := c_ne h1
        by_cases h2 : c = 92
        · have e2 : (c.toNat : Int) = 92 := c_eq h2
          cases t with
          | nil =>
            have HK : Hid (quoP [c] = ([c], [])) := by rw [Hid, h2, quoP_esc0]
            have HC := hid (more_no_any HR.out.left.1)
            have HS := hid (say_at HR.out c 92 e2.symm (by omega))
            clear h1 h2
            go_wp2_with fail
            refine HC.out.mono ?_
            rintro e w1 ⟨rfl, rfl⟩
            go_wp2_with fail
            refine HS.out.mono ?_
            rintro e w2 ⟨rfl, hr2, hf2⟩
            have HR2 := hid hr2
            have HF2 := hid (HF.out.trans hf2)
            clear hr2 hf2
            go_wp2_with fail
            refine HR2.out.next_no.mono ?_
            rintro e w3 ⟨rfl, rfl⟩
            go_wp2_with fail
            go_roundw
            case rel => exact ⟨[], dd ++ [c], rfl, by simp, HR2.out, HF2.out, by rw [← HE1.out, HK.out]; rfl, by rw [← HE2.out, HK.out]; simp [quoP_nil], by simp at hn ⊢; omega⟩
            case measure => rw [HM.out, HR2.out.leftN]; simp [boolN]
          | cons e t =>
            simp only [List.length_cons] at hn HM
            have HK : Hid (quoP (c :: e :: t) = (e :: (quoP t).1, (quoP t).2)) := by rw [Hid, h2, quoP_esc]
            have HC := hid (more_yes_any HR.out.left.1)
            have HNx := hid (HR.out.next_yes (by omega))
            clear h1 h2
            go_wp2_with fail
            refine HC.out.mono ?_
            rintro e' w1 ⟨rfl, rfl⟩
            go_wp2_with fail
            refine HNx.out.mono ?_
            rintro e' w2 ⟨rfl, hr2, hf2⟩
            have HR2 := hid hr2
            have HF2 := hid (HF.out.trans hf2)
            clear hr2 hf2
            go_wp2_with fail
            refine (say_at HR2.out e e.toNat rfl (by omega)).mono ?_
            rintro e' w3 ⟨rfl, hr3, hf3⟩
            have HR3 := hid hr3
            have HF3 := hid (HF2.out.trans hf3)
            clear hr3 hf3
            go_wp2_with fail
            refine (HR3.out.next (by omega)).mono ?_
            rintro e' w4 ⟨rfl, hr4, hf4⟩
            have HR4 := hid hr4
            have HF4 := hid (HF3.out.trans hf4)
            have HM4 : Hid (leftN b w4 + boolN (.bool (decide (t ≠ []))) = t.length) := by rw [Hid, hr4.leftN]; exact tail_len t
            clear hr4 hf4
            go_wp2_with fail
            go_roundw
            case rel => exact ⟨t, dd ++ [e], rfl, by simp, HR4.out, HF4.out, by rw [← HE1.out, HK.out], by rw [← HE2.out, HK.out]; simp, by simp at hn ⊢; omega⟩
            case measure => have := HM4.out; rw [HM.out]; simp at this ⊢; omega
        · have e2 : ¬ (c.toNat : Int) = 92 := c_ne h2
          have HK : Hid (quoP (c :: t) = (c :: (quoP t).1, (quoP t).2)) := by rw [Hid, quoP_other c t h1 h2]
          have HS := hid (say_at HR.out c c.toNat rfl (by omega))
          clear h1 h2
          go_wp2_with fail
          refine HS.out.mono ?_
          rintro e w2 ⟨rfl, hr2, hf2⟩
          have HR2 := hid hr2
          have HF2 := hid (HF.out.trans hf2)
          clear hr2 hf2
          go_wp2_with fail
          refine (HR2.out.next (by omega)).mono ?_
          rintro e' w4 ⟨rfl, hr4, hf4⟩
          have HR4 := hid hr4
          have HF4 := hid (HF2.out.trans hf4)
          have HM4 : Hid (leftN b w4 + boolN (.bool (decide (t ≠ []))) = t.length) := by rw [Hid, hr4.leftN]; exact tail_len t
          clear hr4 hf4
          go_wp2_with fail
          go_roundw
          case rel => exact ⟨t, dd ++ [c], rfl, by simp, HR4.out, HF4.out, by rw [← HE1.out, HK.out], by rw [← HE2.out, HK.out]; simp, by simp at hn ⊢; omega⟩
          case measure => have := HM4.out; rw [HM.out]; simp at this ⊢; omega

set_option maxRecDepth 100000 in
set_option maxHeartbeats 4000000 in
theorem part_any {w : World} {B b : Nat} {l d : Bs} (h : RAt w B b l d) (c : UInt8) (hl : l.length ≤ 4000000) (hd : d.length ≤ 4000000) :
    Calls Tryz.prog 50 #[.pointer (some ⟨b, 0, none⟩), .int .u8 c.toNat] w fun e w' => e = .returned (.tuple #[]) ∧ RAt w' B b (parP c l).2 (d ++ (parP c l).1) ∧ Fr B b w w' := by
  by_cases h1 : c = 34
  · have e1 : (c.toNat : Int) = 34 := c_eq h1
    have HK : Hid (parP c l = quoP l) := by unfold parP; rw [if_pos h1]; rfl
    rw [HK.out]
    have HC := hid (quoted_any h hl hd)
    clear h h1
    go_enter Tryz.func50, Tryz.ntmps50
    go_wp2_with fail
    refine HC.out.mono ?_
    rintro e w1 ⟨rfl, hr, hf⟩
    have HR := hid hr
    have HF := hid hf
    clear hr hf
    go_wp2_with fail
    go_end0
    exact ⟨rfl, HR.out, HF.out⟩
  · have e1 : ¬ (c.toNat : Int) = 34 := c_ne h1
    by_cases h2 : c = 40
    · have e2 : (c.toNat : Int) = 40 := c_eq h2
      have HK : Hid (parP c l = ([], remP 1 l)) := by unfold parP; rw [if_neg h1, if_pos h2]; rfl
      rw [HK.out, List.append_nil]
      have HC := hid (remark_any h (by omega))
      clear h h1 h2
      go_enter Tryz.func50, Tryz.ntmps50
      go_wp2_with fail
      refine HC.out.mono ?_
      rintro e w1 ⟨rfl, hr, hf⟩
      have HR := hid hr
      have HF := hid hf
      clear hr hf
      go_wp2_with fail
      go_end0
      exact ⟨rfl, HR.out, HF.out⟩
    · have e2 : ¬ (c.toNat : Int) = 40 := c_ne h2
      have HK : Hid (parP c l = ([c], l)) := by unfold parP; rw [if_neg h1, if_neg h2]; rfl
      rw [HK.out]
      have HC := hid (say_at h c c.toNat rfl (by omega))
      clear h h1 h2
      go_enter Tryz.func50, Tryz.ntmps50
      go_wp2_with fail
      refine HC.out.mono ?_
      rintro e w1 ⟨rfl, hr, hf⟩
      have HR := hid hr
      have HF := hid hf
      clear hr hf
      go_wp2_with fail
      go_end0
      exact ⟨rfl, HR.out, HF.out⟩

set_option maxRecDepth 100000 in
set_option maxHeartbeats 4000000 in
theorem angle_any {w : World} {B b : Nat} {l d : Bs} (h : RAt w B b l d) (hl : l.length ≤ 1000000) (hd : d.length ≤ 1000000) :
    Calls Tryz.prog 49 #[.pointer (some ⟨b, 0, none⟩)] w fun e w' => e = .returned (.tuple #[]) ∧ RAt w' B b (angP l).2 (d ++ (angP l).1) ∧ Fr B b w w' := by
  have HNx := hid (h.next (by omega))
  clear h
  go_enter Tryz.func49, Tryz.ntmps49
  go_wp2_with fail
  refine HNx.out.mono ?_
  rintro e w0 ⟨rfl, hr0, hf0⟩
  have HR0 := hid hr0
  have HF0 := hid hf0
  clear hr0 hf0 HNx
  go_wp2_with fail
  go_loopw [2, 3] (fun bv iv wr => ∃ (q dd : Bs), bv = .int .u8 (hdI q) ∧ iv = .bool (decide (q ≠ [])) ∧ RAt wr B b q.tail dd ∧ Fr B b w wr ∧ (angP q).2 = (angP l).2 ∧ dd ++ (angP q).1 = d ++ (angP l).1 ∧ dd.length + q.length ≤ d.length + l.length) (fun _ iv wr => leftN b wr + boolN iv)
  case atStart => exact ⟨l, d, rfl, by simp, HR0.out, HF0.out, rfl, rfl, by omega⟩
  case round =>
    obtain ⟨q, dd, rfl, rfl, hr, hf, he1, he2, hn⟩ := hrel
    have HR := hid hr
    have HF := hid hf
    have HE1 := hid he1
    have HE2 := hid he2
    have HM : Hid (leftN b wr + boolN (.bool (decide (q ≠ []))) = q.length) := by rw [Hid, hr.leftN]; exact tail_len q
    clear hr hf he1 he2 HR0 HF0
    cases q with
    | nil =>
      have hz : decide (([] : Bs) ≠ []) = false := by simp
      rw [hz]
      go_wp2_with fail
      go_end0
      rw [← HE1.out, ← HE2.out, angP_nil, List.append_nil]
      exact ⟨rfl, HR.out, HF.out⟩
    | cons c t =>
      have hz : decide (c :: t ≠ []) = true := by simp
      rw [hz] at HM ⊢
      have hh : hdI (c :: t) = (c.toNat : Int) := rfl
      rw [hh]
      clear hh hz
      simp only [List.length_cons, List.tail_cons] at hn HR HM
      by_cases h1 : c = 62
      · have e1 : (c.toNat : Int) = 62 := c_eq h1
        have HK : Hid (angP (c :: t) = ([], t)) := by rw [Hid, h1, angP_end]
        clear h1
        go_wp2_with fail
        go_end0
        rw [← HE1.out, ← HE2.out, HK.out, List.append_nil]
        exact ⟨rfl, HR.out, HF.out⟩
      · have e1 : ¬ (c.toNat : Int) = 62 := c_ne h1
        have HK := hid (angP_step c t h1)
        have hpl := parP_len c t
        have hpt := parP_lt c t
        have HP := hid (part_any HR.out c (by omega) (by omega))
        clear h1
        generalize parP c t = pp at *
        go_wp2_with fail
        refine HP.out.mono ?_
        rintro e w2 ⟨rfl, hr2, hf2⟩
        have HR2 := hid hr2
        have HF2 := hid (HF.out.trans hf2)
        clear hr2 hf2
        go_wp2_with fail
        refine (HR2.out.next (by omega)).mono ?_
        rintro e' w4 ⟨rfl, hr4, hf4⟩
        have HR4 := hid hr4
        have HF4 := hid (HF2.out.trans hf4)
        have HM4 : Hid (leftN b w4 + boolN (.bool (decide (pp.2 ≠ []))) = pp.2.length) := by rw [Hid, hr4.leftN]; exact tail_len pp.2
        clear hr4 hf4
        go_wp2_with fail
        go_roundw
        case rel => exact ⟨pp.2, dd ++ pp.1, rfl, by simp, HR4.out, HF4.out, by rw [← HE1.out, HK.out], by rw [← HE2.out, HK.out]; simp, by simp at hn ⊢; omega⟩
        case measure => have := HM4.out; rw [HM.out]; simp at this ⊢; omega
end Go.Proofs.YtemgpghjolpneaaGreatDoor
