/- What this text holds: the document's words for the one way of a set. -/
import Derived.Test.YtiiegjdclpkeeaaGreatDoorD5
import Derived.Test.YtiiegjdclpkeeaaGreatDoorM11
namespace Go.Proofs.YtiiegjdclpkeeaaGreatDoor
open Go.RowKit
set_option linter.unusedVariables false
set_option linter.unusedSimpArgs false

def measG (h g : Value) : Nat := 2 * (mx - intOf h).toNat + (match g with | .bool true => 1 | _ => 0)
theorem lo_yes {lo x : Int} (h : 0 < x ∧ (lo < 0 ∨ x < lo)) : loStep lo x = x := if_pos h
theorem lo_no {lo x : Int} (h : ¬ (0 < x ∧ (lo < 0 ∨ x < lo))) : loStep lo x = lo := if_neg h
theorem linv_0 (most at_ : Int) : LInv [] most at_ (-1) := .inl ⟨rfl, fun n _ h => by obtain ⟨_, _, s, hs, _⟩ := h; simp at hs⟩
theorem linv_sign {l : List Sp} {most at_ lo : Int} (h0 : 0 ≤ at_) (h : LInv l most at_ lo) : lo = -1 ∨ (1 ≤ lo ∧ lo ≤ mx) := by
  rcases h with ⟨e, _⟩ | ⟨h1, h2, _⟩
  · exact .inl e
  · exact .inr ⟨h2.1, h2.2.1⟩
theorem grow_no1 {s : Sp} {most hi : Int} (h : ¬ hi < endD s most) : growB s most hi = false := by unfold growB; simp [h]
theorem grow_no2 {s : Sp} {most hi : Int} (h1 : covB s hi most = false) (h2 : covB s (hi + 1) most = false) : growB s most hi = false := by unfold growB; simp [h1, h2]
theorem grow_yes {s : Sp} {most hi : Int} (h : hi < endD s most) (h1 : covB s hi most = true ∨ covB s (hi + 1) most = true) : growB s most hi = true := by unfold growB; rcases h1 with h1 | h1 <;> simp [h, h1]
theorem take_grow {l : List Sp} {most hi : Int} {k : Nat} (hk : k < l.length) (h : ∀ s ∈ l.take k, growB s most hi = false) (hx : growB l[k] most hi = false) : ∀ s ∈ l.take (k + 1), growB s most hi = false := by
  intro s hs
  rw [List.take_succ_eq_append_getElem hk] at hs
  rcases List.mem_append.1 hs with hs | hs
  · exact h s hs
  · rw [List.mem_singleton] at hs; rw [hs]; exact hx
theorem linv_next {l : List Sp} {most at_ lo : Int} {k : Nat} (hk : k < l.length) (h0 : 0 ≤ at_) (h : LInv (l.take k) most at_ lo) : LInv (l.take (k + 1)) most at_ (loStep lo (leastD l[k] most at_)) := by
  rw [List.take_succ_eq_append_getElem hk]; exact linv_step h0 h _
theorem all_one {l : List Sp} {most at_ lo : Int} (h : LInv l most at_ lo) (hlo : 0 ≤ lo) : All l most lo lo := by
  rcases h with ⟨e, _⟩ | ⟨h1, h2, _⟩
  · omega
  · exact ⟨Int.le_refl _, h2.2.1, fun n h3 h4 => by rw [show n = lo by omega]; exact h2⟩
/-- Spans from 0 on. -/
def Pos (l : List Sp) : Prop := ∀ s ∈ l, 0 ≤ s.1 ∧ 0 ≤ s.2
/-- What stands in the round of growing. -/
def GInv (l : List Sp) (most hi hi' : Int) (k : Nat) (g : Bool) : Prop := (g = false ∧ hi' = hi ∧ ∀ s ∈ l.take k, growB s most hi = false) ∨ (g = true ∧ hi < hi')
set_option maxRecDepth 100000 in
set_option maxHeartbeats 16000000 in
theorem rnorm_any {w : World} {v : Value} {l : List Sp} (h : GL eSp w v l) (hl : l.length ≤ 1000000) (most : Int) (hpos : Pos l) : Calls Tryz.prog 23 #[v, .int .i64 most] w (NormIs l most w) := by
  obtain ⟨a, c, rfl, hg, hc⟩ := gl_slice h
  have HG := hid hg
  have HP := hid hpos
  clear hg h hpos
  go_enter Tryz.func23, Tryz.ntmps23
  go_wp2_with fail
  go_loopw [5, 6] (fun v t wr => ∃ (out : List Sp) (at_ : Int), t = .int .i64 at_ ∧ GO eSp wr w.heap.size v out ∧ NInv l most at_ out ∧ Below w.heap.size w wr) (fun _ t _ => (mx - intOf t).toNat)
  case atStart => exact ⟨[], 0, rfl, GO.nil _ _ _, ninv_0 l most, Below.refl _ _⟩
  case round =>
    obtain ⟨out, at_, rfl, ho, hn, hb⟩ := hrel
    have HO := hid ho
    have HN := hid hn
    have HB := hid hb
    have hat0 : 0 ≤ at_ := hn.2.2.1
    have hat1 : at_ ≤ 4294967295 := hn.2.2.2.1
    have hol : out.length ≤ l.length := Nat.le_trans hn.2.2.2.2.2 List.countP_le_length
    clear ho hn hb
    go_wp2_with fail
    go_loopw [7, 8] (fun p i wr2 => ∃ (k : Nat) (lo : Int), k ≤ l.length ∧ i = .int .i64 k ∧ p = .int .i64 lo ∧ LInv (l.take k) most at_ lo ∧ Below wr.heap.size wr wr2) (fun _ i _ => l.length - (intOf i).toNat)
    case atStart => exact ⟨0, -1, by omega, rfl, rfl, linv_0 most at_, Below.refl _ _⟩
    case round =>
      obtain ⟨k, lo, hk, rfl, rfl, hli, hb2⟩ := hrel
      rename_i wo
      have HLi := hid hli
      have HB2 := hid hb2
      have HSg := hid (linv_sign hat0 hli)
      clear hli hb2
      by_cases hlt : k < l.length
      · have hlt' : (k : Int) < l.length := by omega
        have hk0 : (0 : Int) ≤ k := by omega
        have hne : l ≠ [] := by rintro rfl; simp at hlt
        obtain ⟨g, o, rfl, hga, hgz⟩ := HG.out hne
        obtain ⟨hc0, hc1⟩ := ((hga.later HB.out).later HB2.out).sp k l[k] (List.getElem?_eq_getElem hlt)
        obtain ⟨hp1, hp2⟩ := HP.out l[k] (List.getElem_mem hlt)
        have HNx := hid (linv_next hlt hat0 HLi.out)
        clear hga hne
        generalize l[k] = s at *
        obtain ⟨x, y⟩ := s
        simp only at hc0 hc1 hp1 hp2
        have C := rleast_any x y most at_ wr hp1 hp2 hat0 hat1
        generalize leastD (x, y) most at_ = q at *
        go_wp2_with fail
        refine C.mono ?_
        clear C
        rintro e w3 ⟨rfl, hb3⟩
        have HB3 := hid (HB2.out.trans (hb3.mono HB2.out.size))
        clear hb3
        by_cases q1 : 0 < q
        · have d1 : decide (0 < q) = true := by simpa using q1
          by_cases q2 : lo < 0
          · have d2 : decide (lo < 0) = true := by simpa using q2
            have HV := hid (lo_yes (lo := lo) (x := q) ⟨q1, .inl q2⟩)
            rw [HV.out] at HNx
            go_wp2_with fail
            go_roundw
            case rel => exact ⟨k + 1, q, by omega, by go_num, rfl, HNx.out, HB3.out⟩
            case measure => simp [intOf]; omega
          · have d2 : decide (lo < 0) = false := by simpa using q2
            by_cases q3 : q < lo
            · have d3 : decide (q < lo) = true := by simpa using q3
              have HV := hid (lo_yes (lo := lo) (x := q) ⟨q1, .inr q3⟩)
              rw [HV.out] at HNx
              go_wp2_with fail
              go_roundw
              case rel => exact ⟨k + 1, q, by omega, by go_num, rfl, HNx.out, HB3.out⟩
              case measure => simp [intOf]; omega
            · have d3 : decide (q < lo) = false := by simpa using q3
              have HV := hid (lo_no (lo := lo) (x := q) (by omega))
              rw [HV.out] at HNx
              go_wp2_with fail
              go_roundw
              case rel => exact ⟨k + 1, lo, by omega, by go_num, rfl, HNx.out, HB3.out⟩
              case measure => simp [intOf]; omega
        · have d1 : decide (0 < q) = false := by simpa using q1
          have HV := hid (lo_no (lo := lo) (x := q) (by omega))
          rw [HV.out] at HNx
          go_wp2_with fail
          go_roundw
          case rel => exact ⟨k + 1, lo, by omega, by go_num, rfl, HNx.out, HB3.out⟩
          case measure => simp [intOf]; omega
      · have hlt' : ¬ (k : Int) < l.length := by omega
        have e : l.take k = l := List.take_of_length_le (by omega)
        rw [e] at HLi
        have HBo := hid (HB.out.trans (HB2.out.mono HB.out.size))
        have HOo := hid (HO.out.later HB2.out)
        by_cases hlo : lo < 0
        · have HF := hid (ninv_end HN.out HLi.out hlo)
          go_wp2_with fail
          go_ret
          exact ⟨⟨_, out, rfl, HOo.out, HF.out.1, HF.out.2.1, HF.out.2.2⟩, HBo.out⟩
        · have HA0 := hid (all_one HLi.out (by omega))
          have hlo1 : 1 ≤ lo := by rcases HSg.out with e | e <;> omega
          go_wp2_with fail
          go_loopw [10, 11] (fun p q w5 => ∃ (hi : Int) (g : Bool), p = .int .i64 hi ∧ q = .bool g ∧ All l most lo hi ∧ (g = false → ∀ s ∈ l, growB s most hi = false) ∧ Below w.heap.size w w5 ∧ Below wr.heap.size wr w5) (fun p q _ => measG p q)
          case atStart => exact ⟨lo, true, rfl, rfl, HA0.out, fun h => by simp at h, HBo.out, Below.refl _ _⟩
          case round =>
            obtain ⟨hi, g, rfl, rfl, hal, hgf, hb5, hb6⟩ := hrel
            rename_i wl
            have HAl := hid hal
            have HGf := hid hgf
            have HB5 := hid hb5
            have HB6 := hid hb6
            have hhi1 : hi ≤ 4294967295 := hal.2.1
            have hhi0 : lo ≤ hi := hal.1
            clear hal hgf hb5 hb6
            cases g with
            | false =>
              have HNo := hid (grown_no hlo1 HAl.out (HGf.out rfl))
              obtain ⟨hns, hgt⟩ := ninv_step HN.out HLi.out (by omega) HAl.out HNo.out
              have HNs := hid hns
              have HO5 := hid (HOo.out.later HB6.out)
              clear hns
              obtain ⟨v', w', hr', ho', hb', _⟩ := go_one eSp HO5.out HB5.out.size (by omega) (lo, hi) wr.heap.size rfl
              have HR' := hid hr'
              have HO' := hid ho'
              have HB' := hid (HB5.out.trans hb')
              clear hr' ho' hb'
              obtain ⟨a0, c0, hv0⟩ := HO5.out.slice (n := out.length) rfl
              obtain ⟨a5, c5, hv5⟩ := HO'.out.slice (n := out.length + 1) (by simp)
              subst hv0 hv5
              go_wp2_with (at_builtin; refine wpList_append_run rfl rfl HR'.out ?_)
              go_roundw
              case rel => exact ⟨_, hi, rfl, HO'.out, HNs.out, HB'.out⟩
              case measure => simp [intOf]; unfold mx; omega
            | true =>
              go_wp2_with fail
              go_loopw [10, 11, 12] (fun p q i w6 => ∃ (k : Nat) (h4 : Int) (g4 : Bool), k ≤ l.length ∧ i = .int .i64 k ∧ p = .int .i64 h4 ∧ q = .bool g4 ∧ All l most lo h4 ∧ GInv l most hi h4 k g4 ∧ Below wr.heap.size wr w6) (fun _ _ i _ => l.length - (intOf i).toNat)
              case atStart => exact ⟨0, hi, false, by omega, rfl, rfl, rfl, HAl.out, .inl ⟨rfl, rfl, fun s hs => by simp at hs⟩, Below.refl _ _⟩
              case round =>
                obtain ⟨k, h4, g4, hk, rfl, rfl, rfl, hal4, hgi, hb7⟩ := hrel
                rename_i wg
                have HAl4 := hid hal4
                have HGi := hid hgi
                have HB7 := hid hb7
                have hh1 : h4 ≤ 4294967295 := hal4.2.1
                have hh0 : lo ≤ h4 := hal4.1
                clear hal4 hgi hb7
                by_cases hlt : k < l.length
                · have hlt' : (k : Int) < l.length := by omega
                  have hk0 : (0 : Int) ≤ k := by omega
                  have hne : l ≠ [] := by rintro rfl; simp at hlt
                  obtain ⟨g, o, rfl, hga, hgz⟩ := HG.out hne
                  have HGA := hid ((hga.later HB5.out).later HB7.out)
                  obtain ⟨hc0, hc1⟩ := HGA.out.sp k l[k] (List.getElem?_eq_getElem hlt)
                  obtain ⟨hp1, hp2⟩ := HP.out l[k] (List.getElem_mem hlt)
                  have HMem := hid (List.getElem_mem hlt)
                  have HGe := hid (List.getElem?_eq_getElem hlt)
                  obtain ⟨sv, hsv⟩ : ∃ sv, l[k] = sv := ⟨_, rfl⟩
                  have HEl := hid hsv
                  rw [hsv] at hc0 hc1 hp1 hp2 HMem HGe
                  clear hga hne hsv
                  obtain ⟨x, y⟩ := sv
                  simp only at hc0 hc1 hp1 hp2
                  have C := rend_any x y most wr hp1 hp2
                  have HEnB := hid (endD_le (x, y) most)
                  obtain ⟨en, hene⟩ : ∃ en, endD (x, y) most = en := ⟨_, rfl⟩
                  have hYes := @all_grow l most lo h4 hlo1 HAl4.out (x, y) HMem.out
                  have hNo1 := @grow_no1 (x, y) most h4
                  have hYes2 := @grow_yes (x, y) most h4
                  rw [hene] at C hYes hNo1 hYes2 HEnB
                  have HYes := hid hYes
                  have HNo1 := hid hNo1
                  have HYes2 := hid hYes2
                  clear hYes hNo1 hYes2 hene
                  go_wp2_with fail
                  refine C.mono ?_
                  clear C
                  rintro e w8 ⟨rfl, hb8⟩
                  have HB8 := hid (HB7.out.trans (hb8.mono HB7.out.size))
                  obtain ⟨hd0, hd1⟩ := (HGA.out.later hb8).sp k (x, y) HGe.out
                  have HGA8 := hid (HGA.out.later hb8)
                  clear hb8
                  simp only at hd0 hd1
                  by_cases hen : h4 < en
                  · have d1 : decide (h4 < en) = true := by simpa using hen
                    have C1 := rcovers_any x y h4 most w8
                    have HNo2 := hid (@grow_no2 (x, y) most h4)
                    have HY3 := hid (HYes2.out hen)
                    generalize covB (x, y) h4 most = b1 at *
                    go_wp2_with fail
                    refine C1.mono ?_
                    clear C1
                    rintro e w9 ⟨rfl, hb9⟩
                    have HB9 := hid (HB8.out.trans (hb9.mono HB8.out.size))
                    obtain ⟨he0, he1⟩ := (HGA8.out.later hb9).sp k (x, y) HGe.out
                    clear hb9
                    simp only at he0 he1
                    cases b1 with
                    | true =>
                      obtain ⟨hgt, hal⟩ := HYes.out (HY3.out (.inl rfl))
                      have HAn := hid hal
                      have HGn : Hid (GInv l most hi en (k + 1) true) := .inr ⟨rfl, by rcases HGi.out with ⟨_, e2, _⟩ | ⟨_, e2⟩ <;> omega⟩
                      clear hgt hal
                      go_wp2_with fail
                      go_roundw
                      case rel => exact ⟨k + 1, en, true, by omega, by go_num, rfl, rfl, HAn.out, HGn.out, HB9.out⟩
                      case measure => simp [intOf]; omega
                    | false =>
                      have C2 := rcovers_any x y (h4 + 1) most w9
                      generalize covB (x, y) (h4 + 1) most = b2 at *
                      go_wp2_with fail
                      refine C2.mono ?_
                      clear C2
                      rintro e w10 ⟨rfl, hb10⟩
                      have HB10 := hid (HB9.out.trans (hb10.mono HB9.out.size))
                      clear hb10
                      cases b2 with
                      | true =>
                        obtain ⟨hgt, hal⟩ := HYes.out (HY3.out (.inr rfl))
                        have HAn := hid hal
                        have HGn : Hid (GInv l most hi en (k + 1) true) := .inr ⟨rfl, by rcases HGi.out with ⟨_, e2, _⟩ | ⟨_, e2⟩ <;> omega⟩
                        clear hgt hal
                        go_wp2_with fail
                        go_roundw
                        case rel => exact ⟨k + 1, en, true, by omega, by go_num, rfl, rfl, HAn.out, HGn.out, HB10.out⟩
                        case measure => simp [intOf]; omega
                      | false =>
                        have HGr := hid (HNo2.out (by first | trivial | rfl) (by first | trivial | rfl))
                        have HGn : Hid (GInv l most hi h4 (k + 1) g4) := by
                          rcases HGi.out with ⟨e1, e2, e3⟩ | e
                          · exact .inl ⟨e1, e2, take_grow hlt e3 (by rw [HEl.out, ← e2]; exact HGr.out)⟩
                          · exact .inr e
                        go_wp2_with fail
                        go_roundw
                        case rel => exact ⟨k + 1, h4, g4, by omega, by go_num, rfl, rfl, HAl4.out, HGn.out, HB10.out⟩
                        case measure => simp [intOf]; omega
                  · have d1 : decide (h4 < en) = false := by simpa using hen
                    have HGr := hid (HNo1.out (by omega))
                    have HGn : Hid (GInv l most hi h4 (k + 1) g4) := by
                      rcases HGi.out with ⟨e1, e2, e3⟩ | e
                      · exact .inl ⟨e1, e2, take_grow hlt e3 (by rw [HEl.out, ← e2]; exact HGr.out)⟩
                      · exact .inr e
                    go_wp2_with fail
                    go_roundw
                    case rel => exact ⟨k + 1, h4, g4, by omega, by go_num, rfl, rfl, HAl4.out, HGn.out, HB8.out⟩
                    case measure => simp [intOf]; omega
                · have hlt' : ¬ (k : Int) < l.length := by omega
                  have e : l.take k = l := List.take_of_length_le (by omega)
                  have HBn := hid (HB5.out.trans (HB7.out.mono HB5.out.size))
                  have HBn6 := hid (HB6.out.trans (HB7.out.mono HB6.out.size))
                  have HFin : Hid ((g4 = false → ∀ s ∈ l, growB s most h4 = false) ∧ measG (.int .i64 h4) (.bool g4) < measG (.int .i64 hi) (.bool true)) := by
                    rcases HGi.out with ⟨rfl, rfl, e3⟩ | ⟨rfl, e2⟩
                    · rw [e] at e3
                      exact ⟨fun _ => e3, by simp [measG, intOf]⟩
                    · exact ⟨fun h => by simp at h, by simp [measG, intOf, mx]; omega⟩
                  go_wp2_with fail
                  go_roundw
                  case rel => exact ⟨h4, g4, rfl, rfl, HAl4.out, HFin.out.1, HBn.out, HBn6.out⟩
                  case measure => exact HFin.out.2
end Go.Proofs.YtiiegjdclpkeeaaGreatDoor
