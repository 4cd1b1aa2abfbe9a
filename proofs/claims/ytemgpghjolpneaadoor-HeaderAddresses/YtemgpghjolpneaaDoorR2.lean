/- What this text holds: where the document cuts a message. -/
import Derived.Test.YtemgpghjolpneaaDoorR1
namespace Go.Proofs.YtemgpghjolpneaaDoor
open Go.RowKit
set_option linter.unusedVariables false
set_option linter.unusedSimpArgs false

theorem emp_bare {l : Bs} (h : l ≠ []) : (bare l = [] ↔ emp l = true) := by
  constructor
  · intro hb
    by_cases h10 : l.getLast? = some 10
    · have hl := List.dropLast_concat_getLast h
      rw [List.getLast?_eq_some_getLast h] at h10
      rw [Option.some.inj h10] at hl
      by_cases h13 : l.dropLast.getLast? = some 13
      · have hn2 : l.dropLast ≠ [] := by intro e; rw [e] at h13; simp at h13
        have hl2 := List.dropLast_concat_getLast hn2
        rw [List.getLast?_eq_some_getLast hn2] at h13
        rw [Option.some.inj h13] at hl2
        have hb2 : l.dropLast.dropLast = [] := by
          unfold bare at hb
          rw [if_pos (by rw [List.getLast?_eq_some_getLast h, h10]), if_pos (by rw [List.getLast?_eq_some_getLast hn2, h13])] at hb
          exact hb
        rw [hb2] at hl2
        rw [← hl2] at hl
        rw [← hl]; rfl
      · have hb2 : l.dropLast = [] := by
          unfold bare at hb
          rw [if_pos (by rw [List.getLast?_eq_some_getLast h, h10]), if_neg h13] at hb
          exact hb
        rw [hb2] at hl
        rw [← hl]; rfl
    · unfold bare at hb
      rw [if_neg h10] at hb
      exact absurd hb h
  · intro he
    have : l = [10] ∨ l = [13, 10] := by simpa [emp] using he
    rcases this with rfl | rfl <;> rfl
theorem emp_last10 {l : Bs} (he : emp l = true) : ∃ (h : 0 < l.length), l[l.length - 1]'(by omega) = 10 := by
  have : l = [10] ∨ l = [13, 10] := by simpa [emp] using he
  rcases this with rfl | rfl
  · exact ⟨by simp, rfl⟩
  · exact ⟨by simp, rfl⟩
theorem line_at {s : Bs} {p k : Nat} (h : (lines s).drop k = lines (s.drop p)) (hk : k < (lines s).length) : s.drop p ≠ [] ∧ (lines s)[k] = (s.drop p).take (ln (s.drop p)) ∧ (lines s).drop (k + 1) = lines (s.drop (p + ln (s.drop p))) := by
  have hne : s.drop p ≠ [] := by
    intro e
    rw [e, lines_nil] at h
    have := congrArg List.length h
    simp at this
    omega
  rw [lines_step _ hne, List.drop_eq_getElem_cons hk] at h
  have h2 := List.cons.inj h
  exact ⟨hne, h2.1, by rw [h2.2, List.drop_drop]⟩
def RCutIs (s : Bs) (w : World) (e : Ending) (w' : World) : Prop := e = .returned (.tuple #[.string (str (s.take (hdr s))), .string (str (s.drop (hdr s)))]) ∧ Below w.heap.size w w'
set_option maxRecDepth 100000 in
set_option maxHeartbeats 4000000 in
theorem rcut_any (s : Bs) (w : World) (hs : s.length ≤ 1000000) : Calls Tryd.prog 11 #[.string (str s)] w (RCutIs s w) := by
  have hsz := str_size s
  have HC := hid (rlines_any s w hs)
  have hll := lines_len _ s (Nat.le_refl _)
  have HT : Hid (∀ m, (str s).extract 0 m = str (s.take m)) := take_str s
  have HD : Hid (∀ m, (str s).extract m s.length = str (s.drop m)) := fun m => by rw [← str_size]; exact drop_str s m
  have hhl := hdr_le _ s (Nat.le_refl _)
  have HLE : Hid (lines s = [] → s = []) := fun h => by
    rcases Classical.em (s = []) with h1 | h1
    · exact h1
    · rw [lines_step s h1] at h; simp at h
  go_enter Tryd.func11, Tryd.ntmps11
  go_wp2_with fail
  refine HC.out.mono ?_
  rintro e w1 ⟨⟨v, rfl, ho⟩, hb⟩
  obtain ⟨hw, a, c, rfl, hc, hr⟩ := ho.rl
  have HB1 := hid hb
  rw [List.length_map] at *
  clear ho hb HC
  rcases hr with hr | ⟨g, o, rfl, hr, hg⟩
  · have hl0 : lines s = [] := by simpa using hr
    have hs0 := HLE.out hl0
    subst hs0
    clear hr hc hw hll hl0
    have hl00 : (lines ([] : Bs)).length = 0 := rfl
    go_wp2_with fail
    go_loopw [5, 6] (fun n i wr => n = .int .i64 0 ∧ i = .int .i64 0 ∧ wr = w1) (fun _ _ _ => 0)
    case atStart => exact ⟨rfl, rfl, rfl⟩
    case round =>
      obtain ⟨rfl, rfl, rfl⟩ := hrel
      go_wp2_with fail
      go_ret2
      exact ⟨rfl, HB1.out⟩
  · have HR := hid hr
    clear hr HLE
    go_wp2_with fail
    go_loopw [5, 6] (fun n i wr => ∃ (p k : Nat), k ≤ (lines s).length ∧ p ≤ s.length ∧ n = .int .i64 p ∧ i = .int .i64 k ∧ (lines s).drop k = lines (s.drop p) ∧ p + hdr (s.drop p) = hdr s ∧ Below w1.heap.size w1 wr) (fun _ i _ => (lines s).length - (intOf i).toNat)
    case atStart => exact ⟨0, 0, by omega, by omega, rfl, rfl, by simp, by simp, Below.refl _ _⟩
    case round =>
      obtain ⟨p, k, hk, hp, rfl, rfl, hlk, hpk, hb2⟩ := hrel
      have HLK := hid hlk
      have HPK := hid hpk
      have HB2 := hid hb2
      clear hlk hpk hb2
      by_cases hlt : k < (lines s).length
      · have hlt' : (k : Int) < (lines s).length := by omega
        obtain ⟨hne, hat, hnx⟩ := line_at HLK.out hlt
        have hrec : ((lines s).map sR)[k]? = some (sR (lines s)[k]) := by rw [List.getElem?_map, List.getElem?_eq_getElem hlt]; rfl
        have hc0 : wr.cell? ⟨g, o + k, none⟩ = some (.string (str (lines s)[k])) := by
          have := (HR.out.later HB2.out).rec k _ hrec 0 _ rfl
          rw [Nat.mul_one] at this
          exact this
        have hlp := ln_pos _ hne
        have hle := ln_le (s.drop p)
        have hql : (s.drop p).length = s.length - p := List.length_drop
        rw [hql] at hle
        have HNX := hid hnx
        have hlen : (lines s)[k].length = ln (s.drop p) := by rw [hat, List.length_take, hql]; omega
        have HHd := hid (hdr_step (s.drop p) hne)
        have HDd : Hid ((s.drop p).drop (ln (s.drop p)) = s.drop (p + ln (s.drop p))) := by rw [Hid, List.drop_drop]
        rw [← hat] at HHd
        have hn0 : (lines s)[k] ≠ [] := by intro e; rw [e] at hlen; simp at hlen; omega
        have HBe := hid (emp_bare hn0)
        have HL10 := hid (@emp_last10 (lines s)[k])
        have hls := str_size (lines s)[k]
        rw [hlen] at hls
        clear hrec hnx hat hne hn0 hql
        generalize hLk : (lines s)[k] = lk at *
        generalize hLn : ln (s.drop p) = m at *
        have HLen := hid hlen
        clear hlen hLk hLn
        have HBa := hid (fun W => rbare_any lk W (by rw [HLen.out]; omega))
        rcases hem : emp lk
        · have hq : ((str (bare lk)).toList == []) = false := by
            rw [eqL]
            simp
            intro e
            rw [HBe.out.1 e] at hem
            simp at hem
          have HX : Hid (hdr (s.drop p) = m + hdr (s.drop (p + m))) := by
            have := HHd.out
            rw [hem, if_neg (by simp), HDd.out] at this
            exact this
          clear hem HHd HBe HL10
          go_wp2_with fail
          go_quiet ((go_at_call 32; exact Calls.quiet_of_same (HBa.out _)))
          go_wp2_with fail
          go_roundw
          case rel => exact ⟨p + m, k + 1, by omega, by omega, by go_num, by go_num, HNX.out, by have := HPK.out; have := HX.out; omega, HB2.out.trans (drewN_below _ _ _)⟩
          case measure => simp [intOf]; omega
        · have hq : ((str (bare lk)).toList == []) = true := by
            rw [eqL]
            simp
            exact HBe.out.2 hem
          obtain ⟨hl1, hlast⟩ := HL10.out hem
          have hls2 : m - 1 < (str lk).size := by omega
          have hlastm : ((str lk)[m - 1]'hls2) = 10 := by
            have e : lk.length = m := HLen.out
            show lk[m - 1]'(by omega) = 10
            rw [← hlast]
            congr 1
            omega
          have HX : Hid (hdr s = p + m) := by
            have := HHd.out
            rw [hem, if_pos rfl] at this
            have h2 := HPK.out
            unfold Hid
            omega
          have hpm : (p : Int) + m ≤ s.length := by omega
          have HTm := hid (HT.out (p + m))
          have HDm := hid (HD.out (p + m))
          clear hem HHd HBe HL10 hlast HT HD
          go_wp2_with fail
          go_quiet ((go_at_call 32; exact Calls.quiet_of_same (HBa.out _)))
          go_wp2_with fail
          go_quiet (fail)
          go_wp2_with fail
          go_ret2
          refine ⟨?_, HB1.out.trans ((HB2.out.trans ((drewN_below _ _ _).trans (drewN_below _ _ _))).mono HB1.out.size)⟩
          rw [HX.out, ← HTm.out, ← HDm.out]
          rfl
      · have hlt' : ¬ (k : Int) < (lines s).length := by omega
        have HX : Hid (hdr s = s.length) := by
          have h1 := HLK.out
          rw [List.drop_eq_nil_of_le (by omega)] at h1
          have h2 : s.drop p = [] := by
            rcases Classical.em (s.drop p = []) with h | h
            · exact h
            · rw [lines_step _ h] at h1; simp at h1
          have h3 := HPK.out
          rw [h2, hdr_nil] at h3
          have h4 := congrArg List.length h2
          simp at h4
          unfold Hid
          omega
        go_wp2_with fail
        go_ret2
        refine ⟨?_, HB1.out.trans (HB2.out.mono HB1.out.size)⟩
        rw [HX.out, List.take_length, List.drop_length]
        rfl
end Go.Proofs.YtemgpghjolpneaaDoor
