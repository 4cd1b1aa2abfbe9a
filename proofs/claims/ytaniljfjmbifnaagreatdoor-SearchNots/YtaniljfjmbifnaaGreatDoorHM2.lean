/- What this text holds: a line of the rest; the name that a line begins with; a text without its line end; where a message is cut. -/
import Derived.Test.YtaniljfjmbifnaaGreatDoorHM1
import Derived.Test.YtaniljfjmbifnaaGreatDoorHP3
import Derived.Test.YtaniljfjmbifnaaGreatDoorShelf
namespace Go.Proofs.YtaniljfjmbifnaaGreatDoor.H
open Go.RowKit
set_option linter.unusedVariables false
set_option linter.unusedSimpArgs false

/-- The cell of the longest text that is searched by a short way. -/
def Env (w : World) : Prop := ∃ m, w.cell? ⟨0, 0, none⟩ = some (.int .i64 m)
theorem Env.later {w w' : World} (h : Env w) (hb : Below w.heap.size w w') : Env w' := by
  obtain ⟨m, h⟩ := h
  exact ⟨m, (World.cell?_of_block (hb.block 0 (World.block_lt_of_cell? w _ h))).trans h⟩
theorem Env.set {w : World} (h : Env w) {b o : Nat} (v : Value) (hb : b ≠ 0) : Env (w.setCell ⟨b, o, none⟩ v) := by
  obtain ⟨m, h⟩ := h
  refine ⟨m, (World.cell?_of_block (Below.heap_setCell _ _ _ _ ?_)).trans h⟩
  exact fun e => hb e.symm
theorem Env.pos {w : World} (h : Env w) : 0 < w.heap.size := by
  obtain ⟨m, h⟩ := h
  exact World.block_lt_of_cell? w _ h
theorem Env.below {w w' : World} (h : Env w) {B : Nat} (hb : Below B w w') (hB : 0 < B) : Env w' := by
  obtain ⟨m, h⟩ := h
  exact ⟨m, (World.cell?_of_block (hb.block 0 hB)).trans h⟩

set_option maxRecDepth 100000 in
set_option maxHeartbeats 1000000 in
theorem line_any {w : World} {b : Nat} {l : Bs} (h : w.cell? ⟨b, 0, none⟩ = some (.string (str l))) (hf : w.frozen? ⟨b, 0, none⟩ = false) (hl : l.length ≤ 10000000) :
    Calls Tryz.prog 98 #[.pointer (some ⟨b, 0, none⟩)] w fun e w' => e = .returned (.string (str (l.take (ln l)))) ∧ w' = w.setCell ⟨b, 0, none⟩ (.string (str (l.drop (ln l)))) := by
  have hsz := str_size l
  have HT : Hid (∀ m, (str l).extract 0 m = str (l.take m)) := take_str l
  have HD : Hid (∀ m, (str l).extract m l.length = str (l.drop m)) := fun m => by rw [← str_size]; exact drop_str l m
  have HC := hid (Tryz.strings_IndexByte (str l) 10 w)
  have hge := Go.Lib.indexByte_ge l 10
  have e10 : (10 : Int).toNat.toUInt8 = 10 := rfl
  rw [e10, str_data] at HC
  by_cases h0 : Go.Lib.indexByte l 10 = -1
  · rw [h0] at HC
    have HL := hid (ln_none l h0)
    have HT2 : Hid ((str l).extract 0 l.length = str (l.take (ln l))) := by rw [Hid, HL.out, HT.out]
    have HD2 : Hid (str (l.drop (ln l)) = ByteArray.empty) := by rw [Hid, HL.out, List.drop_length]; rfl
    clear h0 hge
    go_enter Tryz.func98, Tryz.ntmps98
    go_wp2_with fail
    refine HC.out.mono ?_
    rintro e w1 ⟨rfl, rfl⟩
    go_wp2_with fail
    go_ret
    rw [HD2.out]
    refine ⟨?_, rfl⟩
    show Ending.returned (.string ((str l).extract 0 l.length)) = _
    rw [HT2.out]
  · obtain ⟨k, hk⟩ : ∃ k : Nat, Go.Lib.indexByte l 10 = (k : Int) := ⟨(Go.Lib.indexByte l 10).toNat, by omega⟩
    rw [hk] at HC
    have HL := hid (ln_some l k hk)
    have hle : k + 1 ≤ l.length := by have := ln_le l; have := HL.out; omega
    have HT2 : Hid ((str l).extract 0 (k + 1) = str (l.take (ln l))) := by rw [Hid, HL.out, HT.out]
    have HD2 : Hid ((str l).extract (k + 1) l.length = str (l.drop (ln l))) := by rw [Hid, HL.out, HD.out]
    have hne : ¬ ((k : Int) + 1 = 0) := by omega
    clear h0 hge hk
    go_enter Tryz.func98, Tryz.ntmps98
    go_wp2_with fail
    refine HC.out.mono ?_
    rintro e w1 ⟨rfl, rfl⟩
    go_wp2_with fail
    go_ret
    rw [HD2.out]
    refine ⟨?_, rfl⟩
    show Ending.returned (.string ((str l).extract 0 (k + 1))) = _
    rw [HT2.out]

/-- The rest lies in memory. -/
structure TAt (w : World) (b : Nat) (l : Bs) : Prop where
  at_ : w.heap[b]? = some (.cells #[.string (str l)] 123 (0, 0))
theorem TAt.cell {w : World} {b : Nat} {l : Bs} (h : TAt w b l) : w.cell? ⟨b, 0, none⟩ = some (.string (str l)) ∧ w.frozen? ⟨b, 0, none⟩ = false :=
  ⟨by simp [World.cell?, h.at_], by simp [World.frozen?, h.at_]⟩
theorem TAt.set {w : World} {b : Nat} {l : Bs} (h : TAt w b l) (l' : Bs) : TAt (w.setCell ⟨b, 0, none⟩ (.string (str l'))) b l' :=
  ⟨by rw [heap_setCell_same _ _ _ _ _ _ h.at_]; rfl⟩
theorem TAt.lt {w : World} {b : Nat} {l : Bs} (h : TAt w b l) : b < w.heap.size := lt_of_some h.at_
theorem TAt.later {w w' : World} {b : Nat} {l : Bs} (h : TAt w b l) (hb : Below w.heap.size w w') : TAt w' b l := ⟨(hb.block b h.lt).trans h.at_⟩
theorem TAt.drewN {w : World} {b : Nat} {l : Bs} (h : TAt w b l) (n : Nat) : TAt (w.drewN n) b l := ⟨h.at_⟩
theorem TAt.below {w w' : World} {B b : Nat} {l : Bs} (h : TAt w b l) (hb : Below B w w') (hB : b < B) : TAt w' b l := ⟨(hb.block b hB).trans h.at_⟩
theorem drewN_below (w : World) (n B : Nat) : Below B w (w.drewN n) := ⟨rfl, rfl, rfl, Nat.le_refl _, fun _ _ => rfl⟩
def leftN (b : Nat) (w : World) : Nat := match w.cell? ⟨b, 0, none⟩ with
  | some (.string s) => s.size
  | _ => 0
theorem leftN_is {w : World} {b : Nat} {l : Bs} (h : w.cell? ⟨b, 0, none⟩ = some (.string (str l))) : leftN b w = l.length := by
  unfold leftN
  rw [h]
  exact str_size l
theorem TAt.line {w : World} {b : Nat} {l : Bs} (h : TAt w b l) (hl : l.length ≤ 10000000) {B : Nat} (hB : B ≤ b) : Calls Tryz.prog 98 #[.pointer (some ⟨b, 0, none⟩)] w fun e w' => e = .returned (.string (str (l.take (ln l)))) ∧ TAt w' b (l.drop (ln l)) ∧ Below B w w' := by
  refine (line_any h.cell.1 h.cell.2 hl).mono ?_
  rintro e w' ⟨rfl, rfl⟩
  exact ⟨rfl, h.set _, (Below.refl _ _).setCell hB _⟩

theorem tw_all (l : Bs) : ∀ (n : Bs), n = l.takeWhile (· != 58) → n.length ≤ l.length := by
  rintro n rfl
  have := (List.takeWhile_prefix (p := (· != 58)) (l := l)).length_le
  exact this
theorem nameB_nil {l : Bs} (h : ¬ ((l.takeWhile (· != 58)).length < l.length ∧ (l.takeWhile (· != 58)).all good = true)) : nameB l = [] := by
  unfold nameB; rw [if_neg h]
theorem nameB_is {l : Bs} (h1 : (l.takeWhile (· != 58)).length < l.length) (h2 : (l.takeWhile (· != 58)).all good = true) : nameB l = l.takeWhile (· != 58) := by
  unfold nameB; rw [if_pos ⟨h1, h2⟩]
theorem all_take (n : Bs) (k : Nat) (hk : k < n.length) (h : (n.take k).all good = true) (hg : good n[k] = true) : (n.take (k + 1)).all good = true := by
  rw [List.take_succ_eq_append_getElem hk, List.all_append, h]
  simp [hg]
theorem all_not (n : Bs) (k : Nat) (hk : k < n.length) (hg : good n[k] = false) : ¬ n.all good = true := by
  intro h
  have := List.all_eq_true.1 h n[k] (List.getElem_mem hk)
  rw [hg] at this
  exact absurd this (by simp)

set_option maxRecDepth 100000 in
set_option maxHeartbeats 1000000 in
theorem begin_any (l : Bs) {w : World} (he : Env w) (hl : l.length ≤ 10000000) : Calls Tryz.prog 148 #[.string (str l)] w fun e w' => e = .returned (.tuple #[.string (str (nameB l)), .bool (decide (nameB l ≠ []))]) ∧ ∃ n, w' = w.drewN n := by
  obtain ⟨m, hm⟩ := he
  have hsz := str_size l
  obtain ⟨c1, c2⟩ := cut_one l 58
  have C := Tryz.strings_Cut (str l) (str [58]) m w (by omega) hm
  rw [str_data, str_data, c1, c2] at C
  have HC : Hid (Calls Tryz.prog 184 #[.string (str l), .string ⟨#[58]⟩] w fun e w' => (∃ v, e = .returned (.tuple #[.string (str (l.takeWhile (· != 58))), v, .bool (decide ((l.takeWhile (· != 58)).length < l.length))])) ∧ ∃ n, w' = w.drewN n) := by
    refine C.mono ?_
    rintro e w' ⟨rfl, h⟩
    exact ⟨⟨_, rfl⟩, h⟩
  clear C c1 c2 hm
  have HP := hid (tw_all l _ rfl)
  have HNil := hid (@nameB_nil l)
  have HIs := hid (@nameB_is l)
  generalize l.takeWhile (· != 58) = n at *
  have hn := HP.out
  have hns := str_size n
  by_cases h1 : n.length < l.length
  · have hd : decide (n.length < l.length) = true := by simp [h1]
    rw [hd] at HC
    have H1 := hid h1
    clear h1 hd
    have hq := eqL n []
    by_cases h2 : n = []
    · subst h2
      have HE : Hid (nameB l = []) := by
        by_cases h3 : ([] : Bs).length < l.length ∧ ([] : Bs).all good = true
        · exact HIs.out h3.1 h3.2
        · exact HNil.out h3
      rw [HE.out]
      have hq2 : ((str []).toList == []) = true := by rw [hq]; simp
      clear hq
      go_enter Tryz.func148, Tryz.ntmps148
      go_wp2_with fail
      refine HC.out.mono ?_
      rintro e w1 ⟨⟨v, rfl⟩, ⟨nq, rfl⟩⟩
      go_wp2_with fail
      go_ret2
      exact ⟨by simp; rfl, _, rfl⟩
    · have hq2 : ((str n).toList == []) = false := by rw [hq]; simp [h2]
      have H2 := hid h2
      clear hq h2
      go_enter Tryz.func148, Tryz.ntmps148
      go_wp2_with fail
      refine HC.out.mono ?_
      rintro e w1 ⟨⟨v, rfl⟩, ⟨nq, rfl⟩⟩
      go_wp2_with fail
      go_loop [22] (fun i => ∃ k : Nat, k ≤ n.length ∧ i = .int .i64 k ∧ (n.take k).all good = true) (fun i => n.length - (intOf i).toNat)
      case atStart => exact ⟨0, by omega, rfl, by simp⟩
      case round =>
        obtain ⟨k, hk, rfl, hr⟩ := hrel
        have HR := hid hr
        clear hr
        by_cases hlt : k < n.length
        · have hlt' : (k : Int) < n.length := by omega
          have hlts : k < (str n).size := by omega
          have g : ((str n)[k]'hlts) = n[k] := rfl
          have HA := hid (all_take n k hlt HR.out)
          have HN := hid (all_not n k hlt)
          have HG : Hid (good n[k] = (decide (32 < n[k].toNat) && decide (n[k].toNat ≤ 126))) := rfl
          generalize hx : n[k] = x at *
          by_cases h3 : (x.toNat : Int) ≤ 32
          · have HF : Hid (nameB l = []) := HNil.out fun h => HN.out (by rw [HG.out]; simp; omega) h.2
            go_wp2_with fail
            go_ret2
            rw [HF.out]
            exact ⟨by simp; rfl, _, rfl⟩
          · by_cases h4 : (126 : Int) < x.toNat
            · have HF : Hid (nameB l = []) := HNil.out fun h => HN.out (by rw [HG.out]; simp; omega) h.2
              go_wp2_with fail
              go_ret2
              rw [HF.out]
              exact ⟨by simp; rfl, _, rfl⟩
            · have HF : Hid ((n.take (k + 1)).all good = true) := HA.out (by rw [HG.out]; simp; omega)
              go_wp2_with fail
              go_round
              case rel => exact ⟨k + 1, by omega, by go_num, HF.out⟩
              case measure => simp [intOf]; omega
        · have hlt' : ¬ (k : Int) < n.length := by omega
          have HF : Hid (nameB l = n) := HIs.out H1.out (by have := HR.out; rw [List.take_of_length_le (by omega)] at this; exact this)
          have HDD : Hid ((!decide (n = [])) = true) := by simp [Hid, H2.out]
          go_wp2_with fail
          go_ret2
          rw [HF.out, HDD.out]
          exact ⟨rfl, _, rfl⟩
  · have hd : decide (n.length < l.length) = false := by simp [h1]
    rw [hd] at HC
    have HE : Hid (nameB l = []) := HNil.out fun h => h1 h.1
    rw [HE.out]
    clear h1 hd
    go_enter Tryz.func148, Tryz.ntmps148
    go_wp2_with fail
    refine HC.out.mono ?_
    rintro e w1 ⟨⟨v, rfl⟩, ⟨nq, rfl⟩⟩
    go_wp2_with fail
    go_ret2
    exact ⟨by simp; rfl, _, rfl⟩

set_option maxRecDepth 100000 in
set_option maxHeartbeats 1000000 in
theorem endless_any (l : Bs) (w : World) (hl : l.length ≤ 10000000) : Calls Tryz.prog 150 #[.string (str l)] w fun e w' => e = .returned (.string (str (bare l))) ∧ w' = w := by
  have hsz := str_size l
  have C := Tryz.strings_CutSuffix (str l) (str [10]) w (by omega)
  rw [str_data, str_data, suf_one, trimSuf_one] at C
  by_cases h1 : l.getLast? = some 10
  · rw [if_pos h1, show decide (l.getLast? = some 10) = true by simp [h1]] at C
    have C2 := Tryz.strings_TrimSuffix (str l.dropLast) (str [13]) w (by have := str_size l.dropLast; simp at this; omega)
    rw [str_data, str_data, trimSuf_one] at C2
    have HE : Hid (bare l = if l.dropLast.getLast? = some 13 then l.dropLast.dropLast else l.dropLast) := by unfold bare; rw [if_pos h1]; rfl
    rw [HE.out]
    have HC := hid C
    have HC2 := hid C2
    clear C C2 h1 HE
    generalize (if l.dropLast.getLast? = some 13 then l.dropLast.dropLast else l.dropLast) = x at *
    go_enter Tryz.func150, Tryz.ntmps150
    go_wp2_with fail
    refine HC.out.mono ?_
    rintro e w1 ⟨rfl, rfl⟩
    go_wp2_with fail
    refine HC2.out.mono ?_
    rintro e w1 ⟨rfl, rfl⟩
    go_wp2_with fail
    go_ret
    exact ⟨rfl, rfl⟩
  · rw [if_neg h1, show decide (l.getLast? = some 10) = false by simp [h1]] at C
    have HE : Hid (bare l = l) := by unfold bare; rw [if_neg h1]; rfl
    rw [HE.out]
    have HC := hid C
    clear C h1 HE
    go_enter Tryz.func150, Tryz.ntmps150
    go_wp2_with fail
    refine HC.out.mono ?_
    rintro e w1 ⟨rfl, rfl⟩
    go_wp2_with fail
    go_ret
    exact ⟨rfl, rfl⟩

theorem hdr_yes {l : Bs} (h : l ≠ []) (he : emp (l.take (ln l)) = true) : hdr l = ln l := by rw [hdr_step l h, if_pos he]
theorem hdr_no {l : Bs} (h : l ≠ []) (he : emp (l.take (ln l)) = false) : hdr l = ln l + hdr (l.drop (ln l)) := by rw [hdr_step l h, if_neg (by simp [he])]
def CutIs (s : Bs) (w : World) (e : Ending) (w' : World) : Prop := e = .returned (.tuple #[.string (str (s.take (hdr s))), .string (str (s.drop (hdr s)))]) ∧ Below w.heap.size w w'
set_option maxRecDepth 100000 in
set_option maxHeartbeats 1000000 in
theorem cut_any (s : Bs) (w : World) (hs : s.length ≤ 10000000) : Calls Tryz.prog 64 #[.string (str s)] w (CutIs s w) := by
  have HT0 : Hid (TAt (w.alloc (.cells #[.string (str s)] 123)) w.heap.size s) := ⟨heap_alloc_new _ _⟩
  have HB0 : Hid (Below w.heap.size w (w.alloc (.cells #[.string (str s)] 123))) := (Below.refl _ _).alloc (Nat.le_refl _) _
  have HLe := hid (hdr_le _ s (Nat.le_refl _))
  go_enter Tryz.func64, Tryz.ntmps64
  go_wp2_with fail
  go_loopw [] (fun wr => ∃ k : Nat, k ≤ s.length ∧ TAt wr w.heap.size (s.drop k) ∧ Below w.heap.size w wr ∧ k + hdr (s.drop k) = hdr s) (fun wr => leftN w.heap.size wr)
  case atStart => exact ⟨0, by omega, HT0.out, HB0.out, by simp⟩
  case round =>
    obtain ⟨k, hk, ht, hb, hd⟩ := hrel
    have HT := hid ht
    have HB := hid hb
    have HD := hid hd
    clear ht hb hd
    have hdl : (s.drop k).length = s.length - k := by simp
    by_cases h0 : s.drop k = []
    · have HK : Hid (k = hdr s) := by have := HD.out; rw [h0, hdr_nil] at this; exact this
      have hT := HT.out
      rw [h0] at hT
      have HC := hid (more_no_any hT.cell.1)
      have HBe : Hid (∀ n, Calls Tryz.prog 99 #[.pointer (some ⟨w.heap.size, 0, none⟩), .string (str s)] (wr.drewN n) fun e w' => e = .returned (.string (str (s.take k))) ∧ w' = wr.drewN n) := fun n => behind_any s k hk (HT.out.drewN n).cell.1 hs
      have hc := HT.out.cell.1
      clear hT
      go_wp2_with fail
      refine HC.out.mono ?_
      rintro e w1 ⟨rfl, rfl⟩
      go_wp2_with fail
      go_quiet ((go_at_call 99; exact Calls.quiet_of_same (HBe.out _)))
      go_wp2_with fail
      go_ret2
      refine ⟨?_, HB.out.trans (drewN_below _ _ _)⟩
      rw [← HK.out, h0]
      rfl
    · obtain ⟨c, l, hcl⟩ : ∃ c l, s.drop k = c :: l := by
        cases h : s.drop k with
        | nil => exact absurd h h0
        | cons c l => exact ⟨c, l, rfl⟩
      have hT := HT.out
      rw [hcl] at hT
      have HC := hid (more_yes_any hT.cell.1)
      have HLn := hid (HT.out.line (by omega) (Nat.le_refl _))
      have hlp := ln_pos _ h0
      have hll := ln_le (s.drop k)
      have HLen := hid hdl
      have HE1 := hid (hdr_yes h0)
      have HE2 := hid (hdr_no h0)
      have HDr : Hid ((s.drop k).drop (ln (s.drop k)) = s.drop (k + ln (s.drop k))) := by rw [Hid, List.drop_drop]
      have HMe : Hid (leftN w.heap.size wr = (s.drop k).length) := leftN_is HT.out.cell.1
      rw [hdl] at hll
      clear hT hdl h0 hcl
      generalize hm : ln (s.drop k) = m at *
      rcases hem : emp ((s.drop k).take m)
      · have HX := hid (HE2.out hem)
        have HC2 := hid (fun W => empty_any ((s.drop k).take m) W)
        rw [hem] at HC2
        clear hem
        go_wp2_with fail
        refine HC.out.mono ?_
        rintro e w1 ⟨rfl, rfl⟩
        go_wp2_with fail
        refine HLn.out.mono ?_
        rintro e w2 ⟨rfl, h2, hb2⟩
        have H2 := hid h2
        have HB2 := hid (HB.out.trans hb2)
        clear h2 hb2
        go_wp2_with fail
        refine (HC2.out _).mono ?_
        rintro e w3 ⟨rfl, rfl⟩
        go_wp2_with fail
        go_roundw
        case rel =>
          refine ⟨k + m, by omega, by have := H2.out; rw [HDr.out] at this; exact this, HB2.out, ?_⟩
          have := HD.out
          rw [HX.out, HDr.out] at this
          omega
        case measure =>
          rw [HMe.out, leftN_is H2.out.cell.1, HDr.out, HLen.out, List.length_drop]
          omega
      · have HX := hid (HE1.out hem)
        have HC2 := hid (fun W => empty_any ((s.drop k).take m) W)
        rw [hem] at HC2
        have HK : Hid (k + m = hdr s) := by have := HD.out; rw [HX.out] at this; exact this
        clear hem
        go_wp2_with fail
        refine HC.out.mono ?_
        rintro e w1 ⟨rfl, rfl⟩
        go_wp2_with fail
        refine HLn.out.mono ?_
        rintro e w2 ⟨rfl, h2, hb2⟩
        rw [HDr.out] at h2
        have H2 := hid h2
        have HB2 := hid (HB.out.trans hb2)
        clear h2 hb2
        go_wp2_with fail
        refine (HC2.out _).mono ?_
        rintro e w3 ⟨rfl, rfl⟩
        have HBe : Hid (∀ n, Calls Tryz.prog 99 #[.pointer (some ⟨w.heap.size, 0, none⟩), .string (str s)] (w3.drewN n) fun e w' => e = .returned (.string (str (s.take (k + m)))) ∧ w' = w3.drewN n) := fun n => behind_any s (k + m) (by omega) (H2.out.drewN n).cell.1 hs
        have hc := H2.out.cell.1
        go_wp2_with fail
        go_quiet ((go_at_call 99; exact Calls.quiet_of_same (HBe.out _)))
        go_wp2_with fail
        go_ret2
        refine ⟨?_, HB2.out.trans (drewN_below _ _ _)⟩
        rw [← HK.out]
        rfl
end Go.Proofs.YtaniljfjmbifnaaGreatDoor.H
