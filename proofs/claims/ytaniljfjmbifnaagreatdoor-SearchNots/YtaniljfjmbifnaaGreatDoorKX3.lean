/- What this text holds: what keys answer that have no kids. · What this text holds: what any key answers. -/
import Derived.Test.YtaniljfjmbifnaaGreatDoorKX2
import Derived.Test.YtaniljfjmbifnaaGreatDoorKX6
import Derived.Test.YtaniljfjmbifnaaGreatDoorKX0
import Derived.Test.YtaniljfjmbifnaaGreatDoorKX1
namespace Go.Proofs.YtaniljfjmbifnaaGreatDoor.H
open Go.RowKit
set_option linter.unusedVariables false
set_option linter.unusedSimpArgs false

theorem tw_dw (p : UInt8 → Bool) (l : Bs) : (l.takeWhile p).length + (l.dropWhile p).length = l.length := by
  rw [← List.length_append, List.takeWhile_append_dropWhile]
theorem words_len : ∀ (k : Nat) (x : Bool) (l : Bs), l.length ≤ k → (W.wordsP x l).length ≤ 4 * l.length
  | 0, x, l, h => by
    have : l = [] := List.eq_nil_of_length_eq_zero (by omega)
    subst this; rw [W.wordsP_nil]; simp
  | k + 1, x, l, h => by
    by_cases h0 : l = []
    · subst h0; rw [W.wordsP_nil]; simp
    · have h1 := tw_dw W.blank l
      have hl : 0 < l.length := by cases l with | nil => exact absurd rfl h0 | cons => simp
      rcases hw : W.word (l.dropWhile W.blank) with _ | ⟨y, r⟩
      · rw [W.wordsP_none h0 hw]
        have h2 := W.rest_lt l h0
        have h3 := words_len k false ((l.dropWhile W.blank).drop 1) (by omega)
        rw [List.length_drop] at h2 h3
        rw [List.length_append, List.length_append, List.length_take]
        omega
      · rw [W.wordsP_some h0 hw]
        have h2 := W.word_len hw
        have h4 := W.word_said hw
        have h3 := words_len k true r (by omega)
        rw [List.length_append, List.length_append]
        have h5 : (if x = true then ([] : Bs) else l.takeWhile W.blank).length ≤ (l.takeWhile W.blank).length := by split <;> simp
        omega
theorem joined_one (v : Bs) : W.joined [v] = v := by simp [W.joined, List.intercalate]
theorem word_small (v : Bs) (h : v.length ≤ 100000) : (W.joined [v]).length ≤ 1000000 ∧ (wordW v).length ≤ 10000000 := by
  have h1 := words_len _ false (W.joined [v]) (Nat.le_refl _)
  unfold wordW
  rw [joined_one] at *
  omega
/-- What a key answers that has no kids. -/
def leafB (L : Lk) (fl : List Bs) (op t f : Bs) (n : Int) (set : List S.Sp) : Bool :=
  if op = [65, 76, 76] then true
  else if op = [65, 78, 83, 87, 69, 82, 69, 68] ∨ op = [68, 69, 76, 69, 84, 69, 68] ∨ op = [68, 82, 65, 70, 84] ∨ op = [70, 76, 65, 71, 71, 69, 68] ∨ op = [83, 69, 69, 78] then hasP fl (92 :: op)
  else if op = [85, 78, 65, 78, 83, 87, 69, 82, 69, 68] ∨ op = [85, 78, 68, 69, 76, 69, 84, 69, 68] ∨ op = [85, 78, 68, 82, 65, 70, 84] ∨ op = [85, 78, 70, 76, 65, 71, 71, 69, 68] ∨ op = [85, 78, 83, 69, 69, 78] then !hasP fl (92 :: op.drop 2)
  else if op = [75, 69, 89, 87, 79, 82, 68] then hasP fl t
  else if op = [85, 78, 75, 69, 89, 87, 79, 82, 68] then !hasP fl t
  else if op = [66, 67, 67] ∨ op = [67, 67] ∨ op = [70, 82, 79, 77] ∨ op = [83, 85, 66, 74, 69, 67, 84] ∨ op = [84, 79] then asksB (valsL L.text op) t
  else if op = [72, 69, 65, 68, 69, 82] then asksC (valsL L.text f) t
  else if op = [66, 79, 68, 89] then conB (L.text.drop (hdr L.text)) t
  else if op = [84, 69, 88, 84] then conB L.text t
  else if op = [66, 69, 70, 79, 82, 69] ∨ op = [79, 78] ∨ op = [83, 73, 78, 67, 69] then placedB op (D.daysV L.d1 L.d2 L.d3) n
  else if op = [83, 69, 78, 84, 66, 69, 70, 79, 82, 69] ∨ op = [83, 69, 78, 84, 79, 78] ∨ op = [83, 69, 78, 84, 83, 73, 78, 67, 69] then sentB L.text (op.drop 4) n
  else if op = [76, 65, 82, 71, 69, 82] then decide (n < (L.text.length : Int))
  else if op = [83, 77, 65, 76, 76, 69, 82] then decide ((L.text.length : Int) < n)
  else if op = [83, 69, 81] then S.hasB set L.seq L.most
  else if op = [85, 73, 68] then S.hasB set L.uid L.mu
  else false
set_option maxHeartbeats 4000000 in
theorem leaf_any {w : World} {b : Nat} {L : Lk} (he : Env w) (hb0 : 0 < b) (h : LkAt w b L) (hf : FsOk w L) (ht : L.text.length ≤ 1500) (fl : List Bs) (hfl : RL w (sv L.fl) 1 (fl.map sR)) (hfn : fl.length ≤ 1000000) (hfb : ∀ x ∈ fl, x.length ≤ 10000000)
    (op t f : Bs) (n : Int) (a : Option Addr) (p c : Nat) (d : Option Addr) (q g : Nat) (htl : t.length ≤ 10000000) (hfil : f.length ≤ 10000000) (set : List S.Sp) (hs : S.GL S.eSp w (.slice a p c) set) (hsl : set.length ≤ 1000000) (n1 : op ≠ [78, 79, 84]) (n2 : op ≠ [79, 82]) (n3 : op ≠ [65, 78, 68]) :
    Calls Tryz.prog 23 #[.pointer (some ⟨b, 0, none⟩), .agg #[.string (str op), .string (str t), .string (str f), .int .i64 n, .slice a p c, .slice d q g]] w fun e w' => Seen2 w' b L ∧ e = .returned (.bool (leafB L fl op t f n set)) ∧ Kept [b] w w' := by
  by_cases h0 : op = [65, 76, 76]
  · subst h0
    rw [show leafB L fl [65, 76, 76] t f n set = (true) from by simp [leafB]]
    exact all_any he hb0 h hf (by omega) _ t f n a p c d q g rfl
  by_cases h1 : op = [65, 78, 83, 87, 69, 82, 69, 68]
  · subst h1
    rw [show leafB L fl [65, 78, 83, 87, 69, 82, 69, 68] t f n set = (hasP fl (92 :: [65, 78, 83, 87, 69, 82, 69, 68])) from by simp [leafB]]
    exact answered_any he hb0 h hf (by omega) _ t f n a p c d q g rfl fl hfl hfn hfb
  by_cases h2 : op = [68, 69, 76, 69, 84, 69, 68]
  · subst h2
    rw [show leafB L fl [68, 69, 76, 69, 84, 69, 68] t f n set = (hasP fl (92 :: [68, 69, 76, 69, 84, 69, 68])) from by simp [leafB]]
    exact deleted_any he hb0 h hf (by omega) _ t f n a p c d q g rfl fl hfl hfn hfb
  by_cases h3 : op = [68, 82, 65, 70, 84]
  · subst h3
    rw [show leafB L fl [68, 82, 65, 70, 84] t f n set = (hasP fl (92 :: [68, 82, 65, 70, 84])) from by simp [leafB]]
    exact draft_any he hb0 h hf (by omega) _ t f n a p c d q g rfl fl hfl hfn hfb
  by_cases h4 : op = [70, 76, 65, 71, 71, 69, 68]
  · subst h4
    rw [show leafB L fl [70, 76, 65, 71, 71, 69, 68] t f n set = (hasP fl (92 :: [70, 76, 65, 71, 71, 69, 68])) from by simp [leafB]]
    exact flagged_any he hb0 h hf (by omega) _ t f n a p c d q g rfl fl hfl hfn hfb
  by_cases h5 : op = [83, 69, 69, 78]
  · subst h5
    rw [show leafB L fl [83, 69, 69, 78] t f n set = (hasP fl (92 :: [83, 69, 69, 78])) from by simp [leafB]]
    exact seen_any he hb0 h hf (by omega) _ t f n a p c d q g rfl fl hfl hfn hfb
  by_cases h6 : op = [85, 78, 65, 78, 83, 87, 69, 82, 69, 68]
  · subst h6
    rw [show leafB L fl [85, 78, 65, 78, 83, 87, 69, 82, 69, 68] t f n set = (!hasP fl (92 :: ([85, 78, 65, 78, 83, 87, 69, 82, 69, 68] : Bs).drop 2)) from by simp [leafB]]
    exact unanswered_any he hb0 h hf (by omega) _ t f n a p c d q g rfl fl hfl hfn hfb
  by_cases h7 : op = [85, 78, 68, 69, 76, 69, 84, 69, 68]
  · subst h7
    rw [show leafB L fl [85, 78, 68, 69, 76, 69, 84, 69, 68] t f n set = (!hasP fl (92 :: ([85, 78, 68, 69, 76, 69, 84, 69, 68] : Bs).drop 2)) from by simp [leafB]]
    exact undeleted_any he hb0 h hf (by omega) _ t f n a p c d q g rfl fl hfl hfn hfb
  by_cases h8 : op = [85, 78, 68, 82, 65, 70, 84]
  · subst h8
    rw [show leafB L fl [85, 78, 68, 82, 65, 70, 84] t f n set = (!hasP fl (92 :: ([85, 78, 68, 82, 65, 70, 84] : Bs).drop 2)) from by simp [leafB]]
    exact undraft_any he hb0 h hf (by omega) _ t f n a p c d q g rfl fl hfl hfn hfb
  by_cases h9 : op = [85, 78, 70, 76, 65, 71, 71, 69, 68]
  · subst h9
    rw [show leafB L fl [85, 78, 70, 76, 65, 71, 71, 69, 68] t f n set = (!hasP fl (92 :: ([85, 78, 70, 76, 65, 71, 71, 69, 68] : Bs).drop 2)) from by simp [leafB]]
    exact unflagged_any he hb0 h hf (by omega) _ t f n a p c d q g rfl fl hfl hfn hfb
  by_cases h10 : op = [85, 78, 83, 69, 69, 78]
  · subst h10
    rw [show leafB L fl [85, 78, 83, 69, 69, 78] t f n set = (!hasP fl (92 :: ([85, 78, 83, 69, 69, 78] : Bs).drop 2)) from by simp [leafB]]
    exact unseen_any he hb0 h hf (by omega) _ t f n a p c d q g rfl fl hfl hfn hfb
  by_cases h11 : op = [75, 69, 89, 87, 79, 82, 68]
  · subst h11
    rw [show leafB L fl [75, 69, 89, 87, 79, 82, 68] t f n set = (hasP fl t) from by simp [leafB]]
    exact key_any he hb0 h hf (by omega) _ t f n a p c d q g rfl fl hfl hfn hfb htl
  by_cases h12 : op = [85, 78, 75, 69, 89, 87, 79, 82, 68]
  · subst h12
    rw [show leafB L fl [85, 78, 75, 69, 89, 87, 79, 82, 68] t f n set = (!hasP fl t) from by simp [leafB]]
    exact unkey_any he hb0 h hf (by omega) _ t f n a p c d q g rfl fl hfl hfn hfb htl
  by_cases h13 : op = [66, 67, 67]
  · subst h13
    rw [show leafB L fl [66, 67, 67] t f n set = (asksB (valsL L.text [66, 67, 67]) t) from by simp [leafB]]
    exact (bcc_any he hb0 h hf (by omega) _ t f n a p c d q g htl rfl (fun v hv => word_small v (Nat.le_trans (vals_short _ _ v hv) (by omega)))).mono fun e w' ⟨hse, h2, h3⟩ => ⟨Seen.two hse, h2, h3⟩
  by_cases h14 : op = [67, 67]
  · subst h14
    rw [show leafB L fl [67, 67] t f n set = (asksB (valsL L.text [67, 67]) t) from by simp [leafB]]
    exact (cc_any he hb0 h hf (by omega) _ t f n a p c d q g htl rfl (fun v hv => word_small v (Nat.le_trans (vals_short _ _ v hv) (by omega)))).mono fun e w' ⟨hse, h2, h3⟩ => ⟨Seen.two hse, h2, h3⟩
  by_cases h15 : op = [70, 82, 79, 77]
  · subst h15
    rw [show leafB L fl [70, 82, 79, 77] t f n set = (asksB (valsL L.text [70, 82, 79, 77]) t) from by simp [leafB]]
    exact (from_any he hb0 h hf (by omega) _ t f n a p c d q g htl rfl (fun v hv => word_small v (Nat.le_trans (vals_short _ _ v hv) (by omega)))).mono fun e w' ⟨hse, h2, h3⟩ => ⟨Seen.two hse, h2, h3⟩
  by_cases h16 : op = [83, 85, 66, 74, 69, 67, 84]
  · subst h16
    rw [show leafB L fl [83, 85, 66, 74, 69, 67, 84] t f n set = (asksB (valsL L.text [83, 85, 66, 74, 69, 67, 84]) t) from by simp [leafB]]
    exact (subject_any he hb0 h hf (by omega) _ t f n a p c d q g htl rfl (fun v hv => word_small v (Nat.le_trans (vals_short _ _ v hv) (by omega)))).mono fun e w' ⟨hse, h2, h3⟩ => ⟨Seen.two hse, h2, h3⟩
  by_cases h17 : op = [84, 79]
  · subst h17
    rw [show leafB L fl [84, 79] t f n set = (asksB (valsL L.text [84, 79]) t) from by simp [leafB]]
    exact (to_any he hb0 h hf (by omega) _ t f n a p c d q g htl rfl (fun v hv => word_small v (Nat.le_trans (vals_short _ _ v hv) (by omega)))).mono fun e w' ⟨hse, h2, h3⟩ => ⟨Seen.two hse, h2, h3⟩
  by_cases h18 : op = [72, 69, 65, 68, 69, 82]
  · subst h18
    rw [show leafB L fl [72, 69, 65, 68, 69, 82] t f n set = (asksC (valsL L.text f) t) from by simp [leafB]]
    exact (header_any he hb0 h hf (by omega) _ t f n a p c d q g htl rfl hfil (fun v hv => Nat.le_trans (vals_short _ _ v hv) (by omega))).mono fun e w' ⟨hse, h2, h3⟩ => ⟨Seen.two hse, h2, h3⟩
  by_cases h19 : op = [66, 79, 68, 89]
  · subst h19
    rw [show leafB L fl [66, 79, 68, 89] t f n set = (conB (L.text.drop (hdr L.text)) t) from by simp [leafB]]
    exact bodyk_any he hb0 h hf (by omega) _ t f n a p c d q g rfl htl
  by_cases h20 : op = [84, 69, 88, 84]
  · subst h20
    rw [show leafB L fl [84, 69, 88, 84] t f n set = (conB L.text t) from by simp [leafB]]
    exact text_any he hb0 h hf (by omega) _ t f n a p c d q g rfl htl
  by_cases h21 : op = [66, 69, 70, 79, 82, 69]
  · subst h21
    rw [show leafB L fl [66, 69, 70, 79, 82, 69] t f n set = (placedB [66, 69, 70, 79, 82, 69] (D.daysV L.d1 L.d2 L.d3) n) from by simp [leafB]]
    exact before_any he hb0 h hf (by omega) _ t f n a p c d q g rfl
  by_cases h22 : op = [79, 78]
  · subst h22
    rw [show leafB L fl [79, 78] t f n set = (placedB [79, 78] (D.daysV L.d1 L.d2 L.d3) n) from by simp [leafB]]
    exact on_any he hb0 h hf (by omega) _ t f n a p c d q g rfl
  by_cases h23 : op = [83, 73, 78, 67, 69]
  · subst h23
    rw [show leafB L fl [83, 73, 78, 67, 69] t f n set = (placedB [83, 73, 78, 67, 69] (D.daysV L.d1 L.d2 L.d3) n) from by simp [leafB]]
    exact since_any he hb0 h hf (by omega) _ t f n a p c d q g rfl
  by_cases h24 : op = [83, 69, 78, 84, 66, 69, 70, 79, 82, 69]
  · subst h24
    rw [show leafB L fl [83, 69, 78, 84, 66, 69, 70, 79, 82, 69] t f n set = (sentB L.text (([83, 69, 78, 84, 66, 69, 70, 79, 82, 69] : Bs).drop 4) n) from by simp [leafB]]
    exact sentbefore_any he hb0 h hf (by omega) _ t f n a p c d q g rfl (fun v hv => Nat.le_trans (vals_short _ _ v hv) (by omega))
  by_cases h25 : op = [83, 69, 78, 84, 79, 78]
  · subst h25
    rw [show leafB L fl [83, 69, 78, 84, 79, 78] t f n set = (sentB L.text (([83, 69, 78, 84, 79, 78] : Bs).drop 4) n) from by simp [leafB]]
    exact senton_any he hb0 h hf (by omega) _ t f n a p c d q g rfl (fun v hv => Nat.le_trans (vals_short _ _ v hv) (by omega))
  by_cases h26 : op = [83, 69, 78, 84, 83, 73, 78, 67, 69]
  · subst h26
    rw [show leafB L fl [83, 69, 78, 84, 83, 73, 78, 67, 69] t f n set = (sentB L.text (([83, 69, 78, 84, 83, 73, 78, 67, 69] : Bs).drop 4) n) from by simp [leafB]]
    exact sentsince_any he hb0 h hf (by omega) _ t f n a p c d q g rfl (fun v hv => Nat.le_trans (vals_short _ _ v hv) (by omega))
  by_cases h27 : op = [76, 65, 82, 71, 69, 82]
  · subst h27
    rw [show leafB L fl [76, 65, 82, 71, 69, 82] t f n set = (decide (n < (L.text.length : Int))) from by simp [leafB]]
    exact larger_any he hb0 h hf (by omega) _ t f n a p c d q g rfl
  by_cases h28 : op = [83, 77, 65, 76, 76, 69, 82]
  · subst h28
    rw [show leafB L fl [83, 77, 65, 76, 76, 69, 82] t f n set = (decide ((L.text.length : Int) < n)) from by simp [leafB]]
    exact smaller_any he hb0 h hf (by omega) _ t f n a p c d q g rfl
  by_cases h29 : op = [83, 69, 81]
  · subst h29
    rw [show leafB L fl [83, 69, 81] t f n set = (S.hasB set L.seq L.most) from by simp [leafB]]
    exact seq_any he hb0 h hf (by omega) _ t f n a p c d q g rfl set hs hsl
  by_cases h30 : op = [85, 73, 68]
  · subst h30
    rw [show leafB L fl [85, 73, 68] t f n set = (S.hasB set L.uid L.mu) from by simp [leafB]]
    exact uid_any he hb0 h hf (by omega) _ t f n a p c d q g rfl set hs hsl
  rw [show leafB L fl op t f n set = false from by simp [leafB, h0, h1, h2, h3, h4, h5, h6, h7, h8, h9, h10, h11, h12, h13, h14, h15, h16, h17, h18, h19, h20, h21, h22, h23, h24, h25, h26, h27, h28, h29, h30]]
  exact none_any he hb0 h hf (by omega) op t f n a p c d q g h0 h1 h2 h3 h4 h5 h6 h7 h8 h9 h10 h11 h12 h13 h14 h15 h16 h17 h18 h19 h20 h21 h22 h23 h24 h25 h26 h27 h28 h29 h30 n1 n2 n3
end Go.Proofs.YtaniljfjmbifnaaGreatDoor.H
namespace Go.Proofs.YtaniljfjmbifnaaGreatDoor.H
open Go.RowKit
set_option linter.unusedVariables false
set_option linter.unusedSimpArgs false

theorem asks_all {W0 : World} (he : Env W0) (L0 : Lk) (fl : List Bs) (hfl : RL W0 (sv L0.fl) 1 (fl.map sR)) (hfn : fl.length ≤ 1000000) (hfb : ∀ x ∈ fl, x.length ≤ 10000000) (ht : L0.text.length ≤ 1500) (hlo : L0.lost = false) {b : Nat} (hb : W0.heap.size ≤ b) :
    ∀ (h : Nat) (v : Kv) (r : Ky), KOk W0 r v → Fit h v → ∀ (D : Int), 0 ≤ D → D + h ≤ 900 → Asks W0 b { L0 with deep := D } r (matchB (leafB L0 fl) v) := by
  intro h
  induction h using Nat.strongRecOn with
  | _ h ih =>
  intro v r hK hF D hD0 hD1 w1 L1 hL1 hS
  obtain ⟨rd, fs, rfl⟩ := hL1
  obtain ⟨_, set, rows, hs, hk, hr⟩ := hK
  have hall := hF.all
  have hp := he.pos
  have he1 := he.later hS.bel
  rw [List.length_map] at hall
  have HQ : ∀ p ∈ rows, Asks W0 b { { L0 with deep := D, rd := rd, fs := fs } with deep := D + 1 } p.1 (matchB (leafB L0 fl) p.2) := by
    intro p hp
    obtain ⟨h', rfl, hf'⟩ := hF.kid p.2 (List.mem_map.2 ⟨p, hp, rfl⟩)
    exact (ih h' (by omega) p.2 p.1 (hr p hp) hf' (D + 1) (by omega) (by omega)).other rd fs
  have hsl := hs
  rw [matchB_eq]
  by_cases n1 : r.op = notN
  · rw [if_pos n1]
    exact not_any hS hlo hD0 (show D ≤ 1000 by omega) (leafB L0 fl) r.op r.text r.field r.n r.set.1 r.set.2.1 r.set.2.2 r.kids.1 r.kids.2.1 r.kids.2.2 hk (by omega) HQ n1
  · rw [if_neg n1]
    by_cases n2 : r.op = orN
    · rw [if_pos n2]
      exact or_any hS hlo hD0 (show D ≤ 1000 by omega) (leafB L0 fl) r.op r.text r.field r.n r.set.1 r.set.2.1 r.set.2.2 r.kids.1 r.kids.2.1 r.kids.2.2 hk (by omega) HQ n2
    · rw [if_neg n2]
      by_cases n3 : r.op = andN
      · rw [if_pos n3]
        exact and_any hS hlo hD0 (show D ≤ 1000 by omega) (leafB L0 fl) r.op r.text r.field r.n r.set.1 r.set.2.1 r.set.2.2 r.kids.1 r.kids.2.1 r.kids.2.2 hk (by omega) HQ n3
      · rw [if_neg n3]
        exact leaf_any he1 (by omega) hS.at_ hS.fs ht fl (hfl.later hS.bel) hfn hfb r.op r.text r.field r.n r.set.1 r.set.2.1 r.set.2.2 r.kids.1 r.kids.2.1 r.kids.2.2 (by omega) (by omega) set (hs.later hS.bel) (by omega) n1 n2 n3
/-- A message, as it is looked at. -/
def Ml.lk (m : Ml) (seq most mu : Int) : Lk := ⟨m.uid, (m.fa, m.fn, m.fc), m.d1, m.d2, m.d3, m.d4, m.d5, m.d6, m.d7, m.text, m.size, m.id, seq, most, mu, false, (none, 0, 0), 0, false⟩
theorem match_k {W0 : World} (he : Env W0) (m : Ml) (fl : List Bs) (hfl : RL W0 (.slice m.fa m.fn m.fc) 1 (fl.map sR)) (hfn : fl.length ≤ 1000000) (hfb : ∀ x ∈ fl, x.length ≤ 10000000) (ht : m.text.length ≤ 1500) (seq most mu : Int) {r : Ky} {v : Kv} (hK : KOk W0 r v) (hF : Fit 100 v) :
    Calls Tryz.prog 11 #[kyV r, m.v, .int .i64 seq, .int .i64 most, .int .i64 mu] W0 fun e w' => e = .returned (.bool (matchB (leafB (m.lk seq most mu) fl) v)) ∧ Below W0.heap.size W0 w' := by
  refine match2_any r.op r.text r.field r.n r.set.1 r.set.2.1 r.set.2.2 r.kids.1 r.kids.2.1 r.kids.2.2 m.uid m.fa m.fn m.fc m.d1 m.d2 m.d3 m.d4 m.d5 m.d6 m.d7 m.text m.size m.id seq most mu (matchB (leafB (m.lk seq most mu) fl) v) ?_
  intro w1 b hb hL hB
  exact asks_all he (m.lk seq most mu) fl hfl hfn hfb ht rfl hb 100 v r hK hF 0 (by omega) (by omega) w1 (m.lk seq most mu) ⟨false, (none, 0, 0), rfl⟩ ⟨hB, hb, hL, fun h => by cases h⟩
end Go.Proofs.YtaniljfjmbifnaaGreatDoor.H
