/- What this text holds: what is left of a kind's text, in memory; what takes of it: blanks, signs, tokens. -/
import Derived.Test.YtgolcmafbenjbaaGreatDoorM8
import Derived.Test.YtgolcmafbenjbaaGreatDoorK1
namespace Go.Proofs.YtgolcmafbenjbaaGreatDoor
open Go.RowKit
set_option linter.unusedVariables false
set_option linter.unusedSimpArgs false

/-- What is left lies in memory. -/
structure MAt (w : World) (b : Nat) (l : Bs) : Prop where
  at_ : w.heap[b]? = some (.cells #[.string (str l)] 46 (0, 0))
theorem MAt.cell {w : World} {b : Nat} {l : Bs} (h : MAt w b l) : w.cell? ⟨b, 0, none⟩ = some (.string (str l)) := by simp [World.cell?, h.at_]
theorem MAt.froz {w : World} {b : Nat} {l : Bs} (h : MAt w b l) : w.frozen? ⟨b, 0, none⟩ = false := by simp [World.frozen?, h.at_]
theorem MAt.set {w : World} {b : Nat} {l : Bs} (h : MAt w b l) (l' : Bs) : MAt (w.setCell ⟨b, 0, none⟩ (.string (str l'))) b l' :=
  ⟨by rw [heap_setCell_same _ _ _ _ _ _ h.at_]; rfl⟩
theorem MAt.lt {w : World} {b : Nat} {l : Bs} (h : MAt w b l) : b < w.heap.size := lt_of_some h.at_
theorem MAt.later {w w' : World} {b : Nat} {l : Bs} (h : MAt w b l) (hb : Below w.heap.size w w') : MAt w' b l := ⟨(hb.block b h.lt).trans h.at_⟩
theorem MAt.drewN {w : World} {b : Nat} {l : Bs} (h : MAt w b l) (n : Nat) : MAt (w.drewN n) b l := ⟨h.at_⟩
theorem kept_set (w : World) (b : Nat) (v : Value) : Kept [b] w (w.setCell ⟨b, 0, none⟩ v) := Kept.setCell _ _ _ _ (by simp)
theorem Kept.tr {b : Nat} {a c d : World} (h : Kept [b] a c) (k : Kept [b] c d) : Kept [b] a d := h.trans k (fun i _ hi => hi)
theorem Kept.sz {S : List Nat} {a c : World} (h : Kept S a c) : a.heap.size ≤ c.heap.size := h.size
theorem Kept.drewN (S : List Nat) (w : World) (n : Nat) : Kept S w (w.drewN n) := ⟨rfl, rfl, rfl, Nat.le_refl _, fun _ _ _ => rfl⟩

set_option maxRecDepth 100000 in
set_option maxHeartbeats 1000000 in
theorem take_any {w : World} {b : Nat} {l : Bs} (h : MAt w b l) (n : Nat) (hn : n ≤ l.length) (hl : l.length ≤ 10000000) :
    Calls Tryz.prog 45 #[.pointer (some ⟨b, 0, none⟩), .int .i64 n] w fun e w' => e = .returned (.string (str (l.take n))) ∧ w' = w.setCell ⟨b, 0, none⟩ (.string (str (l.drop n))) := by
  have hsz := str_size l
  have hc := h.cell
  have hf := h.froz
  have hn' : (n : Int) ≤ l.length := by omega
  have HT : Hid ((str l).extract 0 n = str (l.take n)) := take_str l n
  have HD : Hid ((str l).extract n l.length = str (l.drop n)) := by rw [Hid, ← str_size]; exact drop_str l n
  clear h hn
  go_enter Tryz.func45, Tryz.ntmps45
  go_wp2_with fail
  go_ret
  rw [HD.out]
  exact ⟨by rw [← HT.out]; rfl, rfl⟩

theorem tls (l : Bs) : Go.Lib.trimLeftS l [9, 32] = pb l := by
  unfold Go.Lib.trimLeftS pb
  congr 1
  funext c
  simp [bl, List.contains, List.elem]
  cases c == 9 <;> simp
  cases c == 32 <;> rfl
theorem trimLeft_any (l : Bs) (w : World) : Calls Tryz.prog 59 #[.string (str l), .string ⟨#[9, 32]⟩] w fun e w' => e = .returned (.string (str (pb l))) ∧ Below w.heap.size w w' := by
  have C := Tryz.strings_TrimLeft_set (str l) ⟨#[9, 32]⟩ w (by decide) (ascii_of_all (by decide))
  rw [str_data, show ({ data := #[9, 32] } : ByteArray).data.toList = [9, 32] from rfl, tls] at C
  exact C
set_option maxRecDepth 100000 in
set_option maxHeartbeats 1000000 in
theorem blanks_any {w : World} {b : Nat} {l : Bs} (h : MAt w b l) (hl : l.length ≤ 10000000) :
    Calls Tryz.prog 43 #[.pointer (some ⟨b, 0, none⟩)] w fun e w' => e = .returned (.tuple #[]) ∧ MAt w' b (pb l) ∧ Kept [b] w w' := by
  have hsz := str_size l
  have hc := h.cell
  have HC := hid (trimLeft_any l w)
  have HM := hid h
  clear h
  go_enter Tryz.func43, Tryz.ntmps43
  go_wp2_with fail
  refine HC.out.mono ?_
  rintro e w1 ⟨rfl, hb⟩
  have hm := HM.out.later hb
  have hf := hm.froz
  have hc1 := hm.cell
  have HM1 := hid hm
  have HB := hid hb
  clear hm hb
  go_wp2_with fail
  go_end0
  exact ⟨rfl, HM1.out.set _, (Kept.ofBelow HB.out _).tr (kept_set _ _ _)⟩

theorem sgn_some {c : UInt8} {l t : Bs} (h : sgn c l = some t) : pb l = c :: t := by
  unfold sgn at h
  split at h
  · cases h
  · split at h
    · rename_i e h1
      cases h
      rw [e, h1]
    · cases h
theorem sgn_pre {c : UInt8} {l : Bs} (h : sgn c l = none) : Go.Lib.hasPrefix (pb l) [c] = false := by
  unfold sgn at h
  unfold Go.Lib.hasPrefix
  split at h
  · rename_i e; rw [e]; rfl
  · split at h
    · cases h
    · rename_i d t e h1
      rw [e]
      simp [List.isPrefixOf]
      exact fun e => h1 e.symm
theorem pre_cons (c : UInt8) (t : Bs) : Go.Lib.hasPrefix (c :: t) [c] = true := by simp [Go.Lib.hasPrefix, List.isPrefixOf]

set_option maxRecDepth 100000 in
set_option maxHeartbeats 1000000 in
theorem sign_yes {w : World} {b : Nat} {l t : Bs} (h : MAt w b l) (c : UInt8) (hs : sgn c l = some t) (hl : l.length ≤ 10000000) :
    Calls Tryz.prog 33 #[.pointer (some ⟨b, 0, none⟩), .string ⟨#[c]⟩] w fun e w' => e = .returned (.bool true) ∧ MAt w' b t ∧ Kept [b] w w' := by
  have HC := hid (blanks_any h hl)
  have hp := sgn_some hs
  rw [hp] at HC
  have hlt : t.length + 1 ≤ l.length := by have := pb_len l; rw [hp] at this; simpa using this
  have hz : ({ data := #[c] } : ByteArray).size = 1 := rfl
  clear h hp hs
  go_enter Tryz.func33, Tryz.ntmps33
  go_wp2_with fail
  refine HC.out.mono ?_
  rintro e w1 ⟨rfl, hm, hk⟩
  have hc := hm.cell
  have C := Tryz.strings_HasPrefix (str (c :: t)) ⟨#[c]⟩ w1
  rw [str_data, show ({ data := #[c] } : ByteArray).data.toList = [c] from rfl, pre_cons] at C
  have HC1 := hid C
  have HC2 := hid (take_any hm 1 (by simp) (by simp; omega))
  have HM := hid hm
  have HK := hid hk
  clear hm hk C
  go_wp2_with fail
  refine HC1.out.mono ?_
  rintro e w2 ⟨rfl, rfl⟩
  go_wp2_with fail
  refine HC2.out.mono ?_
  rintro e w3 ⟨rfl, rfl⟩
  go_wp2_with fail
  go_ret
  exact ⟨rfl, HM.out.set t, HK.out.tr (kept_set _ _ _)⟩
set_option maxRecDepth 100000 in
set_option maxHeartbeats 1000000 in
theorem sign_no {w : World} {b : Nat} {l : Bs} (h : MAt w b l) (c : UInt8) (hs : sgn c l = none) (hl : l.length ≤ 10000000) :
    Calls Tryz.prog 33 #[.pointer (some ⟨b, 0, none⟩), .string ⟨#[c]⟩] w fun e w' => e = .returned (.bool false) ∧ MAt w' b (pb l) ∧ Kept [b] w w' := by
  have HC := hid (blanks_any h hl)
  have hp := sgn_pre hs
  clear h hs
  go_enter Tryz.func33, Tryz.ntmps33
  go_wp2_with fail
  refine HC.out.mono ?_
  rintro e w1 ⟨rfl, hm, hk⟩
  have hc := hm.cell
  have C := Tryz.strings_HasPrefix (str (pb l)) ⟨#[c]⟩ w1
  rw [str_data, show ({ data := #[c] } : ByteArray).data.toList = [c] from rfl, hp] at C
  have HC1 := hid C
  have HM := hid hm
  have HK := hid hk
  clear hm hk C hp
  go_wp2_with fail
  refine HC1.out.mono ?_
  rintro e w2 ⟨rfl, rfl⟩
  go_wp2_with fail
  go_ret
  exact ⟨rfl, HM.out, HK.out⟩

theorem index_neg : ∀ (l : Bs) (c : UInt8), decide (Go.Lib.indexByte l c < 0) = !l.contains c
  | [], c => by simp [Go.Lib.indexByte]
  | d :: l, c => by
    have ih := index_neg l c
    have hg := Go.Lib.indexByte_ge l c
    unfold Go.Lib.indexByte
    by_cases h : d = c
    · subst h
      simp
    · rw [if_neg (by simpa using h)]
      by_cases h1 : Go.Lib.indexByte l c = -1
      · rw [if_pos (by simp [h1])]
        rw [h1] at ih
        simp at ih ⊢
        exact ⟨fun e => h e.symm, ih⟩
      · rw [if_neg (by simp [h1])]
        have : ¬ Go.Lib.indexByte l c < 0 := by omega
        have h2 : ¬ Go.Lib.indexByte l c + 1 < 0 := by omega
        rw [decide_eq_false this] at ih
        rw [decide_eq_false h2]
        simp at ih ⊢
        exact fun _ => ih
set_option maxRecDepth 100000 in
set_option maxHeartbeats 1000000 in
theorem ofTok_any (c : UInt8) (w : World) : Calls Tryz.prog 44 #[.int .u8 c.toNat] w fun e w' => e = .returned (.bool (tk c)) ∧ w' = w := by
  have hn := index_neg noTok c
  have HC := hid (Tryz.strings_IndexByte (str noTok) c.toNat w)
  have e10 : ((c.toNat : Int)).toNat.toUInt8 = c := by simp
  rw [e10, str_data] at HC
  have HT : Hid (tk c = (decide (32 < c.toNat) && decide (c.toNat ≤ 126) && decide (Go.Lib.indexByte noTok c < 0))) := by rw [hn]; rfl
  rw [HT.out]
  generalize Go.Lib.indexByte noTok c = k at *
  clear hn HT
  by_cases h1 : 32 < c.toNat
  · have h1' : (32 : Int) < c.toNat := by omega
    by_cases h2 : c.toNat ≤ 126
    · have h2' : (c.toNat : Int) ≤ 126 := by omega
      have HD : Hid ((decide (32 < c.toNat) && decide (c.toNat ≤ 126) && decide (k < 0)) = decide (k < 0)) := by simp [Hid, h1, h2]
      rw [HD.out]
      clear h1 h2
      go_enter Tryz.func44, Tryz.ntmps44
      go_wp2_with fail
      refine HC.out.mono ?_
      rintro e w1 ⟨rfl, rfl⟩
      go_wp2_with fail
      go_ret
      exact ⟨rfl, rfl⟩
    · have h2' : ¬ (c.toNat : Int) ≤ 126 := by omega
      have HD : Hid ((decide (32 < c.toNat) && decide (c.toNat ≤ 126) && decide (k < 0)) = false) := by simp [Hid, h2]
      rw [HD.out]
      clear h1 h2
      go_enter Tryz.func44, Tryz.ntmps44
      go_wp2_with fail
      go_ret
      exact ⟨rfl, rfl⟩
  · have h1' : ¬ (32 : Int) < c.toNat := by omega
    have HD : Hid ((decide (32 < c.toNat) && decide (c.toNat ≤ 126) && decide (k < 0)) = false) := by simp [Hid, h1]
    rw [HD.out]
    clear h1
    go_enter Tryz.func44, Tryz.ntmps44
    go_wp2_with fail
    go_ret
    exact ⟨rfl, rfl⟩

theorem tw_at (p : UInt8 → Bool) : ∀ (l : Bs) (k : Nat) (hk : k < (l.takeWhile p).length) (hl : k < l.length), p (l[k]'hl) = true
  | c :: l, k, hk, hl => by
    rw [List.takeWhile_cons] at hk
    split at hk
    · rename_i h
      cases k with
      | zero => exact h
      | succ k => exact tw_at p l k (by simpa using hk) (by simpa using hl)
    · simp at hk
theorem tw_out (p : UInt8 → Bool) : ∀ (l : Bs) (hl : (l.takeWhile p).length < l.length), p (l[(l.takeWhile p).length]'hl) = false
  | c :: l, hl => by
    by_cases h : p c = true
    · have e : (c :: l).takeWhile p = c :: l.takeWhile p := by rw [List.takeWhile_cons, if_pos h]
      have hl' : (l.takeWhile p).length < l.length := by rw [e] at hl; simpa using hl
      have := tw_out p l hl'
      simp only [e, List.length_cons, List.getElem_cons_succ]
      exact this
    · have e : (c :: l).takeWhile p = [] := by rw [List.takeWhile_cons, if_neg h]
      simp only [e, List.length_nil, List.getElem_cons_zero]
      simpa using h
theorem tw_take (p : UInt8 → Bool) (l : Bs) : l.take (l.takeWhile p).length = l.takeWhile p := by
  have := congrArg (List.take (l.takeWhile p).length) (List.takeWhile_append_dropWhile (p := p) (l := l))
  rw [List.take_left] at this
  exact this.symm
theorem tw_drop (p : UInt8 → Bool) (l : Bs) : l.drop (l.takeWhile p).length = l.dropWhile p := by
  have := congrArg (List.drop (l.takeWhile p).length) (List.takeWhile_append_dropWhile (p := p) (l := l))
  rw [List.drop_left] at this
  exact this.symm
theorem tw_len (p : UInt8 → Bool) (l : Bs) : (l.takeWhile p).length ≤ l.length := by
  have := congrArg List.length (List.takeWhile_append_dropWhile (p := p) (l := l))
  rw [List.length_append] at this
  omega
set_option maxRecDepth 100000 in
set_option maxHeartbeats 2000000 in
theorem token_any {w : World} {b : Nat} {l : Bs} (h : MAt w b l) (hl : l.length ≤ 10000000) :
    Calls Tryz.prog 32 #[.pointer (some ⟨b, 0, none⟩)] w fun e w' => e = .returned (.tuple #[.string (str (tokT l)), .bool (decide (tokT l ≠ []))]) ∧ MAt w' b (tokR l) ∧ Kept [b] w w' := by
  have HC := hid (blanks_any h hl)
  have HT : Hid (tokT l = (pb l).takeWhile tk) := rfl
  have HR : Hid (tokR l = (pb l).dropWhile tk) := rfl
  have hpl := pb_len l
  rw [HT.out, HR.out]
  generalize pb l = L at *
  have hsz := str_size L
  have HA := hid (tw_at tk L)
  have HO := hid (tw_out tk L)
  have HTk := hid (tw_take tk L)
  have HDr := hid (tw_drop tk L)
  have hle := tw_len tk L
  have HD : Hid (decide (L.takeWhile tk ≠ []) = decide (0 < (L.takeWhile tk).length)) := by
    rw [Hid, Bool.eq_iff_iff]; simp [List.length_pos_iff]
  rw [HD.out]
  clear h HT HR HD
  generalize hn : (L.takeWhile tk).length = n at *
  clear hn
  go_enter Tryz.func32, Tryz.ntmps32
  go_wp2_with fail
  refine HC.out.mono ?_
  rintro e w1 ⟨rfl, hm, hk⟩
  have hc := hm.cell
  have HC2 := hid (take_any hm n hle (by omega))
  have HM := hid hm
  have HK := hid hk
  clear hm hk
  go_wp2_with fail
  go_loop [4] (fun i => ∃ k : Nat, k ≤ n ∧ i = .int .i64 k) (fun i => n - (intOf i).toNat)
  case atStart => exact ⟨0, by omega, rfl⟩
  case round =>
    obtain ⟨k, hk, rfl⟩ := hrel
    by_cases hlt : k < n
    · have hlt1 : k < L.length := by omega
      have hlt' : (k : Int) < L.length := by omega
      have hlts : k < (str L).size := by omega
      have g : ((str L)[k]'hlts) = L[k]'hlt1 := rfl
      have ht : tk (L[k]'hlt1) = true := HA.out k hlt hlt1
      have C := ofTok_any (L[k]'hlt1) w1
      rw [ht] at C
      have HC3 := hid C
      generalize L[k]'hlt1 = x at *
      clear ht C
      go_wp2_with fail
      refine HC3.out.mono ?_
      rintro e w2 ⟨rfl, rfl⟩
      go_wp2_with fail
      go_round
      case rel => exact ⟨k + 1, by omega, by go_num⟩
      case measure => simp [intOf]; omega
    · have hkn : k = n := by omega
      subst hkn
      by_cases hlt1 : k < L.length
      · have hlt' : (k : Int) < L.length := by omega
        have hlts : k < (str L).size := by omega
        have g : ((str L)[k]'hlts) = L[k]'hlt1 := rfl
        have ht : tk (L[k]'hlt1) = false := HO.out hlt1
        have C := ofTok_any (L[k]'hlt1) w1
        rw [ht] at C
        have HC3 := hid C
        generalize L[k]'hlt1 = x at *
        clear ht C
        go_wp2_with fail
        refine HC3.out.mono ?_
        rintro e w2 ⟨rfl, rfl⟩
        go_wp2_with fail
        refine HC2.out.mono ?_
        rintro e w3 ⟨rfl, rfl⟩
        go_wp2_with fail
        go_ret2
        rw [HTk.out, HDr.out]
        exact ⟨by simp, HM.out.set _, HK.out.tr (kept_set _ _ _)⟩
      · have hlt' : ¬ (k : Int) < L.length := by omega
        go_wp2_with fail
        refine HC2.out.mono ?_
        rintro e w3 ⟨rfl, rfl⟩
        go_wp2_with fail
        go_ret2
        rw [HTk.out, HDr.out]
        exact ⟨by simp, HM.out.set _, HK.out.tr (kept_set _ _ _)⟩
end Go.Proofs.YtgolcmafbenjbaaGreatDoor
