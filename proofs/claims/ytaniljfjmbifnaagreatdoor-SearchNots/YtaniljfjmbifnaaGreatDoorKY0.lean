/- What this text holds: a key that asks for words in a field. · What this text holds: whether a key that asks for a subject matches. -/
import Derived.Test.YtaniljfjmbifnaaGreatDoorK4
namespace Go.Proofs.YtaniljfjmbifnaaGreatDoor.H
open Go.RowKit
set_option linter.unusedVariables false
set_option linter.unusedSimpArgs false

/-- A key. -/
structure Ky where
  op : Bs
  text : Bs
  field : Bs
  n : Int
  set : Option Addr × Nat × Nat
  kids : Option Addr × Nat × Nat
def Ky.c (K : Ky) : List Value := [.string (str K.op), .string (str K.text), .string (str K.field), .int .i64 K.n, sv K.set, sv K.kids]
def kyV (K : Ky) : Value := .agg K.c.toArray
def KyAt (w : World) (b : Nat) (K : Ky) : Prop := w.heap[b]? = some (.cells K.c.toArray 28 (0, 0))
theorem KyAt.lt {w : World} {b : Nat} {K : Ky} (h : KyAt w b K) : b < w.heap.size := (Array.getElem?_eq_some_iff.1 h).1
theorem KyAt.cell {w : World} {b : Nat} {K : Ky} (h : KyAt w b K) (j : Nat) : w.cell? ⟨b, j, none⟩ = K.c[j]? := by
  simp [World.cell?, show w.heap[b]? = _ from h]
theorem KyAt.later {w w' : World} {b : Nat} {K : Ky} (h : KyAt w b K) (hb : Below w.heap.size w w') : KyAt w' b K := (hb.block b h.lt).trans h
theorem KyAt.kept {w w' : World} {b : Nat} {K : Ky} {S : List Nat} (h : KyAt w b K) (hk : Kept S w w') (hb : b ∉ S) : KyAt w' b K := (hk.block b h.lt hb).trans h
def wordW (v : Bs) : Bs := W.wordsP false (W.joined [v])
theorem sl_one (w : World) (q : Nat) (v : Bs) (h : w.heap[q]? = some (.cells #[.string (str v)] 9 (0, 0))) : W.SL w (.slice (some ⟨q, 0, none⟩) 1 1) [v] := by
  refine ⟨_, 1, rfl, Nat.le_refl _, .inr ⟨q, 0, rfl, ?_⟩⟩
  intro j x hj
  cases j with
  | zero =>
    simp at hj
    subst hj
    simp only [World.cell?, h]
    rfl
  | succ j => simp at hj
set_option maxRecDepth 100000 in
set_option maxHeartbeats 1000000 in
theorem says_any {w : World} (he : Env w) {kb : Nat} {K : Ky} (hk : KyAt w kb K) (v : Bs) (hv : (W.joined [v]).length ≤ 1000000) (hw : (wordW v).length ≤ 10000000) (ht : K.text.length ≤ 10000000) :
    Calls Tryz.prog 36 #[.string (str v), .pointer (some ⟨kb, 0, none⟩)] w fun e w' => e = .returned (.bool (conB (wordW v) K.text)) ∧ Below w.heap.size w w' := by
  have HE := hid he
  have HK := hid hk
  have HC := hid (fun (w0 : World) (q : Nat) (h : w0.heap[q]? = some (.cells #[.string (str v)] 9 (0, 0))) => W.words_any [v] _ _ (sl_one w0 q v h) (by simp) hv)
  have c1 := hk.cell 1
  simp only [Ky.c, List.getElem?_cons_succ, List.getElem?_cons_zero] at c1
  have hF : ∀ w, (Instr.fieldAt 28 (.pointer (some ⟨kb, 0, none⟩)) 1).run Tryz.prog w = .ok (.pointer (some ⟨kb, 1, none⟩)) w := fun w => by kernel_rfl
  have HW := hid hw
  have HT := hid ht
  have HCon := hid (fun (w0 : World) (h0 : Env w0) => con_any (wordW v) K.text h0 HW.out HT.out)
  have hcell : Hid (∀ w' : World, KyAt w' kb K → w'.cell? ⟨kb, 1, none⟩ = some (.string (str K.text))) := fun w' h => by
    have := h.cell 1
    simpa [Ky.c] using this
  clear he hk hw ht hv
  go_enter Tryz.func36, Tryz.ntmps36
  go_wp2_with fail
  have qc := c1
  go_region_held3 (fun w' => w'.cell? ⟨kb, 1, none⟩ = some (.string (str K.text))) (first | exact qc | exact c1 | go_keep) (first
    | (go_at_call 37; refine (HC.out _ _ ?_).mono ?_; exact heap_alloc_new w _; rintro e wk ⟨rfl, hb⟩; have HBc : Below w.heap.size w wk := Below.trans (by repeat (first | exact Below.refl _ _ | refine Below.alloc ?_ (by first | (simp; done) | (simp; omega)) _ | refine Below.drew ?_)) (hb.mono (by simp)); have qc := hcell.out wk (HK.out.later HBc); clear hb)
    | (go_at_call 8; refine (HCon.out _ (HE.out.later (by repeat (first | exact HBc | refine Below.drew ?_)))).mono ?_; rintro e w5 ⟨rfl, hb5⟩; have HB5 : Below w.heap.size w w5 := Below.trans (by repeat (first | exact HBc | refine Below.drew ?_)) (hb5.mono (by first | exact HBc.size | (simp; exact HBc.size))); have qc := hcell.out w5 (HK.out.later HB5); clear hb5))
  go_wp2_with fail
  go_ret
  exact ⟨rfl, HB5⟩
def asksB (l : List Bs) (t : Bs) : Bool := l.any fun v => conB (wordW v) t
set_option maxRecDepth 100000 in
set_option maxHeartbeats 1000000 in
theorem index_any {w : World} (he : Env w) {kb : Nat} {K : Ky} (hk : KyAt w kb K) {u : Value} {l : List Bs} (h : RL w u 1 (l.map sR)) (hl : l.length ≤ 1000000) (hb : ∀ v ∈ l, (W.joined [v]).length ≤ 1000000 ∧ (wordW v).length ≤ 10000000) (ht : K.text.length ≤ 10000000) :
    Calls Tryz.prog 63 #[u, .func (.func 36) #[] #[.pointer (some ⟨kb, 0, none⟩)]] w fun e w' => (∃ n : Int, e = .returned (.int .i64 n) ∧ decide (0 ≤ n) = asksB l K.text) ∧ Below w.heap.size w w' := by
  obtain ⟨hw, a, c, rfl, hc, hr⟩ := h
  rw [List.length_map] at *
  rcases hr with hr | ⟨g, o, rfl, hr, hg⟩
  · have : l = [] := by simpa using hr
    subst this
    go_enter Tryz.func63, Tryz.ntmps63
    go_wp2_with fail
    go_loopw [8] (fun i wr => i = .int .i64 0 ∧ wr = w) (fun _ _ => 0)
    case atStart => exact ⟨rfl, rfl⟩
    case round =>
      obtain ⟨rfl, rfl⟩ := hrel
      go_wp2_with fail
      go_ret
      exact ⟨⟨-1, rfl, rfl⟩, Below.refl _ _⟩
  · have HR := hid hr
    have HBd := hid hb
    have HE := hid he
    have HK := hid hk
    have HT := hid ht
    clear hr hb he hk ht
    go_enter Tryz.func63, Tryz.ntmps63
    go_wp2_with fail
    go_loopw [8] (fun i wr => ∃ k : Nat, k ≤ l.length ∧ i = .int .i64 k ∧ asksB (l.take k) K.text = false ∧ Below w.heap.size w wr) (fun i _ => l.length - (intOf i).toNat)
    case atStart => exact ⟨0, by omega, rfl, rfl, Below.refl _ _⟩
    case round =>
      obtain ⟨k, hk, rfl, hno, hb2⟩ := hrel
      have HB2 := hid hb2
      have HNo := hid hno
      clear hb2 hno
      by_cases hlt : k < l.length
      · have hlt' : (k : Int) < l.length := by omega
        have HR2 := hid (HR.out.later HB2.out)
        have hrec : (l.map sR)[k]? = some (sR l[k]) := by rw [List.getElem?_map, List.getElem?_eq_getElem hlt]; rfl
        have hc0 : wr.cell? ⟨g, o + k, none⟩ = some (.string (str l[k])) := by
          have := HR2.out.rec k _ hrec 0 _ rfl
          simpa using this
        have hbd := HBd.out _ (List.getElem_mem hlt)
        have HS : Hid (asksB (l.take (k + 1)) K.text = conB (wordW l[k]) K.text) := by
          have h1 := HNo.out
          unfold asksB at h1
          unfold Hid asksB
          rw [List.take_succ_eq_append_getElem hlt, List.any_append, h1]
          simp
        have HA : Hid (conB (wordW l[k]) K.text = true → asksB l K.text = true) := fun h => List.any_eq_true.2 ⟨l[k], List.getElem_mem hlt, h⟩
        clear hrec HBd
        generalize l[k] = x at *
        have C := says_any (HE.out.later HB2.out) (HK.out.later HB2.out) x hbd.1 hbd.2 HT.out
        rcases hq : conB (wordW x) K.text with _ | _
        · rw [hq] at C HS
          clear hq
          go_wp2_with fail
          refine C.mono ?_
          rintro e w3 ⟨rfl, b3⟩
          have HB3 := hid (HB2.out.trans (b3.mono HB2.out.size))
          clear b3
          go_wp2_with fail
          go_roundw
          case rel => exact ⟨k + 1, by omega, by go_num, HS.out, HB3.out⟩
          case measure => simp [intOf]; omega
        · rw [hq] at C
          have HA2 := hid (HA.out hq)
          clear hq
          go_wp2_with fail
          refine C.mono ?_
          rintro e w3 ⟨rfl, b3⟩
          have HB3 := hid (HB2.out.trans (b3.mono HB2.out.size))
          clear b3
          go_wp2_with fail
          go_ret
          refine ⟨⟨k, rfl, ?_⟩, HB3.out⟩
          rw [HA2.out]
          simp
      · have hlt' : ¬ (k : Int) < l.length := by omega
        have HN : Hid (asksB l K.text = false) := by
          have := HNo.out
          rw [List.take_of_length_le (by omega)] at this
          exact this
        go_wp2_with fail
        go_ret
        refine ⟨⟨-1, rfl, ?_⟩, HB2.out⟩
        rw [HN.out]
        rfl
set_option maxRecDepth 100000 in
theorem asks_any {w : World} (he : Env w) {kb : Nat} {K : Ky} (hk : KyAt w kb K) {u : Value} {l : List Bs} (h : RL w u 1 (l.map sR)) (hl : l.length ≤ 1000000) (hb : ∀ v ∈ l, (W.joined [v]).length ≤ 1000000 ∧ (wordW v).length ≤ 10000000) (ht : K.text.length ≤ 10000000) :
    Calls Tryz.prog 34 #[u, .func (.func 36) #[] #[.pointer (some ⟨kb, 0, none⟩)]] w fun e w' => e = .returned (.bool (asksB l K.text)) ∧ Below w.heap.size w w' := by
  have C := index_any he hk h hl hb ht
  obtain ⟨_, a, c, rfl, _⟩ := h
  rw [List.length_map] at C ⊢
  go_enter Tryz.func34, Tryz.ntmps34
  go_wp2_with fail
  refine C.mono ?_
  rintro e w2 ⟨⟨n, rfl, hn⟩, b2⟩
  go_wp2_with fail
  go_ret
  exact ⟨by rw [← hn]; rfl, b2⟩
end Go.Proofs.YtaniljfjmbifnaaGreatDoor.H
namespace Go.Proofs.YtaniljfjmbifnaaGreatDoor.H
open Go.RowKit
set_option linter.unusedVariables false
set_option linter.unusedSimpArgs false

def subj : Bs := [83, 85, 66, 74, 69, 67, 84]
theorem KyAt.new (w : World) (K : Ky) : KyAt (w.alloc (.cells K.c.toArray 28)) w.heap.size K := heap_alloc_new _ _
theorem vals_len {t : Bs} (ht : t.length ≤ 1000000) (name : Bs) : (valsL t name).length ≤ 1000000 := by
  unfold valsL getP
  rw [List.length_map]
  exact Nat.le_trans (List.length_filter_le _ _) (head_len t ht).1
set_option maxRecDepth 100000 in
set_option maxHeartbeats 4000000 in
theorem subject_any {w : World} {b : Nat} {L : Lk} (he : Env w) (hb0 : 0 < b) (h : LkAt w b L) (hf : FsOk w L) (ht : L.text.length ≤ 1000000) (op t f : Bs) (n : Int) (a : Option Addr) (p c : Nat) (d : Option Addr) (q g : Nat) (htl : t.length ≤ 10000000) (hop : op = subj)
    (hv : ∀ v ∈ valsL L.text op, (W.joined [v]).length ≤ 1000000 ∧ (wordW v).length ≤ 10000000) :
    Calls Tryz.prog 23 #[.pointer (some ⟨b, 0, none⟩), .agg #[.string (str op), .string (str t), .string (str f), .int .i64 n, .slice a p c, .slice d q g]] w fun e w' => (∃ fs, LkAt w' b { L with rd := true, fs := fs } ∧ FsOk w' { L with rd := true, fs := fs }) ∧ e = .returned (.bool (asksB (valsL L.text op) t)) ∧ Kept [b] w w' := by
  have q0 : ((str op).toList == ([65, 76, 76] : Bs)) = false := by rw [toL, hop]; decide
  have q1 : ((str op).toList == ([65, 78, 83, 87, 69, 82, 69, 68] : Bs)) = false := by rw [toL, hop]; decide
  have q2 : ((str op).toList == ([68, 69, 76, 69, 84, 69, 68] : Bs)) = false := by rw [toL, hop]; decide
  have q3 : ((str op).toList == ([68, 82, 65, 70, 84] : Bs)) = false := by rw [toL, hop]; decide
  have q4 : ((str op).toList == ([70, 76, 65, 71, 71, 69, 68] : Bs)) = false := by rw [toL, hop]; decide
  have q5 : ((str op).toList == ([83, 69, 69, 78] : Bs)) = false := by rw [toL, hop]; decide
  have q6 : ((str op).toList == ([85, 78, 65, 78, 83, 87, 69, 82, 69, 68] : Bs)) = false := by rw [toL, hop]; decide
  have q7 : ((str op).toList == ([85, 78, 68, 69, 76, 69, 84, 69, 68] : Bs)) = false := by rw [toL, hop]; decide
  have q8 : ((str op).toList == ([85, 78, 68, 82, 65, 70, 84] : Bs)) = false := by rw [toL, hop]; decide
  have q9 : ((str op).toList == ([85, 78, 70, 76, 65, 71, 71, 69, 68] : Bs)) = false := by rw [toL, hop]; decide
  have q10 : ((str op).toList == ([85, 78, 83, 69, 69, 78] : Bs)) = false := by rw [toL, hop]; decide
  have q11 : ((str op).toList == ([75, 69, 89, 87, 79, 82, 68] : Bs)) = false := by rw [toL, hop]; decide
  have q12 : ((str op).toList == ([85, 78, 75, 69, 89, 87, 79, 82, 68] : Bs)) = false := by rw [toL, hop]; decide
  have q13 : ((str op).toList == ([66, 67, 67] : Bs)) = false := by rw [toL, hop]; decide
  have q14 : ((str op).toList == ([67, 67] : Bs)) = false := by rw [toL, hop]; decide
  have q15 : ((str op).toList == ([70, 82, 79, 77] : Bs)) = false := by rw [toL, hop]; decide
  have q99 : ((str op).toList == ([83, 85, 66, 74, 69, 67, 84] : Bs)) = true := by rw [toL, hop]; decide
  have hopl : op.length ≤ 10000000 := by rw [hop]; decide
  clear hop
  have ha : Below w.heap.size w (w.alloc (.cells #[.string (str op), .string (str t), .string (str f), .int .i64 n, .slice a p c, .slice d q g] 28)) := (Below.refl _ _).alloc (Nat.le_refl _) _
  obtain ⟨w1, hw1⟩ : ∃ w1, w.alloc (.cells #[.string (str op), .string (str t), .string (str f), .int .i64 n, .slice a p c, .slice d q g] 28) = w1 := ⟨_, rfl⟩
  have HKy : Hid (KyAt w1 w.heap.size ⟨op, t, f, n, (a, p, c), (d, q, g)⟩) := by rw [← hw1]; exact KyAt.new w ⟨op, t, f, n, (a, p, c), (d, q, g)⟩
  rw [hw1] at ha
  have HE := hid (he.later ha)
  have HAt := hid (h.later ha)
  have HFs : Hid (FsOk w1 L) := fun hr => (hf hr).later ha
  have HB := hid ha
  have HLt := hid h.lt
  have HV := hid hv
  have HT := hid ht
  have HTL := hid htl
  have C := values_any HE.out hb0 HAt.out HFs.out ht op hopl
  have k0 := HKy.out.cell 0
  have k1 := HKy.out.cell 1
  simp only [Ky.c, List.getElem?_cons_succ, List.getElem?_cons_zero] at k0 k1
  clear he h hf ha hv
  go_enter Tryz.func23, Tryz.ntmps23
  go_wp2_with fail
  clear hw1
  refine C.mono ?_
  rintro e w2 ⟨u, fs, rfl, hr, hl, hfs, hkp⟩
  have HKy2 := hid (HKy.out.kept hkp (by simp; have := HLt.out; omega))
  have HE2 : Hid (Env w2) := by
    obtain ⟨m, hm⟩ := HE.out
    exact ⟨m, (World.cell?_of_block (hkp.block 0 (by have := HB.out.size; have := HLt.out; omega) (by simp; omega))).trans hm⟩
  have D := asks_any HE2.out HKy2.out hr (vals_len HT.out op) HV.out HTL.out
  obtain ⟨_, ra, rc, hru, _⟩ := id hr
  subst hru
  rw [List.length_map] at D ⊢
  have HL2 := hid hl
  have HF2 := hid hfs
  have HK2 := hid (kept_t (Kept.ofBelow HB.out [b]) hkp)
  clear hr hl hfs hkp C k0 k1
  go_wp2_with fail
  refine D.mono ?_
  rintro e w3 ⟨rfl, b3⟩
  have HL3 := hid (HL2.out.later b3)
  have HF3 : Hid (FsOk w3 { L with rd := true, fs := fs }) := fun hr => (HF2.out hr).later b3
  have HK3 := hid (kept_t HK2.out (Kept.ofBelow b3 [b]))
  clear b3 D
  go_wp2_with fail
  go_ret
  exact ⟨⟨fs, HL3.out, HF3.out⟩, rfl, HK3.out⟩
end Go.Proofs.YtaniljfjmbifnaaGreatDoor.H
