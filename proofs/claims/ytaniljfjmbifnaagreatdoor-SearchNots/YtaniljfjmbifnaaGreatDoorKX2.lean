/- What this text holds: is a flag among those that are kept; do a field's values, as they are, contain a text. · What this text holds: keys that ask for all, for flags and keywords. · What this text holds: keys that ask for flags that are not there, and for keywords. · What this text holds: keys that ask for words of a header. · What this text holds: keys that ask for a text, for numbers, and keys that are none. -/
import Derived.Test.YtaniljfjmbifnaaGreatDoorKX6
import Derived.Test.YtaniljfjmbifnaaGreatDoorKX0
import Derived.Test.YtaniljfjmbifnaaGreatDoorSX
namespace Go.Proofs.YtaniljfjmbifnaaGreatDoor.H
open Go.RowKit
set_option linter.unusedVariables false
set_option linter.unusedSimpArgs false

/-- Is a flag among some? -/
def hasP (l : List Bs) (f : Bs) : Bool := match keptP f with
  | some g => hasB (flagsP l) g
  | none => false
theorem flags_len (l : List Bs) : (flagsP l).length ≤ l.length := by
  unfold flagsP
  rw [List.length_take]
  exact Nat.le_trans (Nat.min_le_right _ _) (all_len l)
set_option maxRecDepth 100000 in
set_option maxHeartbeats 1000000 in
theorem hasf_any {w : World} {v : Value} {l : List Bs} (h : RL w v 1 (l.map sR)) (hl : l.length ≤ 1000000) (hf : ∀ f ∈ l, f.length ≤ 10000000) (f : Bs) (hfl : f.length ≤ 10000000) :
    Calls Tryz.prog 33 #[v, .string (str f)] w fun e w' => e = .returned (.bool (hasP l f)) ∧ Below w.heap.size w w' := by
  obtain ⟨a, c, rfl, _⟩ := id h.2
  rw [List.length_map] at h ⊢
  have C := kept_any f w hfl
  have HFl := flags_len l
  rcases hk : keptP f with _ | g
  · rw [keptV_none hk] at C
    have HZ : Hid (hasP l f = false) := by unfold Hid hasP; rw [hk]
    clear hk h hl hf HFl
    go_enter Tryz.func33, Tryz.ntmps33
    go_wp2_with fail
    refine C.mono ?_
    rintro e w1 ⟨rfl, b1⟩
    have B1 := hid b1
    clear b1
    go_wp2_with fail
    go_ret
    exact ⟨by rw [HZ.out]; rfl, B1.out⟩
  · rw [keptV_some hk] at C
    have HZ : Hid (hasP l f = hasB (flagsP l) g) := by unfold Hid hasP; rw [hk]
    have HD := hid (fun (w0 : World) (h0 : Below w.heap.size w w0) => flags_any (h.later h0) hl hf)
    clear hk h hf
    go_enter Tryz.func33, Tryz.ntmps33
    go_wp2_with fail
    refine C.mono ?_
    rintro e w1 ⟨rfl, b1⟩
    have B1 := hid b1
    clear b1 C
    go_wp2_with fail
    refine (HD.out w1 B1.out).mono ?_
    rintro e w2 ⟨⟨u, rfl, hu⟩, b2⟩
    have B2 := hid (B1.out.trans (b2.mono B1.out.size))
    have C2 := contains_any hu g (by omega)
    clear b2 hu HD
    go_wp2_with fail
    refine C2.mono ?_
    rintro e w3 ⟨rfl, h3⟩
    have h3 := h3.symm
    subst h3
    clear C2
    go_wp2_with fail
    go_ret
    exact ⟨by rw [HZ.out]; rfl, B2.out⟩
set_option maxRecDepth 100000 in
set_option maxHeartbeats 1000000 in
theorem says_c {w : World} (he : Env w) {kb : Nat} {K : Ky} (hk : KyAt w kb K) (v : Bs) (hw : v.length ≤ 10000000) (ht : K.text.length ≤ 10000000) :
    Calls Tryz.prog 38 #[.string (str v), .pointer (some ⟨kb, 0, none⟩)] w fun e w' => e = .returned (.bool (conB v K.text)) ∧ Below w.heap.size w w' := by
  have c1 := hk.cell 1
  simp only [Ky.c, List.getElem?_cons_succ, List.getElem?_cons_zero] at c1
  have hF : ∀ w, (Instr.fieldAt 28 (.pointer (some ⟨kb, 0, none⟩)) 1).run Tryz.prog w = .ok (.pointer (some ⟨kb, 1, none⟩)) w := fun w => by kernel_rfl
  have C := con_any v K.text he hw ht
  clear he hk
  go_enter Tryz.func38, Tryz.ntmps38
  go_wp2_with fail
  refine C.mono ?_
  rintro e w1 ⟨rfl, b1⟩
  have B1 := hid b1
  clear b1 C
  go_wp2_with fail
  go_ret
  exact ⟨rfl, B1.out⟩
def asksC (l : List Bs) (t : Bs) : Bool := l.any fun v => conB v t
set_option maxRecDepth 100000 in
set_option maxHeartbeats 1000000 in
theorem index_c {w : World} (he : Env w) {kb : Nat} {K : Ky} (hk : KyAt w kb K) {u : Value} {l : List Bs} (h : RL w u 1 (l.map sR)) (hl : l.length ≤ 1000000) (hb : ∀ v ∈ l, v.length ≤ 10000000) (ht : K.text.length ≤ 10000000) :
    Calls Tryz.prog 63 #[u, .func (.func 38) #[] #[.pointer (some ⟨kb, 0, none⟩)]] w fun e w' => (∃ n : Int, e = .returned (.int .i64 n) ∧ decide (0 ≤ n) = asksC l K.text) ∧ Below w.heap.size w w' := by
  obtain ⟨hw, a, c, rfl, hc, hr⟩ := h
  rw [List.length_map] at *
  rcases hr with hr | ⟨g, o, rfl, hr, hg⟩
  · have : l = [] := by simpa using hr
    subst this
    go_enter Tryz.func63, Tryz.ntmps63
    go_wp2_with fail
    go_loopw [8] (fun i wr => i = .int .i64 0 ∧ wr = w) (fun _ _ => 0)
    case atStart => exact ⟨rfl, rfl⟩
    case round =>
      obtain ⟨rfl, rfl⟩ := hrel
      go_wp2_with fail
      go_ret
      exact ⟨⟨-1, rfl, rfl⟩, Below.refl _ _⟩
  · have HR := hid hr
    have HBd := hid hb
    have HE := hid he
    have HK := hid hk
    have HT := hid ht
    clear hr hb he hk ht
    go_enter Tryz.func63, Tryz.ntmps63
    go_wp2_with fail
    go_loopw [8] (fun i wr => ∃ k : Nat, k ≤ l.length ∧ i = .int .i64 k ∧ asksC (l.take k) K.text = false ∧ Below w.heap.size w wr) (fun i _ => l.length - (intOf i).toNat)
    case atStart => exact ⟨0, by omega, rfl, rfl, Below.refl _ _⟩
    case round =>
      obtain ⟨k, hk, rfl, hno, hb2⟩ := hrel
      have HB2 := hid hb2
      have HNo := hid hno
      clear hb2 hno
      by_cases hlt : k < l.length
      · have hlt' : (k : Int) < l.length := by omega
        have HR2 := hid (HR.out.later HB2.out)
        have hrec : (l.map sR)[k]? = some (sR l[k]) := by rw [List.getElem?_map, List.getElem?_eq_getElem hlt]; rfl
        have hc0 : wr.cell? ⟨g, o + k, none⟩ = some (.string (str l[k])) := by
          have := HR2.out.rec k _ hrec 0 _ rfl
          simpa using this
        have hbd := HBd.out _ (List.getElem_mem hlt)
        have HS : Hid (asksC (l.take (k + 1)) K.text = conB l[k] K.text) := by
          have h1 := HNo.out
          unfold asksC at h1
          unfold Hid asksC
          rw [List.take_succ_eq_append_getElem hlt, List.any_append, h1]
          simp
        have HA : Hid (conB l[k] K.text = true → asksC l K.text = true) := fun h => List.any_eq_true.2 ⟨l[k], List.getElem_mem hlt, h⟩
        clear hrec HBd
        generalize l[k] = x at *
        have C := says_c (HE.out.later HB2.out) (HK.out.later HB2.out) x hbd HT.out
        rcases hq : conB x K.text with _ | _
        · rw [hq] at C HS
          clear hq
          go_wp2_with fail
          refine C.mono ?_
          rintro e w3 ⟨rfl, b3⟩
          have HB3 := hid (HB2.out.trans (b3.mono HB2.out.size))
          clear b3
          go_wp2_with fail
          go_roundw
          case rel => exact ⟨k + 1, by omega, by go_num, HS.out, HB3.out⟩
          case measure => simp [intOf]; omega
        · rw [hq] at C
          have HA2 := hid (HA.out hq)
          clear hq
          go_wp2_with fail
          refine C.mono ?_
          rintro e w3 ⟨rfl, b3⟩
          have HB3 := hid (HB2.out.trans (b3.mono HB2.out.size))
          clear b3
          go_wp2_with fail
          go_ret
          refine ⟨⟨k, rfl, ?_⟩, HB3.out⟩
          rw [HA2.out]
          simp
      · have hlt' : ¬ (k : Int) < l.length := by omega
        have HN : Hid (asksC l K.text = false) := by
          have := HNo.out
          rw [List.take_of_length_le (by omega)] at this
          exact this
        go_wp2_with fail
        go_ret
        refine ⟨⟨-1, rfl, ?_⟩, HB2.out⟩
        rw [HN.out]
        rfl
set_option maxRecDepth 100000 in
theorem asks_c {w : World} (he : Env w) {kb : Nat} {K : Ky} (hk : KyAt w kb K) {u : Value} {l : List Bs} (h : RL w u 1 (l.map sR)) (hl : l.length ≤ 1000000) (hb : ∀ v ∈ l, v.length ≤ 10000000) (ht : K.text.length ≤ 10000000) :
    Calls Tryz.prog 34 #[u, .func (.func 38) #[] #[.pointer (some ⟨kb, 0, none⟩)]] w fun e w' => e = .returned (.bool (asksC l K.text)) ∧ Below w.heap.size w w' := by
  have C := index_c he hk h hl hb ht
  obtain ⟨_, a, c, rfl, _⟩ := h
  rw [List.length_map] at C ⊢
  go_enter Tryz.func34, Tryz.ntmps34
  go_wp2_with fail
  refine C.mono ?_
  rintro e w2 ⟨⟨n, rfl, hn⟩, b2⟩
  go_wp2_with fail
  go_ret
  exact ⟨by rw [← hn]; rfl, b2⟩
end Go.Proofs.YtaniljfjmbifnaaGreatDoor.H
namespace Go.Proofs.YtaniljfjmbifnaaGreatDoor.H
open Go.RowKit
set_option linter.unusedVariables false
set_option linter.unusedSimpArgs false

theorem fld33a (b : Nat) (w : World) : (Instr.fieldAt 33 (.pointer (some ⟨b, 0, none⟩)) 0).run Tryz.prog w = .ok (.pointer (some ⟨b, 0, none⟩)) w := by kernel_rfl
theorem fld33b (b : Nat) (w : World) : (Instr.fieldAt 33 (.pointer (some ⟨b, 0, none⟩)) 1).run Tryz.prog w = .ok (.pointer (some ⟨b, 1, none⟩)) w := by kernel_rfl
set_option maxRecDepth 100000 in
set_option maxHeartbeats 4000000 in
theorem all_any {w : World} {b : Nat} {L : Lk} (he : Env w) (hb0 : 0 < b) (h : LkAt w b L) (hf : FsOk w L) (ht : L.text.length ≤ 1000000) (op t f : Bs) (n : Int) (a : Option Addr) (p c : Nat) (d : Option Addr) (q g : Nat) (hop : op = [65, 76, 76]) :
    Calls Tryz.prog 23 #[.pointer (some ⟨b, 0, none⟩), .agg #[.string (str op), .string (str t), .string (str f), .int .i64 n, .slice a p c, .slice d q g]] w fun e w' => Seen2 w' b L ∧ e = .returned (.bool (true)) ∧ Kept [b] w w' := by
  have q99 : ((str op).toList == ([65, 76, 76] : Bs)) = true := by rw [toL, hop]; decide
  have ha : Below w.heap.size w (w.alloc (.cells #[.string (str op), .string (str t), .string (str f), .int .i64 n, .slice a p c, .slice d q g] 28)) := (Below.refl _ _).alloc (Nat.le_refl _) _
  obtain ⟨w1, hw1⟩ : ∃ w1, w.alloc (.cells #[.string (str op), .string (str t), .string (str f), .int .i64 n, .slice a p c, .slice d q g] 28) = w1 := ⟨_, rfl⟩
  have HKy : Hid (KyAt w1 w.heap.size ⟨op, t, f, n, (a, p, c), (d, q, g)⟩) := by rw [← hw1]; exact KyAt.new w ⟨op, t, f, n, (a, p, c), (d, q, g)⟩
  rw [hw1] at ha
  have HE := hid (he.later ha)
  have HAt := hid (h.later ha)
  have HFs : Hid (FsOk w1 L) := fun hr => (hf hr).later ha
  have HB := hid ha
  have HLt := hid h.lt
  have HT := hid ht
  have k0 := HKy.out.cell 0
  simp only [Ky.c, Lk.c, sv, List.getElem?_cons_succ, List.getElem?_cons_zero] at k0
  have hF := fldk b
  have f0 := fun w => (hF w).1
  have f1 := fun w => (hF w).2.1
  have f2 := fun w => (hF w).2.2.1
  have f3 := fun w => (hF w).2.2.2.1
  have g3 := fun w => (hF w).2.2.2.2.2.2.2.2
  have g0 := fld33a b
  have g1 := fld33b b
  clear he h hf ha hF hop
  go_enter Tryz.func23, Tryz.ntmps23
  go_wp2_with fail
  clear hw1
  go_ret
  exact ⟨Seen2.of HAt.out HFs.out, rfl, Kept.ofBelow HB.out [b]⟩
set_option maxRecDepth 100000 in
set_option maxHeartbeats 4000000 in
theorem answered_any {w : World} {b : Nat} {L : Lk} (he : Env w) (hb0 : 0 < b) (h : LkAt w b L) (hf : FsOk w L) (ht : L.text.length ≤ 1000000) (op t f : Bs) (n : Int) (a : Option Addr) (p c : Nat) (d : Option Addr) (q g : Nat) (hop : op = [65, 78, 83, 87, 69, 82, 69, 68]) (fl : List Bs) (hfl : RL w (sv L.fl) 1 (fl.map sR)) (hfn : fl.length ≤ 1000000) (hfb : ∀ x ∈ fl, x.length ≤ 10000000) :
    Calls Tryz.prog 23 #[.pointer (some ⟨b, 0, none⟩), .agg #[.string (str op), .string (str t), .string (str f), .int .i64 n, .slice a p c, .slice d q g]] w fun e w' => Seen2 w' b L ∧ e = .returned (.bool (hasP fl (92 :: op))) ∧ Kept [b] w w' := by
  have q0 : ((str op).toList == ([65, 76, 76] : Bs)) = false := by rw [toL, hop]; decide
  have q99 : ((str op).toList == ([65, 78, 83, 87, 69, 82, 69, 68] : Bs)) = true := by rw [toL, hop]; decide
  have ha : Below w.heap.size w (w.alloc (.cells #[.string (str op), .string (str t), .string (str f), .int .i64 n, .slice a p c, .slice d q g] 28)) := (Below.refl _ _).alloc (Nat.le_refl _) _
  obtain ⟨w1, hw1⟩ : ∃ w1, w.alloc (.cells #[.string (str op), .string (str t), .string (str f), .int .i64 n, .slice a p c, .slice d q g] 28) = w1 := ⟨_, rfl⟩
  have HKy : Hid (KyAt w1 w.heap.size ⟨op, t, f, n, (a, p, c), (d, q, g)⟩) := by rw [← hw1]; exact KyAt.new w ⟨op, t, f, n, (a, p, c), (d, q, g)⟩
  rw [hw1] at ha
  have HE := hid (he.later ha)
  have HAt := hid (h.later ha)
  have HFs : Hid (FsOk w1 L) := fun hr => (hf hr).later ha
  have HB := hid ha
  have HLt := hid h.lt
  have HT := hid ht
  have k0 := HKy.out.cell 0
  have l1 := HAt.out.cell 1
  simp only [Ky.c, Lk.c, sv, List.getElem?_cons_succ, List.getElem?_cons_zero] at k0 l1
  have hF := fldk b
  have f0 := fun w => (hF w).1
  have f1 := fun w => (hF w).2.1
  have f2 := fun w => (hF w).2.2.1
  have f3 := fun w => (hF w).2.2.2.1
  have g3 := fun w => (hF w).2.2.2.2.2.2.2.2
  have g0 := fld33a b
  have g1 := fld33b b
  have hz92 : (⟨#[92]⟩ : ByteArray) ++ str op = str (92 :: op) := app_str [92] op
  have hosz := str_size op
  have holn : op.length = 8 := by rw [hop]; rfl
  have HC0 := (fun (w0 : World) (h0 : Below w1.heap.size w1 w0) => hasf_any ((hfl.later ha).later h0) hfn hfb (92 :: op) (by rw [hop]; decide))
  rw [← hz92] at HC0
  have HC := hid HC0
  clear HC0 hfl
  clear he h hf ha hF hop
  go_enter Tryz.func23, Tryz.ntmps23
  go_wp2_with fail
  clear hw1
  have qc : w1.cell? ⟨w.heap.size, 0, none⟩ = some (.string (str op)) ∧ w1.cell? ⟨b, 1, none⟩ = some (.slice L.fl.1 L.fl.2.1 L.fl.2.2) := ⟨k0, l1⟩
  have HQ : Hid (∀ w' : World, KyAt w' w.heap.size ⟨op, t, f, n, (a, p, c), (d, q, g)⟩ → LkAt w' b L → w'.cell? ⟨w.heap.size, 0, none⟩ = some (.string (str op)) ∧ w'.cell? ⟨b, 1, none⟩ = some (.slice L.fl.1 L.fl.2.1 L.fl.2.2)) := by
    intro w' e1 e2
    have k0 := e1.cell 0
    have l1 := e2.cell 1
    simp only [Ky.c, Lk.c, sv, List.getElem?_cons_succ, List.getElem?_cons_zero] at k0 l1
    exact ⟨k0, l1⟩
  clear k0 l1
  go_region_held3 (fun w' => w'.cell? ⟨w.heap.size, 0, none⟩ = some (.string (str op)) ∧ w'.cell? ⟨b, 1, none⟩ = some (.slice L.fl.1 L.fl.2.1 L.fl.2.2)) (first | exact qc | go_keep) (first
    | (go_at_call 33; refine (HC.out _ (by repeat (first | exact Below.refl _ _ | refine Below.drew ?_))).mono ?_; rintro e w5 ⟨rfl, hb5⟩; have HB5 : Below w1.heap.size w1 w5 := Below.trans (by repeat (first | exact Below.refl _ _ | refine Below.drew ?_)) hb5; have qc := HQ.out w5 (HKy.out.later HB5) (HAt.out.later HB5); clear hb5))
  go_wp2_with fail
  go_ret
  exact ⟨Seen2.of (HAt.out.later HB5) (fun hr => (HFs.out hr).later HB5), rfl, kept_t (Kept.ofBelow HB.out [b]) (Kept.ofBelow HB5 [b])⟩
set_option maxRecDepth 100000 in
set_option maxHeartbeats 4000000 in
theorem deleted_any {w : World} {b : Nat} {L : Lk} (he : Env w) (hb0 : 0 < b) (h : LkAt w b L) (hf : FsOk w L) (ht : L.text.length ≤ 1000000) (op t f : Bs) (n : Int) (a : Option Addr) (p c : Nat) (d : Option Addr) (q g : Nat) (hop : op = [68, 69, 76, 69, 84, 69, 68]) (fl : List Bs) (hfl : RL w (sv L.fl) 1 (fl.map sR)) (hfn : fl.length ≤ 1000000) (hfb : ∀ x ∈ fl, x.length ≤ 10000000) :
    Calls Tryz.prog 23 #[.pointer (some ⟨b, 0, none⟩), .agg #[.string (str op), .string (str t), .string (str f), .int .i64 n, .slice a p c, .slice d q g]] w fun e w' => Seen2 w' b L ∧ e = .returned (.bool (hasP fl (92 :: op))) ∧ Kept [b] w w' := by
  have q0 : ((str op).toList == ([65, 76, 76] : Bs)) = false := by rw [toL, hop]; decide
  have q1 : ((str op).toList == ([65, 78, 83, 87, 69, 82, 69, 68] : Bs)) = false := by rw [toL, hop]; decide
  have q99 : ((str op).toList == ([68, 69, 76, 69, 84, 69, 68] : Bs)) = true := by rw [toL, hop]; decide
  have ha : Below w.heap.size w (w.alloc (.cells #[.string (str op), .string (str t), .string (str f), .int .i64 n, .slice a p c, .slice d q g] 28)) := (Below.refl _ _).alloc (Nat.le_refl _) _
  obtain ⟨w1, hw1⟩ : ∃ w1, w.alloc (.cells #[.string (str op), .string (str t), .string (str f), .int .i64 n, .slice a p c, .slice d q g] 28) = w1 := ⟨_, rfl⟩
  have HKy : Hid (KyAt w1 w.heap.size ⟨op, t, f, n, (a, p, c), (d, q, g)⟩) := by rw [← hw1]; exact KyAt.new w ⟨op, t, f, n, (a, p, c), (d, q, g)⟩
  rw [hw1] at ha
  have HE := hid (he.later ha)
  have HAt := hid (h.later ha)
  have HFs : Hid (FsOk w1 L) := fun hr => (hf hr).later ha
  have HB := hid ha
  have HLt := hid h.lt
  have HT := hid ht
  have k0 := HKy.out.cell 0
  have l1 := HAt.out.cell 1
  simp only [Ky.c, Lk.c, sv, List.getElem?_cons_succ, List.getElem?_cons_zero] at k0 l1
  have hF := fldk b
  have f0 := fun w => (hF w).1
  have f1 := fun w => (hF w).2.1
  have f2 := fun w => (hF w).2.2.1
  have f3 := fun w => (hF w).2.2.2.1
  have g3 := fun w => (hF w).2.2.2.2.2.2.2.2
  have g0 := fld33a b
  have g1 := fld33b b
  have hz92 : (⟨#[92]⟩ : ByteArray) ++ str op = str (92 :: op) := app_str [92] op
  have hosz := str_size op
  have holn : op.length = 7 := by rw [hop]; rfl
  have HC0 := (fun (w0 : World) (h0 : Below w1.heap.size w1 w0) => hasf_any ((hfl.later ha).later h0) hfn hfb (92 :: op) (by rw [hop]; decide))
  rw [← hz92] at HC0
  have HC := hid HC0
  clear HC0 hfl
  clear he h hf ha hF hop
  go_enter Tryz.func23, Tryz.ntmps23
  go_wp2_with fail
  clear hw1
  have qc : w1.cell? ⟨w.heap.size, 0, none⟩ = some (.string (str op)) ∧ w1.cell? ⟨b, 1, none⟩ = some (.slice L.fl.1 L.fl.2.1 L.fl.2.2) := ⟨k0, l1⟩
  have HQ : Hid (∀ w' : World, KyAt w' w.heap.size ⟨op, t, f, n, (a, p, c), (d, q, g)⟩ → LkAt w' b L → w'.cell? ⟨w.heap.size, 0, none⟩ = some (.string (str op)) ∧ w'.cell? ⟨b, 1, none⟩ = some (.slice L.fl.1 L.fl.2.1 L.fl.2.2)) := by
    intro w' e1 e2
    have k0 := e1.cell 0
    have l1 := e2.cell 1
    simp only [Ky.c, Lk.c, sv, List.getElem?_cons_succ, List.getElem?_cons_zero] at k0 l1
    exact ⟨k0, l1⟩
  clear k0 l1
  go_region_held3 (fun w' => w'.cell? ⟨w.heap.size, 0, none⟩ = some (.string (str op)) ∧ w'.cell? ⟨b, 1, none⟩ = some (.slice L.fl.1 L.fl.2.1 L.fl.2.2)) (first | exact qc | go_keep) (first
    | (go_at_call 33; refine (HC.out _ (by repeat (first | exact Below.refl _ _ | refine Below.drew ?_))).mono ?_; rintro e w5 ⟨rfl, hb5⟩; have HB5 : Below w1.heap.size w1 w5 := Below.trans (by repeat (first | exact Below.refl _ _ | refine Below.drew ?_)) hb5; have qc := HQ.out w5 (HKy.out.later HB5) (HAt.out.later HB5); clear hb5))
  go_wp2_with fail
  go_ret
  exact ⟨Seen2.of (HAt.out.later HB5) (fun hr => (HFs.out hr).later HB5), rfl, kept_t (Kept.ofBelow HB.out [b]) (Kept.ofBelow HB5 [b])⟩
set_option maxRecDepth 100000 in
set_option maxHeartbeats 4000000 in
theorem draft_any {w : World} {b : Nat} {L : Lk} (he : Env w) (hb0 : 0 < b) (h : LkAt w b L) (hf : FsOk w L) (ht : L.text.length ≤ 1000000) (op t f : Bs) (n : Int) (a : Option Addr) (p c : Nat) (d : Option Addr) (q g : Nat) (hop : op = [68, 82, 65, 70, 84]) (fl : List Bs) (hfl : RL w (sv L.fl) 1 (fl.map sR)) (hfn : fl.length ≤ 1000000) (hfb : ∀ x ∈ fl, x.length ≤ 10000000) :
    Calls Tryz.prog 23 #[.pointer (some ⟨b, 0, none⟩), .agg #[.string (str op), .string (str t), .string (str f), .int .i64 n, .slice a p c, .slice d q g]] w fun e w' => Seen2 w' b L ∧ e = .returned (.bool (hasP fl (92 :: op))) ∧ Kept [b] w w' := by
  have q0 : ((str op).toList == ([65, 76, 76] : Bs)) = false := by rw [toL, hop]; decide
  have q1 : ((str op).toList == ([65, 78, 83, 87, 69, 82, 69, 68] : Bs)) = false := by rw [toL, hop]; decide
  have q2 : ((str op).toList == ([68, 69, 76, 69, 84, 69, 68] : Bs)) = false := by rw [toL, hop]; decide
  have q99 : ((str op).toList == ([68, 82, 65, 70, 84] : Bs)) = true := by rw [toL, hop]; decide
  have ha : Below w.heap.size w (w.alloc (.cells #[.string (str op), .string (str t), .string (str f), .int .i64 n, .slice a p c, .slice d q g] 28)) := (Below.refl _ _).alloc (Nat.le_refl _) _
  obtain ⟨w1, hw1⟩ : ∃ w1, w.alloc (.cells #[.string (str op), .string (str t), .string (str f), .int .i64 n, .slice a p c, .slice d q g] 28) = w1 := ⟨_, rfl⟩
  have HKy : Hid (KyAt w1 w.heap.size ⟨op, t, f, n, (a, p, c), (d, q, g)⟩) := by rw [← hw1]; exact KyAt.new w ⟨op, t, f, n, (a, p, c), (d, q, g)⟩
  rw [hw1] at ha
  have HE := hid (he.later ha)
  have HAt := hid (h.later ha)
  have HFs : Hid (FsOk w1 L) := fun hr => (hf hr).later ha
  have HB := hid ha
  have HLt := hid h.lt
  have HT := hid ht
  have k0 := HKy.out.cell 0
  have l1 := HAt.out.cell 1
  simp only [Ky.c, Lk.c, sv, List.getElem?_cons_succ, List.getElem?_cons_zero] at k0 l1
  have hF := fldk b
  have f0 := fun w => (hF w).1
  have f1 := fun w => (hF w).2.1
  have f2 := fun w => (hF w).2.2.1
  have f3 := fun w => (hF w).2.2.2.1
  have g3 := fun w => (hF w).2.2.2.2.2.2.2.2
  have g0 := fld33a b
  have g1 := fld33b b
  have hz92 : (⟨#[92]⟩ : ByteArray) ++ str op = str (92 :: op) := app_str [92] op
  have hosz := str_size op
  have holn : op.length = 5 := by rw [hop]; rfl
  have HC0 := (fun (w0 : World) (h0 : Below w1.heap.size w1 w0) => hasf_any ((hfl.later ha).later h0) hfn hfb (92 :: op) (by rw [hop]; decide))
  rw [← hz92] at HC0
  have HC := hid HC0
  clear HC0 hfl
  clear he h hf ha hF hop
  go_enter Tryz.func23, Tryz.ntmps23
  go_wp2_with fail
  clear hw1
  have qc : w1.cell? ⟨w.heap.size, 0, none⟩ = some (.string (str op)) ∧ w1.cell? ⟨b, 1, none⟩ = some (.slice L.fl.1 L.fl.2.1 L.fl.2.2) := ⟨k0, l1⟩
  have HQ : Hid (∀ w' : World, KyAt w' w.heap.size ⟨op, t, f, n, (a, p, c), (d, q, g)⟩ → LkAt w' b L → w'.cell? ⟨w.heap.size, 0, none⟩ = some (.string (str op)) ∧ w'.cell? ⟨b, 1, none⟩ = some (.slice L.fl.1 L.fl.2.1 L.fl.2.2)) := by
    intro w' e1 e2
    have k0 := e1.cell 0
    have l1 := e2.cell 1
    simp only [Ky.c, Lk.c, sv, List.getElem?_cons_succ, List.getElem?_cons_zero] at k0 l1
    exact ⟨k0, l1⟩
  clear k0 l1
  go_region_held3 (fun w' => w'.cell? ⟨w.heap.size, 0, none⟩ = some (.string (str op)) ∧ w'.cell? ⟨b, 1, none⟩ = some (.slice L.fl.1 L.fl.2.1 L.fl.2.2)) (first | exact qc | go_keep) (first
    | (go_at_call 33; refine (HC.out _ (by repeat (first | exact Below.refl _ _ | refine Below.drew ?_))).mono ?_; rintro e w5 ⟨rfl, hb5⟩; have HB5 : Below w1.heap.size w1 w5 := Below.trans (by repeat (first | exact Below.refl _ _ | refine Below.drew ?_)) hb5; have qc := HQ.out w5 (HKy.out.later HB5) (HAt.out.later HB5); clear hb5))
  go_wp2_with fail
  go_ret
  exact ⟨Seen2.of (HAt.out.later HB5) (fun hr => (HFs.out hr).later HB5), rfl, kept_t (Kept.ofBelow HB.out [b]) (Kept.ofBelow HB5 [b])⟩
set_option maxRecDepth 100000 in
set_option maxHeartbeats 4000000 in
theorem flagged_any {w : World} {b : Nat} {L : Lk} (he : Env w) (hb0 : 0 < b) (h : LkAt w b L) (hf : FsOk w L) (ht : L.text.length ≤ 1000000) (op t f : Bs) (n : Int) (a : Option Addr) (p c : Nat) (d : Option Addr) (q g : Nat) (hop : op = [70, 76, 65, 71, 71, 69, 68]) (fl : List Bs) (hfl : RL w (sv L.fl) 1 (fl.map sR)) (hfn : fl.length ≤ 1000000) (hfb : ∀ x ∈ fl, x.length ≤ 10000000) :
    Calls Tryz.prog 23 #[.pointer (some ⟨b, 0, none⟩), .agg #[.string (str op), .string (str t), .string (str f), .int .i64 n, .slice a p c, .slice d q g]] w fun e w' => Seen2 w' b L ∧ e = .returned (.bool (hasP fl (92 :: op))) ∧ Kept [b] w w' := by
  have q0 : ((str op).toList == ([65, 76, 76] : Bs)) = false := by rw [toL, hop]; decide
  have q1 : ((str op).toList == ([65, 78, 83, 87, 69, 82, 69, 68] : Bs)) = false := by rw [toL, hop]; decide
  have q2 : ((str op).toList == ([68, 69, 76, 69, 84, 69, 68] : Bs)) = false := by rw [toL, hop]; decide
  have q3 : ((str op).toList == ([68, 82, 65, 70, 84] : Bs)) = false := by rw [toL, hop]; decide
  have q99 : ((str op).toList == ([70, 76, 65, 71, 71, 69, 68] : Bs)) = true := by rw [toL, hop]; decide
  have ha : Below w.heap.size w (w.alloc (.cells #[.string (str op), .string (str t), .string (str f), .int .i64 n, .slice a p c, .slice d q g] 28)) := (Below.refl _ _).alloc (Nat.le_refl _) _
  obtain ⟨w1, hw1⟩ : ∃ w1, w.alloc (.cells #[.string (str op), .string (str t), .string (str f), .int .i64 n, .slice a p c, .slice d q g] 28) = w1 := ⟨_, rfl⟩
  have HKy : Hid (KyAt w1 w.heap.size ⟨op, t, f, n, (a, p, c), (d, q, g)⟩) := by rw [← hw1]; exact KyAt.new w ⟨op, t, f, n, (a, p, c), (d, q, g)⟩
  rw [hw1] at ha
  have HE := hid (he.later ha)
  have HAt := hid (h.later ha)
  have HFs : Hid (FsOk w1 L) := fun hr => (hf hr).later ha
  have HB := hid ha
  have HLt := hid h.lt
  have HT := hid ht
  have k0 := HKy.out.cell 0
  have l1 := HAt.out.cell 1
  simp only [Ky.c, Lk.c, sv, List.getElem?_cons_succ, List.getElem?_cons_zero] at k0 l1
  have hF := fldk b
  have f0 := fun w => (hF w).1
  have f1 := fun w => (hF w).2.1
  have f2 := fun w => (hF w).2.2.1
  have f3 := fun w => (hF w).2.2.2.1
  have g3 := fun w => (hF w).2.2.2.2.2.2.2.2
  have g0 := fld33a b
  have g1 := fld33b b
  have hz92 : (⟨#[92]⟩ : ByteArray) ++ str op = str (92 :: op) := app_str [92] op
  have hosz := str_size op
  have holn : op.length = 7 := by rw [hop]; rfl
  have HC0 := (fun (w0 : World) (h0 : Below w1.heap.size w1 w0) => hasf_any ((hfl.later ha).later h0) hfn hfb (92 :: op) (by rw [hop]; decide))
  rw [← hz92] at HC0
  have HC := hid HC0
  clear HC0 hfl
  clear he h hf ha hF hop
  go_enter Tryz.func23, Tryz.ntmps23
  go_wp2_with fail
  clear hw1
  have qc : w1.cell? ⟨w.heap.size, 0, none⟩ = some (.string (str op)) ∧ w1.cell? ⟨b, 1, none⟩ = some (.slice L.fl.1 L.fl.2.1 L.fl.2.2) := ⟨k0, l1⟩
  have HQ : Hid (∀ w' : World, KyAt w' w.heap.size ⟨op, t, f, n, (a, p, c), (d, q, g)⟩ → LkAt w' b L → w'.cell? ⟨w.heap.size, 0, none⟩ = some (.string (str op)) ∧ w'.cell? ⟨b, 1, none⟩ = some (.slice L.fl.1 L.fl.2.1 L.fl.2.2)) := by
    intro w' e1 e2
    have k0 := e1.cell 0
    have l1 := e2.cell 1
    simp only [Ky.c, Lk.c, sv, List.getElem?_cons_succ, List.getElem?_cons_zero] at k0 l1
    exact ⟨k0, l1⟩
  clear k0 l1
  go_region_held3 (fun w' => w'.cell? ⟨w.heap.size, 0, none⟩ = some (.string (str op)) ∧ w'.cell? ⟨b, 1, none⟩ = some (.slice L.fl.1 L.fl.2.1 L.fl.2.2)) (first | exact qc | go_keep) (first
    | (go_at_call 33; refine (HC.out _ (by repeat (first | exact Below.refl _ _ | refine Below.drew ?_))).mono ?_; rintro e w5 ⟨rfl, hb5⟩; have HB5 : Below w1.heap.size w1 w5 := Below.trans (by repeat (first | exact Below.refl _ _ | refine Below.drew ?_)) hb5; have qc := HQ.out w5 (HKy.out.later HB5) (HAt.out.later HB5); clear hb5))
  go_wp2_with fail
  go_ret
  exact ⟨Seen2.of (HAt.out.later HB5) (fun hr => (HFs.out hr).later HB5), rfl, kept_t (Kept.ofBelow HB.out [b]) (Kept.ofBelow HB5 [b])⟩
set_option maxRecDepth 100000 in
set_option maxHeartbeats 4000000 in
theorem seen_any {w : World} {b : Nat} {L : Lk} (he : Env w) (hb0 : 0 < b) (h : LkAt w b L) (hf : FsOk w L) (ht : L.text.length ≤ 1000000) (op t f : Bs) (n : Int) (a : Option Addr) (p c : Nat) (d : Option Addr) (q g : Nat) (hop : op = [83, 69, 69, 78]) (fl : List Bs) (hfl : RL w (sv L.fl) 1 (fl.map sR)) (hfn : fl.length ≤ 1000000) (hfb : ∀ x ∈ fl, x.length ≤ 10000000) :
    Calls Tryz.prog 23 #[.pointer (some ⟨b, 0, none⟩), .agg #[.string (str op), .string (str t), .string (str f), .int .i64 n, .slice a p c, .slice d q g]] w fun e w' => Seen2 w' b L ∧ e = .returned (.bool (hasP fl (92 :: op))) ∧ Kept [b] w w' := by
  have q0 : ((str op).toList == ([65, 76, 76] : Bs)) = false := by rw [toL, hop]; decide
  have q1 : ((str op).toList == ([65, 78, 83, 87, 69, 82, 69, 68] : Bs)) = false := by rw [toL, hop]; decide
  have q2 : ((str op).toList == ([68, 69, 76, 69, 84, 69, 68] : Bs)) = false := by rw [toL, hop]; decide
  have q3 : ((str op).toList == ([68, 82, 65, 70, 84] : Bs)) = false := by rw [toL, hop]; decide
  have q4 : ((str op).toList == ([70, 76, 65, 71, 71, 69, 68] : Bs)) = false := by rw [toL, hop]; decide
  have q99 : ((str op).toList == ([83, 69, 69, 78] : Bs)) = true := by rw [toL, hop]; decide
  have ha : Below w.heap.size w (w.alloc (.cells #[.string (str op), .string (str t), .string (str f), .int .i64 n, .slice a p c, .slice d q g] 28)) := (Below.refl _ _).alloc (Nat.le_refl _) _
  obtain ⟨w1, hw1⟩ : ∃ w1, w.alloc (.cells #[.string (str op), .string (str t), .string (str f), .int .i64 n, .slice a p c, .slice d q g] 28) = w1 := ⟨_, rfl⟩
  have HKy : Hid (KyAt w1 w.heap.size ⟨op, t, f, n, (a, p, c), (d, q, g)⟩) := by rw [← hw1]; exact KyAt.new w ⟨op, t, f, n, (a, p, c), (d, q, g)⟩
  rw [hw1] at ha
  have HE := hid (he.later ha)
  have HAt := hid (h.later ha)
  have HFs : Hid (FsOk w1 L) := fun hr => (hf hr).later ha
  have HB := hid ha
  have HLt := hid h.lt
  have HT := hid ht
  have k0 := HKy.out.cell 0
  have l1 := HAt.out.cell 1
  simp only [Ky.c, Lk.c, sv, List.getElem?_cons_succ, List.getElem?_cons_zero] at k0 l1
  have hF := fldk b
  have f0 := fun w => (hF w).1
  have f1 := fun w => (hF w).2.1
  have f2 := fun w => (hF w).2.2.1
  have f3 := fun w => (hF w).2.2.2.1
  have g3 := fun w => (hF w).2.2.2.2.2.2.2.2
  have g0 := fld33a b
  have g1 := fld33b b
  have hz92 : (⟨#[92]⟩ : ByteArray) ++ str op = str (92 :: op) := app_str [92] op
  have hosz := str_size op
  have holn : op.length = 4 := by rw [hop]; rfl
  have HC0 := (fun (w0 : World) (h0 : Below w1.heap.size w1 w0) => hasf_any ((hfl.later ha).later h0) hfn hfb (92 :: op) (by rw [hop]; decide))
  rw [← hz92] at HC0
  have HC := hid HC0
  clear HC0 hfl
  clear he h hf ha hF hop
  go_enter Tryz.func23, Tryz.ntmps23
  go_wp2_with fail
  clear hw1
  have qc : w1.cell? ⟨w.heap.size, 0, none⟩ = some (.string (str op)) ∧ w1.cell? ⟨b, 1, none⟩ = some (.slice L.fl.1 L.fl.2.1 L.fl.2.2) := ⟨k0, l1⟩
  have HQ : Hid (∀ w' : World, KyAt w' w.heap.size ⟨op, t, f, n, (a, p, c), (d, q, g)⟩ → LkAt w' b L → w'.cell? ⟨w.heap.size, 0, none⟩ = some (.string (str op)) ∧ w'.cell? ⟨b, 1, none⟩ = some (.slice L.fl.1 L.fl.2.1 L.fl.2.2)) := by
    intro w' e1 e2
    have k0 := e1.cell 0
    have l1 := e2.cell 1
    simp only [Ky.c, Lk.c, sv, List.getElem?_cons_succ, List.getElem?_cons_zero] at k0 l1
    exact ⟨k0, l1⟩
  clear k0 l1
  go_region_held3 (fun w' => w'.cell? ⟨w.heap.size, 0, none⟩ = some (.string (str op)) ∧ w'.cell? ⟨b, 1, none⟩ = some (.slice L.fl.1 L.fl.2.1 L.fl.2.2)) (first | exact qc | go_keep) (first
    | (go_at_call 33; refine (HC.out _ (by repeat (first | exact Below.refl _ _ | refine Below.drew ?_))).mono ?_; rintro e w5 ⟨rfl, hb5⟩; have HB5 : Below w1.heap.size w1 w5 := Below.trans (by repeat (first | exact Below.refl _ _ | refine Below.drew ?_)) hb5; have qc := HQ.out w5 (HKy.out.later HB5) (HAt.out.later HB5); clear hb5))
  go_wp2_with fail
  go_ret
  exact ⟨Seen2.of (HAt.out.later HB5) (fun hr => (HFs.out hr).later HB5), rfl, kept_t (Kept.ofBelow HB.out [b]) (Kept.ofBelow HB5 [b])⟩
end Go.Proofs.YtaniljfjmbifnaaGreatDoor.H
namespace Go.Proofs.YtaniljfjmbifnaaGreatDoor.H
open Go.RowKit
set_option linter.unusedVariables false
set_option linter.unusedSimpArgs false

set_option maxRecDepth 100000 in
set_option maxHeartbeats 4000000 in
theorem unanswered_any {w : World} {b : Nat} {L : Lk} (he : Env w) (hb0 : 0 < b) (h : LkAt w b L) (hf : FsOk w L) (ht : L.text.length ≤ 1000000) (op t f : Bs) (n : Int) (a : Option Addr) (p c : Nat) (d : Option Addr) (q g : Nat) (hop : op = [85, 78, 65, 78, 83, 87, 69, 82, 69, 68]) (fl : List Bs) (hfl : RL w (sv L.fl) 1 (fl.map sR)) (hfn : fl.length ≤ 1000000) (hfb : ∀ x ∈ fl, x.length ≤ 10000000) :
    Calls Tryz.prog 23 #[.pointer (some ⟨b, 0, none⟩), .agg #[.string (str op), .string (str t), .string (str f), .int .i64 n, .slice a p c, .slice d q g]] w fun e w' => Seen2 w' b L ∧ e = .returned (.bool (!hasP fl (92 :: op.drop 2))) ∧ Kept [b] w w' := by
  have q0 : ((str op).toList == ([65, 76, 76] : Bs)) = false := by rw [toL, hop]; decide
  have q1 : ((str op).toList == ([65, 78, 83, 87, 69, 82, 69, 68] : Bs)) = false := by rw [toL, hop]; decide
  have q2 : ((str op).toList == ([68, 69, 76, 69, 84, 69, 68] : Bs)) = false := by rw [toL, hop]; decide
  have q3 : ((str op).toList == ([68, 82, 65, 70, 84] : Bs)) = false := by rw [toL, hop]; decide
  have q4 : ((str op).toList == ([70, 76, 65, 71, 71, 69, 68] : Bs)) = false := by rw [toL, hop]; decide
  have q5 : ((str op).toList == ([83, 69, 69, 78] : Bs)) = false := by rw [toL, hop]; decide
  have q99 : ((str op).toList == ([85, 78, 65, 78, 83, 87, 69, 82, 69, 68] : Bs)) = true := by rw [toL, hop]; decide
  have ha : Below w.heap.size w (w.alloc (.cells #[.string (str op), .string (str t), .string (str f), .int .i64 n, .slice a p c, .slice d q g] 28)) := (Below.refl _ _).alloc (Nat.le_refl _) _
  obtain ⟨w1, hw1⟩ : ∃ w1, w.alloc (.cells #[.string (str op), .string (str t), .string (str f), .int .i64 n, .slice a p c, .slice d q g] 28) = w1 := ⟨_, rfl⟩
  have HKy : Hid (KyAt w1 w.heap.size ⟨op, t, f, n, (a, p, c), (d, q, g)⟩) := by rw [← hw1]; exact KyAt.new w ⟨op, t, f, n, (a, p, c), (d, q, g)⟩
  rw [hw1] at ha
  have HE := hid (he.later ha)
  have HAt := hid (h.later ha)
  have HFs : Hid (FsOk w1 L) := fun hr => (hf hr).later ha
  have HB := hid ha
  have HLt := hid h.lt
  have HT := hid ht
  have k0 := HKy.out.cell 0
  have l1 := HAt.out.cell 1
  simp only [Ky.c, Lk.c, sv, List.getElem?_cons_succ, List.getElem?_cons_zero] at k0 l1
  have hF := fldk b
  have f0 := fun w => (hF w).1
  have f1 := fun w => (hF w).2.1
  have f2 := fun w => (hF w).2.2.1
  have f3 := fun w => (hF w).2.2.2.1
  have g3 := fun w => (hF w).2.2.2.2.2.2.2.2
  have g0 := fld33a b
  have g1 := fld33b b
  have hosz : (str op).size = 10 := by rw [str_size, hop]; rfl
  have hz92 : (⟨#[92]⟩ : ByteArray) ++ (str op).extract 2 (str op).size = str (92 :: op.drop 2) := by rw [drop_str]; exact app_str [92] (op.drop 2)
  rw [hosz] at hz92
  have HC := hid (fun (w0 : World) (h0 : Below w1.heap.size w1 w0) => hasf_any ((hfl.later ha).later h0) hfn hfb (92 :: op.drop 2) (by rw [hop]; decide))
  clear hfl
  clear he h hf ha hF hop
  go_enter Tryz.func23, Tryz.ntmps23
  go_wp2_with fail
  clear hw1
  have qc : w1.cell? ⟨w.heap.size, 0, none⟩ = some (.string (str op)) ∧ w1.cell? ⟨b, 1, none⟩ = some (.slice L.fl.1 L.fl.2.1 L.fl.2.2) := ⟨k0, l1⟩
  have HQ : Hid (∀ w' : World, KyAt w' w.heap.size ⟨op, t, f, n, (a, p, c), (d, q, g)⟩ → LkAt w' b L → w'.cell? ⟨w.heap.size, 0, none⟩ = some (.string (str op)) ∧ w'.cell? ⟨b, 1, none⟩ = some (.slice L.fl.1 L.fl.2.1 L.fl.2.2)) := by
    intro w' e1 e2
    have k0 := e1.cell 0
    have l1 := e2.cell 1
    simp only [Ky.c, Lk.c, sv, List.getElem?_cons_succ, List.getElem?_cons_zero] at k0 l1
    exact ⟨k0, l1⟩
  clear k0 l1
  go_region_held3 (fun w' => w'.cell? ⟨w.heap.size, 0, none⟩ = some (.string (str op)) ∧ w'.cell? ⟨b, 1, none⟩ = some (.slice L.fl.1 L.fl.2.1 L.fl.2.2)) (first | exact qc | go_keep) (first
    | (go_at_call 33; refine (HC.out _ (by repeat (first | exact Below.refl _ _ | refine Below.drew ?_))).mono ?_; rintro e w5 ⟨rfl, hb5⟩; have HB5 : Below w1.heap.size w1 w5 := Below.trans (by repeat (first | exact Below.refl _ _ | refine Below.drew ?_)) hb5; have qc := HQ.out w5 (HKy.out.later HB5) (HAt.out.later HB5); clear hb5))
  go_wp2_with fail
  go_ret
  exact ⟨Seen2.of (HAt.out.later HB5) (fun hr => (HFs.out hr).later HB5), rfl, kept_t (Kept.ofBelow HB.out [b]) (Kept.ofBelow HB5 [b])⟩
set_option maxRecDepth 100000 in
set_option maxHeartbeats 4000000 in
theorem undeleted_any {w : World} {b : Nat} {L : Lk} (he : Env w) (hb0 : 0 < b) (h : LkAt w b L) (hf : FsOk w L) (ht : L.text.length ≤ 1000000) (op t f : Bs) (n : Int) (a : Option Addr) (p c : Nat) (d : Option Addr) (q g : Nat) (hop : op = [85, 78, 68, 69, 76, 69, 84, 69, 68]) (fl : List Bs) (hfl : RL w (sv L.fl) 1 (fl.map sR)) (hfn : fl.length ≤ 1000000) (hfb : ∀ x ∈ fl, x.length ≤ 10000000) :
    Calls Tryz.prog 23 #[.pointer (some ⟨b, 0, none⟩), .agg #[.string (str op), .string (str t), .string (str f), .int .i64 n, .slice a p c, .slice d q g]] w fun e w' => Seen2 w' b L ∧ e = .returned (.bool (!hasP fl (92 :: op.drop 2))) ∧ Kept [b] w w' := by
  have q0 : ((str op).toList == ([65, 76, 76] : Bs)) = false := by rw [toL, hop]; decide
  have q1 : ((str op).toList == ([65, 78, 83, 87, 69, 82, 69, 68] : Bs)) = false := by rw [toL, hop]; decide
  have q2 : ((str op).toList == ([68, 69, 76, 69, 84, 69, 68] : Bs)) = false := by rw [toL, hop]; decide
  have q3 : ((str op).toList == ([68, 82, 65, 70, 84] : Bs)) = false := by rw [toL, hop]; decide
  have q4 : ((str op).toList == ([70, 76, 65, 71, 71, 69, 68] : Bs)) = false := by rw [toL, hop]; decide
  have q5 : ((str op).toList == ([83, 69, 69, 78] : Bs)) = false := by rw [toL, hop]; decide
  have q6 : ((str op).toList == ([85, 78, 65, 78, 83, 87, 69, 82, 69, 68] : Bs)) = false := by rw [toL, hop]; decide
  have q99 : ((str op).toList == ([85, 78, 68, 69, 76, 69, 84, 69, 68] : Bs)) = true := by rw [toL, hop]; decide
  have ha : Below w.heap.size w (w.alloc (.cells #[.string (str op), .string (str t), .string (str f), .int .i64 n, .slice a p c, .slice d q g] 28)) := (Below.refl _ _).alloc (Nat.le_refl _) _
  obtain ⟨w1, hw1⟩ : ∃ w1, w.alloc (.cells #[.string (str op), .string (str t), .string (str f), .int .i64 n, .slice a p c, .slice d q g] 28) = w1 := ⟨_, rfl⟩
  have HKy : Hid (KyAt w1 w.heap.size ⟨op, t, f, n, (a, p, c), (d, q, g)⟩) := by rw [← hw1]; exact KyAt.new w ⟨op, t, f, n, (a, p, c), (d, q, g)⟩
  rw [hw1] at ha
  have HE := hid (he.later ha)
  have HAt := hid (h.later ha)
  have HFs : Hid (FsOk w1 L) := fun hr => (hf hr).later ha
  have HB := hid ha
  have HLt := hid h.lt
  have HT := hid ht
  have k0 := HKy.out.cell 0
  have l1 := HAt.out.cell 1
  simp only [Ky.c, Lk.c, sv, List.getElem?_cons_succ, List.getElem?_cons_zero] at k0 l1
  have hF := fldk b
  have f0 := fun w => (hF w).1
  have f1 := fun w => (hF w).2.1
  have f2 := fun w => (hF w).2.2.1
  have f3 := fun w => (hF w).2.2.2.1
  have g3 := fun w => (hF w).2.2.2.2.2.2.2.2
  have g0 := fld33a b
  have g1 := fld33b b
  have hosz : (str op).size = 9 := by rw [str_size, hop]; rfl
  have hz92 : (⟨#[92]⟩ : ByteArray) ++ (str op).extract 2 (str op).size = str (92 :: op.drop 2) := by rw [drop_str]; exact app_str [92] (op.drop 2)
  rw [hosz] at hz92
  have HC := hid (fun (w0 : World) (h0 : Below w1.heap.size w1 w0) => hasf_any ((hfl.later ha).later h0) hfn hfb (92 :: op.drop 2) (by rw [hop]; decide))
  clear hfl
  clear he h hf ha hF hop
  go_enter Tryz.func23, Tryz.ntmps23
  go_wp2_with fail
  clear hw1
  have qc : w1.cell? ⟨w.heap.size, 0, none⟩ = some (.string (str op)) ∧ w1.cell? ⟨b, 1, none⟩ = some (.slice L.fl.1 L.fl.2.1 L.fl.2.2) := ⟨k0, l1⟩
  have HQ : Hid (∀ w' : World, KyAt w' w.heap.size ⟨op, t, f, n, (a, p, c), (d, q, g)⟩ → LkAt w' b L → w'.cell? ⟨w.heap.size, 0, none⟩ = some (.string (str op)) ∧ w'.cell? ⟨b, 1, none⟩ = some (.slice L.fl.1 L.fl.2.1 L.fl.2.2)) := by
    intro w' e1 e2
    have k0 := e1.cell 0
    have l1 := e2.cell 1
    simp only [Ky.c, Lk.c, sv, List.getElem?_cons_succ, List.getElem?_cons_zero] at k0 l1
    exact ⟨k0, l1⟩
  clear k0 l1
  go_region_held3 (fun w' => w'.cell? ⟨w.heap.size, 0, none⟩ = some (.string (str op)) ∧ w'.cell? ⟨b, 1, none⟩ = some (.slice L.fl.1 L.fl.2.1 L.fl.2.2)) (first | exact qc | go_keep) (first
    | (go_at_call 33; refine (HC.out _ (by repeat (first | exact Below.refl _ _ | refine Below.drew ?_))).mono ?_; rintro e w5 ⟨rfl, hb5⟩; have HB5 : Below w1.heap.size w1 w5 := Below.trans (by repeat (first | exact Below.refl _ _ | refine Below.drew ?_)) hb5; have qc := HQ.out w5 (HKy.out.later HB5) (HAt.out.later HB5); clear hb5))
  go_wp2_with fail
  go_ret
  exact ⟨Seen2.of (HAt.out.later HB5) (fun hr => (HFs.out hr).later HB5), rfl, kept_t (Kept.ofBelow HB.out [b]) (Kept.ofBelow HB5 [b])⟩
set_option maxRecDepth 100000 in
set_option maxHeartbeats 4000000 in
theorem undraft_any {w : World} {b : Nat} {L : Lk} (he : Env w) (hb0 : 0 < b) (h : LkAt w b L) (hf : FsOk w L) (ht : L.text.length ≤ 1000000) (op t f : Bs) (n : Int) (a : Option Addr) (p c : Nat) (d : Option Addr) (q g : Nat) (hop : op = [85, 78, 68, 82, 65, 70, 84]) (fl : List Bs) (hfl : RL w (sv L.fl) 1 (fl.map sR)) (hfn : fl.length ≤ 1000000) (hfb : ∀ x ∈ fl, x.length ≤ 10000000) :
    Calls Tryz.prog 23 #[.pointer (some ⟨b, 0, none⟩), .agg #[.string (str op), .string (str t), .string (str f), .int .i64 n, .slice a p c, .slice d q g]] w fun e w' => Seen2 w' b L ∧ e = .returned (.bool (!hasP fl (92 :: op.drop 2))) ∧ Kept [b] w w' := by
  have q0 : ((str op).toList == ([65, 76, 76] : Bs)) = false := by rw [toL, hop]; decide
  have q1 : ((str op).toList == ([65, 78, 83, 87, 69, 82, 69, 68] : Bs)) = false := by rw [toL, hop]; decide
  have q2 : ((str op).toList == ([68, 69, 76, 69, 84, 69, 68] : Bs)) = false := by rw [toL, hop]; decide
  have q3 : ((str op).toList == ([68, 82, 65, 70, 84] : Bs)) = false := by rw [toL, hop]; decide
  have q4 : ((str op).toList == ([70, 76, 65, 71, 71, 69, 68] : Bs)) = false := by rw [toL, hop]; decide
  have q5 : ((str op).toList == ([83, 69, 69, 78] : Bs)) = false := by rw [toL, hop]; decide
  have q6 : ((str op).toList == ([85, 78, 65, 78, 83, 87, 69, 82, 69, 68] : Bs)) = false := by rw [toL, hop]; decide
  have q7 : ((str op).toList == ([85, 78, 68, 69, 76, 69, 84, 69, 68] : Bs)) = false := by rw [toL, hop]; decide
  have q99 : ((str op).toList == ([85, 78, 68, 82, 65, 70, 84] : Bs)) = true := by rw [toL, hop]; decide
  have ha : Below w.heap.size w (w.alloc (.cells #[.string (str op), .string (str t), .string (str f), .int .i64 n, .slice a p c, .slice d q g] 28)) := (Below.refl _ _).alloc (Nat.le_refl _) _
  obtain ⟨w1, hw1⟩ : ∃ w1, w.alloc (.cells #[.string (str op), .string (str t), .string (str f), .int .i64 n, .slice a p c, .slice d q g] 28) = w1 := ⟨_, rfl⟩
  have HKy : Hid (KyAt w1 w.heap.size ⟨op, t, f, n, (a, p, c), (d, q, g)⟩) := by rw [← hw1]; exact KyAt.new w ⟨op, t, f, n, (a, p, c), (d, q, g)⟩
  rw [hw1] at ha
  have HE := hid (he.later ha)
  have HAt := hid (h.later ha)
  have HFs : Hid (FsOk w1 L) := fun hr => (hf hr).later ha
  have HB := hid ha
  have HLt := hid h.lt
  have HT := hid ht
  have k0 := HKy.out.cell 0
  have l1 := HAt.out.cell 1
  simp only [Ky.c, Lk.c, sv, List.getElem?_cons_succ, List.getElem?_cons_zero] at k0 l1
  have hF := fldk b
  have f0 := fun w => (hF w).1
  have f1 := fun w => (hF w).2.1
  have f2 := fun w => (hF w).2.2.1
  have f3 := fun w => (hF w).2.2.2.1
  have g3 := fun w => (hF w).2.2.2.2.2.2.2.2
  have g0 := fld33a b
  have g1 := fld33b b
  have hosz : (str op).size = 7 := by rw [str_size, hop]; rfl
  have hz92 : (⟨#[92]⟩ : ByteArray) ++ (str op).extract 2 (str op).size = str (92 :: op.drop 2) := by rw [drop_str]; exact app_str [92] (op.drop 2)
  rw [hosz] at hz92
  have HC := hid (fun (w0 : World) (h0 : Below w1.heap.size w1 w0) => hasf_any ((hfl.later ha).later h0) hfn hfb (92 :: op.drop 2) (by rw [hop]; decide))
  clear hfl
  clear he h hf ha hF hop
  go_enter Tryz.func23, Tryz.ntmps23
  go_wp2_with fail
  clear hw1
  have qc : w1.cell? ⟨w.heap.size, 0, none⟩ = some (.string (str op)) ∧ w1.cell? ⟨b, 1, none⟩ = some (.slice L.fl.1 L.fl.2.1 L.fl.2.2) := ⟨k0, l1⟩
  have HQ : Hid (∀ w' : World, KyAt w' w.heap.size ⟨op, t, f, n, (a, p, c), (d, q, g)⟩ → LkAt w' b L → w'.cell? ⟨w.heap.size, 0, none⟩ = some (.string (str op)) ∧ w'.cell? ⟨b, 1, none⟩ = some (.slice L.fl.1 L.fl.2.1 L.fl.2.2)) := by
    intro w' e1 e2
    have k0 := e1.cell 0
    have l1 := e2.cell 1
    simp only [Ky.c, Lk.c, sv, List.getElem?_cons_succ, List.getElem?_cons_zero] at k0 l1
    exact ⟨k0, l1⟩
  clear k0 l1
  go_region_held3 (fun w' => w'.cell? ⟨w.heap.size, 0, none⟩ = some (.string (str op)) ∧ w'.cell? ⟨b, 1, none⟩ = some (.slice L.fl.1 L.fl.2.1 L.fl.2.2)) (first | exact qc | go_keep) (first
    | (go_at_call 33; refine (HC.out _ (by repeat (first | exact Below.refl _ _ | refine Below.drew ?_))).mono ?_; rintro e w5 ⟨rfl, hb5⟩; have HB5 : Below w1.heap.size w1 w5 := Below.trans (by repeat (first | exact Below.refl _ _ | refine Below.drew ?_)) hb5; have qc := HQ.out w5 (HKy.out.later HB5) (HAt.out.later HB5); clear hb5))
  go_wp2_with fail
  go_ret
  exact ⟨Seen2.of (HAt.out.later HB5) (fun hr => (HFs.out hr).later HB5), rfl, kept_t (Kept.ofBelow HB.out [b]) (Kept.ofBelow HB5 [b])⟩
set_option maxRecDepth 100000 in
set_option maxHeartbeats 4000000 in
theorem unflagged_any {w : World} {b : Nat} {L : Lk} (he : Env w) (hb0 : 0 < b) (h : LkAt w b L) (hf : FsOk w L) (ht : L.text.length ≤ 1000000) (op t f : Bs) (n : Int) (a : Option Addr) (p c : Nat) (d : Option Addr) (q g : Nat) (hop : op = [85, 78, 70, 76, 65, 71, 71, 69, 68]) (fl : List Bs) (hfl : RL w (sv L.fl) 1 (fl.map sR)) (hfn : fl.length ≤ 1000000) (hfb : ∀ x ∈ fl, x.length ≤ 10000000) :
    Calls Tryz.prog 23 #[.pointer (some ⟨b, 0, none⟩), .agg #[.string (str op), .string (str t), .string (str f), .int .i64 n, .slice a p c, .slice d q g]] w fun e w' => Seen2 w' b L ∧ e = .returned (.bool (!hasP fl (92 :: op.drop 2))) ∧ Kept [b] w w' := by
  have q0 : ((str op).toList == ([65, 76, 76] : Bs)) = false := by rw [toL, hop]; decide
  have q1 : ((str op).toList == ([65, 78, 83, 87, 69, 82, 69, 68] : Bs)) = false := by rw [toL, hop]; decide
  have q2 : ((str op).toList == ([68, 69, 76, 69, 84, 69, 68] : Bs)) = false := by rw [toL, hop]; decide
  have q3 : ((str op).toList == ([68, 82, 65, 70, 84] : Bs)) = false := by rw [toL, hop]; decide
  have q4 : ((str op).toList == ([70, 76, 65, 71, 71, 69, 68] : Bs)) = false := by rw [toL, hop]; decide
  have q5 : ((str op).toList == ([83, 69, 69, 78] : Bs)) = false := by rw [toL, hop]; decide
  have q6 : ((str op).toList == ([85, 78, 65, 78, 83, 87, 69, 82, 69, 68] : Bs)) = false := by rw [toL, hop]; decide
  have q7 : ((str op).toList == ([85, 78, 68, 69, 76, 69, 84, 69, 68] : Bs)) = false := by rw [toL, hop]; decide
  have q8 : ((str op).toList == ([85, 78, 68, 82, 65, 70, 84] : Bs)) = false := by rw [toL, hop]; decide
  have q99 : ((str op).toList == ([85, 78, 70, 76, 65, 71, 71, 69, 68] : Bs)) = true := by rw [toL, hop]; decide
  have ha : Below w.heap.size w (w.alloc (.cells #[.string (str op), .string (str t), .string (str f), .int .i64 n, .slice a p c, .slice d q g] 28)) := (Below.refl _ _).alloc (Nat.le_refl _) _
  obtain ⟨w1, hw1⟩ : ∃ w1, w.alloc (.cells #[.string (str op), .string (str t), .string (str f), .int .i64 n, .slice a p c, .slice d q g] 28) = w1 := ⟨_, rfl⟩
  have HKy : Hid (KyAt w1 w.heap.size ⟨op, t, f, n, (a, p, c), (d, q, g)⟩) := by rw [← hw1]; exact KyAt.new w ⟨op, t, f, n, (a, p, c), (d, q, g)⟩
  rw [hw1] at ha
  have HE := hid (he.later ha)
  have HAt := hid (h.later ha)
  have HFs : Hid (FsOk w1 L) := fun hr => (hf hr).later ha
  have HB := hid ha
  have HLt := hid h.lt
  have HT := hid ht
  have k0 := HKy.out.cell 0
  have l1 := HAt.out.cell 1
  simp only [Ky.c, Lk.c, sv, List.getElem?_cons_succ, List.getElem?_cons_zero] at k0 l1
  have hF := fldk b
  have f0 := fun w => (hF w).1
  have f1 := fun w => (hF w).2.1
  have f2 := fun w => (hF w).2.2.1
  have f3 := fun w => (hF w).2.2.2.1
  have g3 := fun w => (hF w).2.2.2.2.2.2.2.2
  have g0 := fld33a b
  have g1 := fld33b b
  have hosz : (str op).size = 9 := by rw [str_size, hop]; rfl
  have hz92 : (⟨#[92]⟩ : ByteArray) ++ (str op).extract 2 (str op).size = str (92 :: op.drop 2) := by rw [drop_str]; exact app_str [92] (op.drop 2)
  rw [hosz] at hz92
  have HC := hid (fun (w0 : World) (h0 : Below w1.heap.size w1 w0) => hasf_any ((hfl.later ha).later h0) hfn hfb (92 :: op.drop 2) (by rw [hop]; decide))
  clear hfl
  clear he h hf ha hF hop
  go_enter Tryz.func23, Tryz.ntmps23
  go_wp2_with fail
  clear hw1
  have qc : w1.cell? ⟨w.heap.size, 0, none⟩ = some (.string (str op)) ∧ w1.cell? ⟨b, 1, none⟩ = some (.slice L.fl.1 L.fl.2.1 L.fl.2.2) := ⟨k0, l1⟩
  have HQ : Hid (∀ w' : World, KyAt w' w.heap.size ⟨op, t, f, n, (a, p, c), (d, q, g)⟩ → LkAt w' b L → w'.cell? ⟨w.heap.size, 0, none⟩ = some (.string (str op)) ∧ w'.cell? ⟨b, 1, none⟩ = some (.slice L.fl.1 L.fl.2.1 L.fl.2.2)) := by
    intro w' e1 e2
    have k0 := e1.cell 0
    have l1 := e2.cell 1
    simp only [Ky.c, Lk.c, sv, List.getElem?_cons_succ, List.getElem?_cons_zero] at k0 l1
    exact ⟨k0, l1⟩
  clear k0 l1
  go_region_held3 (fun w' => w'.cell? ⟨w.heap.size, 0, none⟩ = some (.string (str op)) ∧ w'.cell? ⟨b, 1, none⟩ = some (.slice L.fl.1 L.fl.2.1 L.fl.2.2)) (first | exact qc | go_keep) (first
    | (go_at_call 33; refine (HC.out _ (by repeat (first | exact Below.refl _ _ | refine Below.drew ?_))).mono ?_; rintro e w5 ⟨rfl, hb5⟩; have HB5 : Below w1.heap.size w1 w5 := Below.trans (by repeat (first | exact Below.refl _ _ | refine Below.drew ?_)) hb5; have qc := HQ.out w5 (HKy.out.later HB5) (HAt.out.later HB5); clear hb5))
  go_wp2_with fail
  go_ret
  exact ⟨Seen2.of (HAt.out.later HB5) (fun hr => (HFs.out hr).later HB5), rfl, kept_t (Kept.ofBelow HB.out [b]) (Kept.ofBelow HB5 [b])⟩
set_option maxRecDepth 100000 in
set_option maxHeartbeats 4000000 in
theorem unseen_any {w : World} {b : Nat} {L : Lk} (he : Env w) (hb0 : 0 < b) (h : LkAt w b L) (hf : FsOk w L) (ht : L.text.length ≤ 1000000) (op t f : Bs) (n : Int) (a : Option Addr) (p c : Nat) (d : Option Addr) (q g : Nat) (hop : op = [85, 78, 83, 69, 69, 78]) (fl : List Bs) (hfl : RL w (sv L.fl) 1 (fl.map sR)) (hfn : fl.length ≤ 1000000) (hfb : ∀ x ∈ fl, x.length ≤ 10000000) :
    Calls Tryz.prog 23 #[.pointer (some ⟨b, 0, none⟩), .agg #[.string (str op), .string (str t), .string (str f), .int .i64 n, .slice a p c, .slice d q g]] w fun e w' => Seen2 w' b L ∧ e = .returned (.bool (!hasP fl (92 :: op.drop 2))) ∧ Kept [b] w w' := by
  have q0 : ((str op).toList == ([65, 76, 76] : Bs)) = false := by rw [toL, hop]; decide
  have q1 : ((str op).toList == ([65, 78, 83, 87, 69, 82, 69, 68] : Bs)) = false := by rw [toL, hop]; decide
  have q2 : ((str op).toList == ([68, 69, 76, 69, 84, 69, 68] : Bs)) = false := by rw [toL, hop]; decide
  have q3 : ((str op).toList == ([68, 82, 65, 70, 84] : Bs)) = false := by rw [toL, hop]; decide
  have q4 : ((str op).toList == ([70, 76, 65, 71, 71, 69, 68] : Bs)) = false := by rw [toL, hop]; decide
  have q5 : ((str op).toList == ([83, 69, 69, 78] : Bs)) = false := by rw [toL, hop]; decide
  have q6 : ((str op).toList == ([85, 78, 65, 78, 83, 87, 69, 82, 69, 68] : Bs)) = false := by rw [toL, hop]; decide
  have q7 : ((str op).toList == ([85, 78, 68, 69, 76, 69, 84, 69, 68] : Bs)) = false := by rw [toL, hop]; decide
  have q8 : ((str op).toList == ([85, 78, 68, 82, 65, 70, 84] : Bs)) = false := by rw [toL, hop]; decide
  have q9 : ((str op).toList == ([85, 78, 70, 76, 65, 71, 71, 69, 68] : Bs)) = false := by rw [toL, hop]; decide
  have q99 : ((str op).toList == ([85, 78, 83, 69, 69, 78] : Bs)) = true := by rw [toL, hop]; decide
  have ha : Below w.heap.size w (w.alloc (.cells #[.string (str op), .string (str t), .string (str f), .int .i64 n, .slice a p c, .slice d q g] 28)) := (Below.refl _ _).alloc (Nat.le_refl _) _
  obtain ⟨w1, hw1⟩ : ∃ w1, w.alloc (.cells #[.string (str op), .string (str t), .string (str f), .int .i64 n, .slice a p c, .slice d q g] 28) = w1 := ⟨_, rfl⟩
  have HKy : Hid (KyAt w1 w.heap.size ⟨op, t, f, n, (a, p, c), (d, q, g)⟩) := by rw [← hw1]; exact KyAt.new w ⟨op, t, f, n, (a, p, c), (d, q, g)⟩
  rw [hw1] at ha
  have HE := hid (he.later ha)
  have HAt := hid (h.later ha)
  have HFs : Hid (FsOk w1 L) := fun hr => (hf hr).later ha
  have HB := hid ha
  have HLt := hid h.lt
  have HT := hid ht
  have k0 := HKy.out.cell 0
  have l1 := HAt.out.cell 1
  simp only [Ky.c, Lk.c, sv, List.getElem?_cons_succ, List.getElem?_cons_zero] at k0 l1
  have hF := fldk b
  have f0 := fun w => (hF w).1
  have f1 := fun w => (hF w).2.1
  have f2 := fun w => (hF w).2.2.1
  have f3 := fun w => (hF w).2.2.2.1
  have g3 := fun w => (hF w).2.2.2.2.2.2.2.2
  have g0 := fld33a b
  have g1 := fld33b b
  have hosz : (str op).size = 6 := by rw [str_size, hop]; rfl
  have hz92 : (⟨#[92]⟩ : ByteArray) ++ (str op).extract 2 (str op).size = str (92 :: op.drop 2) := by rw [drop_str]; exact app_str [92] (op.drop 2)
  rw [hosz] at hz92
  have HC := hid (fun (w0 : World) (h0 : Below w1.heap.size w1 w0) => hasf_any ((hfl.later ha).later h0) hfn hfb (92 :: op.drop 2) (by rw [hop]; decide))
  clear hfl
  clear he h hf ha hF hop
  go_enter Tryz.func23, Tryz.ntmps23
  go_wp2_with fail
  clear hw1
  have qc : w1.cell? ⟨w.heap.size, 0, none⟩ = some (.string (str op)) ∧ w1.cell? ⟨b, 1, none⟩ = some (.slice L.fl.1 L.fl.2.1 L.fl.2.2) := ⟨k0, l1⟩
  have HQ : Hid (∀ w' : World, KyAt w' w.heap.size ⟨op, t, f, n, (a, p, c), (d, q, g)⟩ → LkAt w' b L → w'.cell? ⟨w.heap.size, 0, none⟩ = some (.string (str op)) ∧ w'.cell? ⟨b, 1, none⟩ = some (.slice L.fl.1 L.fl.2.1 L.fl.2.2)) := by
    intro w' e1 e2
    have k0 := e1.cell 0
    have l1 := e2.cell 1
    simp only [Ky.c, Lk.c, sv, List.getElem?_cons_succ, List.getElem?_cons_zero] at k0 l1
    exact ⟨k0, l1⟩
  clear k0 l1
  go_region_held3 (fun w' => w'.cell? ⟨w.heap.size, 0, none⟩ = some (.string (str op)) ∧ w'.cell? ⟨b, 1, none⟩ = some (.slice L.fl.1 L.fl.2.1 L.fl.2.2)) (first | exact qc | go_keep) (first
    | (go_at_call 33; refine (HC.out _ (by repeat (first | exact Below.refl _ _ | refine Below.drew ?_))).mono ?_; rintro e w5 ⟨rfl, hb5⟩; have HB5 : Below w1.heap.size w1 w5 := Below.trans (by repeat (first | exact Below.refl _ _ | refine Below.drew ?_)) hb5; have qc := HQ.out w5 (HKy.out.later HB5) (HAt.out.later HB5); clear hb5))
  go_wp2_with fail
  go_ret
  exact ⟨Seen2.of (HAt.out.later HB5) (fun hr => (HFs.out hr).later HB5), rfl, kept_t (Kept.ofBelow HB.out [b]) (Kept.ofBelow HB5 [b])⟩
set_option maxRecDepth 100000 in
set_option maxHeartbeats 4000000 in
theorem key_any {w : World} {b : Nat} {L : Lk} (he : Env w) (hb0 : 0 < b) (h : LkAt w b L) (hf : FsOk w L) (ht : L.text.length ≤ 1000000) (op t f : Bs) (n : Int) (a : Option Addr) (p c : Nat) (d : Option Addr) (q g : Nat) (hop : op = [75, 69, 89, 87, 79, 82, 68]) (fl : List Bs) (hfl : RL w (sv L.fl) 1 (fl.map sR)) (hfn : fl.length ≤ 1000000) (hfb : ∀ x ∈ fl, x.length ≤ 10000000) (htl : t.length ≤ 10000000) :
    Calls Tryz.prog 23 #[.pointer (some ⟨b, 0, none⟩), .agg #[.string (str op), .string (str t), .string (str f), .int .i64 n, .slice a p c, .slice d q g]] w fun e w' => Seen2 w' b L ∧ e = .returned (.bool (hasP fl t)) ∧ Kept [b] w w' := by
  have q0 : ((str op).toList == ([65, 76, 76] : Bs)) = false := by rw [toL, hop]; decide
  have q1 : ((str op).toList == ([65, 78, 83, 87, 69, 82, 69, 68] : Bs)) = false := by rw [toL, hop]; decide
  have q2 : ((str op).toList == ([68, 69, 76, 69, 84, 69, 68] : Bs)) = false := by rw [toL, hop]; decide
  have q3 : ((str op).toList == ([68, 82, 65, 70, 84] : Bs)) = false := by rw [toL, hop]; decide
  have q4 : ((str op).toList == ([70, 76, 65, 71, 71, 69, 68] : Bs)) = false := by rw [toL, hop]; decide
  have q5 : ((str op).toList == ([83, 69, 69, 78] : Bs)) = false := by rw [toL, hop]; decide
  have q6 : ((str op).toList == ([85, 78, 65, 78, 83, 87, 69, 82, 69, 68] : Bs)) = false := by rw [toL, hop]; decide
  have q7 : ((str op).toList == ([85, 78, 68, 69, 76, 69, 84, 69, 68] : Bs)) = false := by rw [toL, hop]; decide
  have q8 : ((str op).toList == ([85, 78, 68, 82, 65, 70, 84] : Bs)) = false := by rw [toL, hop]; decide
  have q9 : ((str op).toList == ([85, 78, 70, 76, 65, 71, 71, 69, 68] : Bs)) = false := by rw [toL, hop]; decide
  have q10 : ((str op).toList == ([85, 78, 83, 69, 69, 78] : Bs)) = false := by rw [toL, hop]; decide
  have q99 : ((str op).toList == ([75, 69, 89, 87, 79, 82, 68] : Bs)) = true := by rw [toL, hop]; decide
  have ha : Below w.heap.size w (w.alloc (.cells #[.string (str op), .string (str t), .string (str f), .int .i64 n, .slice a p c, .slice d q g] 28)) := (Below.refl _ _).alloc (Nat.le_refl _) _
  obtain ⟨w1, hw1⟩ : ∃ w1, w.alloc (.cells #[.string (str op), .string (str t), .string (str f), .int .i64 n, .slice a p c, .slice d q g] 28) = w1 := ⟨_, rfl⟩
  have HKy : Hid (KyAt w1 w.heap.size ⟨op, t, f, n, (a, p, c), (d, q, g)⟩) := by rw [← hw1]; exact KyAt.new w ⟨op, t, f, n, (a, p, c), (d, q, g)⟩
  rw [hw1] at ha
  have HE := hid (he.later ha)
  have HAt := hid (h.later ha)
  have HFs : Hid (FsOk w1 L) := fun hr => (hf hr).later ha
  have HB := hid ha
  have HLt := hid h.lt
  have HT := hid ht
  have k0 := HKy.out.cell 0
  have k1 := HKy.out.cell 1
  have l1 := HAt.out.cell 1
  simp only [Ky.c, Lk.c, sv, List.getElem?_cons_succ, List.getElem?_cons_zero] at k0 k1 l1
  have hF := fldk b
  have f0 := fun w => (hF w).1
  have f1 := fun w => (hF w).2.1
  have f2 := fun w => (hF w).2.2.1
  have f3 := fun w => (hF w).2.2.2.1
  have g3 := fun w => (hF w).2.2.2.2.2.2.2.2
  have g0 := fld33a b
  have g1 := fld33b b
  have HC := hid (fun (w0 : World) (h0 : Below w1.heap.size w1 w0) => hasf_any ((hfl.later ha).later h0) hfn hfb (t) (by omega))
  clear hfl
  clear he h hf ha hF hop
  go_enter Tryz.func23, Tryz.ntmps23
  go_wp2_with fail
  clear hw1
  have qc : w1.cell? ⟨w.heap.size, 1, none⟩ = some (.string (str t)) ∧ w1.cell? ⟨b, 1, none⟩ = some (.slice L.fl.1 L.fl.2.1 L.fl.2.2) := ⟨k1, l1⟩
  have HQ : Hid (∀ w' : World, KyAt w' w.heap.size ⟨op, t, f, n, (a, p, c), (d, q, g)⟩ → LkAt w' b L → w'.cell? ⟨w.heap.size, 1, none⟩ = some (.string (str t)) ∧ w'.cell? ⟨b, 1, none⟩ = some (.slice L.fl.1 L.fl.2.1 L.fl.2.2)) := by
    intro w' e1 e2
    have k1 := e1.cell 1
    have l1 := e2.cell 1
    simp only [Ky.c, Lk.c, sv, List.getElem?_cons_succ, List.getElem?_cons_zero] at k1 l1
    exact ⟨k1, l1⟩
  clear k1 l1 k0
  go_region_held3 (fun w' => w'.cell? ⟨w.heap.size, 1, none⟩ = some (.string (str t)) ∧ w'.cell? ⟨b, 1, none⟩ = some (.slice L.fl.1 L.fl.2.1 L.fl.2.2)) (first | exact qc | go_keep) (first
    | (go_at_call 33; refine (HC.out _ (by repeat (first | exact Below.refl _ _ | refine Below.drew ?_))).mono ?_; rintro e w5 ⟨rfl, hb5⟩; have HB5 : Below w1.heap.size w1 w5 := Below.trans (by repeat (first | exact Below.refl _ _ | refine Below.drew ?_)) hb5; have qc := HQ.out w5 (HKy.out.later HB5) (HAt.out.later HB5); clear hb5))
  go_wp2_with fail
  go_ret
  exact ⟨Seen2.of (HAt.out.later HB5) (fun hr => (HFs.out hr).later HB5), rfl, kept_t (Kept.ofBelow HB.out [b]) (Kept.ofBelow HB5 [b])⟩
set_option maxRecDepth 100000 in
set_option maxHeartbeats 4000000 in
theorem unkey_any {w : World} {b : Nat} {L : Lk} (he : Env w) (hb0 : 0 < b) (h : LkAt w b L) (hf : FsOk w L) (ht : L.text.length ≤ 1000000) (op t f : Bs) (n : Int) (a : Option Addr) (p c : Nat) (d : Option Addr) (q g : Nat) (hop : op = [85, 78, 75, 69, 89, 87, 79, 82, 68]) (fl : List Bs) (hfl : RL w (sv L.fl) 1 (fl.map sR)) (hfn : fl.length ≤ 1000000) (hfb : ∀ x ∈ fl, x.length ≤ 10000000) (htl : t.length ≤ 10000000) :
    Calls Tryz.prog 23 #[.pointer (some ⟨b, 0, none⟩), .agg #[.string (str op), .string (str t), .string (str f), .int .i64 n, .slice a p c, .slice d q g]] w fun e w' => Seen2 w' b L ∧ e = .returned (.bool (!hasP fl t)) ∧ Kept [b] w w' := by
  have q0 : ((str op).toList == ([65, 76, 76] : Bs)) = false := by rw [toL, hop]; decide
  have q1 : ((str op).toList == ([65, 78, 83, 87, 69, 82, 69, 68] : Bs)) = false := by rw [toL, hop]; decide
  have q2 : ((str op).toList == ([68, 69, 76, 69, 84, 69, 68] : Bs)) = false := by rw [toL, hop]; decide
  have q3 : ((str op).toList == ([68, 82, 65, 70, 84] : Bs)) = false := by rw [toL, hop]; decide
  have q4 : ((str op).toList == ([70, 76, 65, 71, 71, 69, 68] : Bs)) = false := by rw [toL, hop]; decide
  have q5 : ((str op).toList == ([83, 69, 69, 78] : Bs)) = false := by rw [toL, hop]; decide
  have q6 : ((str op).toList == ([85, 78, 65, 78, 83, 87, 69, 82, 69, 68] : Bs)) = false := by rw [toL, hop]; decide
  have q7 : ((str op).toList == ([85, 78, 68, 69, 76, 69, 84, 69, 68] : Bs)) = false := by rw [toL, hop]; decide
  have q8 : ((str op).toList == ([85, 78, 68, 82, 65, 70, 84] : Bs)) = false := by rw [toL, hop]; decide
  have q9 : ((str op).toList == ([85, 78, 70, 76, 65, 71, 71, 69, 68] : Bs)) = false := by rw [toL, hop]; decide
  have q10 : ((str op).toList == ([85, 78, 83, 69, 69, 78] : Bs)) = false := by rw [toL, hop]; decide
  have q11 : ((str op).toList == ([75, 69, 89, 87, 79, 82, 68] : Bs)) = false := by rw [toL, hop]; decide
  have q99 : ((str op).toList == ([85, 78, 75, 69, 89, 87, 79, 82, 68] : Bs)) = true := by rw [toL, hop]; decide
  have ha : Below w.heap.size w (w.alloc (.cells #[.string (str op), .string (str t), .string (str f), .int .i64 n, .slice a p c, .slice d q g] 28)) := (Below.refl _ _).alloc (Nat.le_refl _) _
  obtain ⟨w1, hw1⟩ : ∃ w1, w.alloc (.cells #[.string (str op), .string (str t), .string (str f), .int .i64 n, .slice a p c, .slice d q g] 28) = w1 := ⟨_, rfl⟩
  have HKy : Hid (KyAt w1 w.heap.size ⟨op, t, f, n, (a, p, c), (d, q, g)⟩) := by rw [← hw1]; exact KyAt.new w ⟨op, t, f, n, (a, p, c), (d, q, g)⟩
  rw [hw1] at ha
  have HE := hid (he.later ha)
  have HAt := hid (h.later ha)
  have HFs : Hid (FsOk w1 L) := fun hr => (hf hr).later ha
  have HB := hid ha
  have HLt := hid h.lt
  have HT := hid ht
  have k0 := HKy.out.cell 0
  have k1 := HKy.out.cell 1
  have l1 := HAt.out.cell 1
  simp only [Ky.c, Lk.c, sv, List.getElem?_cons_succ, List.getElem?_cons_zero] at k0 k1 l1
  have hF := fldk b
  have f0 := fun w => (hF w).1
  have f1 := fun w => (hF w).2.1
  have f2 := fun w => (hF w).2.2.1
  have f3 := fun w => (hF w).2.2.2.1
  have g3 := fun w => (hF w).2.2.2.2.2.2.2.2
  have g0 := fld33a b
  have g1 := fld33b b
  have HC := hid (fun (w0 : World) (h0 : Below w1.heap.size w1 w0) => hasf_any ((hfl.later ha).later h0) hfn hfb (t) (by omega))
  clear hfl
  clear he h hf ha hF hop
  go_enter Tryz.func23, Tryz.ntmps23
  go_wp2_with fail
  clear hw1
  have qc : w1.cell? ⟨w.heap.size, 1, none⟩ = some (.string (str t)) ∧ w1.cell? ⟨b, 1, none⟩ = some (.slice L.fl.1 L.fl.2.1 L.fl.2.2) := ⟨k1, l1⟩
  have HQ : Hid (∀ w' : World, KyAt w' w.heap.size ⟨op, t, f, n, (a, p, c), (d, q, g)⟩ → LkAt w' b L → w'.cell? ⟨w.heap.size, 1, none⟩ = some (.string (str t)) ∧ w'.cell? ⟨b, 1, none⟩ = some (.slice L.fl.1 L.fl.2.1 L.fl.2.2)) := by
    intro w' e1 e2
    have k1 := e1.cell 1
    have l1 := e2.cell 1
    simp only [Ky.c, Lk.c, sv, List.getElem?_cons_succ, List.getElem?_cons_zero] at k1 l1
    exact ⟨k1, l1⟩
  clear k1 l1 k0
  go_region_held3 (fun w' => w'.cell? ⟨w.heap.size, 1, none⟩ = some (.string (str t)) ∧ w'.cell? ⟨b, 1, none⟩ = some (.slice L.fl.1 L.fl.2.1 L.fl.2.2)) (first | exact qc | go_keep) (first
    | (go_at_call 33; refine (HC.out _ (by repeat (first | exact Below.refl _ _ | refine Below.drew ?_))).mono ?_; rintro e w5 ⟨rfl, hb5⟩; have HB5 : Below w1.heap.size w1 w5 := Below.trans (by repeat (first | exact Below.refl _ _ | refine Below.drew ?_)) hb5; have qc := HQ.out w5 (HKy.out.later HB5) (HAt.out.later HB5); clear hb5))
  go_wp2_with fail
  go_ret
  exact ⟨Seen2.of (HAt.out.later HB5) (fun hr => (HFs.out hr).later HB5), rfl, kept_t (Kept.ofBelow HB.out [b]) (Kept.ofBelow HB5 [b])⟩
end Go.Proofs.YtaniljfjmbifnaaGreatDoor.H
namespace Go.Proofs.YtaniljfjmbifnaaGreatDoor.H
open Go.RowKit
set_option linter.unusedVariables false
set_option linter.unusedSimpArgs false

set_option maxRecDepth 100000 in
set_option maxHeartbeats 4000000 in
theorem bcc_any {w : World} {b : Nat} {L : Lk} (he : Env w) (hb0 : 0 < b) (h : LkAt w b L) (hf : FsOk w L) (ht : L.text.length ≤ 1000000) (op t f : Bs) (n : Int) (a : Option Addr) (p c : Nat) (d : Option Addr) (q g : Nat) (htl : t.length ≤ 10000000) (hop : op = [66, 67, 67])
    (hv : ∀ v ∈ valsL L.text op, (W.joined [v]).length ≤ 1000000 ∧ (wordW v).length ≤ 10000000) :
    Calls Tryz.prog 23 #[.pointer (some ⟨b, 0, none⟩), .agg #[.string (str op), .string (str t), .string (str f), .int .i64 n, .slice a p c, .slice d q g]] w fun e w' => (∃ fs, LkAt w' b { L with rd := true, fs := fs } ∧ FsOk w' { L with rd := true, fs := fs }) ∧ e = .returned (.bool (asksB (valsL L.text op) t)) ∧ Kept [b] w w' := by
  have q0 : ((str op).toList == ([65, 76, 76] : Bs)) = false := by rw [toL, hop]; decide
  have q1 : ((str op).toList == ([65, 78, 83, 87, 69, 82, 69, 68] : Bs)) = false := by rw [toL, hop]; decide
  have q2 : ((str op).toList == ([68, 69, 76, 69, 84, 69, 68] : Bs)) = false := by rw [toL, hop]; decide
  have q3 : ((str op).toList == ([68, 82, 65, 70, 84] : Bs)) = false := by rw [toL, hop]; decide
  have q4 : ((str op).toList == ([70, 76, 65, 71, 71, 69, 68] : Bs)) = false := by rw [toL, hop]; decide
  have q5 : ((str op).toList == ([83, 69, 69, 78] : Bs)) = false := by rw [toL, hop]; decide
  have q6 : ((str op).toList == ([85, 78, 65, 78, 83, 87, 69, 82, 69, 68] : Bs)) = false := by rw [toL, hop]; decide
  have q7 : ((str op).toList == ([85, 78, 68, 69, 76, 69, 84, 69, 68] : Bs)) = false := by rw [toL, hop]; decide
  have q8 : ((str op).toList == ([85, 78, 68, 82, 65, 70, 84] : Bs)) = false := by rw [toL, hop]; decide
  have q9 : ((str op).toList == ([85, 78, 70, 76, 65, 71, 71, 69, 68] : Bs)) = false := by rw [toL, hop]; decide
  have q10 : ((str op).toList == ([85, 78, 83, 69, 69, 78] : Bs)) = false := by rw [toL, hop]; decide
  have q11 : ((str op).toList == ([75, 69, 89, 87, 79, 82, 68] : Bs)) = false := by rw [toL, hop]; decide
  have q12 : ((str op).toList == ([85, 78, 75, 69, 89, 87, 79, 82, 68] : Bs)) = false := by rw [toL, hop]; decide
  have q99 : ((str op).toList == ([66, 67, 67] : Bs)) = true := by rw [toL, hop]; decide
  have hopl : op.length ≤ 10000000 := by rw [hop]; decide
  clear hop
  have ha : Below w.heap.size w (w.alloc (.cells #[.string (str op), .string (str t), .string (str f), .int .i64 n, .slice a p c, .slice d q g] 28)) := (Below.refl _ _).alloc (Nat.le_refl _) _
  obtain ⟨w1, hw1⟩ : ∃ w1, w.alloc (.cells #[.string (str op), .string (str t), .string (str f), .int .i64 n, .slice a p c, .slice d q g] 28) = w1 := ⟨_, rfl⟩
  have HKy : Hid (KyAt w1 w.heap.size ⟨op, t, f, n, (a, p, c), (d, q, g)⟩) := by rw [← hw1]; exact KyAt.new w ⟨op, t, f, n, (a, p, c), (d, q, g)⟩
  rw [hw1] at ha
  have HE := hid (he.later ha)
  have HAt := hid (h.later ha)
  have HFs : Hid (FsOk w1 L) := fun hr => (hf hr).later ha
  have HB := hid ha
  have HLt := hid h.lt
  have HV := hid hv
  have HT := hid ht
  have HTL := hid htl
  have C := values_any HE.out hb0 HAt.out HFs.out ht op hopl
  have k0 := HKy.out.cell 0
  have k1 := HKy.out.cell 1
  simp only [Ky.c, List.getElem?_cons_succ, List.getElem?_cons_zero] at k0 k1
  clear he h hf ha hv
  go_enter Tryz.func23, Tryz.ntmps23
  go_wp2_with fail
  clear hw1
  refine C.mono ?_
  rintro e w2 ⟨u, fs, rfl, hr, hl, hfs, hkp⟩
  have HKy2 := hid (HKy.out.kept hkp (by simp; have := HLt.out; omega))
  have HE2 : Hid (Env w2) := by
    obtain ⟨m, hm⟩ := HE.out
    exact ⟨m, (World.cell?_of_block (hkp.block 0 (by have := HB.out.size; have := HLt.out; omega) (by simp; omega))).trans hm⟩
  have D := asks_any HE2.out HKy2.out hr (vals_len HT.out op) HV.out HTL.out
  obtain ⟨_, ra, rc, hru, _⟩ := id hr
  subst hru
  rw [List.length_map] at D ⊢
  have HL2 := hid hl
  have HF2 := hid hfs
  have HK2 := hid (kept_t (Kept.ofBelow HB.out [b]) hkp)
  clear hr hl hfs hkp C k0 k1
  go_wp2_with fail
  refine D.mono ?_
  rintro e w3 ⟨rfl, b3⟩
  have HL3 := hid (HL2.out.later b3)
  have HF3 : Hid (FsOk w3 { L with rd := true, fs := fs }) := fun hr => (HF2.out hr).later b3
  have HK3 := hid (kept_t HK2.out (Kept.ofBelow b3 [b]))
  clear b3 D
  go_wp2_with fail
  go_ret
  exact ⟨⟨fs, HL3.out, HF3.out⟩, rfl, HK3.out⟩
set_option maxRecDepth 100000 in
set_option maxHeartbeats 4000000 in
theorem cc_any {w : World} {b : Nat} {L : Lk} (he : Env w) (hb0 : 0 < b) (h : LkAt w b L) (hf : FsOk w L) (ht : L.text.length ≤ 1000000) (op t f : Bs) (n : Int) (a : Option Addr) (p c : Nat) (d : Option Addr) (q g : Nat) (htl : t.length ≤ 10000000) (hop : op = [67, 67])
    (hv : ∀ v ∈ valsL L.text op, (W.joined [v]).length ≤ 1000000 ∧ (wordW v).length ≤ 10000000) :
    Calls Tryz.prog 23 #[.pointer (some ⟨b, 0, none⟩), .agg #[.string (str op), .string (str t), .string (str f), .int .i64 n, .slice a p c, .slice d q g]] w fun e w' => (∃ fs, LkAt w' b { L with rd := true, fs := fs } ∧ FsOk w' { L with rd := true, fs := fs }) ∧ e = .returned (.bool (asksB (valsL L.text op) t)) ∧ Kept [b] w w' := by
  have q0 : ((str op).toList == ([65, 76, 76] : Bs)) = false := by rw [toL, hop]; decide
  have q1 : ((str op).toList == ([65, 78, 83, 87, 69, 82, 69, 68] : Bs)) = false := by rw [toL, hop]; decide
  have q2 : ((str op).toList == ([68, 69, 76, 69, 84, 69, 68] : Bs)) = false := by rw [toL, hop]; decide
  have q3 : ((str op).toList == ([68, 82, 65, 70, 84] : Bs)) = false := by rw [toL, hop]; decide
  have q4 : ((str op).toList == ([70, 76, 65, 71, 71, 69, 68] : Bs)) = false := by rw [toL, hop]; decide
  have q5 : ((str op).toList == ([83, 69, 69, 78] : Bs)) = false := by rw [toL, hop]; decide
  have q6 : ((str op).toList == ([85, 78, 65, 78, 83, 87, 69, 82, 69, 68] : Bs)) = false := by rw [toL, hop]; decide
  have q7 : ((str op).toList == ([85, 78, 68, 69, 76, 69, 84, 69, 68] : Bs)) = false := by rw [toL, hop]; decide
  have q8 : ((str op).toList == ([85, 78, 68, 82, 65, 70, 84] : Bs)) = false := by rw [toL, hop]; decide
  have q9 : ((str op).toList == ([85, 78, 70, 76, 65, 71, 71, 69, 68] : Bs)) = false := by rw [toL, hop]; decide
  have q10 : ((str op).toList == ([85, 78, 83, 69, 69, 78] : Bs)) = false := by rw [toL, hop]; decide
  have q11 : ((str op).toList == ([75, 69, 89, 87, 79, 82, 68] : Bs)) = false := by rw [toL, hop]; decide
  have q12 : ((str op).toList == ([85, 78, 75, 69, 89, 87, 79, 82, 68] : Bs)) = false := by rw [toL, hop]; decide
  have q13 : ((str op).toList == ([66, 67, 67] : Bs)) = false := by rw [toL, hop]; decide
  have q99 : ((str op).toList == ([67, 67] : Bs)) = true := by rw [toL, hop]; decide
  have hopl : op.length ≤ 10000000 := by rw [hop]; decide
  clear hop
  have ha : Below w.heap.size w (w.alloc (.cells #[.string (str op), .string (str t), .string (str f), .int .i64 n, .slice a p c, .slice d q g] 28)) := (Below.refl _ _).alloc (Nat.le_refl _) _
  obtain ⟨w1, hw1⟩ : ∃ w1, w.alloc (.cells #[.string (str op), .string (str t), .string (str f), .int .i64 n, .slice a p c, .slice d q g] 28) = w1 := ⟨_, rfl⟩
  have HKy : Hid (KyAt w1 w.heap.size ⟨op, t, f, n, (a, p, c), (d, q, g)⟩) := by rw [← hw1]; exact KyAt.new w ⟨op, t, f, n, (a, p, c), (d, q, g)⟩
  rw [hw1] at ha
  have HE := hid (he.later ha)
  have HAt := hid (h.later ha)
  have HFs : Hid (FsOk w1 L) := fun hr => (hf hr).later ha
  have HB := hid ha
  have HLt := hid h.lt
  have HV := hid hv
  have HT := hid ht
  have HTL := hid htl
  have C := values_any HE.out hb0 HAt.out HFs.out ht op hopl
  have k0 := HKy.out.cell 0
  have k1 := HKy.out.cell 1
  simp only [Ky.c, List.getElem?_cons_succ, List.getElem?_cons_zero] at k0 k1
  clear he h hf ha hv
  go_enter Tryz.func23, Tryz.ntmps23
  go_wp2_with fail
  clear hw1
  refine C.mono ?_
  rintro e w2 ⟨u, fs, rfl, hr, hl, hfs, hkp⟩
  have HKy2 := hid (HKy.out.kept hkp (by simp; have := HLt.out; omega))
  have HE2 : Hid (Env w2) := by
    obtain ⟨m, hm⟩ := HE.out
    exact ⟨m, (World.cell?_of_block (hkp.block 0 (by have := HB.out.size; have := HLt.out; omega) (by simp; omega))).trans hm⟩
  have D := asks_any HE2.out HKy2.out hr (vals_len HT.out op) HV.out HTL.out
  obtain ⟨_, ra, rc, hru, _⟩ := id hr
  subst hru
  rw [List.length_map] at D ⊢
  have HL2 := hid hl
  have HF2 := hid hfs
  have HK2 := hid (kept_t (Kept.ofBelow HB.out [b]) hkp)
  clear hr hl hfs hkp C k0 k1
  go_wp2_with fail
  refine D.mono ?_
  rintro e w3 ⟨rfl, b3⟩
  have HL3 := hid (HL2.out.later b3)
  have HF3 : Hid (FsOk w3 { L with rd := true, fs := fs }) := fun hr => (HF2.out hr).later b3
  have HK3 := hid (kept_t HK2.out (Kept.ofBelow b3 [b]))
  clear b3 D
  go_wp2_with fail
  go_ret
  exact ⟨⟨fs, HL3.out, HF3.out⟩, rfl, HK3.out⟩
set_option maxRecDepth 100000 in
set_option maxHeartbeats 4000000 in
theorem from_any {w : World} {b : Nat} {L : Lk} (he : Env w) (hb0 : 0 < b) (h : LkAt w b L) (hf : FsOk w L) (ht : L.text.length ≤ 1000000) (op t f : Bs) (n : Int) (a : Option Addr) (p c : Nat) (d : Option Addr) (q g : Nat) (htl : t.length ≤ 10000000) (hop : op = [70, 82, 79, 77])
    (hv : ∀ v ∈ valsL L.text op, (W.joined [v]).length ≤ 1000000 ∧ (wordW v).length ≤ 10000000) :
    Calls Tryz.prog 23 #[.pointer (some ⟨b, 0, none⟩), .agg #[.string (str op), .string (str t), .string (str f), .int .i64 n, .slice a p c, .slice d q g]] w fun e w' => (∃ fs, LkAt w' b { L with rd := true, fs := fs } ∧ FsOk w' { L with rd := true, fs := fs }) ∧ e = .returned (.bool (asksB (valsL L.text op) t)) ∧ Kept [b] w w' := by
  have q0 : ((str op).toList == ([65, 76, 76] : Bs)) = false := by rw [toL, hop]; decide
  have q1 : ((str op).toList == ([65, 78, 83, 87, 69, 82, 69, 68] : Bs)) = false := by rw [toL, hop]; decide
  have q2 : ((str op).toList == ([68, 69, 76, 69, 84, 69, 68] : Bs)) = false := by rw [toL, hop]; decide
  have q3 : ((str op).toList == ([68, 82, 65, 70, 84] : Bs)) = false := by rw [toL, hop]; decide
  have q4 : ((str op).toList == ([70, 76, 65, 71, 71, 69, 68] : Bs)) = false := by rw [toL, hop]; decide
  have q5 : ((str op).toList == ([83, 69, 69, 78] : Bs)) = false := by rw [toL, hop]; decide
  have q6 : ((str op).toList == ([85, 78, 65, 78, 83, 87, 69, 82, 69, 68] : Bs)) = false := by rw [toL, hop]; decide
  have q7 : ((str op).toList == ([85, 78, 68, 69, 76, 69, 84, 69, 68] : Bs)) = false := by rw [toL, hop]; decide
  have q8 : ((str op).toList == ([85, 78, 68, 82, 65, 70, 84] : Bs)) = false := by rw [toL, hop]; decide
  have q9 : ((str op).toList == ([85, 78, 70, 76, 65, 71, 71, 69, 68] : Bs)) = false := by rw [toL, hop]; decide
  have q10 : ((str op).toList == ([85, 78, 83, 69, 69, 78] : Bs)) = false := by rw [toL, hop]; decide
  have q11 : ((str op).toList == ([75, 69, 89, 87, 79, 82, 68] : Bs)) = false := by rw [toL, hop]; decide
  have q12 : ((str op).toList == ([85, 78, 75, 69, 89, 87, 79, 82, 68] : Bs)) = false := by rw [toL, hop]; decide
  have q13 : ((str op).toList == ([66, 67, 67] : Bs)) = false := by rw [toL, hop]; decide
  have q14 : ((str op).toList == ([67, 67] : Bs)) = false := by rw [toL, hop]; decide
  have q99 : ((str op).toList == ([70, 82, 79, 77] : Bs)) = true := by rw [toL, hop]; decide
  have hopl : op.length ≤ 10000000 := by rw [hop]; decide
  clear hop
  have ha : Below w.heap.size w (w.alloc (.cells #[.string (str op), .string (str t), .string (str f), .int .i64 n, .slice a p c, .slice d q g] 28)) := (Below.refl _ _).alloc (Nat.le_refl _) _
  obtain ⟨w1, hw1⟩ : ∃ w1, w.alloc (.cells #[.string (str op), .string (str t), .string (str f), .int .i64 n, .slice a p c, .slice d q g] 28) = w1 := ⟨_, rfl⟩
  have HKy : Hid (KyAt w1 w.heap.size ⟨op, t, f, n, (a, p, c), (d, q, g)⟩) := by rw [← hw1]; exact KyAt.new w ⟨op, t, f, n, (a, p, c), (d, q, g)⟩
  rw [hw1] at ha
  have HE := hid (he.later ha)
  have HAt := hid (h.later ha)
  have HFs : Hid (FsOk w1 L) := fun hr => (hf hr).later ha
  have HB := hid ha
  have HLt := hid h.lt
  have HV := hid hv
  have HT := hid ht
  have HTL := hid htl
  have C := values_any HE.out hb0 HAt.out HFs.out ht op hopl
  have k0 := HKy.out.cell 0
  have k1 := HKy.out.cell 1
  simp only [Ky.c, List.getElem?_cons_succ, List.getElem?_cons_zero] at k0 k1
  clear he h hf ha hv
  go_enter Tryz.func23, Tryz.ntmps23
  go_wp2_with fail
  clear hw1
  refine C.mono ?_
  rintro e w2 ⟨u, fs, rfl, hr, hl, hfs, hkp⟩
  have HKy2 := hid (HKy.out.kept hkp (by simp; have := HLt.out; omega))
  have HE2 : Hid (Env w2) := by
    obtain ⟨m, hm⟩ := HE.out
    exact ⟨m, (World.cell?_of_block (hkp.block 0 (by have := HB.out.size; have := HLt.out; omega) (by simp; omega))).trans hm⟩
  have D := asks_any HE2.out HKy2.out hr (vals_len HT.out op) HV.out HTL.out
  obtain ⟨_, ra, rc, hru, _⟩ := id hr
  subst hru
  rw [List.length_map] at D ⊢
  have HL2 := hid hl
  have HF2 := hid hfs
  have HK2 := hid (kept_t (Kept.ofBelow HB.out [b]) hkp)
  clear hr hl hfs hkp C k0 k1
  go_wp2_with fail
  refine D.mono ?_
  rintro e w3 ⟨rfl, b3⟩
  have HL3 := hid (HL2.out.later b3)
  have HF3 : Hid (FsOk w3 { L with rd := true, fs := fs }) := fun hr => (HF2.out hr).later b3
  have HK3 := hid (kept_t HK2.out (Kept.ofBelow b3 [b]))
  clear b3 D
  go_wp2_with fail
  go_ret
  exact ⟨⟨fs, HL3.out, HF3.out⟩, rfl, HK3.out⟩
set_option maxRecDepth 100000 in
set_option maxHeartbeats 4000000 in
theorem to_any {w : World} {b : Nat} {L : Lk} (he : Env w) (hb0 : 0 < b) (h : LkAt w b L) (hf : FsOk w L) (ht : L.text.length ≤ 1000000) (op t f : Bs) (n : Int) (a : Option Addr) (p c : Nat) (d : Option Addr) (q g : Nat) (htl : t.length ≤ 10000000) (hop : op = [84, 79])
    (hv : ∀ v ∈ valsL L.text op, (W.joined [v]).length ≤ 1000000 ∧ (wordW v).length ≤ 10000000) :
    Calls Tryz.prog 23 #[.pointer (some ⟨b, 0, none⟩), .agg #[.string (str op), .string (str t), .string (str f), .int .i64 n, .slice a p c, .slice d q g]] w fun e w' => (∃ fs, LkAt w' b { L with rd := true, fs := fs } ∧ FsOk w' { L with rd := true, fs := fs }) ∧ e = .returned (.bool (asksB (valsL L.text op) t)) ∧ Kept [b] w w' := by
  have q0 : ((str op).toList == ([65, 76, 76] : Bs)) = false := by rw [toL, hop]; decide
  have q1 : ((str op).toList == ([65, 78, 83, 87, 69, 82, 69, 68] : Bs)) = false := by rw [toL, hop]; decide
  have q2 : ((str op).toList == ([68, 69, 76, 69, 84, 69, 68] : Bs)) = false := by rw [toL, hop]; decide
  have q3 : ((str op).toList == ([68, 82, 65, 70, 84] : Bs)) = false := by rw [toL, hop]; decide
  have q4 : ((str op).toList == ([70, 76, 65, 71, 71, 69, 68] : Bs)) = false := by rw [toL, hop]; decide
  have q5 : ((str op).toList == ([83, 69, 69, 78] : Bs)) = false := by rw [toL, hop]; decide
  have q6 : ((str op).toList == ([85, 78, 65, 78, 83, 87, 69, 82, 69, 68] : Bs)) = false := by rw [toL, hop]; decide
  have q7 : ((str op).toList == ([85, 78, 68, 69, 76, 69, 84, 69, 68] : Bs)) = false := by rw [toL, hop]; decide
  have q8 : ((str op).toList == ([85, 78, 68, 82, 65, 70, 84] : Bs)) = false := by rw [toL, hop]; decide
  have q9 : ((str op).toList == ([85, 78, 70, 76, 65, 71, 71, 69, 68] : Bs)) = false := by rw [toL, hop]; decide
  have q10 : ((str op).toList == ([85, 78, 83, 69, 69, 78] : Bs)) = false := by rw [toL, hop]; decide
  have q11 : ((str op).toList == ([75, 69, 89, 87, 79, 82, 68] : Bs)) = false := by rw [toL, hop]; decide
  have q12 : ((str op).toList == ([85, 78, 75, 69, 89, 87, 79, 82, 68] : Bs)) = false := by rw [toL, hop]; decide
  have q13 : ((str op).toList == ([66, 67, 67] : Bs)) = false := by rw [toL, hop]; decide
  have q14 : ((str op).toList == ([67, 67] : Bs)) = false := by rw [toL, hop]; decide
  have q15 : ((str op).toList == ([70, 82, 79, 77] : Bs)) = false := by rw [toL, hop]; decide
  have q16 : ((str op).toList == ([83, 85, 66, 74, 69, 67, 84] : Bs)) = false := by rw [toL, hop]; decide
  have q99 : ((str op).toList == ([84, 79] : Bs)) = true := by rw [toL, hop]; decide
  have hopl : op.length ≤ 10000000 := by rw [hop]; decide
  clear hop
  have ha : Below w.heap.size w (w.alloc (.cells #[.string (str op), .string (str t), .string (str f), .int .i64 n, .slice a p c, .slice d q g] 28)) := (Below.refl _ _).alloc (Nat.le_refl _) _
  obtain ⟨w1, hw1⟩ : ∃ w1, w.alloc (.cells #[.string (str op), .string (str t), .string (str f), .int .i64 n, .slice a p c, .slice d q g] 28) = w1 := ⟨_, rfl⟩
  have HKy : Hid (KyAt w1 w.heap.size ⟨op, t, f, n, (a, p, c), (d, q, g)⟩) := by rw [← hw1]; exact KyAt.new w ⟨op, t, f, n, (a, p, c), (d, q, g)⟩
  rw [hw1] at ha
  have HE := hid (he.later ha)
  have HAt := hid (h.later ha)
  have HFs : Hid (FsOk w1 L) := fun hr => (hf hr).later ha
  have HB := hid ha
  have HLt := hid h.lt
  have HV := hid hv
  have HT := hid ht
  have HTL := hid htl
  have C := values_any HE.out hb0 HAt.out HFs.out ht op hopl
  have k0 := HKy.out.cell 0
  have k1 := HKy.out.cell 1
  simp only [Ky.c, List.getElem?_cons_succ, List.getElem?_cons_zero] at k0 k1
  clear he h hf ha hv
  go_enter Tryz.func23, Tryz.ntmps23
  go_wp2_with fail
  clear hw1
  refine C.mono ?_
  rintro e w2 ⟨u, fs, rfl, hr, hl, hfs, hkp⟩
  have HKy2 := hid (HKy.out.kept hkp (by simp; have := HLt.out; omega))
  have HE2 : Hid (Env w2) := by
    obtain ⟨m, hm⟩ := HE.out
    exact ⟨m, (World.cell?_of_block (hkp.block 0 (by have := HB.out.size; have := HLt.out; omega) (by simp; omega))).trans hm⟩
  have D := asks_any HE2.out HKy2.out hr (vals_len HT.out op) HV.out HTL.out
  obtain ⟨_, ra, rc, hru, _⟩ := id hr
  subst hru
  rw [List.length_map] at D ⊢
  have HL2 := hid hl
  have HF2 := hid hfs
  have HK2 := hid (kept_t (Kept.ofBelow HB.out [b]) hkp)
  clear hr hl hfs hkp C k0 k1
  go_wp2_with fail
  refine D.mono ?_
  rintro e w3 ⟨rfl, b3⟩
  have HL3 := hid (HL2.out.later b3)
  have HF3 : Hid (FsOk w3 { L with rd := true, fs := fs }) := fun hr => (HF2.out hr).later b3
  have HK3 := hid (kept_t HK2.out (Kept.ofBelow b3 [b]))
  clear b3 D
  go_wp2_with fail
  go_ret
  exact ⟨⟨fs, HL3.out, HF3.out⟩, rfl, HK3.out⟩
set_option maxRecDepth 100000 in
set_option maxHeartbeats 4000000 in
theorem header_any {w : World} {b : Nat} {L : Lk} (he : Env w) (hb0 : 0 < b) (h : LkAt w b L) (hf : FsOk w L) (ht : L.text.length ≤ 1000000) (op t f : Bs) (n : Int) (a : Option Addr) (p c : Nat) (d : Option Addr) (q g : Nat) (htl : t.length ≤ 10000000) (hop : op = [72, 69, 65, 68, 69, 82])
    (hfl : f.length ≤ 10000000) (hv : ∀ v ∈ valsL L.text f, v.length ≤ 10000000) :
    Calls Tryz.prog 23 #[.pointer (some ⟨b, 0, none⟩), .agg #[.string (str op), .string (str t), .string (str f), .int .i64 n, .slice a p c, .slice d q g]] w fun e w' => (∃ fs, LkAt w' b { L with rd := true, fs := fs } ∧ FsOk w' { L with rd := true, fs := fs }) ∧ e = .returned (.bool (asksC (valsL L.text f) t)) ∧ Kept [b] w w' := by
  have q0 : ((str op).toList == ([65, 76, 76] : Bs)) = false := by rw [toL, hop]; decide
  have q1 : ((str op).toList == ([65, 78, 83, 87, 69, 82, 69, 68] : Bs)) = false := by rw [toL, hop]; decide
  have q2 : ((str op).toList == ([68, 69, 76, 69, 84, 69, 68] : Bs)) = false := by rw [toL, hop]; decide
  have q3 : ((str op).toList == ([68, 82, 65, 70, 84] : Bs)) = false := by rw [toL, hop]; decide
  have q4 : ((str op).toList == ([70, 76, 65, 71, 71, 69, 68] : Bs)) = false := by rw [toL, hop]; decide
  have q5 : ((str op).toList == ([83, 69, 69, 78] : Bs)) = false := by rw [toL, hop]; decide
  have q6 : ((str op).toList == ([85, 78, 65, 78, 83, 87, 69, 82, 69, 68] : Bs)) = false := by rw [toL, hop]; decide
  have q7 : ((str op).toList == ([85, 78, 68, 69, 76, 69, 84, 69, 68] : Bs)) = false := by rw [toL, hop]; decide
  have q8 : ((str op).toList == ([85, 78, 68, 82, 65, 70, 84] : Bs)) = false := by rw [toL, hop]; decide
  have q9 : ((str op).toList == ([85, 78, 70, 76, 65, 71, 71, 69, 68] : Bs)) = false := by rw [toL, hop]; decide
  have q10 : ((str op).toList == ([85, 78, 83, 69, 69, 78] : Bs)) = false := by rw [toL, hop]; decide
  have q11 : ((str op).toList == ([75, 69, 89, 87, 79, 82, 68] : Bs)) = false := by rw [toL, hop]; decide
  have q12 : ((str op).toList == ([85, 78, 75, 69, 89, 87, 79, 82, 68] : Bs)) = false := by rw [toL, hop]; decide
  have q13 : ((str op).toList == ([66, 67, 67] : Bs)) = false := by rw [toL, hop]; decide
  have q14 : ((str op).toList == ([67, 67] : Bs)) = false := by rw [toL, hop]; decide
  have q15 : ((str op).toList == ([70, 82, 79, 77] : Bs)) = false := by rw [toL, hop]; decide
  have q16 : ((str op).toList == ([83, 85, 66, 74, 69, 67, 84] : Bs)) = false := by rw [toL, hop]; decide
  have q17 : ((str op).toList == ([84, 79] : Bs)) = false := by rw [toL, hop]; decide
  have q99 : ((str op).toList == ([72, 69, 65, 68, 69, 82] : Bs)) = true := by rw [toL, hop]; decide
  have hopl : op.length ≤ 10000000 := by rw [hop]; decide
  clear hop
  have ha : Below w.heap.size w (w.alloc (.cells #[.string (str op), .string (str t), .string (str f), .int .i64 n, .slice a p c, .slice d q g] 28)) := (Below.refl _ _).alloc (Nat.le_refl _) _
  obtain ⟨w1, hw1⟩ : ∃ w1, w.alloc (.cells #[.string (str op), .string (str t), .string (str f), .int .i64 n, .slice a p c, .slice d q g] 28) = w1 := ⟨_, rfl⟩
  have HKy : Hid (KyAt w1 w.heap.size ⟨op, t, f, n, (a, p, c), (d, q, g)⟩) := by rw [← hw1]; exact KyAt.new w ⟨op, t, f, n, (a, p, c), (d, q, g)⟩
  rw [hw1] at ha
  have HE := hid (he.later ha)
  have HAt := hid (h.later ha)
  have HFs : Hid (FsOk w1 L) := fun hr => (hf hr).later ha
  have HB := hid ha
  have HLt := hid h.lt
  have HV := hid hv
  have HT := hid ht
  have HTL := hid htl
  have C := values_any HE.out hb0 HAt.out HFs.out ht f hfl
  have k0 := HKy.out.cell 0
  have k1 := HKy.out.cell 1
  have k2 := HKy.out.cell 2
  simp only [Ky.c, List.getElem?_cons_succ, List.getElem?_cons_zero] at k0 k1 k2
  clear he h hf ha hv
  go_enter Tryz.func23, Tryz.ntmps23
  go_wp2_with fail
  clear hw1
  refine C.mono ?_
  rintro e w2 ⟨u, fs, rfl, hr, hl, hfs, hkp⟩
  have HKy2 := hid (HKy.out.kept hkp (by simp; have := HLt.out; omega))
  have HE2 : Hid (Env w2) := by
    obtain ⟨m, hm⟩ := HE.out
    exact ⟨m, (World.cell?_of_block (hkp.block 0 (by have := HB.out.size; have := HLt.out; omega) (by simp; omega))).trans hm⟩
  have D := asks_c HE2.out HKy2.out hr (vals_len HT.out f) HV.out HTL.out
  obtain ⟨_, ra, rc, hru, _⟩ := id hr
  subst hru
  rw [List.length_map] at D ⊢
  have HL2 := hid hl
  have HF2 := hid hfs
  have HK2 := hid (kept_t (Kept.ofBelow HB.out [b]) hkp)
  clear hr hl hfs hkp C k0 k1 k2
  go_wp2_with fail
  refine D.mono ?_
  rintro e w3 ⟨rfl, b3⟩
  have HL3 := hid (HL2.out.later b3)
  have HF3 : Hid (FsOk w3 { L with rd := true, fs := fs }) := fun hr => (HF2.out hr).later b3
  have HK3 := hid (kept_t HK2.out (Kept.ofBelow b3 [b]))
  clear b3 D
  go_wp2_with fail
  go_ret
  exact ⟨⟨fs, HL3.out, HF3.out⟩, rfl, HK3.out⟩
end Go.Proofs.YtaniljfjmbifnaaGreatDoor.H
namespace Go.Proofs.YtaniljfjmbifnaaGreatDoor.H
open Go.RowKit
set_option linter.unusedVariables false
set_option linter.unusedSimpArgs false

set_option maxRecDepth 100000 in
set_option maxHeartbeats 1000000 in
theorem body_any {w : World} {b : Nat} {L : Lk} (h : LkAt w b L) (ht : L.text.length ≤ 1000000) :
    Calls Tryz.prog 39 #[.pointer (some ⟨b, 0, none⟩)] w fun e w' => e = .returned (.string (str (L.text.drop (hdr L.text)))) ∧ Below w.heap.size w w' := by
  have l9 := h.cell 9
  simp only [Lk.c, sv, List.getElem?_cons_succ, List.getElem?_cons_zero] at l9
  have hF := fldk b
  have f0 := fun w => (hF w).1
  have g3 := fun w => (hF w).2.2.2.2.2.2.2.2
  have C := cut_any L.text w (by omega)
  clear h hF
  go_enter Tryz.func39, Tryz.ntmps39
  go_wp2_with fail
  refine C.mono ?_
  rintro e w1 ⟨rfl, b1⟩
  have B1 := hid b1
  clear b1 C
  go_wp2_with fail
  go_ret
  exact ⟨rfl, B1.out⟩
set_option maxRecDepth 100000 in
set_option maxHeartbeats 4000000 in
theorem text_any {w : World} {b : Nat} {L : Lk} (he : Env w) (hb0 : 0 < b) (h : LkAt w b L) (hf : FsOk w L) (ht : L.text.length ≤ 1000000) (op t f : Bs) (n : Int) (a : Option Addr) (p c : Nat) (d : Option Addr) (q g : Nat) (hop : op = [84, 69, 88, 84]) (htl : t.length ≤ 10000000) :
    Calls Tryz.prog 23 #[.pointer (some ⟨b, 0, none⟩), .agg #[.string (str op), .string (str t), .string (str f), .int .i64 n, .slice a p c, .slice d q g]] w fun e w' => Seen2 w' b L ∧ e = .returned (.bool (conB L.text t)) ∧ Kept [b] w w' := by
  have q0 : ((str op).toList == ([65, 76, 76] : Bs)) = false := by rw [toL, hop]; decide
  have q1 : ((str op).toList == ([65, 78, 83, 87, 69, 82, 69, 68] : Bs)) = false := by rw [toL, hop]; decide
  have q2 : ((str op).toList == ([68, 69, 76, 69, 84, 69, 68] : Bs)) = false := by rw [toL, hop]; decide
  have q3 : ((str op).toList == ([68, 82, 65, 70, 84] : Bs)) = false := by rw [toL, hop]; decide
  have q4 : ((str op).toList == ([70, 76, 65, 71, 71, 69, 68] : Bs)) = false := by rw [toL, hop]; decide
  have q5 : ((str op).toList == ([83, 69, 69, 78] : Bs)) = false := by rw [toL, hop]; decide
  have q6 : ((str op).toList == ([85, 78, 65, 78, 83, 87, 69, 82, 69, 68] : Bs)) = false := by rw [toL, hop]; decide
  have q7 : ((str op).toList == ([85, 78, 68, 69, 76, 69, 84, 69, 68] : Bs)) = false := by rw [toL, hop]; decide
  have q8 : ((str op).toList == ([85, 78, 68, 82, 65, 70, 84] : Bs)) = false := by rw [toL, hop]; decide
  have q9 : ((str op).toList == ([85, 78, 70, 76, 65, 71, 71, 69, 68] : Bs)) = false := by rw [toL, hop]; decide
  have q10 : ((str op).toList == ([85, 78, 83, 69, 69, 78] : Bs)) = false := by rw [toL, hop]; decide
  have q11 : ((str op).toList == ([75, 69, 89, 87, 79, 82, 68] : Bs)) = false := by rw [toL, hop]; decide
  have q12 : ((str op).toList == ([85, 78, 75, 69, 89, 87, 79, 82, 68] : Bs)) = false := by rw [toL, hop]; decide
  have q13 : ((str op).toList == ([66, 67, 67] : Bs)) = false := by rw [toL, hop]; decide
  have q14 : ((str op).toList == ([67, 67] : Bs)) = false := by rw [toL, hop]; decide
  have q15 : ((str op).toList == ([70, 82, 79, 77] : Bs)) = false := by rw [toL, hop]; decide
  have q16 : ((str op).toList == ([83, 85, 66, 74, 69, 67, 84] : Bs)) = false := by rw [toL, hop]; decide
  have q17 : ((str op).toList == ([84, 79] : Bs)) = false := by rw [toL, hop]; decide
  have q18 : ((str op).toList == ([72, 69, 65, 68, 69, 82] : Bs)) = false := by rw [toL, hop]; decide
  have q19 : ((str op).toList == ([66, 79, 68, 89] : Bs)) = false := by rw [toL, hop]; decide
  have q99 : ((str op).toList == ([84, 69, 88, 84] : Bs)) = true := by rw [toL, hop]; decide
  have ha : Below w.heap.size w (w.alloc (.cells #[.string (str op), .string (str t), .string (str f), .int .i64 n, .slice a p c, .slice d q g] 28)) := (Below.refl _ _).alloc (Nat.le_refl _) _
  obtain ⟨w1, hw1⟩ : ∃ w1, w.alloc (.cells #[.string (str op), .string (str t), .string (str f), .int .i64 n, .slice a p c, .slice d q g] 28) = w1 := ⟨_, rfl⟩
  have HKy : Hid (KyAt w1 w.heap.size ⟨op, t, f, n, (a, p, c), (d, q, g)⟩) := by rw [← hw1]; exact KyAt.new w ⟨op, t, f, n, (a, p, c), (d, q, g)⟩
  rw [hw1] at ha
  have HE := hid (he.later ha)
  have HAt := hid (h.later ha)
  have HFs : Hid (FsOk w1 L) := fun hr => (hf hr).later ha
  have HB := hid ha
  have HLt := hid h.lt
  have HT := hid ht
  have k0 := HKy.out.cell 0
  have k1 := HKy.out.cell 1
  have l9 := HAt.out.cell 9
  simp only [Ky.c, Lk.c, sv, List.getElem?_cons_succ, List.getElem?_cons_zero] at k0 k1 l9
  have hF := fldk b
  have f0 := fun w => (hF w).1
  have f1 := fun w => (hF w).2.1
  have f2 := fun w => (hF w).2.2.1
  have f3 := fun w => (hF w).2.2.2.1
  have g3 := fun w => (hF w).2.2.2.2.2.2.2.2
  have g0 := fld33a b
  have g1 := fld33b b
  have HC := hid (fun (w0 : World) (h0 : Below w1.heap.size w1 w0) => con_any L.text t (HE.out.later h0) (by omega) htl)
  clear he h hf ha hF hop
  go_enter Tryz.func23, Tryz.ntmps23
  go_wp2_with fail
  clear hw1
  have qc : w1.cell? ⟨w.heap.size, 1, none⟩ = some (.string (str t)) ∧ w1.cell? ⟨b, 9, none⟩ = some (.string (str L.text)) := ⟨k1, l9⟩
  have HQ : Hid (∀ w' : World, KyAt w' w.heap.size ⟨op, t, f, n, (a, p, c), (d, q, g)⟩ → LkAt w' b L → w'.cell? ⟨w.heap.size, 1, none⟩ = some (.string (str t)) ∧ w'.cell? ⟨b, 9, none⟩ = some (.string (str L.text))) := by
    intro w' e1 e2
    have k1 := e1.cell 1
    have l9 := e2.cell 9
    simp only [Ky.c, Lk.c, sv, List.getElem?_cons_succ, List.getElem?_cons_zero] at k1 l9
    exact ⟨k1, l9⟩
  clear k1 l9 k0
  go_region_held3 (fun w' => w'.cell? ⟨w.heap.size, 1, none⟩ = some (.string (str t)) ∧ w'.cell? ⟨b, 9, none⟩ = some (.string (str L.text))) (first | exact qc | go_keep) (first
    | (go_at_call 8; refine (HC.out _ (by repeat (first | exact Below.refl _ _ | refine Below.drew ?_))).mono ?_; rintro e w5 ⟨rfl, hb5⟩; have HB5 : Below w1.heap.size w1 w5 := Below.trans (by repeat (first | exact Below.refl _ _ | refine Below.drew ?_)) hb5; have qc := HQ.out w5 (HKy.out.later HB5) (HAt.out.later HB5); clear hb5))
  go_wp2_with fail
  go_ret
  exact ⟨Seen2.of (HAt.out.later HB5) (fun hr => (HFs.out hr).later HB5), rfl, kept_t (Kept.ofBelow HB.out [b]) (Kept.ofBelow HB5 [b])⟩
set_option maxRecDepth 100000 in
set_option maxHeartbeats 4000000 in
theorem bodyk_any {w : World} {b : Nat} {L : Lk} (he : Env w) (hb0 : 0 < b) (h : LkAt w b L) (hf : FsOk w L) (ht : L.text.length ≤ 1000000) (op t f : Bs) (n : Int) (a : Option Addr) (p c : Nat) (d : Option Addr) (q g : Nat) (hop : op = [66, 79, 68, 89]) (htl : t.length ≤ 10000000) :
    Calls Tryz.prog 23 #[.pointer (some ⟨b, 0, none⟩), .agg #[.string (str op), .string (str t), .string (str f), .int .i64 n, .slice a p c, .slice d q g]] w fun e w' => Seen2 w' b L ∧ e = .returned (.bool (conB (L.text.drop (hdr L.text)) t)) ∧ Kept [b] w w' := by
  have q0 : ((str op).toList == ([65, 76, 76] : Bs)) = false := by rw [toL, hop]; decide
  have q1 : ((str op).toList == ([65, 78, 83, 87, 69, 82, 69, 68] : Bs)) = false := by rw [toL, hop]; decide
  have q2 : ((str op).toList == ([68, 69, 76, 69, 84, 69, 68] : Bs)) = false := by rw [toL, hop]; decide
  have q3 : ((str op).toList == ([68, 82, 65, 70, 84] : Bs)) = false := by rw [toL, hop]; decide
  have q4 : ((str op).toList == ([70, 76, 65, 71, 71, 69, 68] : Bs)) = false := by rw [toL, hop]; decide
  have q5 : ((str op).toList == ([83, 69, 69, 78] : Bs)) = false := by rw [toL, hop]; decide
  have q6 : ((str op).toList == ([85, 78, 65, 78, 83, 87, 69, 82, 69, 68] : Bs)) = false := by rw [toL, hop]; decide
  have q7 : ((str op).toList == ([85, 78, 68, 69, 76, 69, 84, 69, 68] : Bs)) = false := by rw [toL, hop]; decide
  have q8 : ((str op).toList == ([85, 78, 68, 82, 65, 70, 84] : Bs)) = false := by rw [toL, hop]; decide
  have q9 : ((str op).toList == ([85, 78, 70, 76, 65, 71, 71, 69, 68] : Bs)) = false := by rw [toL, hop]; decide
  have q10 : ((str op).toList == ([85, 78, 83, 69, 69, 78] : Bs)) = false := by rw [toL, hop]; decide
  have q11 : ((str op).toList == ([75, 69, 89, 87, 79, 82, 68] : Bs)) = false := by rw [toL, hop]; decide
  have q12 : ((str op).toList == ([85, 78, 75, 69, 89, 87, 79, 82, 68] : Bs)) = false := by rw [toL, hop]; decide
  have q13 : ((str op).toList == ([66, 67, 67] : Bs)) = false := by rw [toL, hop]; decide
  have q14 : ((str op).toList == ([67, 67] : Bs)) = false := by rw [toL, hop]; decide
  have q15 : ((str op).toList == ([70, 82, 79, 77] : Bs)) = false := by rw [toL, hop]; decide
  have q16 : ((str op).toList == ([83, 85, 66, 74, 69, 67, 84] : Bs)) = false := by rw [toL, hop]; decide
  have q17 : ((str op).toList == ([84, 79] : Bs)) = false := by rw [toL, hop]; decide
  have q18 : ((str op).toList == ([72, 69, 65, 68, 69, 82] : Bs)) = false := by rw [toL, hop]; decide
  have q99 : ((str op).toList == ([66, 79, 68, 89] : Bs)) = true := by rw [toL, hop]; decide
  have ha : Below w.heap.size w (w.alloc (.cells #[.string (str op), .string (str t), .string (str f), .int .i64 n, .slice a p c, .slice d q g] 28)) := (Below.refl _ _).alloc (Nat.le_refl _) _
  obtain ⟨w1, hw1⟩ : ∃ w1, w.alloc (.cells #[.string (str op), .string (str t), .string (str f), .int .i64 n, .slice a p c, .slice d q g] 28) = w1 := ⟨_, rfl⟩
  have HKy : Hid (KyAt w1 w.heap.size ⟨op, t, f, n, (a, p, c), (d, q, g)⟩) := by rw [← hw1]; exact KyAt.new w ⟨op, t, f, n, (a, p, c), (d, q, g)⟩
  rw [hw1] at ha
  have HE := hid (he.later ha)
  have HAt := hid (h.later ha)
  have HFs : Hid (FsOk w1 L) := fun hr => (hf hr).later ha
  have HB := hid ha
  have HLt := hid h.lt
  have HT := hid ht
  have k0 := HKy.out.cell 0
  have k1 := HKy.out.cell 1
  simp only [Ky.c, Lk.c, sv, List.getElem?_cons_succ, List.getElem?_cons_zero] at k0 k1
  have hF := fldk b
  have f0 := fun w => (hF w).1
  have f1 := fun w => (hF w).2.1
  have f2 := fun w => (hF w).2.2.1
  have f3 := fun w => (hF w).2.2.2.1
  have g3 := fun w => (hF w).2.2.2.2.2.2.2.2
  have g0 := fld33a b
  have g1 := fld33b b
  have HC2 := hid (fun (w0 : World) (h0 : Below w1.heap.size w1 w0) => con_any (L.text.drop (hdr L.text)) t (HE.out.later h0) (by rw [List.length_drop]; omega) htl)
  have HCB := hid (fun (w0 : World) (h0 : Below w1.heap.size w1 w0) => body_any (HAt.out.later h0) ht)
  clear he h hf ha hF hop
  go_enter Tryz.func23, Tryz.ntmps23
  go_wp2_with fail
  clear hw1
  have qc : w1.cell? ⟨w.heap.size, 1, none⟩ = some (.string (str t)) := k1
  have HQ : Hid (∀ w' : World, KyAt w' w.heap.size ⟨op, t, f, n, (a, p, c), (d, q, g)⟩ → LkAt w' b L → w'.cell? ⟨w.heap.size, 1, none⟩ = some (.string (str t))) := by
    intro w' e1 e2
    have k1 := e1.cell 1
    simp only [Ky.c, Lk.c, sv, List.getElem?_cons_succ, List.getElem?_cons_zero] at k1
    exact k1
  clear k1 k0
  go_region_held3 (fun w' => w'.cell? ⟨w.heap.size, 1, none⟩ = some (.string (str t))) (first | exact qc | go_keep) (first
    | (go_at_call 39; refine (HCB.out _ (by repeat (first | exact Below.refl _ _ | refine Below.drew ?_))).mono ?_; rintro e wk ⟨rfl, hb⟩; have HBk : Below w1.heap.size w1 wk := Below.trans (by repeat (first | exact Below.refl _ _ | refine Below.drew ?_)) (hb.mono (by first | exact Nat.le_refl _ | simp)); have qc := HQ.out wk (HKy.out.later HBk) (HAt.out.later HBk); clear hb)
    | (go_at_call 8; refine (HC2.out _ (by repeat (first | exact HBk | refine Below.drew ?_))).mono ?_; rintro e w5 ⟨rfl, hb5⟩; have HB5 : Below w1.heap.size w1 w5 := Below.trans (by repeat (first | exact HBk | refine Below.drew ?_)) (hb5.mono (by first | exact HBk.size | (simp; exact HBk.size))); have qc := HQ.out w5 (HKy.out.later HB5) (HAt.out.later HB5); clear hb5))
  go_wp2_with fail
  go_ret
  exact ⟨Seen2.of (HAt.out.later HB5) (fun hr => (HFs.out hr).later HB5), rfl, kept_t (Kept.ofBelow HB.out [b]) (Kept.ofBelow HB5 [b])⟩
set_option maxRecDepth 100000 in
set_option maxHeartbeats 4000000 in
theorem seq_any {w : World} {b : Nat} {L : Lk} (he : Env w) (hb0 : 0 < b) (h : LkAt w b L) (hf : FsOk w L) (ht : L.text.length ≤ 1000000) (op t f : Bs) (n : Int) (a : Option Addr) (p c : Nat) (d : Option Addr) (q g : Nat) (hop : op = [83, 69, 81]) (set : List S.Sp) (hs : S.GL S.eSp w (.slice a p c) set) (hsl : set.length ≤ 1000000) :
    Calls Tryz.prog 23 #[.pointer (some ⟨b, 0, none⟩), .agg #[.string (str op), .string (str t), .string (str f), .int .i64 n, .slice a p c, .slice d q g]] w fun e w' => Seen2 w' b L ∧ e = .returned (.bool (S.hasB set L.seq L.most)) ∧ Kept [b] w w' := by
  have q0 : ((str op).toList == ([65, 76, 76] : Bs)) = false := by rw [toL, hop]; decide
  have q1 : ((str op).toList == ([65, 78, 83, 87, 69, 82, 69, 68] : Bs)) = false := by rw [toL, hop]; decide
  have q2 : ((str op).toList == ([68, 69, 76, 69, 84, 69, 68] : Bs)) = false := by rw [toL, hop]; decide
  have q3 : ((str op).toList == ([68, 82, 65, 70, 84] : Bs)) = false := by rw [toL, hop]; decide
  have q4 : ((str op).toList == ([70, 76, 65, 71, 71, 69, 68] : Bs)) = false := by rw [toL, hop]; decide
  have q5 : ((str op).toList == ([83, 69, 69, 78] : Bs)) = false := by rw [toL, hop]; decide
  have q6 : ((str op).toList == ([85, 78, 65, 78, 83, 87, 69, 82, 69, 68] : Bs)) = false := by rw [toL, hop]; decide
  have q7 : ((str op).toList == ([85, 78, 68, 69, 76, 69, 84, 69, 68] : Bs)) = false := by rw [toL, hop]; decide
  have q8 : ((str op).toList == ([85, 78, 68, 82, 65, 70, 84] : Bs)) = false := by rw [toL, hop]; decide
  have q9 : ((str op).toList == ([85, 78, 70, 76, 65, 71, 71, 69, 68] : Bs)) = false := by rw [toL, hop]; decide
  have q10 : ((str op).toList == ([85, 78, 83, 69, 69, 78] : Bs)) = false := by rw [toL, hop]; decide
  have q11 : ((str op).toList == ([75, 69, 89, 87, 79, 82, 68] : Bs)) = false := by rw [toL, hop]; decide
  have q12 : ((str op).toList == ([85, 78, 75, 69, 89, 87, 79, 82, 68] : Bs)) = false := by rw [toL, hop]; decide
  have q13 : ((str op).toList == ([66, 67, 67] : Bs)) = false := by rw [toL, hop]; decide
  have q14 : ((str op).toList == ([67, 67] : Bs)) = false := by rw [toL, hop]; decide
  have q15 : ((str op).toList == ([70, 82, 79, 77] : Bs)) = false := by rw [toL, hop]; decide
  have q16 : ((str op).toList == ([83, 85, 66, 74, 69, 67, 84] : Bs)) = false := by rw [toL, hop]; decide
  have q17 : ((str op).toList == ([84, 79] : Bs)) = false := by rw [toL, hop]; decide
  have q18 : ((str op).toList == ([72, 69, 65, 68, 69, 82] : Bs)) = false := by rw [toL, hop]; decide
  have q19 : ((str op).toList == ([66, 79, 68, 89] : Bs)) = false := by rw [toL, hop]; decide
  have q20 : ((str op).toList == ([84, 69, 88, 84] : Bs)) = false := by rw [toL, hop]; decide
  have q21 : ((str op).toList == ([66, 69, 70, 79, 82, 69] : Bs)) = false := by rw [toL, hop]; decide
  have q22 : ((str op).toList == ([79, 78] : Bs)) = false := by rw [toL, hop]; decide
  have q23 : ((str op).toList == ([83, 73, 78, 67, 69] : Bs)) = false := by rw [toL, hop]; decide
  have q24 : ((str op).toList == ([83, 69, 78, 84, 66, 69, 70, 79, 82, 69] : Bs)) = false := by rw [toL, hop]; decide
  have q25 : ((str op).toList == ([83, 69, 78, 84, 79, 78] : Bs)) = false := by rw [toL, hop]; decide
  have q26 : ((str op).toList == ([83, 69, 78, 84, 83, 73, 78, 67, 69] : Bs)) = false := by rw [toL, hop]; decide
  have q27 : ((str op).toList == ([76, 65, 82, 71, 69, 82] : Bs)) = false := by rw [toL, hop]; decide
  have q28 : ((str op).toList == ([83, 77, 65, 76, 76, 69, 82] : Bs)) = false := by rw [toL, hop]; decide
  have q99 : ((str op).toList == ([83, 69, 81] : Bs)) = true := by rw [toL, hop]; decide
  have ha : Below w.heap.size w (w.alloc (.cells #[.string (str op), .string (str t), .string (str f), .int .i64 n, .slice a p c, .slice d q g] 28)) := (Below.refl _ _).alloc (Nat.le_refl _) _
  obtain ⟨w1, hw1⟩ : ∃ w1, w.alloc (.cells #[.string (str op), .string (str t), .string (str f), .int .i64 n, .slice a p c, .slice d q g] 28) = w1 := ⟨_, rfl⟩
  have HKy : Hid (KyAt w1 w.heap.size ⟨op, t, f, n, (a, p, c), (d, q, g)⟩) := by rw [← hw1]; exact KyAt.new w ⟨op, t, f, n, (a, p, c), (d, q, g)⟩
  rw [hw1] at ha
  have HE := hid (he.later ha)
  have HAt := hid (h.later ha)
  have HFs : Hid (FsOk w1 L) := fun hr => (hf hr).later ha
  have HB := hid ha
  have HLt := hid h.lt
  have HT := hid ht
  have k0 := HKy.out.cell 0
  have k4 := HKy.out.cell 4
  have l12 := HAt.out.cell 12
  have l13 := HAt.out.cell 13
  simp only [Ky.c, Lk.c, sv, List.getElem?_cons_succ, List.getElem?_cons_zero] at k0 k4 l12 l13
  have hF := fldk b
  have f0 := fun w => (hF w).1
  have f1 := fun w => (hF w).2.1
  have f2 := fun w => (hF w).2.2.1
  have f3 := fun w => (hF w).2.2.2.1
  have g3 := fun w => (hF w).2.2.2.2.2.2.2.2
  have g0 := fld33a b
  have g1 := fld33b b
  have HC := hid (fun (w0 : World) (h0 : Below w1.heap.size w1 w0) => S.has_any ((hs.later ha).later h0) hsl L.seq L.most)
  clear hs
  clear he h hf ha hF hop
  go_enter Tryz.func23, Tryz.ntmps23
  go_wp2_with fail
  clear hw1
  have qc : w1.cell? ⟨w.heap.size, 4, none⟩ = some (.slice a p c) ∧ w1.cell? ⟨b, 12, none⟩ = some (.int .i64 L.seq) ∧ w1.cell? ⟨b, 13, none⟩ = some (.int .i64 L.most) := ⟨k4, l12, l13⟩
  have HQ : Hid (∀ w' : World, KyAt w' w.heap.size ⟨op, t, f, n, (a, p, c), (d, q, g)⟩ → LkAt w' b L → w'.cell? ⟨w.heap.size, 4, none⟩ = some (.slice a p c) ∧ w'.cell? ⟨b, 12, none⟩ = some (.int .i64 L.seq) ∧ w'.cell? ⟨b, 13, none⟩ = some (.int .i64 L.most)) := by
    intro w' e1 e2
    have k4 := e1.cell 4
    have l12 := e2.cell 12
    have l13 := e2.cell 13
    simp only [Ky.c, Lk.c, sv, List.getElem?_cons_succ, List.getElem?_cons_zero] at k4 l12 l13
    exact ⟨k4, l12, l13⟩
  clear k4 l12 l13 k0
  go_region_held3 (fun w' => w'.cell? ⟨w.heap.size, 4, none⟩ = some (.slice a p c) ∧ w'.cell? ⟨b, 12, none⟩ = some (.int .i64 L.seq) ∧ w'.cell? ⟨b, 13, none⟩ = some (.int .i64 L.most)) (first | exact qc | go_keep) (first
    | (go_at_call 43; refine (HC.out _ (by repeat (first | exact Below.refl _ _ | refine Below.drew ?_))).mono ?_; rintro e w5 ⟨rfl, hb5⟩; have HB5 : Below w1.heap.size w1 w5 := Below.trans (by repeat (first | exact Below.refl _ _ | refine Below.drew ?_)) hb5; have qc := HQ.out w5 (HKy.out.later HB5) (HAt.out.later HB5); clear hb5))
  go_wp2_with fail
  go_ret
  exact ⟨Seen2.of (HAt.out.later HB5) (fun hr => (HFs.out hr).later HB5), rfl, kept_t (Kept.ofBelow HB.out [b]) (Kept.ofBelow HB5 [b])⟩
set_option maxRecDepth 100000 in
set_option maxHeartbeats 4000000 in
theorem uid_any {w : World} {b : Nat} {L : Lk} (he : Env w) (hb0 : 0 < b) (h : LkAt w b L) (hf : FsOk w L) (ht : L.text.length ≤ 1000000) (op t f : Bs) (n : Int) (a : Option Addr) (p c : Nat) (d : Option Addr) (q g : Nat) (hop : op = [85, 73, 68]) (set : List S.Sp) (hs : S.GL S.eSp w (.slice a p c) set) (hsl : set.length ≤ 1000000) :
    Calls Tryz.prog 23 #[.pointer (some ⟨b, 0, none⟩), .agg #[.string (str op), .string (str t), .string (str f), .int .i64 n, .slice a p c, .slice d q g]] w fun e w' => Seen2 w' b L ∧ e = .returned (.bool (S.hasB set L.uid L.mu)) ∧ Kept [b] w w' := by
  have q0 : ((str op).toList == ([65, 76, 76] : Bs)) = false := by rw [toL, hop]; decide
  have q1 : ((str op).toList == ([65, 78, 83, 87, 69, 82, 69, 68] : Bs)) = false := by rw [toL, hop]; decide
  have q2 : ((str op).toList == ([68, 69, 76, 69, 84, 69, 68] : Bs)) = false := by rw [toL, hop]; decide
  have q3 : ((str op).toList == ([68, 82, 65, 70, 84] : Bs)) = false := by rw [toL, hop]; decide
  have q4 : ((str op).toList == ([70, 76, 65, 71, 71, 69, 68] : Bs)) = false := by rw [toL, hop]; decide
  have q5 : ((str op).toList == ([83, 69, 69, 78] : Bs)) = false := by rw [toL, hop]; decide
  have q6 : ((str op).toList == ([85, 78, 65, 78, 83, 87, 69, 82, 69, 68] : Bs)) = false := by rw [toL, hop]; decide
  have q7 : ((str op).toList == ([85, 78, 68, 69, 76, 69, 84, 69, 68] : Bs)) = false := by rw [toL, hop]; decide
  have q8 : ((str op).toList == ([85, 78, 68, 82, 65, 70, 84] : Bs)) = false := by rw [toL, hop]; decide
  have q9 : ((str op).toList == ([85, 78, 70, 76, 65, 71, 71, 69, 68] : Bs)) = false := by rw [toL, hop]; decide
  have q10 : ((str op).toList == ([85, 78, 83, 69, 69, 78] : Bs)) = false := by rw [toL, hop]; decide
  have q11 : ((str op).toList == ([75, 69, 89, 87, 79, 82, 68] : Bs)) = false := by rw [toL, hop]; decide
  have q12 : ((str op).toList == ([85, 78, 75, 69, 89, 87, 79, 82, 68] : Bs)) = false := by rw [toL, hop]; decide
  have q13 : ((str op).toList == ([66, 67, 67] : Bs)) = false := by rw [toL, hop]; decide
  have q14 : ((str op).toList == ([67, 67] : Bs)) = false := by rw [toL, hop]; decide
  have q15 : ((str op).toList == ([70, 82, 79, 77] : Bs)) = false := by rw [toL, hop]; decide
  have q16 : ((str op).toList == ([83, 85, 66, 74, 69, 67, 84] : Bs)) = false := by rw [toL, hop]; decide
  have q17 : ((str op).toList == ([84, 79] : Bs)) = false := by rw [toL, hop]; decide
  have q18 : ((str op).toList == ([72, 69, 65, 68, 69, 82] : Bs)) = false := by rw [toL, hop]; decide
  have q19 : ((str op).toList == ([66, 79, 68, 89] : Bs)) = false := by rw [toL, hop]; decide
  have q20 : ((str op).toList == ([84, 69, 88, 84] : Bs)) = false := by rw [toL, hop]; decide
  have q21 : ((str op).toList == ([66, 69, 70, 79, 82, 69] : Bs)) = false := by rw [toL, hop]; decide
  have q22 : ((str op).toList == ([79, 78] : Bs)) = false := by rw [toL, hop]; decide
  have q23 : ((str op).toList == ([83, 73, 78, 67, 69] : Bs)) = false := by rw [toL, hop]; decide
  have q24 : ((str op).toList == ([83, 69, 78, 84, 66, 69, 70, 79, 82, 69] : Bs)) = false := by rw [toL, hop]; decide
  have q25 : ((str op).toList == ([83, 69, 78, 84, 79, 78] : Bs)) = false := by rw [toL, hop]; decide
  have q26 : ((str op).toList == ([83, 69, 78, 84, 83, 73, 78, 67, 69] : Bs)) = false := by rw [toL, hop]; decide
  have q27 : ((str op).toList == ([76, 65, 82, 71, 69, 82] : Bs)) = false := by rw [toL, hop]; decide
  have q28 : ((str op).toList == ([83, 77, 65, 76, 76, 69, 82] : Bs)) = false := by rw [toL, hop]; decide
  have q29 : ((str op).toList == ([83, 69, 81] : Bs)) = false := by rw [toL, hop]; decide
  have q99 : ((str op).toList == ([85, 73, 68] : Bs)) = true := by rw [toL, hop]; decide
  have ha : Below w.heap.size w (w.alloc (.cells #[.string (str op), .string (str t), .string (str f), .int .i64 n, .slice a p c, .slice d q g] 28)) := (Below.refl _ _).alloc (Nat.le_refl _) _
  obtain ⟨w1, hw1⟩ : ∃ w1, w.alloc (.cells #[.string (str op), .string (str t), .string (str f), .int .i64 n, .slice a p c, .slice d q g] 28) = w1 := ⟨_, rfl⟩
  have HKy : Hid (KyAt w1 w.heap.size ⟨op, t, f, n, (a, p, c), (d, q, g)⟩) := by rw [← hw1]; exact KyAt.new w ⟨op, t, f, n, (a, p, c), (d, q, g)⟩
  rw [hw1] at ha
  have HE := hid (he.later ha)
  have HAt := hid (h.later ha)
  have HFs : Hid (FsOk w1 L) := fun hr => (hf hr).later ha
  have HB := hid ha
  have HLt := hid h.lt
  have HT := hid ht
  have k0 := HKy.out.cell 0
  have k4 := HKy.out.cell 4
  have l0 := HAt.out.cell 0
  have l14 := HAt.out.cell 14
  simp only [Ky.c, Lk.c, sv, List.getElem?_cons_succ, List.getElem?_cons_zero] at k0 k4 l0 l14
  have hF := fldk b
  have f0 := fun w => (hF w).1
  have f1 := fun w => (hF w).2.1
  have f2 := fun w => (hF w).2.2.1
  have f3 := fun w => (hF w).2.2.2.1
  have g3 := fun w => (hF w).2.2.2.2.2.2.2.2
  have g0 := fld33a b
  have g1 := fld33b b
  have HC := hid (fun (w0 : World) (h0 : Below w1.heap.size w1 w0) => S.has_any ((hs.later ha).later h0) hsl L.uid L.mu)
  clear hs
  clear he h hf ha hF hop
  go_enter Tryz.func23, Tryz.ntmps23
  go_wp2_with fail
  clear hw1
  have qc : w1.cell? ⟨w.heap.size, 4, none⟩ = some (.slice a p c) ∧ w1.cell? ⟨b, 0, none⟩ = some (.int .i64 L.uid) ∧ w1.cell? ⟨b, 14, none⟩ = some (.int .i64 L.mu) := ⟨k4, l0, l14⟩
  have HQ : Hid (∀ w' : World, KyAt w' w.heap.size ⟨op, t, f, n, (a, p, c), (d, q, g)⟩ → LkAt w' b L → w'.cell? ⟨w.heap.size, 4, none⟩ = some (.slice a p c) ∧ w'.cell? ⟨b, 0, none⟩ = some (.int .i64 L.uid) ∧ w'.cell? ⟨b, 14, none⟩ = some (.int .i64 L.mu)) := by
    intro w' e1 e2
    have k4 := e1.cell 4
    have l0 := e2.cell 0
    have l14 := e2.cell 14
    simp only [Ky.c, Lk.c, sv, List.getElem?_cons_succ, List.getElem?_cons_zero] at k4 l0 l14
    exact ⟨k4, l0, l14⟩
  clear k4 l0 l14 k0
  go_region_held3 (fun w' => w'.cell? ⟨w.heap.size, 4, none⟩ = some (.slice a p c) ∧ w'.cell? ⟨b, 0, none⟩ = some (.int .i64 L.uid) ∧ w'.cell? ⟨b, 14, none⟩ = some (.int .i64 L.mu)) (first | exact qc | go_keep) (first
    | (go_at_call 43; refine (HC.out _ (by repeat (first | exact Below.refl _ _ | refine Below.drew ?_))).mono ?_; rintro e w5 ⟨rfl, hb5⟩; have HB5 : Below w1.heap.size w1 w5 := Below.trans (by repeat (first | exact Below.refl _ _ | refine Below.drew ?_)) hb5; have qc := HQ.out w5 (HKy.out.later HB5) (HAt.out.later HB5); clear hb5))
  go_wp2_with fail
  go_ret
  exact ⟨Seen2.of (HAt.out.later HB5) (fun hr => (HFs.out hr).later HB5), rfl, kept_t (Kept.ofBelow HB.out [b]) (Kept.ofBelow HB5 [b])⟩
set_option maxRecDepth 100000 in
set_option maxHeartbeats 4000000 in
theorem none_any {w : World} {b : Nat} {L : Lk} (he : Env w) (hb0 : 0 < b) (h : LkAt w b L) (hf : FsOk w L) (ht : L.text.length ≤ 1000000) (op t f : Bs) (n : Int) (a : Option Addr) (p c : Nat) (d : Option Addr) (q g : Nat) (hq0 : op ≠ [65, 76, 76]) (hq1 : op ≠ [65, 78, 83, 87, 69, 82, 69, 68]) (hq2 : op ≠ [68, 69, 76, 69, 84, 69, 68]) (hq3 : op ≠ [68, 82, 65, 70, 84]) (hq4 : op ≠ [70, 76, 65, 71, 71, 69, 68]) (hq5 : op ≠ [83, 69, 69, 78]) (hq6 : op ≠ [85, 78, 65, 78, 83, 87, 69, 82, 69, 68]) (hq7 : op ≠ [85, 78, 68, 69, 76, 69, 84, 69, 68]) (hq8 : op ≠ [85, 78, 68, 82, 65, 70, 84]) (hq9 : op ≠ [85, 78, 70, 76, 65, 71, 71, 69, 68]) (hq10 : op ≠ [85, 78, 83, 69, 69, 78]) (hq11 : op ≠ [75, 69, 89, 87, 79, 82, 68]) (hq12 : op ≠ [85, 78, 75, 69, 89, 87, 79, 82, 68]) (hq13 : op ≠ [66, 67, 67]) (hq14 : op ≠ [67, 67]) (hq15 : op ≠ [70, 82, 79, 77]) (hq16 : op ≠ [83, 85, 66, 74, 69, 67, 84]) (hq17 : op ≠ [84, 79]) (hq18 : op ≠ [72, 69, 65, 68, 69, 82]) (hq19 : op ≠ [66, 79, 68, 89]) (hq20 : op ≠ [84, 69, 88, 84]) (hq21 : op ≠ [66, 69, 70, 79, 82, 69]) (hq22 : op ≠ [79, 78]) (hq23 : op ≠ [83, 73, 78, 67, 69]) (hq24 : op ≠ [83, 69, 78, 84, 66, 69, 70, 79, 82, 69]) (hq25 : op ≠ [83, 69, 78, 84, 79, 78]) (hq26 : op ≠ [83, 69, 78, 84, 83, 73, 78, 67, 69]) (hq27 : op ≠ [76, 65, 82, 71, 69, 82]) (hq28 : op ≠ [83, 77, 65, 76, 76, 69, 82]) (hq29 : op ≠ [83, 69, 81]) (hq30 : op ≠ [85, 73, 68]) (hq31 : op ≠ [78, 79, 84]) (hq32 : op ≠ [79, 82]) (hq33 : op ≠ [65, 78, 68]) :
    Calls Tryz.prog 23 #[.pointer (some ⟨b, 0, none⟩), .agg #[.string (str op), .string (str t), .string (str f), .int .i64 n, .slice a p c, .slice d q g]] w fun e w' => Seen2 w' b L ∧ e = .returned (.bool (false)) ∧ Kept [b] w w' := by
  have q0 : ((str op).toList == ([65, 76, 76] : Bs)) = false := by rw [toL]; exact beq_false_of_ne hq0
  have q1 : ((str op).toList == ([65, 78, 83, 87, 69, 82, 69, 68] : Bs)) = false := by rw [toL]; exact beq_false_of_ne hq1
  have q2 : ((str op).toList == ([68, 69, 76, 69, 84, 69, 68] : Bs)) = false := by rw [toL]; exact beq_false_of_ne hq2
  have q3 : ((str op).toList == ([68, 82, 65, 70, 84] : Bs)) = false := by rw [toL]; exact beq_false_of_ne hq3
  have q4 : ((str op).toList == ([70, 76, 65, 71, 71, 69, 68] : Bs)) = false := by rw [toL]; exact beq_false_of_ne hq4
  have q5 : ((str op).toList == ([83, 69, 69, 78] : Bs)) = false := by rw [toL]; exact beq_false_of_ne hq5
  have q6 : ((str op).toList == ([85, 78, 65, 78, 83, 87, 69, 82, 69, 68] : Bs)) = false := by rw [toL]; exact beq_false_of_ne hq6
  have q7 : ((str op).toList == ([85, 78, 68, 69, 76, 69, 84, 69, 68] : Bs)) = false := by rw [toL]; exact beq_false_of_ne hq7
  have q8 : ((str op).toList == ([85, 78, 68, 82, 65, 70, 84] : Bs)) = false := by rw [toL]; exact beq_false_of_ne hq8
  have q9 : ((str op).toList == ([85, 78, 70, 76, 65, 71, 71, 69, 68] : Bs)) = false := by rw [toL]; exact beq_false_of_ne hq9
  have q10 : ((str op).toList == ([85, 78, 83, 69, 69, 78] : Bs)) = false := by rw [toL]; exact beq_false_of_ne hq10
  have q11 : ((str op).toList == ([75, 69, 89, 87, 79, 82, 68] : Bs)) = false := by rw [toL]; exact beq_false_of_ne hq11
  have q12 : ((str op).toList == ([85, 78, 75, 69, 89, 87, 79, 82, 68] : Bs)) = false := by rw [toL]; exact beq_false_of_ne hq12
  have q13 : ((str op).toList == ([66, 67, 67] : Bs)) = false := by rw [toL]; exact beq_false_of_ne hq13
  have q14 : ((str op).toList == ([67, 67] : Bs)) = false := by rw [toL]; exact beq_false_of_ne hq14
  have q15 : ((str op).toList == ([70, 82, 79, 77] : Bs)) = false := by rw [toL]; exact beq_false_of_ne hq15
  have q16 : ((str op).toList == ([83, 85, 66, 74, 69, 67, 84] : Bs)) = false := by rw [toL]; exact beq_false_of_ne hq16
  have q17 : ((str op).toList == ([84, 79] : Bs)) = false := by rw [toL]; exact beq_false_of_ne hq17
  have q18 : ((str op).toList == ([72, 69, 65, 68, 69, 82] : Bs)) = false := by rw [toL]; exact beq_false_of_ne hq18
  have q19 : ((str op).toList == ([66, 79, 68, 89] : Bs)) = false := by rw [toL]; exact beq_false_of_ne hq19
  have q20 : ((str op).toList == ([84, 69, 88, 84] : Bs)) = false := by rw [toL]; exact beq_false_of_ne hq20
  have q21 : ((str op).toList == ([66, 69, 70, 79, 82, 69] : Bs)) = false := by rw [toL]; exact beq_false_of_ne hq21
  have q22 : ((str op).toList == ([79, 78] : Bs)) = false := by rw [toL]; exact beq_false_of_ne hq22
  have q23 : ((str op).toList == ([83, 73, 78, 67, 69] : Bs)) = false := by rw [toL]; exact beq_false_of_ne hq23
  have q24 : ((str op).toList == ([83, 69, 78, 84, 66, 69, 70, 79, 82, 69] : Bs)) = false := by rw [toL]; exact beq_false_of_ne hq24
  have q25 : ((str op).toList == ([83, 69, 78, 84, 79, 78] : Bs)) = false := by rw [toL]; exact beq_false_of_ne hq25
  have q26 : ((str op).toList == ([83, 69, 78, 84, 83, 73, 78, 67, 69] : Bs)) = false := by rw [toL]; exact beq_false_of_ne hq26
  have q27 : ((str op).toList == ([76, 65, 82, 71, 69, 82] : Bs)) = false := by rw [toL]; exact beq_false_of_ne hq27
  have q28 : ((str op).toList == ([83, 77, 65, 76, 76, 69, 82] : Bs)) = false := by rw [toL]; exact beq_false_of_ne hq28
  have q29 : ((str op).toList == ([83, 69, 81] : Bs)) = false := by rw [toL]; exact beq_false_of_ne hq29
  have q30 : ((str op).toList == ([85, 73, 68] : Bs)) = false := by rw [toL]; exact beq_false_of_ne hq30
  have q31 : ((str op).toList == ([78, 79, 84] : Bs)) = false := by rw [toL]; exact beq_false_of_ne hq31
  have q32 : ((str op).toList == ([79, 82] : Bs)) = false := by rw [toL]; exact beq_false_of_ne hq32
  have q33 : ((str op).toList == ([65, 78, 68] : Bs)) = false := by rw [toL]; exact beq_false_of_ne hq33
  clear hq0 hq1 hq2 hq3 hq4 hq5 hq6 hq7 hq8 hq9 hq10 hq11 hq12 hq13 hq14 hq15 hq16 hq17 hq18 hq19 hq20 hq21 hq22 hq23 hq24 hq25 hq26 hq27 hq28 hq29 hq30 hq31 hq32 hq33
  have ha : Below w.heap.size w (w.alloc (.cells #[.string (str op), .string (str t), .string (str f), .int .i64 n, .slice a p c, .slice d q g] 28)) := (Below.refl _ _).alloc (Nat.le_refl _) _
  obtain ⟨w1, hw1⟩ : ∃ w1, w.alloc (.cells #[.string (str op), .string (str t), .string (str f), .int .i64 n, .slice a p c, .slice d q g] 28) = w1 := ⟨_, rfl⟩
  have HKy : Hid (KyAt w1 w.heap.size ⟨op, t, f, n, (a, p, c), (d, q, g)⟩) := by rw [← hw1]; exact KyAt.new w ⟨op, t, f, n, (a, p, c), (d, q, g)⟩
  rw [hw1] at ha
  have HE := hid (he.later ha)
  have HAt := hid (h.later ha)
  have HFs : Hid (FsOk w1 L) := fun hr => (hf hr).later ha
  have HB := hid ha
  have HLt := hid h.lt
  have HT := hid ht
  have k0 := HKy.out.cell 0
  simp only [Ky.c, Lk.c, sv, List.getElem?_cons_succ, List.getElem?_cons_zero] at k0
  have hF := fldk b
  have f0 := fun w => (hF w).1
  have f1 := fun w => (hF w).2.1
  have f2 := fun w => (hF w).2.2.1
  have f3 := fun w => (hF w).2.2.2.1
  have g3 := fun w => (hF w).2.2.2.2.2.2.2.2
  have g0 := fld33a b
  have g1 := fld33b b
  clear he h hf ha hF
  go_enter Tryz.func23, Tryz.ntmps23
  go_wp2_with fail
  clear hw1
  go_ret
  exact ⟨Seen2.of HAt.out HFs.out, rfl, Kept.ofBelow HB.out [b]⟩
end Go.Proofs.YtaniljfjmbifnaaGreatDoor.H
