/- What this text holds: the document's 'same': values that say the same are the same. -/
import Derived.Test.YtpjcpdnolcehcaaGreatDoorM30
namespace Go.Proofs.YtpjcpdnolcehcaaGreatDoor
open Go.RowKit
set_option linter.unusedVariables false
set_option linter.unusedSimpArgs false

def SVal (sz : Nat) : Prop := ∀ (w : World) (N M : Nat → Prop) (r r' : Rw) (v : Vl), VAt w N r v → VAt w M r' v → NumV v → szV v ≤ sz → Calls Tryz.prog 22 #[vV r, vV r'] w (Bo true w)
def SVals (sz : Nat) : Prop := ∀ (w : World) (N M : Nat → Prop) (u u' : Value) (ks : List Vl), VsAt w N u ks → VsAt w M u' ks → NumL ks → ks.length ≤ 1000000000 → szL ks ≤ sz → Calls Tryz.prog 21 #[u, u'] w (Bo true w)
def row2 (w : World) (A B : Nat) (r r' : Rw) : Prop := V5 w A r ∧ V5 w B r'
set_option maxRecDepth 100000 in
set_option maxHeartbeats 2000000 in
theorem sval_any {sz : Nat} (hV : SVals sz) : SVal (sz + 1) := by
  intro w N M r r' v hr hr' hn hs
  have hszk : szL v.kids ≤ sz := by have := sz_kids v; omega
  have hkl : v.kids.length ≤ 1000000000 := by revert hn; cases v; exact fun h => Nat.le_trans h.2.2.2.2.1 (by decide)
  have hnk := (num_kids hn).1
  obtain ⟨rk, rx, rn, ⟨ra, rb, rc⟩, ⟨rd, re, rf⟩⟩ := r
  obtain ⟨sk, sx, sn, ⟨sa, sb, sc⟩, ⟨sd, se, sf⟩⟩ := r'
  obtain ⟨⟨ek, ex, en, hf⟩, hk⟩ := hr
  obtain ⟨⟨ek', ex', en', hf'⟩, hk'⟩ := hr'
  simp only at ek ex en ek' ex' en'
  subst ek ex en ek' ex' en'
  obtain ⟨_, _, he, _⟩ := hf.slice
  simp only [Sl.v, Value.slice.injEq] at he
  obtain ⟨rfl, rfl, rfl⟩ := he
  obtain ⟨_, _, he, _⟩ := hf'.slice
  simp only [Sl.v, Value.slice.injEq] at he
  obtain ⟨rfl, rfl, rfl⟩ := he
  have hA : Below w.heap.size w (w.alloc (.cells #[.int .i64 v.k, .string (str v.x), .int .i64 v.n, .slice ra rb rc, .slice rd v.frm.length rf] 43)) := (Below.refl _ _).alloc (Nat.le_refl _) _
  have hB : Below w.heap.size w ((w.alloc (.cells #[.int .i64 v.k, .string (str v.x), .int .i64 v.n, .slice ra rb rc, .slice rd v.frm.length rf] 43)).alloc (.cells #[.int .i64 v.k, .string (str v.x), .int .i64 v.n, .slice sa sb sc, .slice sd v.frm.length sf] 43)) := hA.alloc (by simp) _
  have v1 : V5 ((w.alloc (.cells #[.int .i64 v.k, .string (str v.x), .int .i64 v.n, .slice ra rb rc, .slice rd v.frm.length rf] 43)).alloc (.cells #[.int .i64 v.k, .string (str v.x), .int .i64 v.n, .slice sa sb sc, .slice sd v.frm.length sf] 43)) w.heap.size ⟨v.k, v.x, v.n, (ra, rb, rc), (rd, v.frm.length, rf)⟩ := (V5.new w ⟨v.k, v.x, v.n, (ra, rb, rc), (rd, v.frm.length, rf)⟩).later ((Below.refl _ _).alloc (Nat.le_refl _) _)
  have v2 : V5 ((w.alloc (.cells #[.int .i64 v.k, .string (str v.x), .int .i64 v.n, .slice ra rb rc, .slice rd v.frm.length rf] 43)).alloc (.cells #[.int .i64 v.k, .string (str v.x), .int .i64 v.n, .slice sa sb sc, .slice sd v.frm.length sf] 43)) (w.heap.size + 1) ⟨v.k, v.x, v.n, (sa, sb, sc), (sd, v.frm.length, sf)⟩ := by
    have := V5.new (w.alloc (.cells #[.int .i64 v.k, .string (str v.x), .int .i64 v.n, .slice ra rb rc, .slice rd v.frm.length rf] 43)) ⟨v.k, v.x, v.n, (sa, sb, sc), (sd, v.frm.length, sf)⟩
    rw [show (w.alloc (.cells #[.int .i64 v.k, .string (str v.x), .int .i64 v.n, .slice ra rb rc, .slice rd v.frm.length rf] 43)).heap.size = w.heap.size + 1 by simp] at this
    exact this
  have hfB := (hf.kept (Kept.ofBelow hB []) (by simp))
  have hfB' := (hf'.kept (Kept.ofBelow hB []) (by simp))
  have C := hid (fun (W : World) (hW : Below w.heap.size w W) => hV W N M (.slice ra rb rc) (.slice sa sb sc) v.kids (hk.later hW) (hk'.later hW) hnk hkl hszk)
  have HB := hid hB
  have V1 := hid v1
  have V2 := hid v2
  obtain ⟨x0, x1, x2, x3, x4⟩ := v1.cs
  obtain ⟨y0, y1, y2, y3, y4⟩ := v2.cs
  simp only [Sl.v] at x3 x4 y3 y4
  have hf0 := fun A => fld43k A 0 (by omega)
  have hf1 := fld43
  have hf2 := fun A => fld43k A 1 (by omega)
  have hf3 := fun A => fld43k A 2 (by omega)
  have hf4 := fun A => fld43k A 3 (by omega)
  have fr : v.frm = [] ∨ ∃ n g o g' o', (∃ f, v.frm = n :: f) ∧ rd = some ⟨g, o, none⟩ ∧ sd = some ⟨g', o', none⟩ ∧ ((w.alloc (.cells #[.int .i64 v.k, .string (str v.x), .int .i64 v.n, .slice ra rb rc, .slice rd v.frm.length rf] 43)).alloc (.cells #[.int .i64 v.k, .string (str v.x), .int .i64 v.n, .slice sa sb sc, .slice sd v.frm.length sf] 43)).cell? ⟨g, o, none⟩ = some (.int .i64 n) ∧ ((w.alloc (.cells #[.int .i64 v.k, .string (str v.x), .int .i64 v.n, .slice ra rb rc, .slice rd v.frm.length rf] 43)).alloc (.cells #[.int .i64 v.k, .string (str v.x), .int .i64 v.n, .slice sa sb sc, .slice sd v.frm.length sf] 43)).cell? ⟨g', o', none⟩ = some (.int .i64 n) := by
    rcases hv : v.frm with _ | ⟨n, f⟩
    · exact .inl rfl
    · right
      rw [hv] at hfB hfB'
      obtain ⟨g, o, c, e, _, h, _, _⟩ := hfB.at_ (by simp)
      obtain ⟨g', o', c', e', _, h', _, _⟩ := hfB'.at_ (by simp)
      simp only [Sl.v, Value.slice.injEq] at e e'
      have q := h.i 0 n rfl
      have q' := h'.i 0 n rfl
      simp only [Nat.add_zero] at q q'
      exact ⟨n, g, o, g', o', ⟨f, rfl⟩, e.1, e'.1, q, q'⟩
  rw [vV_mk, vV_mk]
  clear hf hf' hk hk' hA hB v1 v2 hfB hfB' hn hkl hnk hszk hs
  rcases fr with fr | ⟨n, g, o, g', o', ⟨f, fr⟩, rfl, rfl, q, q'⟩
  · have hl0 : v.frm.length = 0 := by rw [fr]; rfl
    clear fr
    generalize v.frm.length = m at *
    subst hl0
    go_enter Tryz.func22, Tryz.ntmps22
    go_wp2_with fail
    go_quiet (fail)
    all_goals
      go_wp2_with fail
      refine (C.out _ (HB.out.trans (drewN_below _ _ _))).mono ?_
      rintro e w2 ⟨rfl, k1⟩
      have K1 := hid ((HB.out.trans (drewN_below _ _ _)).trans (k1.mono (HB.out.trans (drewN_below _ _ _)).size))
      clear k1 x0 x1 x2 x3 x4 y0 y1 y2 y3 y4
      go_wp2_with fail
      go_ret
      exact ⟨rfl, K1.out⟩
  · have hlp : 0 < v.frm.length := by rw [fr]; simp
    clear fr
    generalize v.frm.length = m at *
    have hlp' : (0 : Int) < m := by omega
    have q5 := q
    have q6 := q'
    rw [← Nat.add_zero o] at q5
    rw [← Nat.add_zero o'] at q6
    go_enter Tryz.func22, Tryz.ntmps22
    go_wp2_with fail
    go_quiet (fail)
    all_goals
      go_wp2_with fail
      refine (C.out _ (HB.out.trans (drewN_below _ _ _))).mono ?_
      rintro e w2 ⟨rfl, k1⟩
      have K1 := hid ((HB.out.trans (drewN_below _ _ _)).trans (k1.mono (HB.out.trans (drewN_below _ _ _)).size))
      clear k1 x0 x1 x2 x3 x4 y0 y1 y2 y3 y4 q q'
      go_wp2_with fail
      go_ret
      exact ⟨rfl, K1.out⟩
set_option maxRecDepth 100000 in
set_option maxHeartbeats 2000000 in
theorem svals_any {sz : Nat} (hV : SVal sz) : SVals sz := by
  intro w N M u u' ks hu hu' hn hkl hs
  obtain ⟨rows, hv, rfl, hrow⟩ := hu.open_
  obtain ⟨rows', hv', he, hrow'⟩ := hu'.open_
  have hll : rows.length = rows'.length := by have := congrArg List.length he; simpa using this
  obtain ⟨a, c, rfl, hc⟩ := hv.slice
  obtain ⟨a', c', rfl, hc'⟩ := hv'.slice
  simp only [List.length_map] at hc hc' hkl ⊢
  rw [← hll] at hc' ⊢
  have HAt : Hid (∀ k (hk : k < rows.length), ∃ p p', rows[k]? = some p ∧ rows'[k]? = some p' ∧ p.2 = p'.2 ∧ p ∈ rows ∧ p' ∈ rows') := by
    intro k hk
    have hk' : k < rows'.length := by omega
    have h2 : (rows.map (·.2))[k]? = (rows'.map (·.2))[k]? := by rw [he]
    rw [List.getElem?_map, List.getElem?_map, List.getElem?_eq_getElem hk, List.getElem?_eq_getElem hk'] at h2
    exact ⟨rows[k], rows'[k], List.getElem?_eq_getElem hk, List.getElem?_eq_getElem hk', by simpa using h2, List.getElem_mem hk, List.getElem_mem hk'⟩
  have HLL := hid hll
  have HV := hid hv
  have HV' := hid hv'
  have HR := hid hrow
  have HR' := hid hrow'
  have HN := hid hn
  have HS := hid hs
  clear hll hv hv' hrow hrow' hn hs he hu hu'
  go_enter Tryz.func21, Tryz.ntmps21
  go_wp2_with fail
  go_loopw [5] (fun i wr => ∃ k : Nat, k ≤ rows.length ∧ i = .int .i64 k ∧ Below w.heap.size w wr) (fun i _ => rows.length - (intOf i).toNat)
  case atStart => exact ⟨0, by omega, rfl, Below.refl _ _⟩
  case round =>
    obtain ⟨k, hk, rfl, h2⟩ := hrel
    have H2 := hid h2
    clear h2
    by_cases hlt : k < rows.length
    · have hlt' : (k : Int) < rows.length := by omega
      obtain ⟨p, p', e1, e2, e3, m1, m2⟩ := HAt.out k hlt
      have hne : rows.map (·.1) ≠ [] := by intro e; have := congrArg List.length e; simp at this; subst this; simp at hlt
      have hne' : rows'.map (·.1) ≠ [] := by intro e; have := congrArg List.length e; simp at this; subst this; simp at e2
      obtain ⟨g, o, c1, he, hc1, hga, _, hg⟩ := (HV.out.kept (Kept.ofBelow H2.out []) (by simp)).at_ hne
      obtain ⟨g', o', c1', he', hc1', hga', _, hg'⟩ := (HV'.out.kept (Kept.ofBelow H2.out []) (by simp)).at_ hne'
      simp only [Value.slice.injEq] at he he'
      obtain ⟨rfl, hlen, rfl⟩ := he
      obtain ⟨rfl, hlen', rfl⟩ := he'
      have hc5 := hga.v k p.1 (by rw [List.getElem?_map, e1]; rfl)
      have hc5' := hga'.v k p'.1 (by rw [List.getElem?_map, e2]; rfl)
      have hp := (HR.out p m1).later H2.out
      have hp' := (HR'.out p' m2).later H2.out
      have hxm : p.2 ∈ rows.map (·.2) := List.mem_map_of_mem m1
      obtain ⟨⟨rk, rx, rn, ⟨ra, rb, rc⟩, ⟨rd, re, rf⟩⟩, x⟩ := p
      obtain ⟨⟨sk, sx, sn, ⟨sa, sb, sc⟩, ⟨sd, se, sf⟩⟩, x'⟩ := p'
      simp only at e3
      subst e3
      have hdr : Below wr.heap.size wr wr.drew := (Below.refl _ _).drew
      have D := hV wr.drew N M ⟨rk, rx, rn, (ra, rb, rc), (rd, re, rf)⟩ ⟨sk, sx, sn, (sa, sb, sc), (sd, se, sf)⟩ x (hp.later hdr) (hp'.later hdr) (HN.out.mem x hxm) (Nat.le_trans (sz_mem hxm) HS.out)
      rw [vV_mk, vV_mk] at D
      have HD := hid D
      obtain ⟨c0, c1', c2, c3, c4⟩ := hc5
      obtain ⟨d0, d1, d2, d3, d4⟩ := hc5'
      simp only [Sl.v] at c3 c4 d3 d4
      have HDr : Hid (Below w.heap.size w wr.drew) := H2.out.drew
      have hgz : g < wr.drew.heap.size := hg
      have hgz' : g' < wr.drew.heap.size := hg'
      clear hga hga' hp hp' hxm hlen hlen' e1 e2 m1 m2 D hdr hc1 hc1'
      go_wp2_with fail
      go_region_held3 (fun w' => w'.cell? ⟨g, o + k * 5, none⟩ = some (.int .i64 rk) ∧ w'.cell? ⟨g, o + k * 5 + 1, none⟩ = some (.string (str rx)) ∧ w'.cell? ⟨g, o + k * 5 + 2, none⟩ = some (.int .i64 rn) ∧ w'.cell? ⟨g, o + k * 5 + 3, none⟩ = some (.slice ra rb rc) ∧ w'.cell? ⟨g, o + k * 5 + 4, none⟩ = some (.slice rd re rf) ∧ w'.cell? ⟨g', o' + k * 5, none⟩ = some (.int .i64 sk) ∧ w'.cell? ⟨g', o' + k * 5 + 1, none⟩ = some (.string (str sx)) ∧ w'.cell? ⟨g', o' + k * 5 + 2, none⟩ = some (.int .i64 sn) ∧ w'.cell? ⟨g', o' + k * 5 + 3, none⟩ = some (.slice sa sb sc) ∧ w'.cell? ⟨g', o' + k * 5 + 4, none⟩ = some (.slice sd se sf)) (first | exact ⟨b0, b1, b2, b3, b4, q0, q1, q2, q3, q4⟩ | exact ⟨c0, c1', c2, c3, c4, d0, d1, d2, d3, d4⟩ | go_keep) (first | (go_at_call 22; refine HD.out.mono ?_; rintro e w1 ⟨rfl, hb1⟩; have b0 := (hb1.cell hgz).trans c0; have b1 := (hb1.cell hgz).trans c1'; have b2 := (hb1.cell hgz).trans c2; have b3 := (hb1.cell hgz).trans c3; have b4 := (hb1.cell hgz).trans c4; have q0 := (hb1.cell hgz').trans d0; have q1 := (hb1.cell hgz').trans d1; have q2 := (hb1.cell hgz').trans d2; have q3 := (hb1.cell hgz').trans d3; have q4 := (hb1.cell hgz').trans d4; have HB1 := hid (HDr.out.trans (hb1.mono HDr.out.size)); clear hb1))
      all_goals
        go_wp2_with fail
        go_round
        case rel => exact ⟨k + 1, by omega, by go_num, HB1.out⟩
        case measure => simp [intOf]; omega
    · have hlt' : ¬ (k : Int) < rows.length := by omega
      go_wp2_with fail
      go_ret
      exact ⟨rfl, H2.out⟩
theorem fldL0 (A o : Nat) (w : World) : (Instr.fieldAt 28 (.pointer (some ⟨A, o, none⟩)) 0).run Tryz.prog w = .ok (.pointer (some ⟨A, o, none⟩)) w := by kernel_rfl
theorem fldL1 (A o : Nat) (w : World) : (Instr.fieldAt 28 (.pointer (some ⟨A, o, none⟩)) 1).run Tryz.prog w = .ok (.pointer (some ⟨A, o + 1, none⟩)) w := by kernel_rfl
theorem fldL2 (A o : Nat) (w : World) : (Instr.fieldAt 28 (.pointer (some ⟨A, o, none⟩)) 2).run Tryz.prog w = .ok (.pointer (some ⟨A, o + 2, none⟩)) w := by kernel_rfl
theorem fldL3 (A o : Nat) (w : World) : (Instr.fieldAt 28 (.pointer (some ⟨A, o, none⟩)) 3).run Tryz.prog w = .ok (.pointer (some ⟨A, o + 3, none⟩)) w := by kernel_rfl
theorem fldL4 (A o : Nat) (w : World) : (Instr.fieldAt 28 (.pointer (some ⟨A, o, none⟩)) 4).run Tryz.prog w = .ok (.pointer (some ⟨A, o + 4, none⟩)) w := by kernel_rfl
theorem sval_zero : SVal 0 := by
  intro w N M r r' v hr hr' hn hs
  have := sz_kids v
  omega
theorem sval_all : ∀ n, SVal n
  | 0 => sval_zero
  | n + 1 => sval_any (svals_any (sval_all n))
theorem svals_all (n : Nat) : SVals n := svals_any (sval_all n)
set_option maxRecDepth 100000 in
set_option maxHeartbeats 2000000 in
theorem same_any (w : World) (N M : Nat → Prop) (u u' : Value) (ls : List Ln) (hu : LsAt w N u ls) (hu' : LsAt w M u' ls) (hn : ∀ l ∈ ls, NumN l) (hkl : ls.length ≤ 1000000000) : Calls Tryz.prog 17 #[u, u'] w (Bo true w) := by
  obtain ⟨rows, hv, rfl, hrow⟩ := hu
  obtain ⟨rows', hv', he, hrow'⟩ := hu'
  have hll : rows.length = rows'.length := by have := congrArg List.length he; simpa using this
  obtain ⟨a, c, rfl, hc⟩ := hv.slice
  obtain ⟨a', c', rfl, hc'⟩ := hv'.slice
  simp only [List.length_map] at hc hc' hkl ⊢
  rw [← hll] at hc' ⊢
  have HAt : Hid (∀ k (hk : k < rows.length), ∃ p p', rows[k]? = some p ∧ rows'[k]? = some p' ∧ p.2 = p'.2 ∧ p ∈ rows ∧ p' ∈ rows') := by
    intro k hk
    have hk' : k < rows'.length := by omega
    have h2 : (rows.map (·.2))[k]? = (rows'.map (·.2))[k]? := by rw [he]
    rw [List.getElem?_map, List.getElem?_map, List.getElem?_eq_getElem hk, List.getElem?_eq_getElem hk'] at h2
    exact ⟨rows[k], rows'[k], List.getElem?_eq_getElem hk, List.getElem?_eq_getElem hk', by simpa using h2, List.getElem_mem hk, List.getElem_mem hk'⟩
  have HV := hid hv
  have HV' := hid hv'
  have HR := hid hrow
  have HR' := hid hrow'
  have HN := hid hn
  clear hll hv hv' hrow hrow' hn he
  have hfl0 := fun A o w => fldL0 A o w
  have hfl1 := fun A o w => fldL1 A o w
  have hfl2 := fun A o w => fldL2 A o w
  have hfl3 := fun A o w => fldL3 A o w
  have hfl4 := fun A o w => fldL4 A o w
  go_enter Tryz.func17, Tryz.ntmps17
  go_wp2_with fail
  go_loopw [5] (fun i wr => ∃ k : Nat, k ≤ rows.length ∧ i = .int .i64 k ∧ Below w.heap.size w wr) (fun i _ => rows.length - (intOf i).toNat)
  case atStart => exact ⟨0, by omega, rfl, Below.refl _ _⟩
  case round =>
    obtain ⟨k, hk, rfl, h2⟩ := hrel
    have H2 := hid h2
    clear h2
    by_cases hlt : k < rows.length
    · have hlt' : (k : Int) < rows.length := by omega
      obtain ⟨p, p', e1, e2, e3, m1, m2⟩ := HAt.out k hlt
      have hne : rows.map (·.1) ≠ [] := by intro e; have := congrArg List.length e; simp at this; subst this; simp at hlt
      have hne' : rows'.map (·.1) ≠ [] := by intro e; have := congrArg List.length e; simp at this; subst this; simp at e2
      obtain ⟨g, o, c1, he, hc1, hga, _, hg⟩ := (HV.out.kept (Kept.ofBelow H2.out []) (by simp)).at_ hne
      obtain ⟨g', o', c1', he', hc1', hga', _, hg'⟩ := (HV'.out.kept (Kept.ofBelow H2.out []) (by simp)).at_ hne'
      simp only [Value.slice.injEq] at he he'
      obtain ⟨rfl, hlen, rfl⟩ := he
      obtain ⟨rfl, hlen', rfl⟩ := he'
      have hc5 := hga.l k p.1 (by rw [List.getElem?_map, e1]; rfl)
      have hc5' := hga'.l k p'.1 (by rw [List.getElem?_map, e2]; rfl)
      have hp := (HR.out p m1).later H2.out
      have hp' := (HR'.out p' m2).later H2.out
      have hxm : p.2 ∈ rows.map (·.2) := List.mem_map_of_mem m1
      obtain ⟨⟨rt, ⟨va, vb, vc⟩, rs, ⟨ca, cb, cc⟩, rx⟩, x⟩ := p
      obtain ⟨⟨st, ⟨ua, ub, uc⟩, ss, ⟨wa, wb, wc⟩, sx⟩, x'⟩ := p'
      simp only at e3
      subst e3
      obtain ⟨t1, t2, t3, t4, t5⟩ := hp
      obtain ⟨s1, s2, s3, s4, s5⟩ := hp'
      simp only at t1 t2 t3 s1 s2 s3
      subst t1 t2 t3 s1 s2 s3
      have hnx := HN.out x hxm
      have CV := hid (fun (W : World) (hW : Below wr.heap.size wr W) => svals_all (szL x.vals) W N M _ _ x.vals (t4.later hW) (s4.later hW) hnx.1 hnx.2.2.2.2.2.1 (Nat.le_refl _))
      have CC := hid (fun (W : World) (hW : Below wr.heap.size wr W) => svals_all (szL x.code) W N M _ _ x.code (t5.later hW) (s5.later hW) hnx.2.1 hnx.2.2.2.2.2.2 (Nat.le_refl _))
      obtain ⟨c0, c1', c2, c3, c4⟩ := hc5
      obtain ⟨d0, d1, d2, d3, d4⟩ := hc5'
      simp only [Sl.v] at c1' c3 d1 d3
      have hgz : g < wr.heap.size := hg
      have hgz' : g' < wr.heap.size := hg'
      clear hga hga' t4 t5 s4 s5 hxm hlen hlen' e1 e2 m1 m2 hc1 hc1' hnx
      go_wp2_with fail
      have HD0 : Hid (Below wr.heap.size wr wr.drew) := (Below.refl _ _).drew
      go_region_held3 (fun w' => w'.cell? ⟨g, o + k * 5, none⟩ = some (.string (str x.tag)) ∧ w'.cell? ⟨g, o + k * 5 + 1, none⟩ = some (.slice va vb vc) ∧ w'.cell? ⟨g, o + k * 5 + 2, none⟩ = some (.string (str x.st)) ∧ w'.cell? ⟨g, o + k * 5 + 3, none⟩ = some (.slice ca cb cc) ∧ w'.cell? ⟨g, o + k * 5 + 4, none⟩ = some (.string (str x.x)) ∧ w'.cell? ⟨g', o' + k * 5, none⟩ = some (.string (str x.tag)) ∧ w'.cell? ⟨g', o' + k * 5 + 1, none⟩ = some (.slice ua ub uc) ∧ w'.cell? ⟨g', o' + k * 5 + 2, none⟩ = some (.string (str x.st)) ∧ w'.cell? ⟨g', o' + k * 5 + 3, none⟩ = some (.slice wa wb wc) ∧ w'.cell? ⟨g', o' + k * 5 + 4, none⟩ = some (.string (str x.x))) (first | exact ⟨q0, q1, q2, q3, q4, q5, q6, q7, q8, q9⟩ | exact ⟨b0, b1, b2, b3, b4, b5, b6, b7, b8, b9⟩ | exact ⟨c0, c1', c2, c3, c4, d0, d1, d2, d3, d4⟩ | go_keep) (first | (go_at_call 21; refine (CC.out _ HB1.out).mono ?_; rintro e w2 ⟨rfl, hb2⟩; have HB2 := hid (HB1.out.trans (hb2.mono HB1.out.size)); have q0 := (HB2.out.cell hgz).trans c0; have q1 := (HB2.out.cell hgz).trans c1'; have q2 := (HB2.out.cell hgz).trans c2; have q3 := (HB2.out.cell hgz).trans c3; have q4 := (HB2.out.cell hgz).trans c4; have q5 := (HB2.out.cell hgz').trans d0; have q6 := (HB2.out.cell hgz').trans d1; have q7 := (HB2.out.cell hgz').trans d2; have q8 := (HB2.out.cell hgz').trans d3; have q9 := (HB2.out.cell hgz').trans d4; clear hb2) | (go_at_call 21; refine (CV.out _ HD0.out).mono ?_; rintro e w1 ⟨rfl, hb1⟩; have HB1 := hid (HD0.out.trans (hb1.mono HD0.out.size)); have b0 := (HB1.out.cell hgz).trans c0; have b1 := (HB1.out.cell hgz).trans c1'; have b2 := (HB1.out.cell hgz).trans c2; have b3 := (HB1.out.cell hgz).trans c3; have b4 := (HB1.out.cell hgz).trans c4; have b5 := (HB1.out.cell hgz').trans d0; have b6 := (HB1.out.cell hgz').trans d1; have b7 := (HB1.out.cell hgz').trans d2; have b8 := (HB1.out.cell hgz').trans d3; have b9 := (HB1.out.cell hgz').trans d4; clear hb1))
      all_goals
        go_wp2_with fail
        go_round
        case rel => exact ⟨k + 1, by omega, by go_num, H2.out.trans (HB2.out.mono H2.out.size)⟩
        case measure => simp [intOf]; omega
    · have hlt' : ¬ (k : Int) < rows.length := by omega
      go_wp2_with fail
      go_ret
      exact ⟨rfl, H2.out⟩
end Go.Proofs.YtpjcpdnolcehcaaGreatDoor
