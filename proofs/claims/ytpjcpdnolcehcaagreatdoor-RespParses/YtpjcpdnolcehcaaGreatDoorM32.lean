/- What this text holds: values with lists of their own. -/
import Derived.Test.YtpjcpdnolcehcaaGreatDoorM31
namespace Go.Proofs.YtpjcpdnolcehcaaGreatDoor
open Go.RowKit
set_option linter.unusedVariables false
set_option linter.unusedSimpArgs false

def CpIs (ks : List Vl) (w : World) (e : Ending) (w' : World) : Prop := ∃ a c, e = .returned (.tuple #[.slice a ks.length c, .bool true]) ∧ VsAt w' (w.heap.size ≤ ·) (.slice a ks.length c) ks ∧ Below w.heap.size w w'
mutual
/-- How deep values lie in one another. -/
def htV : Vl → Nat
  | .mk k x n kids frm => htL kids + 1
def htL : List Vl → Nat
  | [] => 0
  | v :: l => max (htV v) (htL l)
end
theorem ht_mem : ∀ {l : List Vl} {v : Vl}, v ∈ l → htV v ≤ htL l
  | w :: l, v, h => by
    simp only [htL]
    rcases List.mem_cons.1 h with rfl | h
    · exact Nat.le_max_left _ _
    · exact Nat.le_trans (ht_mem h) (Nat.le_max_right _ _)
theorem ht_kids (v : Vl) : htL v.kids + 1 = htV v := by cases v; rfl
def CpOk (sz : Nat) : Prop := ∀ (w : World) (d : Nat) (u : Value) (ks : List Vl), VsAt w (· < w.heap.size) u ks → NumL ks → htL ks < sz → d + htL ks ≤ 100000 → ks.length ≤ 100000000 → Calls Tryz.prog 65 #[.int .i64 d, u] w (CpIs ks w)
/-- How far the copying of values is: the first so many rows have lists of their own. -/
structure CSt (w0 w : World) (v : Value) (rows : List (Rw × Vl)) (k : Nat) (old : List (Rw × Vl)) : Prop where
  o : GO eV w w0.heap.size v (rows.map (·.1))
  l : rows.map (·.2) = old.map (·.2)
  n : ∀ p ∈ rows.take k, VAt w (fun q => w0.heap.size ≤ q ∧ v.ownBlock ≠ some q) p.1 p.2
  r : ∀ j, k ≤ j → rows[j]? = old[j]?
theorem sz_len : ∀ l : List Vl, l.length ≤ szL l
  | [] => by simp
  | v :: l => by
    have := sz_len l
    have := sz_kids v
    simp only [szL, List.length_cons]
    omega
theorem fld43v (g o : Nat) (w : World) : (Instr.fieldAt 43 (.pointer (some ⟨g, o, none⟩)) 3).run Tryz.prog w = .ok (.pointer (some ⟨g, o + 3, none⟩)) w := by kernel_rfl
theorem fld43w (g o : Nat) (w : World) : (Instr.fieldAt 43 (.pointer (some ⟨g, o, none⟩)) 4).run Tryz.prog w = .ok (.pointer (some ⟨g, o + 4, none⟩)) w := by kernel_rfl
theorem own_block {α : Type} {E : En α} {w : World} {B g n c : Nat} {l : List α} (h : GO E w B (.slice (some ⟨g, 0, none⟩) n c) l) : B ≤ g ∧ g < w.heap.size := World.ownsRow.lt h g rfl
theorem own_at {α : Type} {E : En α} {w : World} {B : Nat} {v : Value} {l : List α} (h : GO E w B v l) (h0 : l ≠ []) : ∃ g c, v = .slice (some ⟨g, 0, none⟩) l.length c := by
  rcases h.2 with ⟨_, h1⟩ | ⟨g, c, cur, h1, _⟩
  · exact absurd (List.eq_nil_of_length_eq_zero h1) h0
  · exact ⟨g, c, h1⟩
theorem own_cell {w : World} {B g n c : Nat} {l : List Rw} (h : GO eV w B (.slice (some ⟨g, 0, none⟩) n c) l) (j : Nat) (r : Rw) (hj : l[j]? = some r) (i : Nat) (x : Value) (hi : r.c[i]? = some x) : w.cell? ⟨g, j * 5 + i, none⟩ = some x := by
  have := World.ownsRow.cells h rfl (j * 5 + i) x (eV.cs_at l j i r x hj hi)
  rw [Addr.add_mid, Nat.zero_add] at this
  exact this
set_option maxRecDepth 100000 in
set_option maxHeartbeats 2000000 in
theorem copies_any {sz : Nat} (hV : CpOk sz) : CpOk (sz + 1) := by
  intro w d u ks hu hnum hsz hd hkl
  obtain ⟨old, hv, rfl, hrow⟩ := hu.open_
  obtain ⟨a, c, rfl, hc⟩ := hv.slice
  have C := clone_v w _ _ _ hv (by simpa using hkl)
  have HRow := hid hrow
  have HNu := hid hnum
  have HSz := hid hsz
  have HD := hid hd
  have hd' : (d : Int) ≤ 131072 := by omega
  clear hv hrow hu hnum hsz hd
  simp only [List.length_map] at hc hkl C ⊢
  go_enter Tryz.func65, Tryz.ntmps65
  go_wp2_with fail
  refine C.mono ?_
  rintro e w1 ⟨v, rfl, hg, hb⟩
  have H0 : Hid (CSt w w1 v old 0 old) := ⟨hg, rfl, by simp, fun j _ => rfl⟩
  have HB := hid hb
  obtain ⟨va, vc, rfl⟩ := hg.slice (n := old.length) (by simp)
  have HLen : Hid (CpIs (old.map (·.2)) w = CpIs (old.map (·.2)) w) := rfl
  clear hg hb C HLen
  go_wp2_with fail
  go_loopw [16] (fun i wr => ∃ (k : Nat) (rows : List (Rw × Vl)), k ≤ old.length ∧ i = .int .i64 k ∧ CSt w wr (.slice va old.length vc) rows k old ∧ Below w.heap.size w wr) (fun i _ => old.length - (intOf i).toNat)
  case atStart => exact ⟨0, old, by omega, rfl, H0.out, HB.out⟩
  case round =>
    obtain ⟨k, rows, hk, rfl, hst, hbb⟩ := hrel
    have HS := hid hst
    have HBr := hid hbb
    have hrl : rows.length = old.length := by have := congrArg List.length hst.l; simpa using this
    by_cases hlt : k < old.length
    · have hlt' : (k : Int) < old.length := by omega
      obtain ⟨g, c', he⟩ := own_at hst.o (by intro e; have := congrArg List.length e; simp at this; subst this; simp at hrl; omega)
      simp only [Value.slice.injEq] at he
      obtain ⟨rfl, hlen, rfl⟩ := he
      have hgo := hst.o
      obtain ⟨hgB, hgs⟩ := own_block hgo
      obtain ⟨p, hpk⟩ : ∃ p, old[k] = p := ⟨_, rfl⟩
      have hrk : rows[k]? = some p := by rw [hst.r k (Nat.le_refl _), List.getElem?_eq_getElem hlt, hpk]
      have hp := HRow.out old[k] (List.getElem_mem hlt)
      rw [hpk] at hp
      have hxm : p.2 ∈ old.map (·.2) := by rw [← hpk]; exact List.mem_map_of_mem (List.getElem_mem hlt)
      have hcell := own_cell hgo k p.1 (by rw [List.getElem?_map, hrk]; rfl)
      obtain ⟨⟨rk, rx, rn, ⟨ra, rb, rc⟩, ⟨rd, re, rf⟩⟩, x⟩ := p
      have c3 := hcell 3 _ rfl
      have c4 := hcell 4 _ rfl
      simp only [Sl.v] at c3 c4 hxm
      have hkk := hp.k.low hbb
      have hff := hp.h.2.2.2.low hbb
      have hhd : rk = x.k ∧ rx = x.x ∧ rn = x.n := ⟨hp.h.1, hp.h.2.1, hp.h.2.2.1⟩
      obtain ⟨_, _, he, _⟩ := hkk.slice
      simp only [Sl.v, Value.slice.injEq] at he
      obtain ⟨rfl, rfl, rfl⟩ := he
      obtain ⟨_, _, he, _⟩ := hff.slice
      simp only [Sl.v, Value.slice.injEq] at he
      obtain ⟨rfl, rfl, rfl⟩ := he
      simp only [Sl.v] at hkk hff
      have hnx := HNu.out.mem x hxm
      have hszx := ht_mem hxm
      have hske := ht_kids x
      have hkl2 : x.kids.length ≤ 100000000 := by
        revert hnx
        cases x
        exact fun h => h.2.2.2.2.1
      have hfl2 : x.frm.length ≤ 100000000 := by
        revert hnx
        cases x
        exact fun h => h.2.2.2.2.2
      have CK := hV wr (d + 1) (.slice ra x.kids.length rc) x.kids (hkk.mono (fun q hq _ => hq)) (num_kids hnx).1 (by have := HSz.out; omega) (by have := HD.out; omega) hkl2
      rw [show ((d + 1 : Nat) : Int) = (d : Int) + 1 by omega] at CK
      have HFF := hid hff
      have HG := hid hgo
      have HGB := hid hgB
      have HGS := hid hgs
      have HRK := hid hrk
      have HHD := hid hhd
      have HRL := hid hrl
      have HN1 := hid hst.n
      have HRO := hid hst.r
      have HLO := hid hst.l
      clear hst hbb hrl hlen hgo hgB hgs hp hcell hpk hrk hxm hkk hff hhd hnx hszx hske hkl2 HS H0
      go_wp2_with fail
      refine CK.mono ?_
      rintro e w2 ⟨ka, kc, rfl, hk2, hb2⟩
      have HK2 := hid hk2
      have HB2 := hid hb2
      have CF := ownn_any w2 _ _ x.frm ((HFF.out.low (hb2.mono HBr.out.size)).mono (fun q hq _ => hq)) hfl2
      have cg2 : w2.cell? ⟨g, k * 5 + 4, none⟩ = some (.slice rd x.frm.length rf) := by simp only [World.cell?] at c4 ⊢; rw [hb2.block g HGS.out]; exact c4
      clear hk2 hb2 CK c3 c4
      go_wp2_with fail
      refine CF.mono ?_
      rintro e w3 ⟨fa, fc, rfl, hf3, hb3⟩
      have HF3 := hid hf3
      have HB3 := hid hb3
      have hgs2 : g < w2.heap.size := Nat.lt_of_lt_of_le HGS.out HB2.out.size
      have hg3 : GO eV w3 w.heap.size (.slice (some ⟨g, 0, none⟩) old.length vc) (rows.map (·.1)) := (HG.out.later HB2.out).later hb3
      have hkr : k < (rows.map (·.1)).length := by rw [List.length_map, HRL.out]; exact hlt
      have hat : (rows.map (·.1))[k] = ⟨rk, rx, rn, (ra, x.kids.length, rc), (rd, x.frm.length, rf)⟩ := by
        have := HRK.out
        rw [List.getElem?_eq_getElem (by rw [HRL.out]; exact hlt)] at this
        simp at this
        simp [this]
      obtain ⟨z1, z2, _⟩ := go_set eV hg3 (by rw [List.length_map, HRL.out]) k hkr 3 (by decide) ⟨rk, rx, rn, (ka, x.kids.length, kc), (rd, x.frm.length, rf)⟩ (.slice ka x.kids.length kc) rfl (by rw [hat]; rfl)
      have hkr2 : k < ((rows.map (·.1)).set k ⟨rk, rx, rn, (ka, x.kids.length, kc), (rd, x.frm.length, rf)⟩).length := by rw [List.length_set]; exact hkr
      obtain ⟨z3, z4, _⟩ := go_set eV z2 (by rw [List.length_set, List.length_map, HRL.out]) k hkr2 4 (by decide) ⟨rk, rx, rn, (ka, x.kids.length, kc), (fa, x.frm.length, fc)⟩ (.slice fa x.frm.length fc) rfl (by rw [List.getElem_set_self]; rfl)
      rw [List.set_set] at z4
      simp only [show eV.k = 5 from rfl] at z1 z2 z3 z4
      have cg3 : ∃ v, w3.cell? ⟨g, k * 5 + 3, none⟩ = some v := ⟨_, own_cell hg3 k ⟨rk, rx, rn, (ra, x.kids.length, rc), (rd, x.frm.length, rf)⟩ (by rw [List.getElem?_eq_getElem hkr, hat]) 3 _ rfl⟩
      have cg4 : ∃ v, (w3.setCell ⟨g, k * 5 + 3, none⟩ (.slice ka x.kids.length kc)).cell? ⟨g, k * 5 + 4, none⟩ = some v := ⟨_, own_cell z2 k ⟨rk, rx, rn, (ka, x.kids.length, kc), (rd, x.frm.length, rf)⟩ (by rw [List.getElem?_eq_getElem hkr2, List.getElem_set_self]) 4 _ rfl⟩
      obtain ⟨y3, cg3⟩ := cg3
      obtain ⟨y4, cg4⟩ := cg4
      have HS4 : Hid (CSt w ((w3.setCell ⟨g, k * 5 + 3, none⟩ (.slice ka x.kids.length kc)).setCell ⟨g, k * 5 + 4, none⟩ (.slice fa x.frm.length fc)) (.slice (some ⟨g, 0, none⟩) old.length vc) (rows.set k (⟨rk, rx, rn, (ka, x.kids.length, kc), (fa, x.frm.length, fc)⟩, x)) (k + 1) old) := by
        have kk : Kept [g] w3 ((w3.setCell ⟨g, k * 5 + 3, none⟩ (.slice ka x.kids.length kc)).setCell ⟨g, k * 5 + 4, none⟩ (.slice fa x.frm.length fc)) := (Kept.setCell [g] w3 ⟨g, k * 5 + 3, none⟩ _ (by simp)).trans2 (Kept.setCell [g] _ ⟨g, k * 5 + 4, none⟩ _ (by simp))
        refine ⟨?_, ?_, ?_, ?_⟩
        · have e : (rows.set k (⟨rk, rx, rn, (ka, x.kids.length, kc), (fa, x.frm.length, fc)⟩, x)).map (·.1) = (rows.map (·.1)).set k ⟨rk, rx, rn, (ka, x.kids.length, kc), (fa, x.frm.length, fc)⟩ := by rw [List.map_set]
          rw [e]; exact z4
        · rw [List.map_set, HLO.out]
          refine List.ext_getElem? fun j => ?_
          rw [List.getElem?_set]
          split
          · rename_i e
            subst e
            have e2 := HRO.out k (Nat.le_refl _)
            rw [HRK.out] at e2
            rw [List.getElem?_map, ← e2]
            simp [hlt]
          · rfl
        · intro p hp
          rw [List.take_add_one, List.mem_append] at hp
          rcases hp with hp | hp
          · have hp' : p ∈ rows.take k := by rw [List.take_set_of_le (Nat.le_refl _)] at hp; exact hp
            have h1 := ((HN1.out p hp').later HB2.out).later HB3.out
            exact h1.kept kk (by intro i hi hq; simp at hi; subst hi; exact hq.2 rfl)
          · rw [List.getElem?_set] at hp
            rw [if_pos rfl] at hp
            have hpe : p = (⟨rk, rx, rn, (ka, x.kids.length, kc), (fa, x.frm.length, fc)⟩, x) := by
              rw [if_pos (by rw [HRL.out]; exact hlt)] at hp
              simpa using hp
            subst hpe
            have h1 : VsAt w3 (wr.heap.size ≤ ·) (.slice ka x.kids.length kc) x.kids := HK2.out.later HB3.out
            have h2 : LAt eI w3 (wr.heap.size ≤ ·) (.slice fa x.frm.length fc) x.frm := HF3.out.mono (fun q _ hq => Nat.le_trans HB2.out.size hq)
            have hv : VAt w3 (wr.heap.size ≤ ·) ⟨rk, rx, rn, (ka, x.kids.length, kc), (fa, x.frm.length, fc)⟩ x := ⟨⟨HHD.out.1, HHD.out.2.1, HHD.out.2.2, h2⟩, h1⟩
            refine (hv.kept kk (by intro i hi hq; simp at hi; have := HGS.out; omega)).mono (fun q _ hq => ⟨Nat.le_trans HBr.out.size hq, fun e => ?_⟩)
            have e' : g = q := by simpa [Value.ownBlock] using e
            have := HGS.out
            omega
        · intro j hj
          rw [List.getElem?_set, if_neg (by omega)]
          exact HRO.out j (by omega)
      have HB4 : Hid (Below w.heap.size w ((w3.setCell ⟨g, k * 5 + 3, none⟩ (.slice ka x.kids.length kc)).setCell ⟨g, k * 5 + 4, none⟩ (.slice fa x.frm.length fc))) :=
        ((HBr.out.trans (HB2.out.mono HBr.out.size)).trans (HB3.out.mono (Nat.le_trans HBr.out.size HB2.out.size))).setCell (p := ⟨g, k * 5 + 3, none⟩) HGB.out _ |>.setCell (p := ⟨g, k * 5 + 4, none⟩) HGB.out _
      clear hf3 hb3 hgs2 hg3 hkr hat z2 z4 hkr2 CF cg2
      go_wp2_with fail
      go_round
      case rel => exact ⟨k + 1, _, by omega, by go_num, HS4.out, HB4.out⟩
      case measure => simp [intOf]; omega
    · have hlt' : ¬ (k : Int) < old.length := by omega
      have HV : Hid (VsAt wr (w.heap.size ≤ ·) (.slice va old.length vc) (old.map (·.2))) := by
        rw [Hid, ← hst.l]
        have hvo : VO wr w.heap.size (.slice va old.length vc) rows := ⟨hst.o, by have := hst.n; rw [List.take_of_length_le (by omega)] at this; exact this⟩
        exact hvo.vs
      clear hst hbb hrl
      go_wp2_with fail
      go_ret2
      exact ⟨va, vc, by simp, by simpa using HV.out, HBr.out⟩
theorem cp_zero : CpOk 0 := by
  intro w d u ks hu hn hs hd hl
  omega
theorem cp_all : ∀ n, CpOk n
  | 0 => cp_zero
  | n + 1 => copies_any (cp_all n)
end Go.Proofs.YtpjcpdnolcehcaaGreatDoor
