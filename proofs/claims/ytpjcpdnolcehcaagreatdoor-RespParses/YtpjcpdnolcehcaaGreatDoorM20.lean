/- What this text holds: From, values, codes put to bytes under way. -/
import Derived.Test.YtpjcpdnolcehcaaGreatDoorM19
namespace Go.Proofs.YtpjcpdnolcehcaaGreatDoor
open Go.RowKit
set_option linter.unusedVariables false
set_option linter.unusedSimpArgs false

def I64 (n : Int) : Prop := -9223372036854775808 ≤ n ∧ n ≤ 9223372036854775807
mutual
/-- Numbers are Go's, texts are not too long. -/
def NumV : Vl → Prop
  | .mk k x n kids frm => I64 n ∧ x.length ≤ 1000000000 ∧ (∀ m ∈ frm, I64 m) ∧ NumL kids ∧ kids.length ≤ 100000000 ∧ frm.length ≤ 100000000
def NumL : List Vl → Prop
  | [] => True
  | v :: l => NumV v ∧ NumL l
end
theorem NumL.mem : ∀ {l : List Vl}, NumL l → ∀ v ∈ l, NumV v
  | [], _, v, h => by cases h
  | u :: l, h, v, hv => by
    rcases List.mem_cons.1 hv with rfl | hv
    · exact h.1
    · exact NumL.mem h.2 v hv
theorem NumL.of : ∀ {l : List Vl}, (∀ v ∈ l, NumV v) → NumL l
  | [], _ => trivial
  | u :: l, h => ⟨h u (by simp), NumL.of (fun v hv => h v (by simp [hv]))⟩
theorem rights_mem {d : Nat} : ∀ {l : List Vl}, rightsB d l = true → ∀ v ∈ l, rightB d v = true
  | [], _, v, h => by cases h
  | u :: l, h, v, hv => by
    simp only [rightsB, Bool.and_eq_true] at h
    rcases List.mem_cons.1 hv with rfl | hv
    · exact h.1
    · exact rights_mem h.2 v hv
mutual
def szV : Vl → Nat
  | .mk k x n kids frm => szL kids + 1
def szL : List Vl → Nat
  | [] => 0
  | v :: l => szV v + szL l
end
theorem sz_mem : ∀ {l : List Vl} {v : Vl}, v ∈ l → szV v ≤ szL l
  | [], v, h => by cases h
  | u :: l, v, hv => by
    simp only [szL]
    rcases List.mem_cons.1 hv with rfl | hv
    · omega
    · have := sz_mem hv; omega
theorem LAt.low {α : Type} {E : En α} {w w' : World} {B : Nat} {v : Value} {l : List α} (h : LAt E w (· < B) v l) (hb : Below B w w') : LAt E w' (· < B) v l := by
  obtain ⟨⟨a, c, rfl, hc, h⟩, hN⟩ := h
  refine ⟨⟨a, c, rfl, hc, ?_⟩, hN⟩
  rcases h with h | ⟨g, o, rfl, h, hg⟩
  · exact .inl h
  · by_cases h0 : l = []
    · exact .inl h0
    · have hlt := hN h0 g rfl
      refine .inr ⟨g, o, rfl, fun j i x v h1 h2 => ?_, Nat.lt_of_lt_of_le hg hb.size⟩
      have := h j i x v h1 h2
      rw [← this]
      simp only [World.cell?]
      rw [hb.block g hlt]
theorem VsAt.low {w w' : World} {B : Nat} {u : Value} {ks : List Vl} (h : VsAt w (· < B) u ks) (hb : Below B w w') : VsAt w' (· < B) u ks := by
  induction h with
  | mk u ks rows h1 h2 h3 h4 ih => exact .mk u ks rows (h1.low hb) h2 (fun p hp => ⟨(h3 p hp).1, (h3 p hp).2.1, (h3 p hp).2.2.1, (h3 p hp).2.2.2.low hb⟩) ih
theorem VAt.low {w w' : World} {B : Nat} {r : Rw} {v : Vl} (h : VAt w (· < B) r v) (hb : Below B w w') : VAt w' (· < B) r v := ⟨⟨h.h.1, h.h.2.1, h.h.2.2.1, h.h.2.2.2.low hb⟩, h.k.low hb⟩
theorem V5.tk {w w' : World} {A : Nat} {r : Rw} (h : V5 w A r) (k : TK w w') : V5 w' A r := k.at_ _ _ _ _ h (.inl (by decide)) (by decide)
theorem itoa_all {w : World} (hE : Env w) (n : Int) (h : I64 n) : Calls Tryz.prog 107 #[.int .i64 n] w fun e w' => e = .returned (.string (str (decP n))) ∧ Below w.heap.size w w' := by
  refine (Tryz.strconv_Itoa n h.1 h.2 w hE.tab).mono ?_
  rintro e w1 ⟨rfl, kk, os, rfl⟩
  exact ⟨rfl, below_grow _ _ _⟩
theorem from_next (l : List Int) (k : Nat) (hk : k < l.length) : fromP (l.take (k + 1)) = fromP (l.take k) ++ ([60] ++ decP l[k] ++ [62]) := by
  unfold fromP
  rw [List.take_succ_eq_append_getElem hk, List.flatMap_append]
  simp
theorem from_le (l : List Int) (k : Nat) : (fromP (l.take k)).length ≤ (fromP l).length := by
  have h : fromP l = fromP (l.take k) ++ fromP (l.drop k) := by
    unfold fromP
    rw [← List.flatMap_append, List.take_append_drop]
  rw [h, List.length_append]
  omega
set_option maxRecDepth 100000 in
set_option maxHeartbeats 4000000 in
theorem ufrom_any {w : World} {B b : Nat} {l : Bs} (hE : Env w) (hB11 : 11 ≤ B) (h : UAt w B b l) (v : Value) (f : List Int) (hv : LAt eI w (· < B) v f) (hf : ∀ n ∈ f, 0 ≤ n ∧ I64 n) (hfl : f.length ≤ 1) (hl : l.length + (fromP f).length ≤ 1000000000) :
    Calls Tryz.prog 94 #[.pointer (some ⟨b, 0, none⟩), v] w (Put B b l (fromP f) w) := by
  obtain ⟨a, c, rfl, hc⟩ := hv.slice
  have H := hid h
  have HE := hid hE
  have HV := hid hv
  have HF := hid hf
  clear h hE hv hf
  go_enter Tryz.func94, Tryz.ntmps94
  go_wp2_with fail
  go_loopw [8] (fun i wr => ∃ k : Nat, k ≤ f.length ∧ i = .int .i64 k ∧ UAt wr B b (l ++ fromP (f.take k)) ∧ Below B w wr ∧ TK w wr) (fun i _ => f.length - (intOf i).toNat)
  case atStart => exact ⟨0, by omega, rfl, by simpa [fromP] using H.out, Below.refl _ _, TK.refl _⟩
  case round =>
    obtain ⟨k, hk, rfl, h1, h2, h3⟩ := hrel
    have H1 := hid h1
    have H2 := hid h2
    have H3 := hid h3
    clear h1 h2 h3
    by_cases hlt : k < f.length
    · have hlt' : (k : Int) < f.length := by omega
      have hne : f ≠ [] := by rintro rfl; simp at hlt
      obtain ⟨g, o, c', he, hc', hga, hN, hg⟩ := (HV.out.low H2.out).at_ hne
      simp only [Value.slice.injEq] at he
      obtain ⟨rfl, _, rfl⟩ := he
      have cc := hga.i k f[k] (List.getElem?_eq_getElem hlt)
      obtain ⟨n0, n1⟩ := HF.out f[k] (List.getElem_mem hlt)
      have hle := from_le f (k + 1)
      have hnx := from_next f k hlt
      have HN := hid hnx
      rw [hnx] at hle
      simp at hle
      have hle' := hid hle
      have D := put_new H1.out [[60]] wr.heap.size 1 rfl rfl (by simp) (by simp; omega) #[.string ⟨#[60]⟩] rfl
      clear hga hnx hle
      go_wp2_with fail
      refine D.mono ?_
      rintro e w2 ⟨rfl, k1, k2, k3⟩
      have K2 := hid (H2.out.trans k2)
      have K3 := hid (H3.out.trans k3)
      have D := unum_any (HE.out.keep K2.out hB11) k1 f[k] n0 n1.2 (by have := hle'.out; simp; omega)
      clear k1 k2 k3 n0 n1
      go_wp2_with fail
      refine D.mono ?_
      rintro e w3 ⟨rfl, k1, k2, k3⟩
      have K4 := hid (K2.out.trans k2)
      have K5 := hid (K3.out.trans k3)
      have D := put_new k1 [[62]] w3.heap.size 1 rfl rfl (by simp) (by have := hle'.out; simp; omega) #[.string ⟨#[62]⟩] rfl
      clear k1 k2 k3 K2 K3
      go_wp2_with fail
      refine D.mono ?_
      rintro e w4 ⟨rfl, k1, k2, k3⟩
      have U4 : Hid (UAt w4 B b (l ++ fromP (f.take (k + 1)))) := by rw [Hid, HN.out]; simpa [List.append_assoc] using k1
      have K6 := hid (K4.out.trans k2)
      have K7 := hid (K5.out.trans k3)
      clear k1 k2 k3 D
      go_wp2_with fail
      go_round
      case rel => exact ⟨k + 1, by omega, by go_num, U4.out, K6.out, K7.out⟩
      case measure => simp [intOf]; omega
    · have hlt' : ¬ (k : Int) < f.length := by omega
      have HL : Hid (UAt wr B b (l ++ fromP f)) := by have := H1.out; rw [List.take_of_length_le (by omega)] at this; exact this
      go_wp2_with fail
      go_end0
      exact ⟨rfl, HL.out, H2.out, H3.out⟩
theorem told_next (l : List Vl) (k : Nat) (hk : k < l.length) : toldL (l.take (k + 1)) = toldL (l.take k) ++ ((if k = 0 then [] else [32]) ++ told l[k]) := by
  rw [List.take_succ_eq_append_getElem hk]
  by_cases h0 : k = 0
  · subst h0
    simp [toldL, toldS]
  · rw [toldL_snoc _ _ (by intro e; have := congrArg List.length e; rw [List.length_take, Nat.min_eq_left (by omega)] at this; exact h0 this), if_neg h0, List.append_assoc]
theorem told_le (l : List Vl) (k : Nat) : (toldL (l.take k)).length ≤ (toldL l).length := by
  have h : toldS l = toldS (l.take k) ++ toldS (l.drop k) := by rw [← toldS_app, List.take_append_drop]
  unfold toldL
  rw [h, List.length_drop, List.length_drop, List.length_append]
  omega
def UVal (sz : Nat) : Prop := ∀ (w : World) (B b : Nat) (l : Bs) (d : Nat) (r : Rw) (v : Vl), Env w → 11 ≤ B → UAt w B b l → VAt w (· < B) r v → rightB d v = true → NumV v → szV v ≤ sz → l.length + (told v).length ≤ 1000000000 →
  Calls Tryz.prog 76 #[.pointer (some ⟨b, 0, none⟩), vV r] w (Put B b l (told v) w)
def UVals (sz : Nat) : Prop := ∀ (w : World) (B b : Nat) (l : Bs) (d : Nat) (u : Value) (ks : List Vl), Env w → 11 ≤ B → UAt w B b l → VsAt w (· < B) u ks → rightsB d ks = true → NumL ks → szL ks ≤ sz → l.length + (toldL ks).length ≤ 1000000000 → ks.length ≤ 1000000000 →
  Calls Tryz.prog 57 #[.pointer (some ⟨b, 0, none⟩), u] w (Put B b l (toldL ks) w)
set_option maxRecDepth 100000 in
set_option maxHeartbeats 4000000 in
theorem uvals_any {sz : Nat} (hV : UVal sz) : UVals sz := by
  intro w B b l d u ks hE hB11 h hu hr hnum hsz hl hkl
  obtain ⟨rows, hv, rfl, hrow⟩ := hu.open_
  obtain ⟨a, c, rfl, hc⟩ := hv.slice
  have H := hid h
  have HE := hid hE
  have HVs := hid hv
  have HRow := hid hrow
  have HR := hid hr
  have HNu := hid hnum
  have HSz := hid hsz
  clear h hE hv hrow hu hr hnum hsz
  simp only [List.length_map] at hc hkl ⊢
  go_enter Tryz.func57, Tryz.ntmps57
  go_wp2_with fail
  go_loopw [8] (fun i wr => ∃ k : Nat, k ≤ rows.length ∧ i = .int .i64 k ∧ UAt wr B b (l ++ toldL ((rows.map (·.2)).take k)) ∧ Below B w wr ∧ TK w wr) (fun i _ => rows.length - (intOf i).toNat)
  case atStart => exact ⟨0, by omega, rfl, by simpa [toldL, toldS] using H.out, Below.refl _ _, TK.refl _⟩
  case round =>
    obtain ⟨k, hk, rfl, h1, h2, h3⟩ := hrel
    have H1 := hid h1
    have H2 := hid h2
    have H3 := hid h3
    clear h1 h2 h3
    by_cases hlt : k < rows.length
    · have hlt' : (k : Int) < rows.length := by omega
      have hne : rows.map (·.1) ≠ [] := by intro e; have := congrArg List.length e; simp at this; subst this; simp at hlt
      obtain ⟨g, o, c', he, hc', hga, hN, hg⟩ := (HVs.out.low H2.out).at_ hne
      simp only [Value.slice.injEq] at he
      obtain ⟨rfl, _, rfl⟩ := he
      obtain ⟨p, hpk⟩ : ∃ p, rows[k] = p := ⟨_, rfl⟩
      have hp := HRow.out rows[k] (List.getElem_mem hlt)
      have hc5 := hga.v k rows[k].1 (by rw [List.getElem?_map, List.getElem?_eq_getElem hlt]; rfl)
      rw [hpk] at hp hc5
      have hxm : p.2 ∈ rows.map (·.2) := by rw [← hpk]; exact List.mem_map_of_mem (List.getElem_mem hlt)
      have hmk : (rows.map (·.2))[k]'(by simpa using hlt) = p.2 := by simp [hpk]
      have hnx := told_next (rows.map (·.2)) k (by simpa using hlt)
      rw [hmk] at hnx
      have hle := told_le (rows.map (·.2)) (k + 1)
      rw [hnx] at hle
      simp only [List.length_append] at hle
      obtain ⟨⟨rk, rx, rn, ⟨ra, rb, rc⟩, ⟨rd, re, rf⟩⟩, x⟩ := p
      obtain ⟨c0, c1, c2, c3, c4⟩ := hc5
      simp only [Sl.v] at c3 c4 hxm hnx hle
      have ha : Below wr.heap.size wr (wr.alloc (.cells #[.int .i64 rk, .string (str rx), .int .i64 rn, .slice ra rb rc, .slice rd re rf] 43)) := (Below.refl _ _).alloc (Nat.le_refl _) _
      have hv5 : Hid (V5 (wr.alloc (.cells #[.int .i64 rk, .string (str rx), .int .i64 rn, .slice ra rb rc, .slice rd re rf] 43)) wr.heap.size ⟨rk, rx, rn, (ra, rb, rc), (rd, re, rf)⟩) := V5.new wr ⟨rk, rx, rn, (ra, rb, rc), (rd, re, rf)⟩
      have HX := hid (rights_mem HR.out x hxm)
      have HXn := hid (HNu.out.mem x hxm)
      have HXs := hid (Nat.le_trans (sz_mem hxm) HSz.out)
      have HN := hid hnx
      have HLe := hid hle
      have HVA := hid (hp.low H2.out)
      have HA := hid ha
      clear hga hp hxm hmk hnx hle ha hpk
      by_cases hk0 : k = 0
      · have hk0' : ¬ (0 : Int) < k := by omega
        have D := hV _ B b _ d ⟨rk, rx, rn, (ra, rb, rc), (rd, re, rf)⟩ x (HE.out.keep (H2.out.trans (HA.out.mono H1.out.B)) hB11) hB11 (H1.out.later HA.out) (HVA.out.low (HA.out.mono H1.out.B)) HX.out HXn.out HXs.out (by have := HLe.out; rw [List.length_append]; omega)
        rw [vV_mk] at D
        obtain ⟨x0, x1, x2, x3, x4⟩ := hv5.out.cs
        simp only [Sl.v] at x3 x4
        have hN2 : Hid (toldL ((rows.map (·.2)).take (k + 1)) = toldL ((rows.map (·.2)).take k) ++ told x) := by rw [Hid, HN.out, if_pos hk0]; rfl
        clear hk0
        go_wp2_with fail
        refine D.mono ?_
        rintro e w2 ⟨rfl, k1, k2, k3⟩
        have K1 : Hid (UAt w2 B b (l ++ toldL ((rows.map (·.2)).take (k + 1)))) := by rw [Hid, hN2.out, ← List.append_assoc]; exact k1
        have K2 := hid ((H2.out.trans (HA.out.mono H1.out.B)).trans k2)
        have K3 := hid ((H3.out.trans (TK.later HA.out)).trans k3)
        clear k1 k2 k3 D x0 x1 x2 x3 x4
        go_wp2_with fail
        go_round
        case rel => exact ⟨k + 1, by omega, by go_num, K1.out, K2.out, K3.out⟩
        case measure => simp [intOf]; omega
      · have hk0' : (0 : Int) < k := by omega
        have D := put_new (H1.out.later HA.out) [[32]] (wr.heap.size + 1) 1 (by simp) rfl (by simp) (by have := HLe.out; rw [if_neg hk0] at this; simp at this ⊢; omega) #[.string ⟨#[32]⟩] rfl
        have hN2 : Hid (toldL ((rows.map (·.2)).take (k + 1)) = toldL ((rows.map (·.2)).take k) ++ [32] ++ told x) := by rw [Hid, HN.out, if_neg hk0, ← List.append_assoc]
        have hL2 : Hid (l.length + (toldL ((rows.map (·.2)).take k)).length + 1 + (told x).length ≤ 1000000000) := by have := HLe.out; rw [if_neg hk0] at this; simp at this; unfold Hid; omega
        clear hk0
        go_wp2_with fail
        refine D.mono ?_
        rintro e w2 ⟨rfl, k1, k2, k3⟩
        have K2 := hid ((H2.out.trans (HA.out.mono H1.out.B)).trans k2)
        have K3 := hid ((H3.out.trans (TK.later HA.out)).trans k3)
        have v5 := hv5.out.tk k3
        obtain ⟨x0, x1, x2, x3, x4⟩ := v5.cs
        simp only [Sl.v] at x3 x4
        have D := hV w2 B b _ d ⟨rk, rx, rn, (ra, rb, rc), (rd, re, rf)⟩ x (HE.out.keep K2.out hB11) hB11 k1 (HVA.out.low ((HA.out.mono H1.out.B).trans k2)) HX.out HXn.out HXs.out (by have := hL2.out; simp; omega)
        rw [vV_mk] at D
        clear k1 k2 k3 v5
        go_wp2_with fail
        refine D.mono ?_
        rintro e w3 ⟨rfl, k1, k2, k3⟩
        have K1 : Hid (UAt w3 B b (l ++ toldL ((rows.map (·.2)).take (k + 1)))) := by rw [Hid, hN2.out]; simpa [List.append_assoc] using k1
        have K4 := hid (K2.out.trans k2)
        have K5 := hid (K3.out.trans k3)
        clear k1 k2 k3 D x0 x1 x2 x3 x4
        go_wp2_with fail
        go_round
        case rel => exact ⟨k + 1, by omega, by go_num, K1.out, K4.out, K5.out⟩
        case measure => simp [intOf]; omega
    · have hlt' : ¬ (k : Int) < rows.length := by omega
      have HL : Hid (UAt wr B b (l ++ toldL (rows.map (·.2)))) := by have := H1.out; rw [List.take_of_length_le (by simp; omega)] at this; exact this
      go_wp2_with fail
      go_end0
      exact ⟨rfl, HL.out, H2.out, H3.out⟩
end Go.Proofs.YtpjcpdnolcehcaaGreatDoor
