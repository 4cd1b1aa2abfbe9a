/- What this text holds: fields' names and values; a value on one line; names in small letters. -/
import Derived.Test.YtaniljfjmbifnaaGreatDoorHM5
namespace Go.Proofs.YtaniljfjmbifnaaGreatDoor.H
open Go.RowKit
set_option linter.unusedVariables false
set_option linter.unusedSimpArgs false

theorem RA.rec {w : World} {g o k : Nat} {l : List (List Bs)} (h : RA w g o k l) (j : Nat) (r : List Bs) (hr : l[j]? = some r) (i : Nat) (p : Bs) (hp : r[i]? = some p) : w.cell? ⟨g, o + j * k + i, none⟩ = some (.string (str p)) := by
  have := h j i r p hr hp
  rw [← Nat.add_assoc] at this
  exact this
theorem RO.base {w : World} {B B' T k : Nat} {v : Value} {l : List (List Bs)} (h : RO w B T k v l) (hB : B' ≤ B) : RO w B' T k v l := ⟨h.1, ownsRow_base h.2 hB⟩
theorem RO.sliceN {w : World} {B T k : Nat} {v : Value} {l : List (List Bs)} (h : RO w B T k v l) {n : Nat} (hn : l.length = n) : ∃ a c, v = .slice a n c := by subst hn; exact h.slice
/-- One more record. -/
theorem ro_one {w : World} {B T t k by_ : Nat} {z : Value} (ut : Tryz.prog.underlying t = some (.slice T)) (inf : (Tryz.prog.info? T).map (fun i => (i.zero, i.size, i.bytes)) = some (some z, k, by_)) (hz : z.cells.size = k) (hk : 0 < k) (hby : by_ ≤ 1000)
    {v : Value} {l : List (List Bs)} (h : RO w B T k v l) (hBw : B ≤ w.heap.size) (hl : l.length ≤ 10000000) (r : List Bs) (hr : r.length = k) (n : Nat) (hn : w.heap.size = n) :
    ∃ v' w', (Builtin.append_ #[t, t] t #[v, .slice (some ⟨n, 0, none⟩) 1 1]).run Tryz.prog (w.alloc (.cells (r.map fun p => Value.string (str p)).toArray T)) = .ok v' w' ∧ RO w' B T k v' (l ++ [r]) ∧ Below B w w' := by
  subst hn
  have hb : Below w.heap.size w (w.alloc (.cells (r.map fun p => Value.string (str p)).toArray T)) := (Below.refl _ _).alloc (Nat.le_refl _) _
  have hra := ra_one w r T
  rw [hr] at hra
  obtain ⟨v', w', h1, h2, h3, h4⟩ := ro_more ut inf hz hk hby (h.later hb) (Nat.le_trans hBw hb.size) hra hl (by simp) (by simp)
  exact ⟨v', w', h1, h2, (hb.mono hBw).trans h3⟩

def fR (f : Bs × Bs) : List Bs := [f.1, f.2]
def fOf (e : Bs × Bs) : List Bs := [e.1, bare (e.2.drop (e.1.length + 1))]
theorem fields_map (s : Bs) : (fieldsP s).map fR = (ents s).map fOf := by
  unfold fieldsP
  rw [List.map_map]
  rfl
theorem entN_len : ∀ (n : Nat) (s : Bs), s.length ≤ n → (ents s).length ≤ s.length
  | 0, s, h => by
    have : s = [] := List.eq_nil_of_length_eq_zero (by omega)
    subst this; exact Nat.le_refl _
  | n + 1, s, h => by
    by_cases h0 : s = []
    · subst h0; exact Nat.le_refl _
    · have h1 := ln_pos s h0
      have h2 := ln_le s
      have h3 := fl_pos s h0
      have h4 := fl_le s
      have h5 := entN_len n (s.drop (ln s)) (by simp; omega)
      have h6 := entN_len n (s.drop (fl s)) (by simp; omega)
      simp at h5 h6
      rw [ents_step s h0]
      split
      · omega
      · simp; omega
theorem ents_len (s : Bs) : (ents s).length ≤ s.length := entN_len _ s (Nat.le_refl _)

set_option maxRecDepth 100000 in
set_option maxHeartbeats 4000000 in
theorem fields_any (s : Bs) {w : World} (he : Env w) (hs : s.length ≤ 1000000) :
    Calls Tryz.prog 65 #[.string (str s)] w fun e w' => (∃ v, e = .returned v ∧ RO w' w.heap.size 108 2 v ((fieldsP s).map fR)) ∧ Below w.heap.size w w' := by
  have HC := hid (entries_any s he hs)
  rw [fields_map]
  have hLl := ents_len s
  generalize ents s = L at *
  go_enter Tryz.func65, Tryz.ntmps65
  go_wp2_with fail
  refine HC.out.mono ?_
  rintro e w1 ⟨⟨v, rfl, ho⟩, hb⟩
  obtain ⟨hw, a, c, rfl, hc, hr⟩ := ho.rl
  have HB1 := hid hb
  rw [List.length_map] at *
  clear ho hb HC
  rcases hr with hr | ⟨g, o, rfl, hr, hg⟩
  · have : L = [] := by simpa using hr
    subst this
    go_wp2_with fail
    go_loopw [3, 9] (fun v i wr => v = .slice none 0 0 ∧ i = .int .i64 0 ∧ wr = w1) (fun _ _ _ => 0)
    case atStart => exact ⟨rfl, rfl, rfl⟩
    case round =>
      obtain ⟨rfl, rfl, rfl⟩ := hrel
      go_wp2_with fail
      go_ret
      exact ⟨⟨_, rfl, RO.nil _ _ _ _⟩, HB1.out⟩
  · have HR := hid hr
    have HW1 := hid HB1.out.size
    clear hr
    go_wp2_with fail
    go_loopw [3, 9] (fun v i wr => ∃ k : Nat, k ≤ L.length ∧ i = .int .i64 k ∧ RO wr w1.heap.size 108 2 v ((L.take k).map fOf) ∧ Below w1.heap.size w1 wr) (fun _ i _ => L.length - (intOf i).toNat)
    case atStart => exact ⟨0, by omega, rfl, RO.nil _ _ _ _, Below.refl _ _⟩
    case round =>
      obtain ⟨k, hk, rfl, ho2, hb2⟩ := hrel
      have HB2 := hid hb2
      have HO2 := hid ho2
      clear ho2 hb2
      by_cases hlt : k < L.length
      · have hlt' : (k : Int) < L.length := by omega
        have HR2 := hid (HR.out.later HB2.out)
        have hrec : (L.map entR)[k]? = some (entR L[k]) := by rw [List.getElem?_map, List.getElem?_eq_getElem hlt]; rfl
        have hc0 : wr.cell? ⟨g, o + k * 3, none⟩ = some (.string (str L[k].1)) := HR2.out.rec k _ hrec 0 _ rfl
        have hc1 : wr.cell? ⟨g, o + k * 3 + 1, none⟩ = some (.string (str (bare (L[k].2.drop (L[k].1.length + 1))))) := HR2.out.rec k _ hrec 1 _ rfl
        have hc2 : wr.cell? ⟨g, o + k * 3 + 2, none⟩ = some (.string (str L[k].2)) := HR2.out.rec k _ hrec 2 _ rfl
        have HN : Hid ((L.take (k + 1)).map fOf = (L.take k).map fOf ++ [fOf L[k]]) := by rw [Hid, List.take_succ_eq_append_getElem hlt, List.map_append]; rfl
        have HF : Hid (fOf L[k] = [L[k].1, bare (L[k].2.drop (L[k].1.length + 1))]) := rfl
        generalize L[k].1 = x at *
        generalize bare (L[k].2.drop (x.length + 1)) = y at *
        generalize L[k].2 = z at *
        have HOa := hid (HO2.out.later ((Below.refl _ wr).alloc (Nat.le_refl _) (.cells #[.string (str x), .string (str y), .string (str z)] 127)))
        obtain ⟨v', w', hr', ho', hb'⟩ := ro_one Tryz.underlying46 Tryz.info108 rfl (by omega) (by omega) HOa.out (by have := HB2.out.size; simp; omega) (by simp; omega) (fOf L[k]) rfl (wr.heap.size + 1) (by simp)
        rw [← HN.out] at ho'
        rw [HF.out] at hr'
        have HR' := hid hr'
        have HO' := hid ho'
        have HB' := hid ((HB2.out.alloc HB2.out.size _).trans hb')
        clear hr' ho' hb' hrec HN HF
        obtain ⟨a0, c0, hv0⟩ := HO2.out.sliceN (n := k) (by simp; omega)
        obtain ⟨a5, c5, hv5⟩ := HO'.out.sliceN (n := k + 1) (by simp; omega)
        subst hv0 hv5
        go_wp2_with (at_builtin; refine wpList_append_run rfl rfl HR'.out ?_)
        go_roundw
        case rel => exact ⟨k + 1, by omega, by go_num, HO'.out, HB'.out⟩
        case measure => simp [intOf]; omega
      · have hlt' : ¬ (k : Int) < L.length := by omega
        go_wp2_with fail
        go_ret
        have e := HO2.out
        rw [List.take_of_length_le (by omega)] at e
        exact ⟨⟨_, rfl, e.base HW1.out⟩, HB1.out.trans (HB2.out.mono HW1.out)⟩

theorem u32 {l : Bs} (h : l.length ≤ 10000000) : (str l).size < 4294967281 := by rw [str_size]; omega
set_option maxRecDepth 100000 in
set_option maxHeartbeats 4000000 in
theorem unfold_any (s : Bs) {w : World} (he : Env w) (hs : s.length ≤ 10000000) :
    Calls Tryz.prog 103 #[.string (str s)] w fun e w' => e = .returned (.string (str (unf s))) ∧ Below w.heap.size w w' := by
  have hl1 := List.length_filter_le (fun x : UInt8 => x != 10) s
  have hl2 := List.length_filter_le (fun x : UInt8 => x != 13) (s.filter (fun x => x != 10))
  have HU : Hid (unf s = trimW ((s.filter (· != 10)).filter (· != 13))) := rfl
  obtain ⟨m, hm⟩ := id he
  have C1 := Tryz.strings_ReplaceAll (str s) (str [10]) (str []) m w (u32 hs) hm (by rw [str_size]; simp) (by rw [str_size, str_size]; simp; omega)
  rw [str_data, str_data, str_data, replAll] at C1
  have HC1 := hid C1
  have C2 : ∀ W, Env W → Calls Tryz.prog 151 #[.string (str (s.filter (· != 10))), .string ⟨#[13]⟩, .string ⟨#[]⟩] W fun e w' => e = .returned (.string (str ((s.filter (· != 10)).filter (· != 13)))) ∧ Below W.heap.size W w' := by
    rintro W ⟨m, hm⟩
    have C := Tryz.strings_ReplaceAll (str (s.filter (· != 10))) (str [13]) (str []) m W (u32 (by omega)) hm (by rw [str_size]; simp) (by rw [str_size, str_size]; simp; omega)
    rw [str_data, str_data, str_data, replAll] at C
    exact C
  have HC2 := hid C2
  have HC3 := hid (fun W => Tryz.strings_Trim_set (str ((s.filter (· != 10)).filter (· != 13))) ⟨#[32, 9]⟩ W (by rw [str_size]; omega) (by decide) (ascii_of_all (by decide)))
  have HE := hid he
  rw [HU.out]
  clear C1 C2 hm he hl1 hl2 HU
  generalize (s.filter (· != 10)).filter (· != 13) = z at *
  generalize s.filter (· != 10) = y at *
  go_enter Tryz.func103, Tryz.ntmps103
  go_wp2_with fail
  refine HC1.out.mono ?_
  rintro e w1 ⟨rfl, hb⟩
  have HB1 := hid hb
  clear hb
  go_wp2_with fail
  refine (HC2.out _ (HE.out.later HB1.out)).mono ?_
  rintro e w2 ⟨rfl, hb⟩
  have HB2 := hid (HB1.out.trans (hb.mono HB1.out.size))
  clear hb
  go_wp2_with fail
  refine (HC3.out _).mono ?_
  rintro e w3 ⟨rfl, hb⟩
  have HB3 := hid (HB2.out.trans (hb.mono HB2.out.size))
  clear hb
  go_wp2_with fail
  go_ret
  exact ⟨rfl, HB3.out⟩
end Go.Proofs.YtaniljfjmbifnaaGreatDoor.H
