/- What this text holds: a text in seven bits: the document's answer. -/
import Derived.Test.YtkmggkcipgfhdaaDoorE2
namespace Go.Proofs.YtkmggkcipgfhdaaDoor
open Go.RowKit
set_option linter.unusedVariables false
set_option linter.unusedSimpArgs false

theorem runesGo_len' : ∀ (n : Nat) (l : List UInt8), (runesGo n l).length ≤ n
  | 0, _ => by simp [runesGo]
  | n + 1, l => by
    unfold runesGo
    split
    · simp
    · have := runesGo_len' n (l.drop (Go.Lib.decodeL l).2)
      simp only [List.length_cons]
      omega
theorem fold_len' (rs : List Nat) : ∀ s : St, s.bl.length < 6 → (rs.foldl St.step s).out.length ≤ s.out.length + 10 * rs.length ∧ (rs.foldl St.step s).bl.length < 6 := by
  induction rs with
  | nil => intro s h; simp; exact h
  | cons r rs ih =>
    intro s h
    have h1 := step_out s r h
    have h2 := ih (s.step r) (step_bl s r h)
    simp only [List.foldl_cons, List.length_cons]
    exact ⟨by omega, h2.2⟩
theorem encS_len' (l : List UInt8) : (encS l).length ≤ 10 * l.length + 3 := by
  have h := fold_len' (runes l) St.zero (by simp [St.zero])
  have h2 := (shut_bl _ h.2).2
  rw [fold_zero] at h2
  have h3 := runesGo_len' l.length l
  have h4 : St.zero.out.length = 0 := rfl
  have h5 : (runes l).length ≤ l.length := h3
  show (enc [] (runes l)).length ≤ _
  omega
theorem units_lt {r : Nat} (h : r ≤ 1114111) : ∀ u ∈ units r, u < 65536 := by
  intro u hu
  unfold units at hu
  split at hu
  · simp at hu; omega
  · simp at hu
    rcases hu with hu | hu <;> omega
theorem units_two (r : Nat) : (units r).length ≤ 2 := by unfold units; split <;> simp
/-- The first byte of a plain letter. -/
theorem plain_first (s : ByteArray) (pos : Nat) (h : pos < s.size) (hp : (Utf8.decode s pos).1 ≤ 126) : s[pos].toNat = (Utf8.decode s pos).1 := by
  by_cases h1 : s[pos].toNat < 128
  · rw [decode_ascii s pos h h1]
  · exfalso
    rw [Go.Lib.decode_at] at hp
    have e : (s.get! pos).toNat = s[pos].toNat := by
      have : s.get! pos = s[pos] := by
        simp [ByteArray.get!, getElem!_pos, h]
        rfl
      rw [this]
    rw [e] at hp
    have hb := s[pos].toNat_lt
    unfold Go.Lib.decodeN at hp
    revert hp
    repeat' split
    all_goals (intro hp; simp only at hp; omega)
theorem decode_go (s : ByteArray) (pos : Nat) (h : pos < s.size) : Go.Lib.decodeGo (s.extract pos s.size) = Utf8.decode s pos := by
  unfold Go.Lib.decodeGo
  rw [if_neg, drop_str]
  · exact Go.Lib.decodeL_drop s pos
  · rw [drop_str, str_size, List.length_drop, ← Go.Lib.size_eq]
    omega
theorem decode_any (s : ByteArray) {w : World} (h : Env w) : Calls Tryd.prog 40 #[.string s] w fun e w' => e = .returned (.tuple #[.int .i32 (Go.Lib.decodeGo s).1, .int .i64 (Go.Lib.decodeGo s).2]) ∧ Below w.heap.size w w' := Tryd.utf8_DecodeRuneInString s w h.tabs

theorem app_size' (s t : ByteArray) : (s ++ t).size = s.size + t.size := by rw [app_str, str_size, List.length_append, ← Go.Lib.size_eq, ← Go.Lib.size_eq]
theorem run64_len (u : List Nat) : (run64 u).length ≤ 3 * u.length + 4 := by
  have h := grp_le (ubits u ++ pad (ubits u))
  rw [List.length_append, ubits_len, pad_len] at h
  simp only [run64, List.length_append, List.length_cons, List.length_nil]
  omega
theorem enc_on {o : List UInt8} {u : List Nat} {r : Nat} {t : List Nat} {X : List UInt8} (hp : plainR r = true) (h : o ++ enc u (r :: t) = X) : (o ++ (if u = [] then [] else run64 u) ++ plainB r) ++ enc [] t = X := by
  rw [enc, if_pos hp] at h
  rw [← h]
  simp
theorem enc_more {o : List UInt8} {u : List Nat} {r : Nat} {t : List Nat} {X : List UInt8} (hp : plainR r = false) (h : o ++ enc u (r :: t) = X) : o ++ enc (u ++ units r) t = X := by
  rw [enc, if_neg (by rw [hp]; simp)] at h
  exact h
/-- How the document's loop stands. -/
structure REnc (B : Nat) (s : ByteArray) (w0 w : World) (v : Value) (pos : Nat) (u : List Nat) (o : List UInt8) : Prop where
  io : IO w B v u
  rest : o ++ enc u (runesAt s pos) = encS s.data.toList
  ulen : u.length ≤ 2 * pos
  usm : ∀ x ∈ u, x < 65536
  top : pos ≤ s.size + 4
  below : Below B w0 w
theorem REnc.olen {B : Nat} {s : ByteArray} {w0 w : World} {v : Value} {pos : Nat} {u : List Nat} {o : List UInt8} (h : REnc B s w0 w v pos u o) : o.length ≤ 10 * s.size + 3 := by
  have h1 := congrArg List.length h.rest
  have h2 := encS_len' s.data.toList
  rw [List.length_append] at h1
  rw [← Go.Lib.size_eq] at h2
  omega
theorem one_str (c : UInt8) (w : World) : (convert 42 9 (.slice (some ⟨w.heap.size, 0, none⟩) 1 1)).run Tryd.prog (w.alloc (.cells #[.int .u8 c.toNat] 5)) = .ok (.string (str [c])) (w.alloc (.cells #[.int .u8 c.toNat] 5)) :=
  conv_bytes (B := w.heap.size) (l := [c]) ⟨rfl, .inr ⟨w.heap.size, 1, #[.int .u8 c.toNat], rfl, Nat.le_refl _, heap_alloc_new _ _, Nat.le_refl _, by unfold maxLen; omega, rfl, rfl⟩⟩

set_option maxRecDepth 100000 in
set_option maxHeartbeats 4000000 in
theorem rencode_any (s : ByteArray) {w : World} (h : Env w) (hs : s.size ≤ 4900) :
    Calls Tryd.prog 12 #[.string s] w fun e w' => e = .returned (encV s) ∧ Below w.heap.size w w' := by
  have HE0 := hid h
  clear h
  rcases Bool.eq_false_or_eq_true (Go.Lib.validD s.data.toList) with hv | hv
  · have HE : Hid (encV s = .tuple #[.string (str (encS s.data.toList)), .int .i64 0]) := by simp [Hid, encV, hv]
    have HV := hid (valid_any s HE0.out (by omega))
    rw [hv] at HV
    clear hv
    go_enter Tryd.func12, Tryd.ntmps12
    go_wp2_with fail
    refine HV.out.mono ?_
    rintro e w1 ⟨rfl, hb1⟩
    have HB1 := hid hb1
    clear hb1
    go_wp2_with fail
    go_loopw [4, 5, 6] (fun o v i wr => ∃ (pos : Nat) (u : List Nat) (out : List UInt8), i = .int .i64 pos ∧ o = .string (str out) ∧ REnc w.heap.size s w wr v pos u out) (fun _ _ i _ => s.size - (intOf i).toNat)
    case atStart => exact ⟨0, [], [], rfl, rfl, ⟨io_nil _ _, by simp only [List.nil_append]; rfl, by simp, fun x hx => by simp at hx, by omega, HB1.out⟩⟩
    case round =>
      obtain ⟨pos, u, out, rfl, rfl, hR⟩ := hrel
      obtain ⟨va, vn, vc, rfl, hvn⟩ := hR.io.slice3
      have HVn := hid hvn
      have hol := hR.olen
      have hul := hR.ulen
      have htop := hR.top
      have HR := hid hR
      have hosz : (str out).size ≤ 50000 := by rw [str_size]; omega
      clear hR hvn
      by_cases hlt : pos < s.size
      · have hlt' : (pos : Int) < s.size := by omega
        have hle' : (pos : Int) ≤ s.size := by omega
        have HStep := hid (runesAt_step s pos hlt)
        have hrw := Go.Lib.width_pos s pos
        have hr4 := width_le s pos
        have hrl := Go.Lib.rune_le s pos
        have HFirst := hid (plain_first s pos hlt)
        have HDg := hid (decode_go s pos hlt)
        go_wp2_with fail
        have C := decode_any (s.extract pos s.size) (HE0.out.later HR.out.below)
        rw [HDg.out] at C
        refine C.mono ?_
        clear C
        rintro e w2 ⟨rfl, hb2⟩
        have HB2 := hid (HR.out.below.trans (hb2.mono HR.out.below.size))
        have HIO2 := hid (HR.out.io.later hb2)
        clear hb2
        generalize (Utf8.decode s pos).1 = r at *
        generalize (Utf8.decode s pos).2 = n at *
        rcases Bool.eq_false_or_eq_true (plainR r) with hp | hp
        · have hp' : 32 ≤ r ∧ r ≤ 126 := by simpa [plainR] using hp
          have hn1 : ¬ (r : Int) < 32 := by omega
          have hn2 : ¬ (126 : Int) < r := by omega
          have HC : Hid (s[pos].toNat = r) := HFirst.out hp'.2
          have HCu : Hid (s[pos] = UInt8.ofNat r) := by
            rw [Hid, ← HC.out]; simp
          have HP := hid hp
          clear hp hp' HFirst
          by_cases hu : u = []
          · have hvn0 : ¬ (0 : Int) < vn := by rw [HVn.out, hu]; simp
            have hz : (if u = [] then [] else run64 u : List UInt8) = [] := if_pos hu
            have HZ := hid hz
            have HBW := HB2
            clear hz
            have hcv := one_str s[pos] w2
            have HRest : Hid ((out ++ (if u = [] then [] else run64 u) ++ plainB r) ++ enc [] (runesAt s (pos + n)) = encS s.data.toList) := enc_on HP.out (by have := HR.out.rest; rw [HStep.out] at this; exact this)
            have hss1 : (str [s[pos]]).size ≤ 10 := by rw [str_size]; simp
            have hss2 : (str out ++ str [s[pos]]).size ≤ 200000 := by rw [app_size']; omega
            have hss3 : (str out).size ≤ 150000 := by omega
            by_cases h38 : r = 38
            · have hq : ((s[pos].toNat : Int) == 38) = true := by rw [HC.out, h38]; rfl
              have HStr : Hid (str out ++ str [s[pos]] ++ (⟨#[45]⟩ : ByteArray) = str (out ++ (if u = [] then [] else run64 u) ++ plainB r)) := by
                rw [Hid, HZ.out, plainB, if_pos h38, app_str, app_str, str_data, str_data, HCu.out, h38]
                simp
                rfl
              clear h38
              go_wp2_with fail
              go_roundw
              case rel => exact ⟨pos + n, [], _, by go_num, by rw [← HStr.out], ⟨(by have := HIO2.out; rw [hu] at this; exact this.later ((Below.refl _ _).alloc (Nat.le_refl _) _)), HRest.out, by simp, fun x hx => by simp at hx, by omega, HBW.out.alloc HBW.out.size _⟩⟩
              case measure => simp [intOf]; omega
            · have hq : ((s[pos].toNat : Int) == 38) = false := by rw [HC.out]; simp; omega
              have HStr : Hid (str out ++ str [s[pos]] = str (out ++ (if u = [] then [] else run64 u) ++ plainB r)) := by
                rw [Hid, HZ.out, plainB, if_neg h38, app_str, str_data, str_data, HCu.out]
                try simp
              clear h38
              go_wp2_with fail
              go_roundw
              case rel => exact ⟨pos + n, [], _, by go_num, by rw [← HStr.out], ⟨(by have := HIO2.out; rw [hu] at this; exact this.later ((Below.refl _ _).alloc (Nat.le_refl _) _)), HRest.out, by simp, fun x hx => by simp at hx, by omega, HBW.out.alloc HBW.out.size _⟩⟩
              case measure => simp [intOf]; omega
          · have hvn0 : (0 : Int) < vn := by rw [HVn.out]; have := List.length_pos_iff.2 hu; omega
            have hz : (if u = [] then [] else run64 u : List UInt8) = run64 u := if_neg hu
            have HZ := hid hz
            have hrl64 := run64_len u
            have hrsz : (str (run64 u)).size ≤ 50000 := by rw [str_size]; omega
            clear hz
            go_wp2_with fail
            refine (shifted_any HIO2.out.il (by omega) HR.out.usm).mono ?_
            rintro e w3 ⟨rfl, hb3⟩
            have HBW := hid (HB2.out.trans (hb3.mono HB2.out.size))
            clear hb3
            have hcv := one_str s[pos] w3
            have HRest : Hid ((out ++ (if u = [] then [] else run64 u) ++ plainB r) ++ enc [] (runesAt s (pos + n)) = encS s.data.toList) := enc_on HP.out (by have := HR.out.rest; rw [HStep.out] at this; exact this)
            have hss1 : (str [s[pos]]).size ≤ 10 := by rw [str_size]; simp
            have hss2 : ((str out ++ str (run64 u)) ++ str [s[pos]]).size ≤ 200000 := by rw [app_size', app_size']; omega
            have hss3 : ((str out ++ str (run64 u))).size ≤ 150000 := by rw [app_size']; omega
            by_cases h38 : r = 38
            · have hq : ((s[pos].toNat : Int) == 38) = true := by rw [HC.out, h38]; rfl
              have HStr : Hid ((str out ++ str (run64 u)) ++ str [s[pos]] ++ (⟨#[45]⟩ : ByteArray) = str (out ++ (if u = [] then [] else run64 u) ++ plainB r)) := by
                rw [Hid, HZ.out, plainB, if_pos h38, app_str, app_str, app_str, str_data, str_data, str_data, str_data, HCu.out, h38]
                simp
                rfl
              clear h38
              go_wp2_with fail
              go_roundw
              case rel => exact ⟨pos + n, [], _, by go_num, by rw [← HStr.out], ⟨io_nil _ _, HRest.out, by simp, fun x hx => by simp at hx, by omega, HBW.out.alloc HBW.out.size _⟩⟩
              case measure => simp [intOf]; omega
            · have hq : ((s[pos].toNat : Int) == 38) = false := by rw [HC.out]; simp; omega
              have HStr : Hid ((str out ++ str (run64 u)) ++ str [s[pos]] = str (out ++ (if u = [] then [] else run64 u) ++ plainB r)) := by
                rw [Hid, HZ.out, plainB, if_neg h38, app_str, app_str, str_data, str_data, str_data, str_data, HCu.out]
                try simp
              clear h38
              go_wp2_with fail
              go_roundw
              case rel => exact ⟨pos + n, [], _, by go_num, by rw [← HStr.out], ⟨io_nil _ _, HRest.out, by simp, fun x hx => by simp at hx, by omega, HBW.out.alloc HBW.out.size _⟩⟩
              case measure => simp [intOf]; omega
        · have hp' : (r : Int) < 32 ∨ (126 : Int) < r := by
            rcases Nat.lt_or_ge r 32 with h | h
            · exact .inl (by omega)
            · right
              rcases Nat.lt_or_ge 126 r with h2 | h2
              · omega
              · exfalso
                have : plainR r = true := by simp [plainR]; omega
                rw [this] at hp; cases hp
          have HP := hid hp
          clear hp HFirst
          rcases hp' with hlo | hhi
          · go_wp2_with fail
            refine (runits_any r hrl w2).mono ?_
            rintro e w3 ⟨⟨v3, rfl, hil3, hob3⟩, hb3⟩
            obtain ⟨xa, xc, rfl, _⟩ := id hil3
            have HIL3 := hid hil3
            have HBes : Hid (Beside w3 (.slice xa (units r).length xc) (.slice va vn vc)) := fun g hg => by
              rw [hob3] at hg
              have hg' := Option.some.inj hg
              subst hg'
              refine ⟨fun e => ?_, ?_⟩
              · have := (World.ownsRow.lt HIO2.out _ e).2
                omega
              · rcases hil3 with ⟨a', c', e', hh⟩
                cases e'
                rcases hh with hh | ⟨g, o, hh1, hh2⟩
                · exact absurd hh (units_ne r)
                · have hpos := List.length_pos_iff.2 (units_ne r)
                  have := World.block_lt_of_cell? w3 _ (hh2 0 _ (List.getElem?_eq_getElem hpos))
                  subst hh1
                  simp only [Value.ownBlock, Option.some.injEq] at hob3
                  rw [← hob3]
                  exact this
            have HB3 := hid (HB2.out.trans (hb3.mono HB2.out.size))
            have HIO3 := hid (HIO2.out.later hb3)
            have hu2 := units_two r
            generalize hun : (units r).length = un at *
            have HUn := hid hun
            clear hil3 hb3 hun hob3
            go_wp2_with fail
            go_loopw [5, 11] (fun v i wr => ∃ k : Nat, k ≤ un ∧ i = .int .i64 k ∧ IO wr w.heap.size v (u ++ (units r).take k) ∧ (IL wr (.slice xa un xc) (units r) ∧ Beside wr (.slice xa un xc) v) ∧ Below w.heap.size w wr) (fun _ i _ => un - (intOf i).toNat)
            case atStart => exact ⟨0, by omega, rfl, by simpa using HIO3.out, ⟨HIL3.out, HBes.out⟩, HB3.out⟩
            case round =>
              obtain ⟨k, hk, rfl, ho, hb, hbb⟩ := hrel
              have HO := hid ho
              have HB := hid hb
              have HBB := hid hbb
              obtain ⟨ya, yn, yc, rfl, hyn⟩ := ho.slice3
              have HYn := hid hyn
              clear ho hb hbb hyn
              by_cases hkl : k < un
              · have hkl' : (k : Int) < un := by omega
                have hku : k < (units r).length := by rw [HUn.out]; exact hkl
                obtain ⟨g, o, rfl, hcell⟩ := HB.out.1.at k hku
                have HTk : Hid ((units r).take (k + 1) = (units r).take k ++ [(units r)[k]]) := List.take_succ_eq_append_getElem hku
                obtain ⟨v', w4, hrun, ho2, hb2, hkk, hoo⟩ := io_more2 HO.out HBB.out.size ((units r)[k]'hku) (by rw [List.length_append, List.length_take]; omega)
                generalize (units r)[k]'hku = x at *
                have HRun := hid hrun
                have HO2 := hid ho2
                have HB2' := hid (HBB.out.trans hb2)
                obtain ⟨be, bq, bf, rfl, hbq⟩ := ho2.slice3
                have HBK := hid (il_beside HB.out.1 HB.out.2 hb2.size hkk hoo)
                clear hrun ho2 hbq hb2 hkk hoo
                go_wp2_with (at_builtin; refine wpList_append_run rfl rfl HRun.out ?_)
                go_roundw
                case rel => exact ⟨k + 1, by omega, by go_num, by rw [HTk.out, ← List.append_assoc]; exact HO2.out, HBK.out, HB2'.out⟩
                case measure => simp [intOf]; omega
              · have HT : Hid ((units r).take k = units r) := by rw [Hid, List.take_of_length_le (by rw [HUn.out]; omega)]
                rw [HT.out] at HO
                go_wp2_with fail
                go_roundw
                case rel => exact ⟨pos + n, u ++ units r, out, by go_num, rfl, ⟨HO.out, enc_more HP.out (by have := HR.out.rest; rw [HStep.out] at this; exact this), by rw [List.length_append, HUn.out]; omega, fun x hx => by
                  rcases List.mem_append.1 hx with hx | hx
                  · exact HR.out.usm x hx
                  · exact units_lt hrl x hx, by omega, HBB.out⟩⟩
                case measure => simp [intOf]; omega
          · by_cases hlo : (r : Int) < 32
            · exfalso; omega
            · go_wp2_with fail
              refine (runits_any r hrl w2).mono ?_
              rintro e w3 ⟨⟨v3, rfl, hil3, hob3⟩, hb3⟩
              obtain ⟨xa, xc, rfl, _⟩ := id hil3
              have HIL3 := hid hil3
              have HBes : Hid (Beside w3 (.slice xa (units r).length xc) (.slice va vn vc)) := fun g hg => by
                rw [hob3] at hg
                have hg' := Option.some.inj hg
                subst hg'
                refine ⟨fun e => ?_, ?_⟩
                · have := (World.ownsRow.lt HIO2.out _ e).2
                  omega
                · rcases hil3 with ⟨a', c', e', hh⟩
                  cases e'
                  rcases hh with hh | ⟨g, o, hh1, hh2⟩
                  · exact absurd hh (units_ne r)
                  · have hpos := List.length_pos_iff.2 (units_ne r)
                    have := World.block_lt_of_cell? w3 _ (hh2 0 _ (List.getElem?_eq_getElem hpos))
                    subst hh1
                    simp only [Value.ownBlock, Option.some.injEq] at hob3
                    rw [← hob3]
                    exact this
              have HB3 := hid (HB2.out.trans (hb3.mono HB2.out.size))
              have HIO3 := hid (HIO2.out.later hb3)
              have hu2 := units_two r
              generalize hun : (units r).length = un at *
              have HUn := hid hun
              clear hil3 hb3 hun hob3
              go_wp2_with fail
              go_loopw [5, 11] (fun v i wr => ∃ k : Nat, k ≤ un ∧ i = .int .i64 k ∧ IO wr w.heap.size v (u ++ (units r).take k) ∧ (IL wr (.slice xa un xc) (units r) ∧ Beside wr (.slice xa un xc) v) ∧ Below w.heap.size w wr) (fun _ i _ => un - (intOf i).toNat)
              case atStart => exact ⟨0, by omega, rfl, by simpa using HIO3.out, ⟨HIL3.out, HBes.out⟩, HB3.out⟩
              case round =>
                obtain ⟨k, hk, rfl, ho, hb, hbb⟩ := hrel
                have HO := hid ho
                have HB := hid hb
                have HBB := hid hbb
                obtain ⟨ya, yn, yc, rfl, hyn⟩ := ho.slice3
                have HYn := hid hyn
                clear ho hb hbb hyn
                by_cases hkl : k < un
                · have hkl' : (k : Int) < un := by omega
                  have hku : k < (units r).length := by rw [HUn.out]; exact hkl
                  obtain ⟨g, o, rfl, hcell⟩ := HB.out.1.at k hku
                  have HTk : Hid ((units r).take (k + 1) = (units r).take k ++ [(units r)[k]]) := List.take_succ_eq_append_getElem hku
                  obtain ⟨v', w4, hrun, ho2, hb2, hkk, hoo⟩ := io_more2 HO.out HBB.out.size ((units r)[k]'hku) (by rw [List.length_append, List.length_take]; omega)
                  generalize (units r)[k]'hku = x at *
                  have HRun := hid hrun
                  have HO2 := hid ho2
                  have HB2' := hid (HBB.out.trans hb2)
                  obtain ⟨be, bq, bf, rfl, hbq⟩ := ho2.slice3
                  have HBK := hid (il_beside HB.out.1 HB.out.2 hb2.size hkk hoo)
                  clear hrun ho2 hbq hb2 hkk hoo
                  go_wp2_with (at_builtin; refine wpList_append_run rfl rfl HRun.out ?_)
                  go_roundw
                  case rel => exact ⟨k + 1, by omega, by go_num, by rw [HTk.out, ← List.append_assoc]; exact HO2.out, HBK.out, HB2'.out⟩
                  case measure => simp [intOf]; omega
                · have HT : Hid ((units r).take k = units r) := by rw [Hid, List.take_of_length_le (by rw [HUn.out]; omega)]
                  rw [HT.out] at HO
                  go_wp2_with fail
                  go_roundw
                  case rel => exact ⟨pos + n, u ++ units r, out, by go_num, rfl, ⟨HO.out, enc_more HP.out (by have := HR.out.rest; rw [HStep.out] at this; exact this), by rw [List.length_append, HUn.out]; omega, fun x hx => by
                    rcases List.mem_append.1 hx with hx | hx
                    · exact HR.out.usm x hx
                    · exact units_lt hrl x hx, by omega, HBB.out⟩⟩
                  case measure => simp [intOf]; omega
      · have hre := runesAt_end s pos hlt
        have HTot := HR.out.rest
        rw [hre, enc] at HTot
        by_cases hu : u = []
        · have hvn0 : ¬ (0 : Int) < vn := by rw [HVn.out, hu]; simp
          have HF : Hid (str out = str (encS s.data.toList)) := by
            rw [if_pos hu, List.append_nil] at HTot
            rw [Hid, HTot]
          clear HTot hre
          go_wp2_with fail
          go_ret2
          rw [HE.out, ← HF.out]
          exact ⟨rfl, HR.out.below⟩
        · have hvn0 : (0 : Int) < vn := by rw [HVn.out]; have := List.length_pos_iff.2 hu; omega
          have hrl64 := run64_len u
          have hrsz : (str (run64 u)).size ≤ 50000 := by rw [str_size]; omega
          have HF : Hid (str out ++ str (run64 u) = str (encS s.data.toList)) := by
            rw [if_neg hu] at HTot
            rw [Hid, app_str, str_data, str_data, HTot]
          clear HTot hre
          go_wp2_with fail
          refine (shifted_any HR.out.io.il (by omega) HR.out.usm).mono ?_
          rintro e w3 ⟨rfl, hb3⟩
          have HBW := hid (HR.out.below.trans (hb3.mono HR.out.below.size))
          clear hb3
          go_wp2_with fail
          go_ret2
          rw [HE.out, ← HF.out]
          exact ⟨rfl, HBW.out⟩
  · have HE : Hid (encV s = .tuple #[.string ⟨#[]⟩, .int .i64 11]) := by simp [Hid, encV, hv]
    have HV := hid (valid_any s HE0.out (by omega))
    rw [hv] at HV
    clear hv
    go_enter Tryd.func12, Tryd.ntmps12
    go_wp2_with fail
    refine HV.out.mono ?_
    rintro e w1 ⟨rfl, hb1⟩
    have HB1 := hid hb1
    clear hb1
    go_wp2_with fail
    go_ret2
    rw [HE.out]
    exact ⟨rfl, HB1.out⟩
end Go.Proofs.YtkmggkcipgfhdaaDoor
