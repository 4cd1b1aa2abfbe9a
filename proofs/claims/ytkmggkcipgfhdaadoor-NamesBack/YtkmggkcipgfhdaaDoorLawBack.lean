/- Proved here: a text in seven bits is read as it was, has plain bytes alone, and no other text has it (NamesBack returns true for every input, and leaves its arguments as they were). No condition beyond what the card says: two tables of the library hold what its text lays. -/
import Derived.Test.YtkmggkcipgfhdaaDoorCards
import Derived.Test.YtkmggkcipgfhdaaDoorTie
import Derived.Test.YtkmggkcipgfhdaaDoorFrame
import Derived.Test.YtkmggkcipgfhdaaDoorQ3
import Derived.ProofKit
import Derived.OpenShut
import Derived.ShutString
import Derived.Below
namespace Go.Proofs.YtkmggkcipgfhdaaDoor.namesBack
open Go.ChangeShapes Go.WideShapes Go.ChangeAt Go.RowKit
open Go.ChangeMaps (open_string shut_string)
set_option linter.unusedVariables false
set_option linter.unusedSimpArgs false

theorem encV_ok {s : ByteArray} (h : Go.Lib.validD s.data.toList = true) : encV s = .tuple #[.string (str (encS s.data.toList)), .int .i64 0] := by unfold encV; rw [if_pos h]
theorem encV_no {s : ByteArray} (h : Go.Lib.validD s.data.toList = false) : encV s = .tuple #[.string ⟨#[]⟩, .int .i64 11] := by unfold encV; rw [if_neg (by rw [h]; simp)]
theorem runesGo_len : ∀ (n : Nat) (l : List UInt8), (runesGo n l).length ≤ n
  | 0, _ => by simp [runesGo]
  | n + 1, l => by
    unfold runesGo
    split
    · simp
    · have := runesGo_len n (l.drop (Go.Lib.decodeL l).2)
      simp only [List.length_cons]
      omega
theorem fold_len (rs : List Nat) : ∀ s : St, s.bl.length < 6 → (rs.foldl St.step s).out.length ≤ s.out.length + 10 * rs.length ∧ (rs.foldl St.step s).bl.length < 6 := by
  induction rs with
  | nil => intro s h; simp; exact h
  | cons r rs ih =>
    intro s h
    have h1 := step_out s r h
    have h2 := ih (s.step r) (step_bl s r h)
    simp only [List.foldl_cons, List.length_cons]
    exact ⟨by omega, h2.2⟩
theorem encS_len (l : List UInt8) : (encS l).length ≤ 10 * l.length + 3 := by
  have h := fold_len (runes l) St.zero (by simp [St.zero])
  have h2 := (shut_bl _ h.2).2
  rw [fold_zero] at h2
  have h3 := runesGo_len l.length l
  have h4 : St.zero.out.length = 0 := rfl
  have h5 : (runes l).length ≤ l.length := h3
  show (enc [] (runes l)).length ≤ _
  omega
theorem loose_len : ∀ (n : Nat) (l t : List UInt8), loose n l = some t → t.length ≤ 4 * l.length
  | 0, l, t, h => by simp [loose] at h; subst h; simp
  | n + 1, l, t, h => by
    by_cases h0 : l = []
    · subst h0; rw [loose_nil] at h; cases h; simp
    · rcases Bool.eq_false_or_eq_true (cutc 38 l).2.2 with h1 | h1
      · rcases Bool.eq_false_or_eq_true (cutc 45 (cutc 38 l).2.1).2.2 with h2 | h2
        · rcases hr : readP (cutc 45 (cutc 38 l).2.1).1 with _ | o
          · rw [loose_bad h0 h1 h2 hr] at h; cases h
          · rw [loose_on h0 h1 h2 hr] at h
            obtain ⟨x, hx, rfl⟩ := Option.map_eq_some_iff.1 h
            have l1 := (cut_len 38 l).2 h1
            have l2 := (cut_len 45 (cutc 38 l).2.1).2 h2
            have l3 := readP_len hr
            have l4 := loose_len n _ x hx
            simp only [List.length_append]
            omega
        · rw [loose_open h0 h1 h2] at h; cases h
      · rw [loose_end h0 h1] at h
        cases h
        have := (cut_len 38 l).1
        omega
theorem decV_back {l : List UInt8} (h : Go.Lib.validD l = true) : decV (str (encS l)) = .tuple #[.string (str l), .int .i64 0] := by
  unfold decV
  rw [str_data, str_size, show loose (encS l).length (encS l) = some l from back_all l h]
  simp only [h, and_self, if_true]
theorem decV_cases (s : ByteArray) : decV s = .tuple #[.string ⟨#[]⟩, .int .i64 11] ∨ ∃ d, Go.Lib.validD d = true ∧ encS d = s.data.toList ∧ d.length ≤ 4 * s.size ∧ decV s = .tuple #[.string (str d), .int .i64 0] := by
  unfold decV
  rcases h : loose s.size s.data.toList with _ | d
  · exact .inl rfl
  · by_cases hc : Go.Lib.validD d = true ∧ encS d = s.data.toList
    · right
      have hl := loose_len _ _ _ h
      rw [← Go.Lib.size_eq] at hl
      exact ⟨d, hc.1, hc.2, hl, by simp only [if_pos hc]⟩
    · left
      simp only [if_neg hc]

set_option maxRecDepth 100000 in
set_option maxHeartbeats 4000000 in
theorem walk (a0 a1 : ByteArray) {w : World} (h : Env w) (h0 : a0.size ≤ maxLen) (h1 : a1.size ≤ maxLen) :
    Calls Tryd.prog 4 #[.string a0, .string a1] w fun e w' => e = .returned (.bool true) ∧ Below w.heap.size w w' := by
  have HE := hid h
  clear h
  unfold maxLen at h0 h1
  by_cases g0 : (2000 : Int) < a0.size
  · go_enter Tryd.func4, Tryd.ntmps4
    go_wp2_with fail
    refine (alive_any HE.out).mono ?_
    rintro e w1 ⟨rfl, hb⟩
    have HB := hid hb
    clear hb
    go_wp2_with fail
    go_ret
    exact ⟨rfl, HB.out⟩
  by_cases g1 : (2000 : Int) < a1.size
  · go_enter Tryd.func4, Tryd.ntmps4
    go_wp2_with fail
    refine (alive_any HE.out).mono ?_
    rintro e w1 ⟨rfl, hb⟩
    have HB := hid hb
    clear hb
    go_wp2_with fail
    go_ret
    exact ⟨rfl, HB.out⟩
  rcases Bool.eq_false_or_eq_true (Go.Lib.validD a0.data.toList) with hv | hv
  · have HV := hid hv
    clear hv
    have hl := encS_len a0.data.toList
    rw [← Go.Lib.size_eq] at hl
    have HD := hid (decV_back HV.out)
    have HPl : Hid (∀ c ∈ encS a0.data.toList, 32 ≤ c.toNat ∧ c.toNat ≤ 126) := enc_plain _ []
    have q1 : ((str a0.data.toList).toList == a0.toList) = true := by rw [str_of]; simp
    rcases Bool.eq_false_or_eq_true (Go.Lib.validD a1.data.toList) with ht | ht
    · have HT := hid ht
      have q2 : ((str (encS a0.data.toList)).toList == (str (encS a1.data.toList)).toList) = (a0.toList == a1.toList) := by
        rw [Bool.eq_iff_iff, beq_iff_eq, beq_iff_eq, Go.Lib.toList_data, Go.Lib.toList_data, Go.Lib.toList_data, Go.Lib.toList_data, str_data, str_data]
        exact ⟨fun e => enc_inj HV.out HT.out e, fun e => by rw [e]⟩
      clear ht
      go_enter Tryd.func4, Tryd.ntmps4
      go_wp2_with fail
      have C := enc_any a0 HE.out (by omega)
      rw [encV_ok HV.out] at C
      refine C.mono ?_
      clear C
      rintro e u1 ⟨rfl, hb⟩
      have HBu1 := hid hb
      clear hb
      go_wp2_with fail
      have C := enc_any a1 (HE.out.later HBu1.out) (by omega)
      rw [encV_ok HT.out] at C
      refine C.mono ?_
      clear C
      rintro e u2 ⟨rfl, hb⟩
      have HBu2 := hid (HBu1.out.trans (hb.mono HBu1.out.size))
      clear hb
      go_wp2_with fail
      refine (no_any _ _).mono ?_
      rintro e wn ⟨rfl, rfl⟩
      go_wp2_with fail
      have hsz := str_size (encS a0.data.toList)
      have HSz := hid hsz
      have hsle : (str (encS a0.data.toList)).size ≤ 25000 := by rw [hsz]; omega
      clear hsz
      go_loop [50] (fun i => ∃ k : Nat, k ≤ (str (encS a0.data.toList)).size ∧ i = .int .i64 k) (fun i => (str (encS a0.data.toList)).size - (intOf i).toNat)
      case atStart => exact ⟨0, by omega, rfl⟩
      case round =>
        obtain ⟨k, hk, rfl⟩ := hrel
        by_cases hlt : k < (str (encS a0.data.toList)).size
        · have hlt' : (k : Int) < (str (encS a0.data.toList)).size := by omega
          have hc := HPl.out ((str (encS a0.data.toList))[k]'hlt) (List.getElem_mem (l := encS a0.data.toList) (by rw [← str_size]; exact hlt))
          have hc1 : ¬ ((((str (encS a0.data.toList))[k]'hlt).toNat : Int) < 32) := by omega
          have hc2 : ¬ ((126 : Int) < (((str (encS a0.data.toList))[k]'hlt).toNat : Int)) := by omega
          clear hc
          go_wp2_with fail
          go_round
          case rel => exact ⟨k + 1, by omega, by go_num⟩
          case measure => simp [intOf]; omega
        · clear hk
          go_wp2_with fail
          have C := dec_any (str (encS a0.data.toList)) (HE.out.later HBu2.out) (by omega)
          rw [HD.out] at C
          refine C.mono ?_
          clear C
          rintro e u3 ⟨rfl, hb⟩
          have HBu3 := hid (HBu2.out.trans (hb.mono HBu2.out.size))
          clear hb
          go_wp2_with fail
          refine (no_any _ _).mono ?_
          rintro e wn2 ⟨rfl, rfl⟩
          go_wp2_with fail
          refine (no_any _ _).mono ?_
          rintro e wn3 ⟨rfl, rfl⟩
          go_wp2_with fail
          rcases decV_cases a1 with hdv | ⟨d, hd1, hd2, hd3, hdv⟩
          · have HDV := hid hdv
            clear hdv
            have C := dec_any a1 (HE.out.later HBu3.out) (by omega)
            rw [HDV.out] at C
            refine C.mono ?_
            clear C
            rintro e u4 ⟨rfl, hb⟩
            have HBu4 := hid (HBu3.out.trans (hb.mono HBu3.out.size))
            clear hb
            go_wp2_with fail
            refine (no_any _ _).mono ?_
            rintro e wn4 ⟨rfl, rfl⟩
            go_wp2_with fail
            have C := alive_any (HE.out.later HBu4.out)
            refine C.mono ?_
            clear C
            rintro e z ⟨rfl, hb⟩
            have HBz := hid (HBu4.out.trans (hb.mono HBu4.out.size))
            clear hb
            go_wp2_with fail
            go_ret
            exact ⟨rfl, HBz.out⟩
          · have HDV := hid hdv
            have HVd : Hid (Go.Lib.validD (str d).data.toList = true) := hd1
            have q9 : ((str (encS d)).toList == a1.toList) = true := by rw [hd2, str_of]; simp
            clear hdv hd1 hd2
            have C := dec_any a1 (HE.out.later HBu3.out) (by omega)
            rw [HDV.out] at C
            refine C.mono ?_
            clear C
            rintro e u4 ⟨rfl, hb⟩
            have HBu4 := hid (HBu3.out.trans (hb.mono HBu3.out.size))
            clear hb
            go_wp2_with fail
            refine (no_any _ _).mono ?_
            rintro e wn4 ⟨rfl, rfl⟩
            go_wp2_with fail
            have C := enc_any (str d) (HE.out.later HBu4.out) (by rw [str_size]; omega)
            rw [encV_ok HVd.out, str_data] at C
            refine C.mono ?_
            clear C
            rintro e u5 ⟨rfl, hb⟩
            have HBu5 := hid (HBu4.out.trans (hb.mono HBu4.out.size))
            clear hb
            go_wp2_with fail
            refine (no_any _ _).mono ?_
            rintro e wn5 ⟨rfl, rfl⟩
            go_wp2_with fail
            have C := alive_any (HE.out.later HBu5.out)
            refine C.mono ?_
            clear C
            rintro e z ⟨rfl, hb⟩
            have HBz := hid (HBu5.out.trans (hb.mono HBu5.out.size))
            clear hb
            go_wp2_with fail
            go_ret
            exact ⟨rfl, HBz.out⟩
    · have HT := hid ht
      clear ht
      go_enter Tryd.func4, Tryd.ntmps4
      go_wp2_with fail
      have C := enc_any a0 HE.out (by omega)
      rw [encV_ok HV.out] at C
      refine C.mono ?_
      clear C
      rintro e u1 ⟨rfl, hb⟩
      have HBu1 := hid hb
      clear hb
      go_wp2_with fail
      have C := enc_any a1 (HE.out.later HBu1.out) (by omega)
      rw [encV_no HT.out] at C
      refine C.mono ?_
      clear C
      rintro e u2 ⟨rfl, hb⟩
      have HBu2 := hid (HBu1.out.trans (hb.mono HBu1.out.size))
      clear hb
      go_wp2_with fail
      refine (no_any _ _).mono ?_
      rintro e wn ⟨rfl, rfl⟩
      go_wp2_with fail
      have hsz := str_size (encS a0.data.toList)
      have HSz := hid hsz
      have hsle : (str (encS a0.data.toList)).size ≤ 25000 := by rw [hsz]; omega
      clear hsz
      go_loop [50] (fun i => ∃ k : Nat, k ≤ (str (encS a0.data.toList)).size ∧ i = .int .i64 k) (fun i => (str (encS a0.data.toList)).size - (intOf i).toNat)
      case atStart => exact ⟨0, by omega, rfl⟩
      case round =>
        obtain ⟨k, hk, rfl⟩ := hrel
        by_cases hlt : k < (str (encS a0.data.toList)).size
        · have hlt' : (k : Int) < (str (encS a0.data.toList)).size := by omega
          have hc := HPl.out ((str (encS a0.data.toList))[k]'hlt) (List.getElem_mem (l := encS a0.data.toList) (by rw [← str_size]; exact hlt))
          have hc1 : ¬ ((((str (encS a0.data.toList))[k]'hlt).toNat : Int) < 32) := by omega
          have hc2 : ¬ ((126 : Int) < (((str (encS a0.data.toList))[k]'hlt).toNat : Int)) := by omega
          clear hc
          go_wp2_with fail
          go_round
          case rel => exact ⟨k + 1, by omega, by go_num⟩
          case measure => simp [intOf]; omega
        · clear hk
          go_wp2_with fail
          have C := dec_any (str (encS a0.data.toList)) (HE.out.later HBu2.out) (by omega)
          rw [HD.out] at C
          refine C.mono ?_
          clear C
          rintro e u3 ⟨rfl, hb⟩
          have HBu3 := hid (HBu2.out.trans (hb.mono HBu2.out.size))
          clear hb
          go_wp2_with fail
          refine (no_any _ _).mono ?_
          rintro e wn2 ⟨rfl, rfl⟩
          go_wp2_with fail
          refine (no_any _ _).mono ?_
          rintro e wn3 ⟨rfl, rfl⟩
          go_wp2_with fail
          rcases decV_cases a1 with hdv | ⟨d, hd1, hd2, hd3, hdv⟩
          · have HDV := hid hdv
            clear hdv
            have C := dec_any a1 (HE.out.later HBu3.out) (by omega)
            rw [HDV.out] at C
            refine C.mono ?_
            clear C
            rintro e u4 ⟨rfl, hb⟩
            have HBu4 := hid (HBu3.out.trans (hb.mono HBu3.out.size))
            clear hb
            go_wp2_with fail
            refine (no_any _ _).mono ?_
            rintro e wn4 ⟨rfl, rfl⟩
            go_wp2_with fail
            have C := alive_any (HE.out.later HBu4.out)
            refine C.mono ?_
            clear C
            rintro e z ⟨rfl, hb⟩
            have HBz := hid (HBu4.out.trans (hb.mono HBu4.out.size))
            clear hb
            go_wp2_with fail
            go_ret
            exact ⟨rfl, HBz.out⟩
          · have HDV := hid hdv
            have HVd : Hid (Go.Lib.validD (str d).data.toList = true) := hd1
            have q9 : ((str (encS d)).toList == a1.toList) = true := by rw [hd2, str_of]; simp
            clear hdv hd1 hd2
            have C := dec_any a1 (HE.out.later HBu3.out) (by omega)
            rw [HDV.out] at C
            refine C.mono ?_
            clear C
            rintro e u4 ⟨rfl, hb⟩
            have HBu4 := hid (HBu3.out.trans (hb.mono HBu3.out.size))
            clear hb
            go_wp2_with fail
            refine (no_any _ _).mono ?_
            rintro e wn4 ⟨rfl, rfl⟩
            go_wp2_with fail
            have C := enc_any (str d) (HE.out.later HBu4.out) (by rw [str_size]; omega)
            rw [encV_ok HVd.out, str_data] at C
            refine C.mono ?_
            clear C
            rintro e u5 ⟨rfl, hb⟩
            have HBu5 := hid (HBu4.out.trans (hb.mono HBu4.out.size))
            clear hb
            go_wp2_with fail
            refine (no_any _ _).mono ?_
            rintro e wn5 ⟨rfl, rfl⟩
            go_wp2_with fail
            have C := alive_any (HE.out.later HBu5.out)
            refine C.mono ?_
            clear C
            rintro e z ⟨rfl, hb⟩
            have HBz := hid (HBu5.out.trans (hb.mono HBu5.out.size))
            clear hb
            go_wp2_with fail
            go_ret
            exact ⟨rfl, HBz.out⟩
  · have HV := hid hv
    clear hv
    rcases Bool.eq_false_or_eq_true (Go.Lib.validD a1.data.toList) with ht | ht
    · have HT := hid ht
      clear ht
      go_enter Tryd.func4, Tryd.ntmps4
      go_wp2_with fail
      have C := enc_any a0 HE.out (by omega)
      rw [encV_no HV.out] at C
      refine C.mono ?_
      clear C
      rintro e u1 ⟨rfl, hb⟩
      have HBu1 := hid hb
      clear hb
      go_wp2_with fail
      have C := enc_any a1 (HE.out.later HBu1.out) (by omega)
      rw [encV_ok HT.out] at C
      refine C.mono ?_
      clear C
      rintro e u2 ⟨rfl, hb⟩
      have HBu2 := hid (HBu1.out.trans (hb.mono HBu1.out.size))
      clear hb
      go_wp2_with fail
      refine (no_any _ _).mono ?_
      rintro e wn ⟨rfl, rfl⟩
      go_wp2_with fail
      refine (no_any _ _).mono ?_
      rintro e wn2 ⟨rfl, rfl⟩
      go_wp2_with fail
      have C := alive_any (HE.out.later HBu2.out)
      refine C.mono ?_
      clear C
      rintro e z ⟨rfl, hb⟩
      have HBz := hid (HBu2.out.trans (hb.mono HBu2.out.size))
      clear hb
      go_wp2_with fail
      go_ret
      exact ⟨rfl, HBz.out⟩
    · have HT := hid ht
      clear ht
      go_enter Tryd.func4, Tryd.ntmps4
      go_wp2_with fail
      have C := enc_any a0 HE.out (by omega)
      rw [encV_no HV.out] at C
      refine C.mono ?_
      clear C
      rintro e u1 ⟨rfl, hb⟩
      have HBu1 := hid hb
      clear hb
      go_wp2_with fail
      have C := enc_any a1 (HE.out.later HBu1.out) (by omega)
      rw [encV_no HT.out] at C
      refine C.mono ?_
      clear C
      rintro e u2 ⟨rfl, hb⟩
      have HBu2 := hid (HBu1.out.trans (hb.mono HBu1.out.size))
      clear hb
      go_wp2_with fail
      refine (no_any _ _).mono ?_
      rintro e wn ⟨rfl, rfl⟩
      go_wp2_with fail
      refine (no_any _ _).mono ?_
      rintro e wn2 ⟨rfl, rfl⟩
      go_wp2_with fail
      have C := alive_any (HE.out.later HBu2.out)
      refine C.mono ?_
      clear C
      rintro e z ⟨rfl, hb⟩
      have HBz := hid (HBu2.out.trans (hb.mono HBu2.out.size))
      clear hb
      go_wp2_with fail
      go_ret
      exact ⟨rfl, HBz.out⟩

theorem witness (os : Os) {H : Type} (enc : TypeId × Value → H) :
    (OpenSpec.ofChange Rows.namesBackSpec).preRow enc Tryd.prog Tryd.f4 Rows.namesBackRow.domain false Rows.namesBackRow.laid ((laidWorld os).forCall (fun _ _ => 0) ⟨#[], #[.string ⟨#[]⟩, .string ⟨#[]⟩], []⟩).memory #[.string ⟨#[]⟩, .string ⟨#[]⟩] := by
  have hw : (DataW.whole enc Tryd.prog ((laidWorld os).forCall (fun _ _ => 0) ⟨#[], #[.string ⟨#[]⟩, .string ⟨#[]⟩], []⟩).memory Tryd.f4.params.toList Rows.namesBackSpec.vars false (#[.string ⟨#[]⟩, .string ⟨#[]⟩] : Array Value).toList 8).map (fun x => (x.1, x.2.1)) =
      some ([.lit (.string []), .lit (.string [])], []) := by kernel_rfl
  obtain ⟨⟨x1, x2, x3⟩, hx, hx1⟩ := Option.map_eq_some_iff.1 hw
  simp only [Prod.mk.injEq] at hx1
  obtain ⟨rfl, rfl⟩ := hx1
  exact OpenSpec.preRow_of_cond 8 hx (by kernel_rfl) (fun k hk => by cases hk) (by kernel_rfl) (laid_met os _)

set_option maxRecDepth 100000 in
set_option maxHeartbeats 2000000 in
theorem lifted (os : Os) (started : os.Started) (H : Type) (enc : TypeId × Value → H) (F : Stop.Interp) :
    ReturnsInHanded {} Tryd.checked os 4 .any ((OpenSpec.ofChange Rows.namesBackSpec).preRow enc Tryd.prog Tryd.f4 Rows.namesBackRow.domain false Rows.namesBackRow.laid) (((OpenSpec.ofChange Rows.namesBackSpec).at F).post enc Tryd.prog Tryd.f4 false true false false) := by
  refine returnsInHanded_of_row (C := Tryd.checked) (s := OpenSpec.ofChange Rows.namesBackSpec) own started (by kernel_rfl) Tryd.func4
    (witness_row_atRef (enc := enc) (C := Tryd.checked) false (laidWorld os) #[.string ⟨#[]⟩, .string ⟨#[]⟩] rfl (by kernel_rfl) (by kernel_rfl) (by kernel_rfl) (witness os enc)) ?_
  intro W base args ds gs before hval0 hW _ _ _ hL hsh _
  have hval : ∀ (j : Nat) t v, Tryd.f4.params[j]? = some t → args[j]? = some v → Value.okWide Tryd.prog W .any base t v := hval0
  have hW' := hW
  obtain ⟨p, q, hA0, hV, rfl, hfz, hnd⟩ := hW
  have hA : DataW.TrodAll enc Tryd.prog W 0 (fun _ => true) true Tryd.f4.params.toList args.toList ds p := hA0
  rw [Tryd.params4] at hA hval
  obtain ⟨v0, vs0, d0, ds0, p0, q0, hargs, rfl, rfl, h0, r0⟩ := trodAll_cons hA
  obtain ⟨v1, vs1, d1, ds1, p1, q1, rfl, rfl, rfl, h1, r1⟩ := trodAll_cons r0
  obtain ⟨rfl, rfl, rfl⟩ := trodAll_nil r1
  obtain rfl : args = #[v0, v1] := by cases args; simp_all
  obtain ⟨rfl, rfl⟩ := trodVars_none hV
  obtain ⟨a0, rfl, rfl, rfl, w0⟩ := open_string Tryd.underlying9 (hval 0 9 v0 rfl rfl) h0
  obtain ⟨a1, rfl, rfl, rfl, w1⟩ := open_string Tryd.underlying9 (hval 1 9 v1 rfl rfl) h1
  clear hA0 hval0
  refine (walk a0 a1 (env_of hL hsh) w0 w1).mono ?_
  rintro e W' ⟨rfl, bel⟩
  exact ⟨_, rfl, _, _, _, [], _, [], hW', trodAll_mk1 (shut_bool Tryd.underlying4 _), (trodAll_cons_mk (shut_string Tryd.underlying9 w0) (trodAll_cons_mk (shut_string Tryd.underlying9 w1) trodAll_mk0)), rfl, bel.frame _, fun h => by cases h⟩

theorem over : Rows.namesBackRow.holds Tryd.pinned (OpenSpec.ofChange Rows.namesBackSpec) :=
  OpenClaim.holds_of_cond 4 Tryd.f4 rfl rfl rfl rfl rfl rfl rfl ⟨rfl, rfl, rfl, rfl, rfl⟩ rfl rfl rfl rfl rfl (by kernel_rfl) Tryd.func4 (by kernel_rfl)
    (of_decide_eq_true (by kernel_rfl)) (by unfold Func.isWrapper; first | (rw [if_pos (by decide +kernel)]; kernel_rfl) | (rw [if_neg (by decide +kernel)]; exact ⟨rfl, rfl⟩))
    (fun os started H enc _ F => by rw [OpenClaim.pre_eq_preRow]; exact lifted os started H enc F)

/-- No parameter wants a stand-in. -/
theorem plain (f : FuncId) (fn : Func) (hf : Tryd.pinned.checked.prog.funcNamed Rows.namesBackRow.func = some f) (hfn : Tryd.pinned.checked.prog.funcs[f]? = some fn) :
    false = Tryd.pinned.checked.prog.looks [] ∧ ∀ (j : Nat) t, fn.params[j]? = some t → Tryd.pinned.checked.prog.wantsStandIn t = false := by
  obtain rfl : f = 4 := Option.some.inj ((show Tryd.prog.funcNamed Rows.namesBackRow.func = some 4 by kernel_rfl).symm.trans hf) |>.symm
  obtain rfl : fn = Tryd.f4 := (Option.some.inj (Tryd.func4.symm.trans hfn)).symm
  refine ⟨by kernel_rfl, fun j t ht => ?_⟩
  rw [Tryd.params4] at ht
  obtain rfl : t = 9 := by simpa using Array.mem_of_getElem? ht
  exact (show Tryd.prog.wantsStandIn 9 = false by kernel_rfl)
end Go.Proofs.YtkmggkcipgfhdaaDoor.namesBack
namespace Go.Proofs.YtkmggkcipgfhdaaDoor
/-- THE STATEMENT. -/
theorem namesBack_holds : Rows.NamesBackCardSaid :=
  Claim7.holds_tied_plain_at .later [] _ _ _ _ namesBack.over (fun _ h => by cases h) (by kernel_rfl) (fun _ h => by cases h) namesBack_row_tie rfl ⟨rfl, rfl⟩ (by kernel_rfl) rfl namesBack.plain (by kernel_rfl)
#print axioms namesBack_holds
end Go.Proofs.YtkmggkcipgfhdaaDoor
