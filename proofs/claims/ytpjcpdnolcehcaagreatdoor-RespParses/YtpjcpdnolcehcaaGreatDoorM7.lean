/- What this text holds: strings are read. -/
import Derived.Test.YtpjcpdnolcehcaaGreatDoorM6
import Derived.Deep.LoopGhost
import Derived.Lib.AtoiAllCases
namespace Go.Proofs.YtpjcpdnolcehcaaGreatDoor
open Go.RowKit
set_option linter.unusedVariables false
set_option linter.unusedSimpArgs false

theorem fld0 (b : Nat) (w : World) : (Instr.fieldAt 73 (.pointer (some ⟨b, 0, none⟩)) 0).run Tryz.prog w = .ok (.pointer (some ⟨b, 0, none⟩)) w := by kernel_rfl
theorem conv_gb {w : World} {v : Value} {l : Bs} (h : GO eB w 0 v l) : (convert 58 9 v).run Tryz.prog w = .ok (.string (str l)) w := by
  rcases id h.2 with ⟨rfl, h0⟩ | ⟨g, cap, cur, rfl, _, hg, _, _, _, hx⟩
  · have e := List.eq_nil_of_length_eq_zero h0
    subst e
    exact run_convert_bytes_nil w 58 5 Tryz.underlying58 Tryz.underlying5 0 0 9 Tryz.underlying9
  · have hc := World.ownsRow.cells h rfl
    have := run_convert_bytes_arg w 58 5 Tryz.underlying58 Tryz.underlying5 g 0 l.length cap (l.map fun b => (b.toNat : Int)) (by simp) (fun i hi => by
      have := hc i (.int .u8 (l[i].toNat)) (by
        have := eB.cs_at l i 0 l[i] (.int .u8 (l[i].toNat)) (List.getElem?_eq_getElem hi) rfl
        simpa [eB] using this)
      rw [Addr.add_mid] at this
      rw [this]
      simp [hi]) 9 Tryz.underlying9
    rw [this]
    have e : strOfNums (l.map fun b => (b.toNat : Int)) = str l := by
      unfold strOfNums str
      rw [List.map_map]
      have : ((fun n : Int => UInt8.ofNat n.toNat) ∘ fun b : UInt8 => (b.toNat : Int)) = id := by funext x; simp
      rw [this, List.map_id]
    rw [e]

theorem GO.low {α : Type} {E : En α} {w w' : World} {B : Nat} {v : Value} {l : List α} {b : Nat} (h : GO E w B v l) (hk : Kept [b] w w') (hb : b < B) : GO E w' B v l :=
  ownsRow_block h (fun g hg => hk.block g (World.ownsRow.lt h g hg).2 (fun hm => by
    have := (World.ownsRow.lt h g hg).1
    simp at hm
    omega))
def AnyI {α : Type} (x : α) : Prop := True
/-- Where the reading of a string between quotes stands. -/
structure QSt (w0 w : World) (b o : Nat) (s : Bs) (v : Value) (acc r : Bs) : Prop where
  q : QInv s acc r
  r : RAt w b r o
  g : GO eB w w0.heap.size v acc
  k : Kept [b] w0 w
set_option maxRecDepth 100000 in
set_option maxHeartbeats 2000000 in
theorem quoted_any {w : World} {b : Nat} {s : Bs} {o : Nat} (h : RAt w b s o) (hl : s.length ≤ 100000000) :
    Calls Tryz.prog 118 #[.pointer (some ⟨b, 0, none⟩)] w (RdS b o w (quotedP s)) := by
  have hf := fld0 b
  have hb : b < w.heap.size := h.lt
  have H0 : Hid (QSt w w b o s nilV [] s) := ⟨QInv.start s, h, GO.nil eB w _, Kept.refl _ _⟩
  have HB := hid hb
  clear h hb
  go_enter Tryz.func118, Tryz.ntmps118
  go_wp2_with fail
  go_loopg [3] s.length (fun g v wr => ∃ acc r, QSt w wr b o s v acc r ∧ r.length = g)
  case atStart => exact ⟨[], s, H0.out, rfl⟩
  case round =>
    obtain ⟨acc, r, hst, hrl⟩ := hrel
    have HS := hid hst
    have HL := hid hrl
    obtain ⟨a, c, rfl⟩ := hst.g.slice (n := acc.length) rfl
    clear hst hrl
    rcases h34 : needP [34] r with _ | r'
    · have C := takes_no HS.out.r [34] h34
      go_wp2_with fail
      refine C.mono ?_
      rintro e w1 ⟨rfl, k1, k2⟩
      have S1 : Hid (QSt w w1 b o s (.slice a acc.length c) acc r) := ⟨HS.out.q, k1, HS.out.g.low k2 HB.out, HS.out.k.trans1 k2⟩
      have HLr : Hid (acc.length + r.length ≤ s.length) := HS.out.q.2
      clear k1 k2 C HS
      rcases h92 : needP [92] r with _ | r1
      · have C := takes_no S1.out.r [92] h92
        obtain ⟨q0, q1⟩ := S1.out.q.plain h34 h92
        have Q0 := hid q0
        have Q1 := hid q1
        clear q0 q1 h34 h92
        go_wp2_with fail
        refine C.mono ?_
        rintro e w2 ⟨rfl, k1, k2⟩
        have S2 : Hid (RAt w2 b r o ∧ GO eB w2 w.heap.size (.slice a acc.length c) acc ∧ Kept [b] w w2) := ⟨k1, S1.out.g.low k2 HB.out, S1.out.k.trans1 k2⟩
        clear k1 k2 C S1
        rcases r with _ | ⟨d, r2⟩
        · have HN := hid (Q0.out rfl)
          have C := bytes_no S2.out.1 (by simp) 1 (by simp)
          go_wp2_with fail
          refine C.mono ?_
          rintro e w3 ⟨rfl, k2⟩
          rw [HN.out]
          exact ⟨rfl, rfl, S2.out.2.2.trans1 k2⟩
        · have HN := hid (Q1.out d r2 rfl)
          have hlen : (d :: r2).length ≤ 1000000000 := by have := HLr.out; simp at this ⊢; omega
          have C := bytes_yes S2.out.1 hlen 1 (by simp)
          have hal : acc.length + 1 ≤ 1000000000 := by have := HLr.out; omega
          go_wp2_with fail
          refine C.mono ?_
          rintro e w3 ⟨rfl, k1, k2⟩
          have k3 := S2.out.2.2.trans1 k2
          obtain ⟨v', W, hrun, ho, hbl⟩ := go_str_more (S2.out.2.1.low k2 HB.out) [d] hal k3.size
          have S3 : Hid (QSt w W b o s v' (acc ++ [d]) r2) := ⟨HN.out, k1.low hbl HB.out, ho, kept_lo k3 hbl⟩
          have hm : Hid (r2.length < gk) := by have e1 := HL.out; rw [List.length_cons] at e1; unfold Hid; omega
          clear k1 k2 k3 C S2 hbl ho
          go_wp2_with (at_builtin; refine wpList_append_run rfl rfl hrun ?_)
          go_roundg r2.length
          case measure => exact hm.out
          case rel => exact ⟨acc ++ [d], r2, S3.out, rfl⟩
      · have C := takes_yes S1.out.r [92] h92
        obtain ⟨q0, q1⟩ := S1.out.q.esc h34 h92
        have Q0 := hid q0
        have Q1 := hid q1
        have hlr : Hid (r1.length + 1 = r.length) := (needP_some h92).2.2
        clear q0 q1 h34 h92
        go_wp2_with fail
        refine C.mono ?_
        rintro e w2 ⟨rfl, k1, k2⟩
        have S2 : Hid (RAt w2 b r1 o ∧ GO eB w2 w.heap.size (.slice a acc.length c) acc ∧ Kept [b] w w2) := ⟨k1, S1.out.g.low k2 HB.out, S1.out.k.trans1 k2⟩
        clear k1 k2 C S1
        rcases r1 with _ | ⟨d, r2⟩
        · have HN := hid (Q0.out rfl)
          have C := bytes_no S2.out.1 (by simp) 1 (by simp)
          go_wp2_with fail
          refine C.mono ?_
          rintro e w3 ⟨rfl, k2⟩
          rw [HN.out]
          exact ⟨rfl, rfl, S2.out.2.2.trans1 k2⟩
        · have HN := hid (Q1.out d r2 rfl)
          have hlen : (d :: r2).length ≤ 1000000000 := by have := HLr.out; have := hlr.out; simp at this ⊢; omega
          have C := bytes_yes S2.out.1 hlen 1 (by simp)
          have hal : acc.length + 1 ≤ 1000000000 := by have := HLr.out; omega
          go_wp2_with fail
          refine C.mono ?_
          rintro e w3 ⟨rfl, k1, k2⟩
          have k3 := S2.out.2.2.trans1 k2
          obtain ⟨v', W, hrun, ho, hbl⟩ := go_str_more (S2.out.2.1.low k2 HB.out) [d] hal k3.size
          have S3 : Hid (QSt w W b o s v' (acc ++ [d]) r2) := ⟨HN.out, k1.low hbl HB.out, ho, kept_lo k3 hbl⟩
          have hm : Hid (r2.length < gk) := by have e1 := HL.out; have e2 := hlr.out; rw [List.length_cons] at e2; unfold Hid; omega
          clear k1 k2 k3 C S2 hbl ho
          go_wp2_with (at_builtin; refine wpList_append_run rfl rfl hrun ?_)
          go_roundg r2.length
          case measure => exact hm.out
          case rel => exact ⟨acc ++ [d], r2, S3.out, rfl⟩
    · have C := takes_yes HS.out.r [34] h34
      have HQ := hid (HS.out.q.end_ h34)
      clear h34
      go_wp2_with fail
      refine C.mono ?_
      rintro e w1 ⟨rfl, k1, k2⟩
      have K1 := hid k1
      have K2 := hid k2
      have G := HS.out.g.low k2 HB.out
      have HC := hid (conv_gb (G.base (Nat.zero_le _)))
      clear k1 k2 C
      have hc := HC.out
      go_wp2_with fail
      go_ret
      rw [HQ.out]
      exact ⟨rfl, K1.out, HS.out.k.trans1 K2.out⟩
theorem tw_all (p : UInt8 → Bool) : ∀ (s : Bs) (c : UInt8), c ∈ s.takeWhile p → p c = true
  | [], c, h => by simp at h
  | a :: s, c, h => by
    rw [List.takeWhile_cons] at h
    split at h
    · rename_i ha
      rcases List.mem_cons.1 h with rfl | h
      · exact ha
      · exact tw_all p s c h
    · cases h
theorem numberP_ge {s r : Bs} {n : Int} (h : numberP s = some (n, r)) : 0 ≤ n ∧ r.length ≤ s.length := by
  unfold numberP at h
  rw [Option.map_eq_some_iff] at h
  obtain ⟨m, hm, e⟩ := h
  cases e
  refine ⟨?_, drop_le _ _⟩
  have hp := numP_some hm
  cases hs : s.takeWhile dgB with
  | nil => rw [hs] at hp; cases hp
  | cons c t =>
    rw [hs] at hp
    have hc : dgB c = true := by
      have : c ∈ s.takeWhile dgB := by rw [hs]; simp
      exact tw_all dgB s c this
    have hc1 : 48 ≤ c.toNat ∧ c.toNat ≤ 57 := by simpa [dgB] using hc
    rw [Go.Lib.atoiAll_plain c t (by omega) (by omega)] at hp
    unfold Go.Lib.signless at hp
    split at hp <;> first | cases hp | skip
    split at hp <;> first | (cases hp; done) | skip
    all_goals (cases hp; omega)
set_option maxRecDepth 100000 in
set_option maxHeartbeats 1000000 in
theorem counted_any {w : World} (hE : Env w) {b : Nat} (hb : 11 ≤ b) {s : Bs} {o : Nat} (h : RAt w b s o) (hl : s.length ≤ 100000000) :
    Calls Tryz.prog 119 #[.pointer (some ⟨b, 0, none⟩)] w (RdS b o w (countedP s)) := by
  have hf := fld0 b
  rcases hn : numberP s with _ | ⟨n, r⟩
  · have C := number_no hE hb h (by omega) hn
    have HX : Hid (countedP s = none) := by unfold countedP; rw [hn]; rfl
    clear h hn hE
    go_enter Tryz.func119, Tryz.ntmps119
    go_wp2_with fail
    refine C.mono ?_
    rintro e w1 ⟨rfl, k1⟩
    rw [HX.out]
    exact ⟨rfl, rfl, k1⟩
  · have C := number_yes h (by omega) hn
    obtain ⟨hn0, hrl⟩ := numberP_ge hn
    obtain ⟨m, rfl⟩ := Int.eq_ofNat_of_zero_le hn0
    have HR := hid hrl
    have HY : Hid (countedP s = match needP [125, 13, 10] r with
      | none => none
      | some r => if (m : Int) ≤ r.length then some (r.take (m : Int).toNat, r.drop (m : Int).toNat) else none) := by unfold countedP; rw [hn]; rfl
    clear h hn hE hn0 hrl
    rcases h2 : needP [125, 13, 10] r with _ | r2
    · have HX : Hid (countedP s = none) := by rw [Hid, HY.out, h2]
      clear HY
      go_enter Tryz.func119, Tryz.ntmps119
      go_wp2_with fail
      refine C.mono ?_
      rintro e w1 ⟨rfl, k1, k2⟩
      have D := need_no k1 [125, 13, 10] h2
      have K2 := hid k2
      clear k1 k2 C h2
      go_wp2_with fail
      refine D.mono ?_
      rintro e w2 ⟨rfl, k1⟩
      rw [HX.out]
      exact ⟨rfl, rfl, K2.out.trans1 k1⟩
    · have hr2 : Hid (r2.length + 3 = r.length) := (needP_some h2).2.2
      by_cases hm : m ≤ r2.length
      · have HX : Hid (countedP s = some (r2.take m, r2.drop m)) := by rw [Hid, HY.out, h2]; simp only [Int.toNat_natCast]; rw [if_pos (by omega)]
        clear HY
        go_enter Tryz.func119, Tryz.ntmps119
        go_wp2_with fail
        refine C.mono ?_
        rintro e w1 ⟨rfl, k1, k2⟩
        have D := need_yes k1 [125, 13, 10] h2
        have K2 := hid k2
        clear k1 k2 C h2
        go_wp2_with fail
        refine D.mono ?_
        rintro e w2 ⟨rfl, k1, k2⟩
        have hr1 := HR.out
        have hr3 := hr2.out
        have F := bytes_yes k1 (by omega) m hm
        have K3 := hid (K2.out.trans1 k2)
        have HM := hid hm
        clear k1 k2 D hr1 hr3 hm K2
        go_wp2_with fail
        refine F.mono ?_
        rintro e w2 ⟨rfl, k1, k2⟩
        have K4 := hid k1
        have K5 := hid k2
        clear k1 k2 F
        go_wp2_with fail
        go_ret
        rw [HX.out]
        exact ⟨rfl, K4.out, K3.out.trans1 K5.out⟩
      · have HX : Hid (countedP s = none) := by rw [Hid, HY.out, h2]; simp only [Int.toNat_natCast]; rw [if_neg (by omega)]
        clear HY
        go_enter Tryz.func119, Tryz.ntmps119
        go_wp2_with fail
        refine C.mono ?_
        rintro e w1 ⟨rfl, k1, k2⟩
        have D := need_yes k1 [125, 13, 10] h2
        have K2 := hid k2
        clear k1 k2 C h2
        go_wp2_with fail
        refine D.mono ?_
        rintro e w2 ⟨rfl, k1, k2⟩
        have hr1 := HR.out
        have hr3 := hr2.out
        have F := bytes_no k1 (by omega) m (by omega)
        have K3 := hid (K2.out.trans1 k2)
        have HM := hid hm
        clear k1 k2 D hr1 hr3 hm K2
        go_wp2_with fail
        refine F.mono ?_
        rintro e w2 ⟨rfl, k2⟩
        rw [HX.out]
        exact ⟨rfl, rfl, K3.out.trans1 k2⟩
end Go.Proofs.YtpjcpdnolcehcaaGreatDoor
