/- What this text holds: where a key is, or belongs. -/
import Derived.Test.YtkipigbfbhecjaaN7
import Derived.Laws.Shifts
namespace Go.Proofs.Ytkipigbfbhecjaa
open Go.RowKit
set_option linter.unusedVariables false
set_option linter.unusedSimpArgs false

/-- How many keys are below. -/
def lowN (keys : List ByteArray) (key : ByteArray) : Nat := (keys.takeWhile fun k => lt k key).length
def isB (keys : List ByteArray) (key : ByteArray) : Bool := decide (keys[lowN keys key]? = some key)
theorem lowN_le (keys : List ByteArray) (key : ByteArray) : lowN keys key ≤ keys.length := (List.takeWhile_sublist _).length_le
theorem low_lt : ∀ (keys : List ByteArray) (key : ByteArray) (a : Nat) (ha : a < keys.length), a < lowN keys key → lt keys[a] key = true
  | [], _, a, ha, _ => by simp at ha
  | k :: keys, key, a, ha, h => by
    unfold lowN at h
    rw [List.takeWhile_cons] at h
    split at h
    · rename_i hk
      cases a with
      | zero => simpa using hk
      | succ a => simpa using low_lt keys key a (by simpa using ha) (by unfold lowN; simpa using h)
    · simp at h
theorem low_not : ∀ (keys : List ByteArray) (key : ByteArray) (h : lowN keys key < keys.length), lt (keys[lowN keys key]) key = false
  | [], _, h => by simp at h
  | k :: keys, key, h => by
    cases hk : lt k key with
    | false =>
      have e : lowN (k :: keys) key = 0 := by unfold lowN; rw [List.takeWhile_cons, hk]; rfl
      simp only [e, List.getElem_cons_zero]; exact hk
    | true =>
      have e : lowN (k :: keys) key = lowN keys key + 1 := by unfold lowN; rw [List.takeWhile_cons, hk]; rfl
      simp only [e, List.getElem_cons_succ]
      exact low_not keys key (by rw [e] at h; simpa using h)
theorem rise_step {keys : List ByteArray} (h : risingB keys = true) (i : Nat) (hi : i + 1 < keys.length) : lt (keys[i]'(by omega)) keys[i + 1] = true := by
  unfold risingB at h
  have := List.all_eq_true.1 h (i + 1) (List.mem_range.2 hi)
  rw [keyOk_at _ _ hi, Bool.and_eq_true] at this
  simpa using this.2
theorem rise_lt {keys : List ByteArray} (h : risingB keys = true) (a : Nat) : ∀ (d : Nat) (hd : a + d + 1 < keys.length), lt (keys[a]'(by omega)) (keys[a + d + 1]'hd) = true
  | 0, hd => rise_step h a hd
  | d + 1, hd => lt_trans (rise_lt h a d (by omega)) (rise_step h (a + d + 1) hd)
theorem rise_of {keys : List ByteArray} (h : risingB keys = true) {a b : Nat} (hb : b < keys.length) (hab : a < b) : lt (keys[a]'(by omega)) keys[b] = true := by
  have := rise_lt h a (b - a - 1) (by omega)
  have e : a + (b - a - 1) + 1 = b := by omega
  simp only [e] at this
  exact this
theorem lt_low {keys : List ByteArray} {key : ByteArray} (h : risingB keys = true) (a : Nat) (ha : a < keys.length) (hl : lt keys[a] key = true) : a < lowN keys key := by
  by_cases hp : a < lowN keys key
  · exact hp
  · exfalso
    have hn := low_not keys key (by omega)
    by_cases e : lowN keys key = a
    · simp only [e] at hn; rw [hl] at hn; cases hn
    · have := lt_trans (rise_of h ha (show lowN keys key < a by omega)) hl
      rw [hn] at this; cases this
theorem eq_low {keys : List ByteArray} {key : ByteArray} (h : risingB keys = true) (a : Nat) (ha : a < keys.length) (he : keys[a] = key) : a = lowN keys key := by
  have h1 : ¬ a < lowN keys key := fun hl => by have := low_lt keys key a ha hl; rw [he, lt_irrefl] at this; cases this
  by_cases e : a = lowN keys key
  · exact e
  · have hl := rise_of h ha (show lowN keys key < a by omega)
    rw [he, low_not keys key (by omega)] at hl; cases hl
theorem isB_at {keys : List ByteArray} {key : ByteArray} (h : risingB keys = true) (a : Nat) (ha : a < keys.length) : (keys[a].toList == key.toList) = (isB keys key && decide (a = lowN keys key)) := by
  by_cases he : keys[a] = key
  · have e := eq_low h a ha he
    unfold isB
    rw [← e, List.getElem?_eq_getElem ha, he]
    simp
  · have h1 : (keys[a].toList == key.toList) = false := beq_eq_false_iff_ne.2 (fun e => he (toList_inj e))
    rw [h1]
    by_cases e : a = lowN keys key
    · unfold isB
      rw [← e, List.getElem?_eq_getElem ha]
      simp [he]
    · simp [e]
theorem isB_lt {keys : List ByteArray} {key : ByteArray} (h : isB keys key = true) : lowN keys key < keys.length := by
  unfold isB at h
  have := of_decide_eq_true h
  exact (List.getElem?_eq_some_iff.1 this).1

set_option maxRecDepth 100000 in
set_option maxHeartbeats 400000 in
theorem less_any (a b : ByteArray) (w : World) : Calls Try.prog 66 #[.string a, .string b] w fun e w' => e = .returned (.bool (lt a b)) ∧ w' = w := by
  go_enter Try.func66, Try.ntmps66
  go_wp2
  go_ret
  exact ⟨rfl, rfl⟩
set_option maxRecDepth 100000 in
set_option maxHeartbeats 400000 in
theorem nan_any (a : ByteArray) (w : World) : Calls Try.prog 67 #[.string a] w fun e w' => e = .returned (.bool false) ∧ w' = w := by
  go_enter Try.func67, Try.ntmps67
  go_wp2
  go_ret
  exact ⟨by simp, rfl⟩
theorem half_shift (i j : Nat) (h : i + j ≤ 200000) : ((i : Int) + j) / 2 ^ min (1 : Int).toNat 64 = (((i + j) / 2 : Nat) : Int) := by
  simp

set_option maxRecDepth 100000 in
set_option maxHeartbeats 2000000 in
theorem bsearch_any {w : World} {a : Option Addr} {l : List ByteArray} {c : Nat} (h : At w a (kc l)) (hr : risingB l = true) (hl : l.length ≤ 70000) (key : ByteArray) :
    Calls Try.prog 43 #[.slice a l.length c, .string key] w fun e w' => e = .returned (.tuple #[.int .i64 (lowN l key), .bool (isB l key)]) ∧ w' = w := by
  have H := hid h
  have HR := hid hr
  clear h hr
  generalize hn : l.length = n at hl
  have HN := hid hn
  clear hn
  go_enter Try.func43, Try.ntmps43
  go_wp2_with fail
  go_loop [7, 8] (fun i j => ∃ p q : Nat, p ≤ lowN l key ∧ lowN l key ≤ q ∧ q ≤ n ∧ i = .int .i64 p ∧ j = .int .i64 q) (fun i j => (intOf j).toNat - (intOf i).toNat)
  case atStart => exact ⟨0, n, by omega, by rw [← HN.out]; exact lowN_le _ _, by omega, rfl, rfl⟩
  case round =>
    obtain ⟨p, q, hp, hq, hqn, rfl, rfl⟩ := hrel
    by_cases hlt : p < q
    · have hlt' : (p : Int) < q := by omega
      have hm : (p + q) / 2 < n := by omega
      have hmk : (p + q) / 2 < l.length := by rw [HN.out]; exact hm
      obtain ⟨b, o, rfl, hc⟩ := H.out.key ((p + q) / 2) hmk
      have HT : Hid (lt (l[(p + q) / 2]) key = true → (p + q) / 2 < lowN l key) := fun h => lt_low HR.out _ hmk h
      have HF : Hid (lt (l[(p + q) / 2]) key = false → lowN l key ≤ (p + q) / 2) := fun h => by
        refine Nat.not_lt.1 fun hh => ?_
        have := low_lt l key _ hmk hh
        rw [h] at this; cases this
      generalize l[(p + q) / 2]'hmk = s at hc HT HF
      go_wp2_with fail
      refine (less_any _ _ _).mono ?_
      rintro e w1 ⟨rfl, rfl⟩
      cases hls : lt s key with
      | true =>
        have h1 := HT.out hls
        go_wp2_with fail
        go_round
        case rel => exact ⟨(p + q) / 2 + 1, q, by omega, by omega, by omega, by go_num, by go_num⟩
        case measure => simp [intOf]; omega
      | false =>
        have h1 := HF.out hls
        go_wp2_with fail
        go_round
        case rel => exact ⟨p, (p + q) / 2, by omega, by omega, by omega, by go_num, by go_num⟩
        case measure => simp [intOf]; omega
    · have hlt' : ¬ (p : Int) < q := by omega
      obtain rfl : lowN l key = p := by omega
      by_cases hpn : lowN l key < n
      · have hpn' : (lowN l key : Int) < n := by omega
        have hmk : lowN l key < l.length := by rw [HN.out]; exact hpn
        obtain ⟨b, o, rfl, hc⟩ := H.out.key (lowN l key) hmk
        have hi := isB_at HR.out (lowN l key) hmk (key := key)
        simp only [decide_true, Bool.and_true] at hi
        generalize l[lowN l key]'hmk = s at hc hi
        generalize hib : isB l key = ib at hi
        have HIb := hid hib
        clear hib
        generalize hPe : lowN l key = P at *
        have HPe := hid hPe
        clear hPe
        cases ib with
        | true =>
          go_wp2_with (first | (go_at_call 67; refine (nan_any _ _).mono ?_; rintro e w1 ⟨rfl, rfl⟩))
          go_ret2
          exact ⟨by rw [HIb.out, HPe.out]; rfl, rfl⟩
        | false =>
          go_wp2_with (first | (go_at_call 67; refine (nan_any _ _).mono ?_; rintro e w1 ⟨rfl, rfl⟩))
          go_ret2
          exact ⟨by rw [HIb.out, HPe.out]; rfl, rfl⟩
      · have hpn' : ¬ (lowN l key : Int) < n := by omega
        have hib : isB l key = false := by
          cases e : isB l key with
          | false => rfl
          | true => have := isB_lt e; rw [HN.out] at this; omega
        have HIb := hid hib
        clear hib
        generalize hPe : lowN l key = P at *
        have HPe := hid hPe
        clear hPe
        go_wp2_with fail
        go_ret2
        exact ⟨by rw [HIb.out, HPe.out]; rfl, rfl⟩

/-- What Find answers. -/
def findV (n : Nd) (key : ByteArray) : Value := if rightB n then .tuple #[.int .i64 (if isB n.keys key && !n.leaf then lowN n.keys key + 1 else lowN n.keys key : Nat), .bool (isB n.keys key)] else .tuple #[.int .i64 0, .bool false]
set_option maxRecDepth 100000 in
set_option maxHeartbeats 2000000 in
theorem find_any {w : World} {v : Value} {n : Nd} (h : NAt w v n) (sm : n.small) (key : ByteArray) : Calls Try.prog 22 #[v, .string key] w fun e w' => e = .returned (findV n key) ∧ Below w.heap.size w w' := by
  obtain ⟨ka, kp, ia, ep, da, dp, rfl, hkk, _⟩ := h.at_
  have HSm := hid sm
  have hk7 := sm.k
  have hlo := lowN_le n.keys key
  have HN := hid (h.later (below_box w (.cells #[.bool n.leaf, .slice ka n.keys.length kp, .slice ia n.items.length ep, .slice da n.kids.length dp] 26)))
  have HK := hid (hkk.later (below_box w (.cells #[.bool n.leaf, .slice ka n.keys.length kp, .slice ia n.items.length ep, .slice da n.kids.length dp] 26)))
  have HB0 := hid (below_box w (.cells #[.bool n.leaf, .slice ka n.keys.length kp, .slice ia n.items.length ep, .slice da n.kids.length dp] 26))
  have HX := hid (@box4 w _ _ _ _ _ _ (Below.refl (w.alloc (.cells #[.bool n.leaf, .slice ka n.keys.length kp, .slice ia n.items.length ep, .slice da n.kids.length dp] 26)).heap.size _))
  clear h hkk
  unfold nv at HN ⊢
  go_enter Try.func22, Try.ntmps22
  go_wp2_with fail
  generalize w.alloc (.cells #[.bool n.leaf, .slice ka n.keys.length kp, .slice ia n.items.length ep, .slice da n.kids.length dp] 26) = W at HB0 HX HN HK ⊢
  have hB : w.heap.size ≤ W.heap.size := HB0.out.size
  generalize hBe : w.heap.size = B at HB0 HX hB ⊢
  refine (right_any HN.out HSm.out).mono ?_
  rintro e w1 ⟨rfl, hb1⟩
  have HB1 := hid hb1
  obtain ⟨x0, x1, x2, x3⟩ := HX.out
  have c0 := cell_later hb1 x0
  have c1 := cell_later hb1 x1
  clear hb1
  cases hr : rightB n with
  | false =>
    go_wp2_with fail
    go_ret2
    exact ⟨by unfold findV; rw [hr]; rfl, below3 hBe HB0.out hB HB1.out⟩
  | true =>
    have HE : Hid (findV n key = .tuple #[.int .i64 (if isB n.keys key && !n.leaf then lowN n.keys key + 1 else lowN n.keys key : Nat), .bool (isB n.keys key)]) := by unfold findV Hid; rw [hr]; rfl
    have HBS := hid (bsearch_any (c := kp) (HK.out.later HB1.out) (ri_of hr).rise hk7 key)
    clear hr
    go_wp2_with fail
    refine HBS.out.mono ?_
    rintro e w2 ⟨rfl, rfl⟩
    clear HBS
    generalize lowN n.keys key = P at *
    generalize isB n.keys key = ib at *
    cases ib with
    | false =>
      go_wp2_with fail
      go_ret2
      exact ⟨by rw [HE.out]; rfl, below3 hBe HB0.out hB HB1.out⟩
    | true =>
      cases hl : n.leaf with
      | true =>
        rw [hl] at c0 HE
        go_wp2_with fail
        go_ret2
        exact ⟨by rw [HE.out]; rfl, below3 hBe HB0.out hB HB1.out⟩
      | false =>
        rw [hl] at c0 HE
        go_wp2_with fail
        go_ret2
        exact ⟨by rw [HE.out]; simp, below3 hBe HB0.out hB HB1.out⟩

set_option maxRecDepth 100000 in
set_option maxHeartbeats 2000000 in
theorem rfind_any {w : World} {v : Value} {n : Nd} (h : NAt w v n) (sm : n.small) (key : ByteArray) : Calls Try.prog 23 #[v, .string key] w fun e w' => e = .returned (findV n key) ∧ Below w.heap.size w w' := by
  obtain ⟨ka, kp, ia, ep, da, dp, rfl, hkk, _⟩ := h.at_
  have HSm := hid sm
  have hk7 := sm.k
  have hlo := lowN_le n.keys key
  have HN := hid (h.later (below_box w (.cells #[.bool n.leaf, .slice ka n.keys.length kp, .slice ia n.items.length ep, .slice da n.kids.length dp] 26)))
  have HK := hid (hkk.later (below_box w (.cells #[.bool n.leaf, .slice ka n.keys.length kp, .slice ia n.items.length ep, .slice da n.kids.length dp] 26)))
  have HB0 := hid (below_box w (.cells #[.bool n.leaf, .slice ka n.keys.length kp, .slice ia n.items.length ep, .slice da n.kids.length dp] 26))
  have HX := hid (@box4 w _ _ _ _ _ _ (Below.refl (w.alloc (.cells #[.bool n.leaf, .slice ka n.keys.length kp, .slice ia n.items.length ep, .slice da n.kids.length dp] 26)).heap.size _))
  clear h hkk
  unfold nv at HN ⊢
  go_enter Try.func23, Try.ntmps23
  go_wp2_with fail
  generalize w.alloc (.cells #[.bool n.leaf, .slice ka n.keys.length kp, .slice ia n.items.length ep, .slice da n.kids.length dp] 26) = W at HB0 HX HN HK ⊢
  have hB : w.heap.size ≤ W.heap.size := HB0.out.size
  generalize hBe : w.heap.size = B at HB0 HX hB ⊢
  refine (rright_any HN.out HSm.out).mono ?_
  rintro e w1 ⟨rfl, hb1⟩
  have HB1 := hid hb1
  obtain ⟨x0, x1, x2, x3⟩ := HX.out
  have c0 := cell_later hb1 x0
  have c1 := cell_later hb1 x1
  clear hb1
  cases hr : rightB n with
  | false =>
    go_wp2_with fail
    go_ret2
    exact ⟨by unfold findV; rw [hr]; rfl, below3 hBe HB0.out hB HB1.out⟩
  | true =>
    have HE : Hid (findV n key = .tuple #[.int .i64 (if isB n.keys key && !n.leaf then lowN n.keys key + 1 else lowN n.keys key : Nat), .bool (isB n.keys key)]) := by unfold findV Hid; rw [hr]; rfl
    have HRise := hid (ri_of hr).rise
    clear hr
    generalize hkn : n.keys.length = kn at *
    have HKn := hid hkn
    clear hkn
    cases hl : n.leaf with
    | true =>
      rw [hl] at c0 HE
      go_wp2_with fail
      generalize hib : isB n.keys key = ib at *
      generalize hPe : lowN n.keys key = P at *
      have HIb := hid hib
      have HPe := hid hPe
      clear hib hPe
      go_loop [6, 7, 8] (fun c f i => ∃ k : Nat, k ≤ kn ∧ i = .int .i64 k ∧ c = .int .i64 (min k (P) : Nat) ∧ f = .bool (ib && decide (P < k))) (fun _ _ i => kn - (intOf i).toNat)
      case atStart => exact ⟨0, by omega, rfl, by simp, by simp⟩
      case round =>
        obtain ⟨k, hk, rfl, rfl, rfl⟩ := hrel
        by_cases hlt : k < kn
        · have hlt' : (k : Int) < kn := by omega
          have hlk : k < n.keys.length := by rw [HKn.out]; exact hlt
          obtain ⟨b, o, rfl, hc⟩ := (HK.out.later HB1.out).key k hlk
          have hq := isB_at HRise.out k hlk (key := key)
          have hls : lt n.keys[k] key = decide (k < lowN n.keys key) := by
            by_cases e : k < lowN n.keys key
            · rw [low_lt _ _ _ hlk e]; simp [e]
            · cases e2 : lt n.keys[k] key with
              | false => simp [e]
              | true => exact absurd (lt_low HRise.out _ hlk e2) e
          have hls' : Op.bytesLess n.keys[k].toList key.toList = decide (k < lowN n.keys key) := hls
          clear hls
          rw [HIb.out, HPe.out] at hq
          rw [HPe.out] at hls'
          generalize n.keys[k]'hlk = s at hc hq hls'
          by_cases h1 : k < P
          · have hb1 : Op.bytesLess s.toList key.toList = true := by rw [hls']; simp [h1]
            have hb2 : (s.toList == key.toList) = false := by rw [hq]; simp; omega
            have hz1 : (ib && decide (P < k)) = false := by simp; omega
            have hm1 : min k P = k := by omega
            clear hls' hq
            simp only [hz1, hm1, Bool.false_eq_true, if_false, Nat.add_zero]
            go_wp2_with fail
            go_round
            case rel => exact ⟨k + 1, by omega, by go_num, by simp [show min (k + 1) P = k + 1 by omega, show ¬ P < k + 1 by omega], by simp [show ¬ P < k + 1 by omega]⟩
            case measure => simp [intOf]; omega
          · have hb1 : Op.bytesLess s.toList key.toList = false := by rw [hls']; simp [h1]
            have hm1 : min k P = P := by omega
            clear hls'
            by_cases h2 : k = P
            · have hb2 : (s.toList == key.toList) = ib := by rw [hq]; simp [h2]
              have hz1 : (ib && decide (P < k)) = false := by simp; omega
              clear hq
              subst h2
              simp only [hz1, hm1, Bool.false_eq_true, if_false, Nat.add_zero]
              cases ib with
              | true =>
                go_wp2_with fail
                go_round
                case rel => exact ⟨k + 1, by omega, by go_num, by simp [show min (k + 1) k = k by omega, show k < k + 1 by omega], by simp⟩
                case measure => simp [intOf]; omega
              | false =>
                go_wp2_with fail
                go_round
                case rel => exact ⟨k + 1, by omega, by go_num, by simp [show min (k + 1) k = k by omega], by simp⟩
                case measure => simp [intOf]; omega
            · have hb2 : (s.toList == key.toList) = false := by rw [hq]; simp [h2]
              have hz1 : (ib && decide (P < k)) = ib := by simp; omega
              clear hq
              simp only [hz1, hm1]
              cases ib with
              | true =>
                try simp only [if_true]
                go_wp2_with fail
                go_round
                case rel => exact ⟨k + 1, by omega, by go_num, by simp [show min (k + 1) P = P by omega, show P < k + 1 by omega], by simp; omega⟩
                case measure => simp [intOf]; omega
              | false =>
                try simp only [Bool.false_eq_true, if_false, Nat.add_zero]
                go_wp2_with fail
                go_round
                case rel => exact ⟨k + 1, by omega, by go_num, by simp [show min (k + 1) P = P by omega], by simp⟩
                case measure => simp [intOf]; omega
        · obtain rfl : kn = k := by omega
          have hm1 : min kn P = P := by omega
          have hz1 : (ib && decide (P < kn)) = ib := by
            cases hx : ib with
            | false => rfl
            | true => have := isB_lt (HIb.out.trans hx); rw [HPe.out, HKn.out] at this; simp [this]
          simp only [hz1, hm1]
          clear hz1
          cases ib
          all_goals go_wp2_with fail
          all_goals go_ret2
          all_goals refine ⟨?_, by first | exact below3 hBe HB0.out hB HB1.out | exact hBe ▸ below3 hBe HB0.out hB HB1.out⟩
          all_goals rw [HE.out]
          all_goals simp
    | false =>
      rw [hl] at c0 HE
      go_wp2_with fail
      generalize hib : isB n.keys key = ib at *
      generalize hPe : lowN n.keys key = P at *
      have HIb := hid hib
      have HPe := hid hPe
      clear hib hPe
      go_loop [6, 7, 8] (fun c f i => ∃ k : Nat, k ≤ kn ∧ i = .int .i64 k ∧ c = .int .i64 (min k (P) + (if ib && decide (P < k) then 1 else 0) : Nat) ∧ f = .bool (ib && decide (P < k))) (fun _ _ i => kn - (intOf i).toNat)
      case atStart => exact ⟨0, by omega, rfl, by simp, by simp⟩
      case round =>
        obtain ⟨k, hk, rfl, rfl, rfl⟩ := hrel
        by_cases hlt : k < kn
        · have hlt' : (k : Int) < kn := by omega
          have hlk : k < n.keys.length := by rw [HKn.out]; exact hlt
          obtain ⟨b, o, rfl, hc⟩ := (HK.out.later HB1.out).key k hlk
          have hq := isB_at HRise.out k hlk (key := key)
          have hls : lt n.keys[k] key = decide (k < lowN n.keys key) := by
            by_cases e : k < lowN n.keys key
            · rw [low_lt _ _ _ hlk e]; simp [e]
            · cases e2 : lt n.keys[k] key with
              | false => simp [e]
              | true => exact absurd (lt_low HRise.out _ hlk e2) e
          have hls' : Op.bytesLess n.keys[k].toList key.toList = decide (k < lowN n.keys key) := hls
          clear hls
          rw [HIb.out, HPe.out] at hq
          rw [HPe.out] at hls'
          generalize n.keys[k]'hlk = s at hc hq hls'
          by_cases h1 : k < P
          · have hb1 : Op.bytesLess s.toList key.toList = true := by rw [hls']; simp [h1]
            have hb2 : (s.toList == key.toList) = false := by rw [hq]; simp; omega
            have hz1 : (ib && decide (P < k)) = false := by simp; omega
            have hm1 : min k P = k := by omega
            clear hls' hq
            simp only [hz1, hm1, Bool.false_eq_true, if_false, Nat.add_zero]
            go_wp2_with fail
            go_round
            case rel => exact ⟨k + 1, by omega, by go_num, by simp [show min (k + 1) P = k + 1 by omega, show ¬ P < k + 1 by omega], by simp [show ¬ P < k + 1 by omega]⟩
            case measure => simp [intOf]; omega
          · have hb1 : Op.bytesLess s.toList key.toList = false := by rw [hls']; simp [h1]
            have hm1 : min k P = P := by omega
            clear hls'
            by_cases h2 : k = P
            · have hb2 : (s.toList == key.toList) = ib := by rw [hq]; simp [h2]
              have hz1 : (ib && decide (P < k)) = false := by simp; omega
              clear hq
              subst h2
              simp only [hz1, hm1, Bool.false_eq_true, if_false, Nat.add_zero]
              cases ib with
              | true =>
                go_wp2_with fail
                go_round
                case rel => exact ⟨k + 1, by omega, by go_num, by simp [show min (k + 1) k = k by omega, show k < k + 1 by omega], by simp⟩
                case measure => simp [intOf]; omega
              | false =>
                go_wp2_with fail
                go_round
                case rel => exact ⟨k + 1, by omega, by go_num, by simp [show min (k + 1) k = k by omega], by simp⟩
                case measure => simp [intOf]; omega
            · have hb2 : (s.toList == key.toList) = false := by rw [hq]; simp [h2]
              have hz1 : (ib && decide (P < k)) = ib := by simp; omega
              clear hq
              simp only [hz1, hm1]
              cases ib with
              | true =>
                try simp only [if_true]
                go_wp2_with fail
                go_round
                case rel => exact ⟨k + 1, by omega, by go_num, by simp [show min (k + 1) P = P by omega, show P < k + 1 by omega], by simp; omega⟩
                case measure => simp [intOf]; omega
              | false =>
                try simp only [Bool.false_eq_true, if_false, Nat.add_zero]
                go_wp2_with fail
                go_round
                case rel => exact ⟨k + 1, by omega, by go_num, by simp [show min (k + 1) P = P by omega], by simp⟩
                case measure => simp [intOf]; omega
        · obtain rfl : kn = k := by omega
          have hm1 : min kn P = P := by omega
          have hz1 : (ib && decide (P < kn)) = ib := by
            cases hx : ib with
            | false => rfl
            | true => have := isB_lt (HIb.out.trans hx); rw [HPe.out, HKn.out] at this; simp [this]
          simp only [hz1, hm1]
          clear hz1
          cases ib
          all_goals go_wp2_with fail
          all_goals go_ret2
          all_goals refine ⟨?_, by first | exact below3 hBe HB0.out hB HB1.out | exact hBe ▸ below3 hBe HB0.out hB HB1.out⟩
          all_goals rw [HE.out]
          all_goals simp
end Go.Proofs.Ytkipigbfbhecjaa
