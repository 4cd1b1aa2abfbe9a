/- Proved here: a name without stars matches itself alone; what matches two patterns matches both joined; two stars do what one does (NamesStars returns true for every input, and leaves its arguments as they were). No condition beyond what the card says: two tables of the library hold what its text lays. -/
import Derived.Test.YtkmggkcipgfhdaaDoorCards
import Derived.Test.YtkmggkcipgfhdaaDoorTie
import Derived.Test.YtkmggkcipgfhdaaDoorFrame
import Derived.ProofKit
import Derived.OpenShut
import Derived.ShutString
import Derived.Below
namespace Go.Proofs.YtkmggkcipgfhdaaDoor.namesStars
open Go.ChangeShapes Go.WideShapes Go.ChangeAt Go.RowKit
open Go.ChangeMaps (open_string shut_string)
set_option linter.unusedVariables false
set_option linter.unusedSimpArgs false

theorem app_size (s t : ByteArray) : (s ++ t).size = s.size + t.size := by rw [app_str, str_size, List.length_append, ← Go.Lib.size_eq, ← Go.Lib.size_eq]
theorem app_data (s t : ByteArray) : (s ++ t).data.toList = s.data.toList ++ t.data.toList := by rw [app_str, str_data]
theorem sz1 (a : ByteArray) (x : UInt8) (h : a.size ≤ 300) : (a ++ (⟨#[x]⟩ : ByteArray)).size ≤ 100000 := by rw [app_size, show (⟨#[x]⟩ : ByteArray).size = 1 from rfl]; omega
theorem sz1q (a b : ByteArray) (x : UInt8) (h : a.size ≤ 300) (k : b.size ≤ 300) : (a ++ (⟨#[x]⟩ : ByteArray) ++ b).size ≤ 100000 := by rw [app_size, app_size, show (⟨#[x]⟩ : ByteArray).size = 1 from rfl]; omega
theorem sz2q (a b : ByteArray) (x y : UInt8) (h : a.size ≤ 300) (k : b.size ≤ 300) : (a ++ (⟨#[x, y]⟩ : ByteArray) ++ b).size ≤ 100000 := by rw [app_size, app_size, show (⟨#[x, y]⟩ : ByteArray).size = 2 from rfl]; omega
def starsB (l : List UInt8) : Bool := l.any fun c => c == 42 || c == 37
def slashB (l : List UInt8) : Bool := l.any fun c => c == 47
theorem itself {a : List UInt8} : ∀ {b : List UInt8}, starsB a = false → (Mt a b ↔ a = b) := by
  induction a with
  | nil => intro b _; exact ⟨fun h => h.symm, fun h => h.symm⟩
  | cons c a ih =>
    intro b hs
    simp only [starsB, List.any_cons, Bool.or_eq_false_iff] at hs
    have h42 : ¬ c = 42 := by intro e; subst e; simp at hs
    have h37 : ¬ c = 37 := by intro e; subst e; simp at hs
    constructor
    · rintro ⟨x, y, rfl, h1, h2⟩
      unfold one at h1
      rw [if_neg h42, if_neg h37] at h1
      subst h1
      rw [(ih hs.2).1 h2]
      rfl
    · rintro rfl
      refine ⟨[c], a, rfl, ?_, (ih hs.2).2 rfl⟩
      unfold one
      rw [if_neg h42, if_neg h37]
theorem star_all (a : List UInt8) : mB [42] a = true := mB_true.2 ((Mt.one 42 a).2 (by unfold one; simp))
theorem pct_slash (a : List UInt8) : mB [37] a = !slashB a := by
  rw [Bool.eq_iff_iff, mB_true, Mt.one]
  unfold one slashB
  simp
  exact ⟨fun h x hx e => h (e ▸ hx), fun h hx => h 47 hx rfl⟩
theorem both (p q a b : List UInt8) (h1 : mB p a = true) (h2 : mB q b = true) : mB (p ++ q) (a ++ b) = true := mB_true.2 ((Mt.app p q _).2 ⟨a, b, rfl, mB_true.1 h1, mB_true.1 h2⟩)
theorem star_more (p a : List UInt8) (h : mB p a = true) : mB (p ++ [42]) a = true := by
  have := both p [42] a [] h (star_all [])
  rwa [List.append_nil] at this
theorem mid (x y p q a : List UInt8) (h : ∀ l, Mt x l ↔ Mt y l) : mB (p ++ x ++ q) a = mB (p ++ y ++ q) a := by
  apply mB_eq
  rw [Mt.app, Mt.app]
  constructor
  · rintro ⟨u, v, e, h1, h2⟩
    obtain ⟨m, n, e2, h3, h4⟩ := (Mt.app p x u).1 h1
    exact ⟨u, v, e, (Mt.app p y u).2 ⟨m, n, e2, h3, (h n).1 h4⟩, h2⟩
  · rintro ⟨u, v, e, h1, h2⟩
    obtain ⟨m, n, e2, h3, h4⟩ := (Mt.app p y u).1 h1
    exact ⟨u, v, e, (Mt.app p x u).2 ⟨m, n, e2, h3, (h n).2 h4⟩, h2⟩
theorem two_stars (l : List UInt8) : Mt [42, 42] l ↔ Mt [42] l := by
  constructor
  · intro _; exact mB_true.1 (star_all l)
  · intro _; exact ⟨[], l, rfl, by unfold one; simp, mB_true.1 (star_all l)⟩
theorem pct_star (l : List UInt8) : Mt [37, 42] l ↔ Mt [42] l := by
  constructor
  · intro _; exact mB_true.1 (star_all l)
  · intro _; exact ⟨[], l, rfl, by unfold one; simp, mB_true.1 (star_all l)⟩
theorem two_pcts (l : List UInt8) : Mt [37, 37] l ↔ Mt [37] l := by
  rw [Mt.one]
  constructor
  · rintro ⟨a, b, rfl, h1, h2⟩
    have h2' := (Mt.one 37 b).1 h2
    unfold one at h1 h2' ⊢
    simp at h1 h2' ⊢
    exact ⟨h1, h2'⟩
  · intro h
    exact ⟨[], l, rfl, by unfold one; simp, (Mt.one 37 l).2 h⟩
theorem starsB_next (l : List UInt8) (k : Nat) (h : k < l.length) : starsB (l.take (k + 1)) = (starsB (l.take k) || l[k] == 42 || l[k] == 37) := by
  unfold starsB
  rw [List.take_succ_eq_append_getElem h, List.any_append]
  simp only [List.any_cons, List.any_nil, Bool.or_false, Bool.or_assoc]
theorem slashB_next (l : List UInt8) (k : Nat) (h : k < l.length) : slashB (l.take (k + 1)) = (slashB (l.take k) || l[k] == 47) := by
  unfold slashB
  rw [List.take_succ_eq_append_getElem h, List.any_append]
  simp only [List.any_cons, List.any_nil, Bool.or_false]
theorem byte_eq (x : UInt8) (n : Nat) (hn : n < 256) : ((x.toNat : Int) == (n : Int)) = (x == UInt8.ofNat n) := by
  rw [Bool.eq_iff_iff, beq_iff_eq, beq_iff_eq]
  constructor
  · intro e
    apply UInt8.toNat_inj.1
    simp [UInt8.toNat_ofNat]
    omega
  · intro e
    rw [e]
    simp [UInt8.toNat_ofNat]
    omega

set_option maxRecDepth 100000 in
set_option maxHeartbeats 8000000 in
theorem walk (a0 a1 a2 a3 : ByteArray) {w : World} (h : Env w) (h0 : a0.size ≤ maxLen) (h1 : a1.size ≤ maxLen) (h2 : a2.size ≤ maxLen) (h3 : a3.size ≤ maxLen) :
    Calls Tryd.prog 9 #[.string a0, .string a1, .string a2, .string a3] w fun e w' => e = .returned (.bool true) ∧ Below w.heap.size w w' := by
  have HE := hid h
  clear h
  unfold maxLen at h0 h1 h2 h3
  by_cases g0 : (300 : Int) < a0.size
  · go_enter Tryd.func9, Tryd.ntmps9
    go_wp2_with fail
    refine (alive_any HE.out).mono ?_
    rintro e w1 ⟨rfl, hb⟩
    have HB := hid hb
    clear hb
    go_wp2_with fail
    go_ret
    exact ⟨rfl, HB.out⟩
  by_cases g1 : (300 : Int) < a1.size
  · go_enter Tryd.func9, Tryd.ntmps9
    go_wp2_with fail
    refine (alive_any HE.out).mono ?_
    rintro e w1 ⟨rfl, hb⟩
    have HB := hid hb
    clear hb
    go_wp2_with fail
    go_ret
    exact ⟨rfl, HB.out⟩
  by_cases g2 : (300 : Int) < a2.size
  · go_enter Tryd.func9, Tryd.ntmps9
    go_wp2_with fail
    refine (alive_any HE.out).mono ?_
    rintro e w1 ⟨rfl, hb⟩
    have HB := hid hb
    clear hb
    go_wp2_with fail
    go_ret
    exact ⟨rfl, HB.out⟩
  by_cases g3 : (300 : Int) < a3.size
  · go_enter Tryd.func9, Tryd.ntmps9
    go_wp2_with fail
    refine (alive_any HE.out).mono ?_
    rintro e w1 ⟨rfl, hb⟩
    have HB := hid hb
    clear hb
    go_wp2_with fail
    go_ret
    exact ⟨rfl, HB.out⟩
  go_enter Tryd.func9, Tryd.ntmps9
  go_wp2_with fail
  go_loop [9, 10, 33] (fun s l i => ∃ k : Nat, k ≤ a2.size ∧ i = .int .i64 k ∧ s = .bool (starsB (a2.data.toList.take k)) ∧ l = .bool (slashB (a2.data.toList.take k))) (fun _ _ i => a2.size - (intOf i).toNat)
  case atStart => exact ⟨0, by omega, rfl, rfl, rfl⟩
  case round =>
    obtain ⟨k, hk, rfl, rfl, rfl⟩ := hrel
    by_cases hlt : k < a2.size
    · have hlt' : (k : Int) < a2.size := by omega
      have HS := hid (starsB_next a2.data.toList k (by rw [← Go.Lib.size_eq]; exact hlt))
      have HL := hid (slashB_next a2.data.toList k (by rw [← Go.Lib.size_eq]; exact hlt))
      have e1 := byte_eq a2[k] 42 (by omega)
      have e2 := byte_eq a2[k] 37 (by omega)
      have e3 := byte_eq a2[k] 47 (by omega)
      have HX : Hid (a2.data.toList[k]'(by rw [← Go.Lib.size_eq]; exact hlt) = a2[k]) := rfl
      rw [HX.out] at HS HL
      have e1' : ((a2[k].toNat : Int) == 42) = (a2[k] == 42) := e1
      have e2' : ((a2[k].toNat : Int) == 37) = (a2[k] == 37) := e2
      have e3' : ((a2[k].toNat : Int) == 47) = (a2[k] == 47) := e3
      clear e1 e2 e3 HX
      generalize starsB (a2.data.toList.take k) = S at *
      generalize slashB (a2.data.toList.take k) = L at *
      generalize (a2[k] == 42) = b1 at *
      generalize (a2[k] == 37) = b2 at *
      generalize (a2[k] == 47) = b3 at *
      cases S <;> cases b1 <;> cases b2 <;> cases L
      all_goals
        go_wp2_with fail
        go_round
        case rel => exact ⟨k + 1, by omega, by go_num, by rw [HS.out]; rfl, by rw [HL.out]; rfl⟩
        case measure => simp [intOf]; omega
    · have ht : a2.data.toList.take k = a2.data.toList := List.take_of_length_le (by rw [← Go.Lib.size_eq]; omega)
      rw [ht]
      clear ht
      rcases Bool.eq_false_or_eq_true (starsB a2.data.toList) with hst | hst
      · rw [hst]
        clear hst
        go_wp2_with fail
        rcases Bool.eq_false_or_eq_true (mB a0.data.toList a2.data.toList) with hpa | hpa
        · have HPA := hid hpa
          clear hpa
          have C := match_any a0 a2 w (by omega) (by omega)
          rw [HPA.out] at C
          refine C.mono ?_
          clear C
          rintro e u1 ⟨rfl, hb⟩
          have HBu1 := hid hb
          clear hb
          go_wp2_with fail
          rcases Bool.eq_false_or_eq_true (mB a1.data.toList a3.data.toList) with hqb | hqb
          · have HQB := hid hqb
            clear hqb
            have C := match_any a1 a3 u1 (by omega) (by omega)
            rw [HQB.out] at C
            refine C.mono ?_
            clear C
            rintro e u2 ⟨rfl, hb⟩
            have HBu2 := hid (HBu1.out.trans (hb.mono HBu1.out.size))
            clear hb
            go_wp2_with fail
            have C := match_any (a0 ++ a1) (a2 ++ a3) u2 (by rw [app_size]; omega) (by rw [app_size]; omega)
            rw [app_data, app_data, both _ _ _ _ HPA.out HQB.out] at C
            refine C.mono ?_
            clear C
            rintro e u3 ⟨rfl, hb⟩
            have HBu3 := hid (HBu2.out.trans (hb.mono HBu2.out.size))
            clear hb
            go_wp2_with fail
            have C := match_any ⟨#[42]⟩ a2 u3 (by decide) (by omega)
            rw [show mB (⟨#[42]⟩ : ByteArray).data.toList a2.data.toList = true from star_all _] at C
            refine C.mono ?_
            clear C
            rintro e x1 ⟨rfl, hb⟩
            have HBx1 := hid (HBu3.out.trans (hb.mono HBu3.out.size))
            clear hb
            go_wp2_with fail
            have C := match_any ⟨#[37]⟩ a2 x1 (by decide) (by omega)
            rw [show mB (⟨#[37]⟩ : ByteArray).data.toList a2.data.toList = !slashB a2.data.toList from pct_slash _] at C
            refine C.mono ?_
            clear C
            rintro e x2 ⟨rfl, hb⟩
            have HBx2 := hid (HBx1.out.trans (hb.mono HBx1.out.size))
            clear hb
            go_wp2_with fail
            have C := match_any (a0 ++ ⟨#[42]⟩) a2 x2 (sz1 a0 42 (by omega)) (by omega)
            rw [app_data, show (⟨#[42]⟩ : ByteArray).data.toList = [42] from rfl, star_more _ _ HPA.out] at C
            refine C.mono ?_
            clear C
            rintro e x3 ⟨rfl, hb⟩
            have HBx3 := hid (HBx2.out.trans (hb.mono HBx2.out.size))
            clear hb
            go_wp2_with fail
            have C := match_any (a0 ++ ⟨#[42, 42]⟩ ++ a1) a2 x3 (sz2q a0 a1 42 42 (by omega) (by omega)) (by omega)
            rw [app_data, app_data, show (⟨#[42, 42]⟩ : ByteArray).data.toList = [42, 42] from rfl, mid _ _ _ _ _ two_stars] at C
            refine C.mono ?_
            clear C
            rintro e y0 ⟨rfl, hb⟩
            have HBy0 := hid (HBx3.out.trans (hb.mono HBx3.out.size))
            clear hb
            go_wp2_with fail
            have C := match_any (a0 ++ ⟨#[42]⟩ ++ a1) a2 y0 (sz1q a0 a1 42 (by omega) (by omega)) (by omega)
            rw [app_data, app_data, show (⟨#[42]⟩ : ByteArray).data.toList = [42] from rfl] at C
            refine C.mono ?_
            clear C
            rintro e y1 ⟨rfl, hb⟩
            have HBy1 := hid (HBy0.out.trans (hb.mono HBy0.out.size))
            clear hb
            go_wp2_with fail
            have C := match_any (a0 ++ ⟨#[37, 42]⟩ ++ a1) a2 y1 (sz2q a0 a1 37 42 (by omega) (by omega)) (by omega)
            rw [app_data, app_data, show (⟨#[37, 42]⟩ : ByteArray).data.toList = [37, 42] from rfl, mid _ _ _ _ _ pct_star] at C
            refine C.mono ?_
            clear C
            rintro e y2 ⟨rfl, hb⟩
            have HBy2 := hid (HBy1.out.trans (hb.mono HBy1.out.size))
            clear hb
            go_wp2_with fail
            have C := match_any (a0 ++ ⟨#[42]⟩ ++ a1) a2 y2 (sz1q a0 a1 42 (by omega) (by omega)) (by omega)
            rw [app_data, app_data, show (⟨#[42]⟩ : ByteArray).data.toList = [42] from rfl] at C
            refine C.mono ?_
            clear C
            rintro e y3 ⟨rfl, hb⟩
            have HBy3 := hid (HBy2.out.trans (hb.mono HBy2.out.size))
            clear hb
            go_wp2_with fail
            have C := match_any (a0 ++ ⟨#[37, 37]⟩ ++ a1) a2 y3 (sz2q a0 a1 37 37 (by omega) (by omega)) (by omega)
            rw [app_data, app_data, show (⟨#[37, 37]⟩ : ByteArray).data.toList = [37, 37] from rfl, mid _ _ _ _ _ two_pcts] at C
            refine C.mono ?_
            clear C
            rintro e y4 ⟨rfl, hb⟩
            have HBy4 := hid (HBy3.out.trans (hb.mono HBy3.out.size))
            clear hb
            go_wp2_with fail
            have C := match_any (a0 ++ ⟨#[37]⟩ ++ a1) a2 y4 (sz1q a0 a1 37 (by omega) (by omega)) (by omega)
            rw [app_data, app_data, show (⟨#[37]⟩ : ByteArray).data.toList = [37] from rfl] at C
            refine C.mono ?_
            clear C
            rintro e y5 ⟨rfl, hb⟩
            have HBy5 := hid (HBy4.out.trans (hb.mono HBy4.out.size))
            clear hb
            go_wp2_with fail
            refine (alive_any (HE.out.later HBy5.out)).mono ?_
            rintro e z ⟨rfl, hb⟩
            have HBz := hid (HBy5.out.trans (hb.mono HBy5.out.size))
            clear hb
            go_wp2_with fail
            go_ret
            exact ⟨rfl, HBz.out⟩
          · have HQB := hid hqb
            clear hqb
            have C := match_any a1 a3 u1 (by omega) (by omega)
            rw [HQB.out] at C
            refine C.mono ?_
            clear C
            rintro e u2 ⟨rfl, hb⟩
            have HBu2 := hid (HBu1.out.trans (hb.mono HBu1.out.size))
            clear hb
            go_wp2_with fail
            have C := match_any ⟨#[42]⟩ a2 u2 (by decide) (by omega)
            rw [show mB (⟨#[42]⟩ : ByteArray).data.toList a2.data.toList = true from star_all _] at C
            refine C.mono ?_
            clear C
            rintro e x1 ⟨rfl, hb⟩
            have HBx1 := hid (HBu2.out.trans (hb.mono HBu2.out.size))
            clear hb
            go_wp2_with fail
            have C := match_any ⟨#[37]⟩ a2 x1 (by decide) (by omega)
            rw [show mB (⟨#[37]⟩ : ByteArray).data.toList a2.data.toList = !slashB a2.data.toList from pct_slash _] at C
            refine C.mono ?_
            clear C
            rintro e x2 ⟨rfl, hb⟩
            have HBx2 := hid (HBx1.out.trans (hb.mono HBx1.out.size))
            clear hb
            go_wp2_with fail
            have C := match_any (a0 ++ ⟨#[42]⟩) a2 x2 (sz1 a0 42 (by omega)) (by omega)
            rw [app_data, show (⟨#[42]⟩ : ByteArray).data.toList = [42] from rfl, star_more _ _ HPA.out] at C
            refine C.mono ?_
            clear C
            rintro e x3 ⟨rfl, hb⟩
            have HBx3 := hid (HBx2.out.trans (hb.mono HBx2.out.size))
            clear hb
            go_wp2_with fail
            have C := match_any (a0 ++ ⟨#[42, 42]⟩ ++ a1) a2 x3 (sz2q a0 a1 42 42 (by omega) (by omega)) (by omega)
            rw [app_data, app_data, show (⟨#[42, 42]⟩ : ByteArray).data.toList = [42, 42] from rfl, mid _ _ _ _ _ two_stars] at C
            refine C.mono ?_
            clear C
            rintro e y0 ⟨rfl, hb⟩
            have HBy0 := hid (HBx3.out.trans (hb.mono HBx3.out.size))
            clear hb
            go_wp2_with fail
            have C := match_any (a0 ++ ⟨#[42]⟩ ++ a1) a2 y0 (sz1q a0 a1 42 (by omega) (by omega)) (by omega)
            rw [app_data, app_data, show (⟨#[42]⟩ : ByteArray).data.toList = [42] from rfl] at C
            refine C.mono ?_
            clear C
            rintro e y1 ⟨rfl, hb⟩
            have HBy1 := hid (HBy0.out.trans (hb.mono HBy0.out.size))
            clear hb
            go_wp2_with fail
            have C := match_any (a0 ++ ⟨#[37, 42]⟩ ++ a1) a2 y1 (sz2q a0 a1 37 42 (by omega) (by omega)) (by omega)
            rw [app_data, app_data, show (⟨#[37, 42]⟩ : ByteArray).data.toList = [37, 42] from rfl, mid _ _ _ _ _ pct_star] at C
            refine C.mono ?_
            clear C
            rintro e y2 ⟨rfl, hb⟩
            have HBy2 := hid (HBy1.out.trans (hb.mono HBy1.out.size))
            clear hb
            go_wp2_with fail
            have C := match_any (a0 ++ ⟨#[42]⟩ ++ a1) a2 y2 (sz1q a0 a1 42 (by omega) (by omega)) (by omega)
            rw [app_data, app_data, show (⟨#[42]⟩ : ByteArray).data.toList = [42] from rfl] at C
            refine C.mono ?_
            clear C
            rintro e y3 ⟨rfl, hb⟩
            have HBy3 := hid (HBy2.out.trans (hb.mono HBy2.out.size))
            clear hb
            go_wp2_with fail
            have C := match_any (a0 ++ ⟨#[37, 37]⟩ ++ a1) a2 y3 (sz2q a0 a1 37 37 (by omega) (by omega)) (by omega)
            rw [app_data, app_data, show (⟨#[37, 37]⟩ : ByteArray).data.toList = [37, 37] from rfl, mid _ _ _ _ _ two_pcts] at C
            refine C.mono ?_
            clear C
            rintro e y4 ⟨rfl, hb⟩
            have HBy4 := hid (HBy3.out.trans (hb.mono HBy3.out.size))
            clear hb
            go_wp2_with fail
            have C := match_any (a0 ++ ⟨#[37]⟩ ++ a1) a2 y4 (sz1q a0 a1 37 (by omega) (by omega)) (by omega)
            rw [app_data, app_data, show (⟨#[37]⟩ : ByteArray).data.toList = [37] from rfl] at C
            refine C.mono ?_
            clear C
            rintro e y5 ⟨rfl, hb⟩
            have HBy5 := hid (HBy4.out.trans (hb.mono HBy4.out.size))
            clear hb
            go_wp2_with fail
            refine (alive_any (HE.out.later HBy5.out)).mono ?_
            rintro e z ⟨rfl, hb⟩
            have HBz := hid (HBy5.out.trans (hb.mono HBy5.out.size))
            clear hb
            go_wp2_with fail
            go_ret
            exact ⟨rfl, HBz.out⟩
        · have HPA := hid hpa
          clear hpa
          have C := match_any a0 a2 w (by omega) (by omega)
          rw [HPA.out] at C
          refine C.mono ?_
          clear C
          rintro e u1 ⟨rfl, hb⟩
          have HBu1 := hid hb
          clear hb
          go_wp2_with fail
          have C := match_any ⟨#[42]⟩ a2 u1 (by decide) (by omega)
          rw [show mB (⟨#[42]⟩ : ByteArray).data.toList a2.data.toList = true from star_all _] at C
          refine C.mono ?_
          clear C
          rintro e x1 ⟨rfl, hb⟩
          have HBx1 := hid (HBu1.out.trans (hb.mono HBu1.out.size))
          clear hb
          go_wp2_with fail
          have C := match_any ⟨#[37]⟩ a2 x1 (by decide) (by omega)
          rw [show mB (⟨#[37]⟩ : ByteArray).data.toList a2.data.toList = !slashB a2.data.toList from pct_slash _] at C
          refine C.mono ?_
          clear C
          rintro e x2 ⟨rfl, hb⟩
          have HBx2 := hid (HBx1.out.trans (hb.mono HBx1.out.size))
          clear hb
          go_wp2_with fail
          rcases Bool.eq_false_or_eq_true (mB (a0.data.toList ++ [42]) a2.data.toList) with hps | hps
          · have HPS := hid hps
            clear hps
            have C := match_any (a0 ++ ⟨#[42]⟩) a2 x2 (sz1 a0 42 (by omega)) (by omega)
            rw [app_data, show (⟨#[42]⟩ : ByteArray).data.toList = [42] from rfl, HPS.out] at C
            refine C.mono ?_
            clear C
            rintro e x3 ⟨rfl, hb⟩
            have HBx3 := hid (HBx2.out.trans (hb.mono HBx2.out.size))
            clear hb
            go_wp2_with fail
            have C := match_any (a0 ++ ⟨#[42, 42]⟩ ++ a1) a2 x3 (sz2q a0 a1 42 42 (by omega) (by omega)) (by omega)
            rw [app_data, app_data, show (⟨#[42, 42]⟩ : ByteArray).data.toList = [42, 42] from rfl, mid _ _ _ _ _ two_stars] at C
            refine C.mono ?_
            clear C
            rintro e y0 ⟨rfl, hb⟩
            have HBy0 := hid (HBx3.out.trans (hb.mono HBx3.out.size))
            clear hb
            go_wp2_with fail
            have C := match_any (a0 ++ ⟨#[42]⟩ ++ a1) a2 y0 (sz1q a0 a1 42 (by omega) (by omega)) (by omega)
            rw [app_data, app_data, show (⟨#[42]⟩ : ByteArray).data.toList = [42] from rfl] at C
            refine C.mono ?_
            clear C
            rintro e y1 ⟨rfl, hb⟩
            have HBy1 := hid (HBy0.out.trans (hb.mono HBy0.out.size))
            clear hb
            go_wp2_with fail
            have C := match_any (a0 ++ ⟨#[37, 42]⟩ ++ a1) a2 y1 (sz2q a0 a1 37 42 (by omega) (by omega)) (by omega)
            rw [app_data, app_data, show (⟨#[37, 42]⟩ : ByteArray).data.toList = [37, 42] from rfl, mid _ _ _ _ _ pct_star] at C
            refine C.mono ?_
            clear C
            rintro e y2 ⟨rfl, hb⟩
            have HBy2 := hid (HBy1.out.trans (hb.mono HBy1.out.size))
            clear hb
            go_wp2_with fail
            have C := match_any (a0 ++ ⟨#[42]⟩ ++ a1) a2 y2 (sz1q a0 a1 42 (by omega) (by omega)) (by omega)
            rw [app_data, app_data, show (⟨#[42]⟩ : ByteArray).data.toList = [42] from rfl] at C
            refine C.mono ?_
            clear C
            rintro e y3 ⟨rfl, hb⟩
            have HBy3 := hid (HBy2.out.trans (hb.mono HBy2.out.size))
            clear hb
            go_wp2_with fail
            have C := match_any (a0 ++ ⟨#[37, 37]⟩ ++ a1) a2 y3 (sz2q a0 a1 37 37 (by omega) (by omega)) (by omega)
            rw [app_data, app_data, show (⟨#[37, 37]⟩ : ByteArray).data.toList = [37, 37] from rfl, mid _ _ _ _ _ two_pcts] at C
            refine C.mono ?_
            clear C
            rintro e y4 ⟨rfl, hb⟩
            have HBy4 := hid (HBy3.out.trans (hb.mono HBy3.out.size))
            clear hb
            go_wp2_with fail
            have C := match_any (a0 ++ ⟨#[37]⟩ ++ a1) a2 y4 (sz1q a0 a1 37 (by omega) (by omega)) (by omega)
            rw [app_data, app_data, show (⟨#[37]⟩ : ByteArray).data.toList = [37] from rfl] at C
            refine C.mono ?_
            clear C
            rintro e y5 ⟨rfl, hb⟩
            have HBy5 := hid (HBy4.out.trans (hb.mono HBy4.out.size))
            clear hb
            go_wp2_with fail
            refine (alive_any (HE.out.later HBy5.out)).mono ?_
            rintro e z ⟨rfl, hb⟩
            have HBz := hid (HBy5.out.trans (hb.mono HBy5.out.size))
            clear hb
            go_wp2_with fail
            go_ret
            exact ⟨rfl, HBz.out⟩
          · have HPS := hid hps
            clear hps
            have C := match_any (a0 ++ ⟨#[42]⟩) a2 x2 (sz1 a0 42 (by omega)) (by omega)
            rw [app_data, show (⟨#[42]⟩ : ByteArray).data.toList = [42] from rfl, HPS.out] at C
            refine C.mono ?_
            clear C
            rintro e x3 ⟨rfl, hb⟩
            have HBx3 := hid (HBx2.out.trans (hb.mono HBx2.out.size))
            clear hb
            go_wp2_with fail
            have C := match_any a0 a2 x3 (by omega) (by omega)
            rw [HPA.out] at C
            refine C.mono ?_
            clear C
            rintro e x4 ⟨rfl, hb⟩
            have HBx4 := hid (HBx3.out.trans (hb.mono HBx3.out.size))
            clear hb
            go_wp2_with fail
            have C := match_any (a0 ++ ⟨#[42, 42]⟩ ++ a1) a2 x4 (sz2q a0 a1 42 42 (by omega) (by omega)) (by omega)
            rw [app_data, app_data, show (⟨#[42, 42]⟩ : ByteArray).data.toList = [42, 42] from rfl, mid _ _ _ _ _ two_stars] at C
            refine C.mono ?_
            clear C
            rintro e y0 ⟨rfl, hb⟩
            have HBy0 := hid (HBx4.out.trans (hb.mono HBx4.out.size))
            clear hb
            go_wp2_with fail
            have C := match_any (a0 ++ ⟨#[42]⟩ ++ a1) a2 y0 (sz1q a0 a1 42 (by omega) (by omega)) (by omega)
            rw [app_data, app_data, show (⟨#[42]⟩ : ByteArray).data.toList = [42] from rfl] at C
            refine C.mono ?_
            clear C
            rintro e y1 ⟨rfl, hb⟩
            have HBy1 := hid (HBy0.out.trans (hb.mono HBy0.out.size))
            clear hb
            go_wp2_with fail
            have C := match_any (a0 ++ ⟨#[37, 42]⟩ ++ a1) a2 y1 (sz2q a0 a1 37 42 (by omega) (by omega)) (by omega)
            rw [app_data, app_data, show (⟨#[37, 42]⟩ : ByteArray).data.toList = [37, 42] from rfl, mid _ _ _ _ _ pct_star] at C
            refine C.mono ?_
            clear C
            rintro e y2 ⟨rfl, hb⟩
            have HBy2 := hid (HBy1.out.trans (hb.mono HBy1.out.size))
            clear hb
            go_wp2_with fail
            have C := match_any (a0 ++ ⟨#[42]⟩ ++ a1) a2 y2 (sz1q a0 a1 42 (by omega) (by omega)) (by omega)
            rw [app_data, app_data, show (⟨#[42]⟩ : ByteArray).data.toList = [42] from rfl] at C
            refine C.mono ?_
            clear C
            rintro e y3 ⟨rfl, hb⟩
            have HBy3 := hid (HBy2.out.trans (hb.mono HBy2.out.size))
            clear hb
            go_wp2_with fail
            have C := match_any (a0 ++ ⟨#[37, 37]⟩ ++ a1) a2 y3 (sz2q a0 a1 37 37 (by omega) (by omega)) (by omega)
            rw [app_data, app_data, show (⟨#[37, 37]⟩ : ByteArray).data.toList = [37, 37] from rfl, mid _ _ _ _ _ two_pcts] at C
            refine C.mono ?_
            clear C
            rintro e y4 ⟨rfl, hb⟩
            have HBy4 := hid (HBy3.out.trans (hb.mono HBy3.out.size))
            clear hb
            go_wp2_with fail
            have C := match_any (a0 ++ ⟨#[37]⟩ ++ a1) a2 y4 (sz1q a0 a1 37 (by omega) (by omega)) (by omega)
            rw [app_data, app_data, show (⟨#[37]⟩ : ByteArray).data.toList = [37] from rfl] at C
            refine C.mono ?_
            clear C
            rintro e y5 ⟨rfl, hb⟩
            have HBy5 := hid (HBy4.out.trans (hb.mono HBy4.out.size))
            clear hb
            go_wp2_with fail
            refine (alive_any (HE.out.later HBy5.out)).mono ?_
            rintro e z ⟨rfl, hb⟩
            have HBz := hid (HBy5.out.trans (hb.mono HBy5.out.size))
            clear hb
            go_wp2_with fail
            go_ret
            exact ⟨rfl, HBz.out⟩
      · have he : (a2.toList == a3.toList) = mB a2.data.toList a3.data.toList := by
          rw [Bool.eq_iff_iff, mB_true, itself hst, beq_iff_eq, Go.Lib.toList_data, Go.Lib.toList_data]
        rw [hst]
        clear hst
        go_wp2_with fail
        have C := match_any a2 a3 w (by omega) (by omega)
        refine C.mono ?_
        clear C
        rintro e v1 ⟨rfl, hb⟩
        have HBv1 := hid hb
        clear hb
        go_wp2_with fail
        rcases Bool.eq_false_or_eq_true (mB a0.data.toList a2.data.toList) with hpa | hpa
        · have HPA := hid hpa
          clear hpa
          have C := match_any a0 a2 v1 (by omega) (by omega)
          rw [HPA.out] at C
          refine C.mono ?_
          clear C
          rintro e u1 ⟨rfl, hb⟩
          have HBu1 := hid (HBv1.out.trans (hb.mono HBv1.out.size))
          clear hb
          go_wp2_with fail
          rcases Bool.eq_false_or_eq_true (mB a1.data.toList a3.data.toList) with hqb | hqb
          · have HQB := hid hqb
            clear hqb
            have C := match_any a1 a3 u1 (by omega) (by omega)
            rw [HQB.out] at C
            refine C.mono ?_
            clear C
            rintro e u2 ⟨rfl, hb⟩
            have HBu2 := hid (HBu1.out.trans (hb.mono HBu1.out.size))
            clear hb
            go_wp2_with fail
            have C := match_any (a0 ++ a1) (a2 ++ a3) u2 (by rw [app_size]; omega) (by rw [app_size]; omega)
            rw [app_data, app_data, both _ _ _ _ HPA.out HQB.out] at C
            refine C.mono ?_
            clear C
            rintro e u3 ⟨rfl, hb⟩
            have HBu3 := hid (HBu2.out.trans (hb.mono HBu2.out.size))
            clear hb
            go_wp2_with fail
            have C := match_any ⟨#[42]⟩ a2 u3 (by decide) (by omega)
            rw [show mB (⟨#[42]⟩ : ByteArray).data.toList a2.data.toList = true from star_all _] at C
            refine C.mono ?_
            clear C
            rintro e x1 ⟨rfl, hb⟩
            have HBx1 := hid (HBu3.out.trans (hb.mono HBu3.out.size))
            clear hb
            go_wp2_with fail
            have C := match_any ⟨#[37]⟩ a2 x1 (by decide) (by omega)
            rw [show mB (⟨#[37]⟩ : ByteArray).data.toList a2.data.toList = !slashB a2.data.toList from pct_slash _] at C
            refine C.mono ?_
            clear C
            rintro e x2 ⟨rfl, hb⟩
            have HBx2 := hid (HBx1.out.trans (hb.mono HBx1.out.size))
            clear hb
            go_wp2_with fail
            have C := match_any (a0 ++ ⟨#[42]⟩) a2 x2 (sz1 a0 42 (by omega)) (by omega)
            rw [app_data, show (⟨#[42]⟩ : ByteArray).data.toList = [42] from rfl, star_more _ _ HPA.out] at C
            refine C.mono ?_
            clear C
            rintro e x3 ⟨rfl, hb⟩
            have HBx3 := hid (HBx2.out.trans (hb.mono HBx2.out.size))
            clear hb
            go_wp2_with fail
            have C := match_any (a0 ++ ⟨#[42, 42]⟩ ++ a1) a2 x3 (sz2q a0 a1 42 42 (by omega) (by omega)) (by omega)
            rw [app_data, app_data, show (⟨#[42, 42]⟩ : ByteArray).data.toList = [42, 42] from rfl, mid _ _ _ _ _ two_stars] at C
            refine C.mono ?_
            clear C
            rintro e y0 ⟨rfl, hb⟩
            have HBy0 := hid (HBx3.out.trans (hb.mono HBx3.out.size))
            clear hb
            go_wp2_with fail
            have C := match_any (a0 ++ ⟨#[42]⟩ ++ a1) a2 y0 (sz1q a0 a1 42 (by omega) (by omega)) (by omega)
            rw [app_data, app_data, show (⟨#[42]⟩ : ByteArray).data.toList = [42] from rfl] at C
            refine C.mono ?_
            clear C
            rintro e y1 ⟨rfl, hb⟩
            have HBy1 := hid (HBy0.out.trans (hb.mono HBy0.out.size))
            clear hb
            go_wp2_with fail
            have C := match_any (a0 ++ ⟨#[37, 42]⟩ ++ a1) a2 y1 (sz2q a0 a1 37 42 (by omega) (by omega)) (by omega)
            rw [app_data, app_data, show (⟨#[37, 42]⟩ : ByteArray).data.toList = [37, 42] from rfl, mid _ _ _ _ _ pct_star] at C
            refine C.mono ?_
            clear C
            rintro e y2 ⟨rfl, hb⟩
            have HBy2 := hid (HBy1.out.trans (hb.mono HBy1.out.size))
            clear hb
            go_wp2_with fail
            have C := match_any (a0 ++ ⟨#[42]⟩ ++ a1) a2 y2 (sz1q a0 a1 42 (by omega) (by omega)) (by omega)
            rw [app_data, app_data, show (⟨#[42]⟩ : ByteArray).data.toList = [42] from rfl] at C
            refine C.mono ?_
            clear C
            rintro e y3 ⟨rfl, hb⟩
            have HBy3 := hid (HBy2.out.trans (hb.mono HBy2.out.size))
            clear hb
            go_wp2_with fail
            have C := match_any (a0 ++ ⟨#[37, 37]⟩ ++ a1) a2 y3 (sz2q a0 a1 37 37 (by omega) (by omega)) (by omega)
            rw [app_data, app_data, show (⟨#[37, 37]⟩ : ByteArray).data.toList = [37, 37] from rfl, mid _ _ _ _ _ two_pcts] at C
            refine C.mono ?_
            clear C
            rintro e y4 ⟨rfl, hb⟩
            have HBy4 := hid (HBy3.out.trans (hb.mono HBy3.out.size))
            clear hb
            go_wp2_with fail
            have C := match_any (a0 ++ ⟨#[37]⟩ ++ a1) a2 y4 (sz1q a0 a1 37 (by omega) (by omega)) (by omega)
            rw [app_data, app_data, show (⟨#[37]⟩ : ByteArray).data.toList = [37] from rfl] at C
            refine C.mono ?_
            clear C
            rintro e y5 ⟨rfl, hb⟩
            have HBy5 := hid (HBy4.out.trans (hb.mono HBy4.out.size))
            clear hb
            go_wp2_with fail
            refine (alive_any (HE.out.later HBy5.out)).mono ?_
            rintro e z ⟨rfl, hb⟩
            have HBz := hid (HBy5.out.trans (hb.mono HBy5.out.size))
            clear hb
            go_wp2_with fail
            go_ret
            exact ⟨rfl, HBz.out⟩
          · have HQB := hid hqb
            clear hqb
            have C := match_any a1 a3 u1 (by omega) (by omega)
            rw [HQB.out] at C
            refine C.mono ?_
            clear C
            rintro e u2 ⟨rfl, hb⟩
            have HBu2 := hid (HBu1.out.trans (hb.mono HBu1.out.size))
            clear hb
            go_wp2_with fail
            have C := match_any ⟨#[42]⟩ a2 u2 (by decide) (by omega)
            rw [show mB (⟨#[42]⟩ : ByteArray).data.toList a2.data.toList = true from star_all _] at C
            refine C.mono ?_
            clear C
            rintro e x1 ⟨rfl, hb⟩
            have HBx1 := hid (HBu2.out.trans (hb.mono HBu2.out.size))
            clear hb
            go_wp2_with fail
            have C := match_any ⟨#[37]⟩ a2 x1 (by decide) (by omega)
            rw [show mB (⟨#[37]⟩ : ByteArray).data.toList a2.data.toList = !slashB a2.data.toList from pct_slash _] at C
            refine C.mono ?_
            clear C
            rintro e x2 ⟨rfl, hb⟩
            have HBx2 := hid (HBx1.out.trans (hb.mono HBx1.out.size))
            clear hb
            go_wp2_with fail
            have C := match_any (a0 ++ ⟨#[42]⟩) a2 x2 (sz1 a0 42 (by omega)) (by omega)
            rw [app_data, show (⟨#[42]⟩ : ByteArray).data.toList = [42] from rfl, star_more _ _ HPA.out] at C
            refine C.mono ?_
            clear C
            rintro e x3 ⟨rfl, hb⟩
            have HBx3 := hid (HBx2.out.trans (hb.mono HBx2.out.size))
            clear hb
            go_wp2_with fail
            have C := match_any (a0 ++ ⟨#[42, 42]⟩ ++ a1) a2 x3 (sz2q a0 a1 42 42 (by omega) (by omega)) (by omega)
            rw [app_data, app_data, show (⟨#[42, 42]⟩ : ByteArray).data.toList = [42, 42] from rfl, mid _ _ _ _ _ two_stars] at C
            refine C.mono ?_
            clear C
            rintro e y0 ⟨rfl, hb⟩
            have HBy0 := hid (HBx3.out.trans (hb.mono HBx3.out.size))
            clear hb
            go_wp2_with fail
            have C := match_any (a0 ++ ⟨#[42]⟩ ++ a1) a2 y0 (sz1q a0 a1 42 (by omega) (by omega)) (by omega)
            rw [app_data, app_data, show (⟨#[42]⟩ : ByteArray).data.toList = [42] from rfl] at C
            refine C.mono ?_
            clear C
            rintro e y1 ⟨rfl, hb⟩
            have HBy1 := hid (HBy0.out.trans (hb.mono HBy0.out.size))
            clear hb
            go_wp2_with fail
            have C := match_any (a0 ++ ⟨#[37, 42]⟩ ++ a1) a2 y1 (sz2q a0 a1 37 42 (by omega) (by omega)) (by omega)
            rw [app_data, app_data, show (⟨#[37, 42]⟩ : ByteArray).data.toList = [37, 42] from rfl, mid _ _ _ _ _ pct_star] at C
            refine C.mono ?_
            clear C
            rintro e y2 ⟨rfl, hb⟩
            have HBy2 := hid (HBy1.out.trans (hb.mono HBy1.out.size))
            clear hb
            go_wp2_with fail
            have C := match_any (a0 ++ ⟨#[42]⟩ ++ a1) a2 y2 (sz1q a0 a1 42 (by omega) (by omega)) (by omega)
            rw [app_data, app_data, show (⟨#[42]⟩ : ByteArray).data.toList = [42] from rfl] at C
            refine C.mono ?_
            clear C
            rintro e y3 ⟨rfl, hb⟩
            have HBy3 := hid (HBy2.out.trans (hb.mono HBy2.out.size))
            clear hb
            go_wp2_with fail
            have C := match_any (a0 ++ ⟨#[37, 37]⟩ ++ a1) a2 y3 (sz2q a0 a1 37 37 (by omega) (by omega)) (by omega)
            rw [app_data, app_data, show (⟨#[37, 37]⟩ : ByteArray).data.toList = [37, 37] from rfl, mid _ _ _ _ _ two_pcts] at C
            refine C.mono ?_
            clear C
            rintro e y4 ⟨rfl, hb⟩
            have HBy4 := hid (HBy3.out.trans (hb.mono HBy3.out.size))
            clear hb
            go_wp2_with fail
            have C := match_any (a0 ++ ⟨#[37]⟩ ++ a1) a2 y4 (sz1q a0 a1 37 (by omega) (by omega)) (by omega)
            rw [app_data, app_data, show (⟨#[37]⟩ : ByteArray).data.toList = [37] from rfl] at C
            refine C.mono ?_
            clear C
            rintro e y5 ⟨rfl, hb⟩
            have HBy5 := hid (HBy4.out.trans (hb.mono HBy4.out.size))
            clear hb
            go_wp2_with fail
            refine (alive_any (HE.out.later HBy5.out)).mono ?_
            rintro e z ⟨rfl, hb⟩
            have HBz := hid (HBy5.out.trans (hb.mono HBy5.out.size))
            clear hb
            go_wp2_with fail
            go_ret
            exact ⟨rfl, HBz.out⟩
        · have HPA := hid hpa
          clear hpa
          have C := match_any a0 a2 v1 (by omega) (by omega)
          rw [HPA.out] at C
          refine C.mono ?_
          clear C
          rintro e u1 ⟨rfl, hb⟩
          have HBu1 := hid (HBv1.out.trans (hb.mono HBv1.out.size))
          clear hb
          go_wp2_with fail
          have C := match_any ⟨#[42]⟩ a2 u1 (by decide) (by omega)
          rw [show mB (⟨#[42]⟩ : ByteArray).data.toList a2.data.toList = true from star_all _] at C
          refine C.mono ?_
          clear C
          rintro e x1 ⟨rfl, hb⟩
          have HBx1 := hid (HBu1.out.trans (hb.mono HBu1.out.size))
          clear hb
          go_wp2_with fail
          have C := match_any ⟨#[37]⟩ a2 x1 (by decide) (by omega)
          rw [show mB (⟨#[37]⟩ : ByteArray).data.toList a2.data.toList = !slashB a2.data.toList from pct_slash _] at C
          refine C.mono ?_
          clear C
          rintro e x2 ⟨rfl, hb⟩
          have HBx2 := hid (HBx1.out.trans (hb.mono HBx1.out.size))
          clear hb
          go_wp2_with fail
          rcases Bool.eq_false_or_eq_true (mB (a0.data.toList ++ [42]) a2.data.toList) with hps | hps
          · have HPS := hid hps
            clear hps
            have C := match_any (a0 ++ ⟨#[42]⟩) a2 x2 (sz1 a0 42 (by omega)) (by omega)
            rw [app_data, show (⟨#[42]⟩ : ByteArray).data.toList = [42] from rfl, HPS.out] at C
            refine C.mono ?_
            clear C
            rintro e x3 ⟨rfl, hb⟩
            have HBx3 := hid (HBx2.out.trans (hb.mono HBx2.out.size))
            clear hb
            go_wp2_with fail
            have C := match_any (a0 ++ ⟨#[42, 42]⟩ ++ a1) a2 x3 (sz2q a0 a1 42 42 (by omega) (by omega)) (by omega)
            rw [app_data, app_data, show (⟨#[42, 42]⟩ : ByteArray).data.toList = [42, 42] from rfl, mid _ _ _ _ _ two_stars] at C
            refine C.mono ?_
            clear C
            rintro e y0 ⟨rfl, hb⟩
            have HBy0 := hid (HBx3.out.trans (hb.mono HBx3.out.size))
            clear hb
            go_wp2_with fail
            have C := match_any (a0 ++ ⟨#[42]⟩ ++ a1) a2 y0 (sz1q a0 a1 42 (by omega) (by omega)) (by omega)
            rw [app_data, app_data, show (⟨#[42]⟩ : ByteArray).data.toList = [42] from rfl] at C
            refine C.mono ?_
            clear C
            rintro e y1 ⟨rfl, hb⟩
            have HBy1 := hid (HBy0.out.trans (hb.mono HBy0.out.size))
            clear hb
            go_wp2_with fail
            have C := match_any (a0 ++ ⟨#[37, 42]⟩ ++ a1) a2 y1 (sz2q a0 a1 37 42 (by omega) (by omega)) (by omega)
            rw [app_data, app_data, show (⟨#[37, 42]⟩ : ByteArray).data.toList = [37, 42] from rfl, mid _ _ _ _ _ pct_star] at C
            refine C.mono ?_
            clear C
            rintro e y2 ⟨rfl, hb⟩
            have HBy2 := hid (HBy1.out.trans (hb.mono HBy1.out.size))
            clear hb
            go_wp2_with fail
            have C := match_any (a0 ++ ⟨#[42]⟩ ++ a1) a2 y2 (sz1q a0 a1 42 (by omega) (by omega)) (by omega)
            rw [app_data, app_data, show (⟨#[42]⟩ : ByteArray).data.toList = [42] from rfl] at C
            refine C.mono ?_
            clear C
            rintro e y3 ⟨rfl, hb⟩
            have HBy3 := hid (HBy2.out.trans (hb.mono HBy2.out.size))
            clear hb
            go_wp2_with fail
            have C := match_any (a0 ++ ⟨#[37, 37]⟩ ++ a1) a2 y3 (sz2q a0 a1 37 37 (by omega) (by omega)) (by omega)
            rw [app_data, app_data, show (⟨#[37, 37]⟩ : ByteArray).data.toList = [37, 37] from rfl, mid _ _ _ _ _ two_pcts] at C
            refine C.mono ?_
            clear C
            rintro e y4 ⟨rfl, hb⟩
            have HBy4 := hid (HBy3.out.trans (hb.mono HBy3.out.size))
            clear hb
            go_wp2_with fail
            have C := match_any (a0 ++ ⟨#[37]⟩ ++ a1) a2 y4 (sz1q a0 a1 37 (by omega) (by omega)) (by omega)
            rw [app_data, app_data, show (⟨#[37]⟩ : ByteArray).data.toList = [37] from rfl] at C
            refine C.mono ?_
            clear C
            rintro e y5 ⟨rfl, hb⟩
            have HBy5 := hid (HBy4.out.trans (hb.mono HBy4.out.size))
            clear hb
            go_wp2_with fail
            refine (alive_any (HE.out.later HBy5.out)).mono ?_
            rintro e z ⟨rfl, hb⟩
            have HBz := hid (HBy5.out.trans (hb.mono HBy5.out.size))
            clear hb
            go_wp2_with fail
            go_ret
            exact ⟨rfl, HBz.out⟩
          · have HPS := hid hps
            clear hps
            have C := match_any (a0 ++ ⟨#[42]⟩) a2 x2 (sz1 a0 42 (by omega)) (by omega)
            rw [app_data, show (⟨#[42]⟩ : ByteArray).data.toList = [42] from rfl, HPS.out] at C
            refine C.mono ?_
            clear C
            rintro e x3 ⟨rfl, hb⟩
            have HBx3 := hid (HBx2.out.trans (hb.mono HBx2.out.size))
            clear hb
            go_wp2_with fail
            have C := match_any a0 a2 x3 (by omega) (by omega)
            rw [HPA.out] at C
            refine C.mono ?_
            clear C
            rintro e x4 ⟨rfl, hb⟩
            have HBx4 := hid (HBx3.out.trans (hb.mono HBx3.out.size))
            clear hb
            go_wp2_with fail
            have C := match_any (a0 ++ ⟨#[42, 42]⟩ ++ a1) a2 x4 (sz2q a0 a1 42 42 (by omega) (by omega)) (by omega)
            rw [app_data, app_data, show (⟨#[42, 42]⟩ : ByteArray).data.toList = [42, 42] from rfl, mid _ _ _ _ _ two_stars] at C
            refine C.mono ?_
            clear C
            rintro e y0 ⟨rfl, hb⟩
            have HBy0 := hid (HBx4.out.trans (hb.mono HBx4.out.size))
            clear hb
            go_wp2_with fail
            have C := match_any (a0 ++ ⟨#[42]⟩ ++ a1) a2 y0 (sz1q a0 a1 42 (by omega) (by omega)) (by omega)
            rw [app_data, app_data, show (⟨#[42]⟩ : ByteArray).data.toList = [42] from rfl] at C
            refine C.mono ?_
            clear C
            rintro e y1 ⟨rfl, hb⟩
            have HBy1 := hid (HBy0.out.trans (hb.mono HBy0.out.size))
            clear hb
            go_wp2_with fail
            have C := match_any (a0 ++ ⟨#[37, 42]⟩ ++ a1) a2 y1 (sz2q a0 a1 37 42 (by omega) (by omega)) (by omega)
            rw [app_data, app_data, show (⟨#[37, 42]⟩ : ByteArray).data.toList = [37, 42] from rfl, mid _ _ _ _ _ pct_star] at C
            refine C.mono ?_
            clear C
            rintro e y2 ⟨rfl, hb⟩
            have HBy2 := hid (HBy1.out.trans (hb.mono HBy1.out.size))
            clear hb
            go_wp2_with fail
            have C := match_any (a0 ++ ⟨#[42]⟩ ++ a1) a2 y2 (sz1q a0 a1 42 (by omega) (by omega)) (by omega)
            rw [app_data, app_data, show (⟨#[42]⟩ : ByteArray).data.toList = [42] from rfl] at C
            refine C.mono ?_
            clear C
            rintro e y3 ⟨rfl, hb⟩
            have HBy3 := hid (HBy2.out.trans (hb.mono HBy2.out.size))
            clear hb
            go_wp2_with fail
            have C := match_any (a0 ++ ⟨#[37, 37]⟩ ++ a1) a2 y3 (sz2q a0 a1 37 37 (by omega) (by omega)) (by omega)
            rw [app_data, app_data, show (⟨#[37, 37]⟩ : ByteArray).data.toList = [37, 37] from rfl, mid _ _ _ _ _ two_pcts] at C
            refine C.mono ?_
            clear C
            rintro e y4 ⟨rfl, hb⟩
            have HBy4 := hid (HBy3.out.trans (hb.mono HBy3.out.size))
            clear hb
            go_wp2_with fail
            have C := match_any (a0 ++ ⟨#[37]⟩ ++ a1) a2 y4 (sz1q a0 a1 37 (by omega) (by omega)) (by omega)
            rw [app_data, app_data, show (⟨#[37]⟩ : ByteArray).data.toList = [37] from rfl] at C
            refine C.mono ?_
            clear C
            rintro e y5 ⟨rfl, hb⟩
            have HBy5 := hid (HBy4.out.trans (hb.mono HBy4.out.size))
            clear hb
            go_wp2_with fail
            refine (alive_any (HE.out.later HBy5.out)).mono ?_
            rintro e z ⟨rfl, hb⟩
            have HBz := hid (HBy5.out.trans (hb.mono HBy5.out.size))
            clear hb
            go_wp2_with fail
            go_ret
            exact ⟨rfl, HBz.out⟩

theorem witness (os : Os) {H : Type} (enc : TypeId × Value → H) :
    (OpenSpec.ofChange Rows.namesStarsSpec).preRow enc Tryd.prog Tryd.f9 Rows.namesStarsRow.domain false Rows.namesStarsRow.laid ((laidWorld os).forCall (fun _ _ => 0) ⟨#[], #[.string ⟨#[]⟩, .string ⟨#[]⟩, .string ⟨#[]⟩, .string ⟨#[]⟩], []⟩).memory #[.string ⟨#[]⟩, .string ⟨#[]⟩, .string ⟨#[]⟩, .string ⟨#[]⟩] := by
  have hw : (DataW.whole enc Tryd.prog ((laidWorld os).forCall (fun _ _ => 0) ⟨#[], #[.string ⟨#[]⟩, .string ⟨#[]⟩, .string ⟨#[]⟩, .string ⟨#[]⟩], []⟩).memory Tryd.f9.params.toList Rows.namesStarsSpec.vars false (#[.string ⟨#[]⟩, .string ⟨#[]⟩, .string ⟨#[]⟩, .string ⟨#[]⟩] : Array Value).toList 8).map (fun x => (x.1, x.2.1)) =
      some ([.lit (.string []), .lit (.string []), .lit (.string []), .lit (.string [])], []) := by kernel_rfl
  obtain ⟨⟨x1, x2, x3⟩, hx, hx1⟩ := Option.map_eq_some_iff.1 hw
  simp only [Prod.mk.injEq] at hx1
  obtain ⟨rfl, rfl⟩ := hx1
  exact OpenSpec.preRow_of_cond 8 hx (by kernel_rfl) (fun k hk => by cases hk) (by kernel_rfl) (laid_met os _)

set_option maxRecDepth 100000 in
set_option maxHeartbeats 2000000 in
theorem lifted (os : Os) (started : os.Started) (H : Type) (enc : TypeId × Value → H) (F : Stop.Interp) :
    ReturnsInHanded {} Tryd.checked os 9 .any ((OpenSpec.ofChange Rows.namesStarsSpec).preRow enc Tryd.prog Tryd.f9 Rows.namesStarsRow.domain false Rows.namesStarsRow.laid) (((OpenSpec.ofChange Rows.namesStarsSpec).at F).post enc Tryd.prog Tryd.f9 false true false false) := by
  refine returnsInHanded_of_row (C := Tryd.checked) (s := OpenSpec.ofChange Rows.namesStarsSpec) own started (by kernel_rfl) Tryd.func9
    (witness_row_atRef (enc := enc) (C := Tryd.checked) false (laidWorld os) #[.string ⟨#[]⟩, .string ⟨#[]⟩, .string ⟨#[]⟩, .string ⟨#[]⟩] rfl (by kernel_rfl) (by kernel_rfl) (by kernel_rfl) (witness os enc)) ?_
  intro W base args ds gs before hval0 hW _ _ _ hL hsh _
  have hval : ∀ (j : Nat) t v, Tryd.f9.params[j]? = some t → args[j]? = some v → Value.okWide Tryd.prog W .any base t v := hval0
  have hW' := hW
  obtain ⟨p, q, hA0, hV, rfl, hfz, hnd⟩ := hW
  have hA : DataW.TrodAll enc Tryd.prog W 0 (fun _ => true) true Tryd.f9.params.toList args.toList ds p := hA0
  rw [Tryd.params9] at hA hval
  obtain ⟨v0, vs0, d0, ds0, p0, q0, hargs, rfl, rfl, h0, r0⟩ := trodAll_cons hA
  obtain ⟨v1, vs1, d1, ds1, p1, q1, rfl, rfl, rfl, h1, r1⟩ := trodAll_cons r0
  obtain ⟨v2, vs2, d2, ds2, p2, q2, rfl, rfl, rfl, h2, r2⟩ := trodAll_cons r1
  obtain ⟨v3, vs3, d3, ds3, p3, q3, rfl, rfl, rfl, h3, r3⟩ := trodAll_cons r2
  obtain ⟨rfl, rfl, rfl⟩ := trodAll_nil r3
  obtain rfl : args = #[v0, v1, v2, v3] := by cases args; simp_all
  obtain ⟨rfl, rfl⟩ := trodVars_none hV
  obtain ⟨a0, rfl, rfl, rfl, w0⟩ := open_string Tryd.underlying9 (hval 0 9 v0 rfl rfl) h0
  obtain ⟨a1, rfl, rfl, rfl, w1⟩ := open_string Tryd.underlying9 (hval 1 9 v1 rfl rfl) h1
  obtain ⟨a2, rfl, rfl, rfl, w2⟩ := open_string Tryd.underlying9 (hval 2 9 v2 rfl rfl) h2
  obtain ⟨a3, rfl, rfl, rfl, w3⟩ := open_string Tryd.underlying9 (hval 3 9 v3 rfl rfl) h3
  clear hA0 hval0
  refine (walk a0 a1 a2 a3 (env_of hL hsh) w0 w1 w2 w3).mono ?_
  rintro e W' ⟨rfl, bel⟩
  exact ⟨_, rfl, _, _, _, [], _, [], hW', trodAll_mk1 (shut_bool Tryd.underlying4 _), (trodAll_cons_mk (shut_string Tryd.underlying9 w0) (trodAll_cons_mk (shut_string Tryd.underlying9 w1) (trodAll_cons_mk (shut_string Tryd.underlying9 w2) (trodAll_cons_mk (shut_string Tryd.underlying9 w3) trodAll_mk0)))), rfl, bel.frame _, fun h => by cases h⟩

theorem over : Rows.namesStarsRow.holds Tryd.pinned (OpenSpec.ofChange Rows.namesStarsSpec) :=
  OpenClaim.holds_of_cond 9 Tryd.f9 rfl rfl rfl rfl rfl rfl rfl ⟨rfl, rfl, rfl, rfl, rfl⟩ rfl rfl rfl rfl rfl (by kernel_rfl) Tryd.func9 (by kernel_rfl)
    (of_decide_eq_true (by kernel_rfl)) (by unfold Func.isWrapper; first | (rw [if_pos (by decide +kernel)]; kernel_rfl) | (rw [if_neg (by decide +kernel)]; exact ⟨rfl, rfl⟩))
    (fun os started H enc _ F => by rw [OpenClaim.pre_eq_preRow]; exact lifted os started H enc F)

/-- No parameter wants a stand-in. -/
theorem plain (f : FuncId) (fn : Func) (hf : Tryd.pinned.checked.prog.funcNamed Rows.namesStarsRow.func = some f) (hfn : Tryd.pinned.checked.prog.funcs[f]? = some fn) :
    false = Tryd.pinned.checked.prog.looks [] ∧ ∀ (j : Nat) t, fn.params[j]? = some t → Tryd.pinned.checked.prog.wantsStandIn t = false := by
  obtain rfl : f = 9 := Option.some.inj ((show Tryd.prog.funcNamed Rows.namesStarsRow.func = some 9 by kernel_rfl).symm.trans hf) |>.symm
  obtain rfl : fn = Tryd.f9 := (Option.some.inj (Tryd.func9.symm.trans hfn)).symm
  refine ⟨by kernel_rfl, fun j t ht => ?_⟩
  rw [Tryd.params9] at ht
  obtain rfl : t = 9 := by simpa using Array.mem_of_getElem? ht
  exact (show Tryd.prog.wantsStandIn 9 = false by kernel_rfl)
end Go.Proofs.YtkmggkcipgfhdaaDoor.namesStars
namespace Go.Proofs.YtkmggkcipgfhdaaDoor
/-- THE STATEMENT. -/
theorem namesStars_holds : Rows.NamesStarsCardSaid :=
  Claim7.holds_tied_plain_at .later [] _ _ _ _ namesStars.over (fun _ h => by cases h) (by kernel_rfl) (fun _ h => by cases h) namesStars_row_tie rfl ⟨rfl, rfl⟩ (by kernel_rfl) rfl namesStars.plain (by kernel_rfl)
#print axioms namesStars_holds
end Go.Proofs.YtkmggkcipgfhdaaDoor
