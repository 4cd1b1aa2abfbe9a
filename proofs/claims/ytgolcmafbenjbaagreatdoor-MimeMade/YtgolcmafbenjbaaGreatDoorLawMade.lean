/- Proved here: a message that is made of contents with a border that stands in none of them has these as its parts, each as it was (MimeMade returns true for every input, and leaves its arguments as they were). No condition beyond what the card says: two tables of the library hold what its text lays. -/
import Derived.Test.YtgolcmafbenjbaaGreatDoorCards
import Derived.Test.YtgolcmafbenjbaaGreatDoorTie
import Derived.Test.YtgolcmafbenjbaaGreatDoorOpen
import Derived.Test.YtgolcmafbenjbaaGreatDoorQ7
import Derived.ProofKit
import Derived.OpenShut
import Derived.ShutString
import Derived.Below
namespace Go.Proofs.YtgolcmafbenjbaaGreatDoor.mimeMade
open Go.ChangeShapes Go.WideShapes Go.ChangeAt Go.RowKit
open Go.ChangeMaps (open_string shut_string)
set_option linter.unusedVariables false
set_option linter.unusedSimpArgs false

theorem ss (l : Bs) : ((str l).toList == (str l).toList) = true := by simp
theorem sn (l : Bs) : ((str l).toList != (str l).toList) = false := by simp [bne]
def sm (l : List Bs) : Nat := (l.map fun t => min t.length 5000).sum
theorem sm_snoc (l : List Bs) (k : Nat) (h : k < l.length) : sm (l.take (k + 1)) = sm (l.take k) + min l[k].length 5000 := by
  rw [List.take_succ_eq_append_getElem h]
  simp only [sm, List.map_append, List.sum_append, List.map_cons, List.map_nil, List.sum_cons, List.sum_nil, Nat.add_zero]
theorem sm_le (l : List Bs) (k : Nat) : sm (l.take k) ≤ k * 5000 := by
  induction k with
  | zero => simp [sm]
  | succ k ih =>
    by_cases h : k < l.length
    · rw [sm_snoc l k h]; omega
    · have e : l.take (k + 1) = l.take k := by rw [List.take_of_length_le (by omega), List.take_of_length_le (by omega)]
      rw [e]
      exact Nat.le_trans ih (Nat.mul_le_mul_right _ (by omega))
theorem sm_part (l : List Bs) (k : Nat) : sm (l.take k) ≤ sm l := by
  induction l generalizing k with
  | nil => simp [sm]
  | cons a l ih =>
    cases k with
    | zero => simp [sm]
    | succ k => have := ih k; simp [sm] at this ⊢; omega
theorem mn (n : Nat) : ∃ m : Nat, min (n : Int) 5000 = m ∧ m = min n 5000 ∧ m ≤ 5000 := ⟨min n 5000, by omega, rfl, by omega⟩
/-- What was laid of so many contents. -/
def pre (L : List Bs) (k : Nat) : Bs := hMade ++ (wAhead ++ (L.take k).flatMap onePart)
theorem pre_next (L : List Bs) (k : Nat) (h : k < L.length) : pre L k ++ (wBord ++ hPart) ++ L[k] ++ [13, 10] = pre L (k + 1) := by
  unfold pre
  rw [List.take_succ_eq_append_getElem h, List.flatMap_append, show [L[k]].flatMap onePart = onePart L[k] by simp]
  simp [onePart]
theorem pre_end (L : List Bs) : pre L L.length ++ wEnd = made L := by
  unfold pre made rests
  simp
theorem pre_len (L : List Bs) (hs : sm L ≤ 4000) : ∀ k, k ≤ 40 → (pre L k).length ≤ 68 + 35 * k + sm (L.take k) := by
  intro k
  induction k with
  | zero => intro _; simp [pre, hMade, wAhead, sm]
  | succ k ih =>
    intro hk
    have h1 := ih (by omega)
    by_cases h : k < L.length
    · rw [← pre_next L k h, sm_snoc L k h]
      have h2 := sm_part L (k + 1)
      rw [sm_snoc L k h] at h2
      simp only [List.length_append, List.length_cons, List.length_nil, show wBord.length = 7 from rfl, show hPart.length = 26 from rfl]
      omega
    · have e : L.take (k + 1) = L.take k := by rw [List.take_of_length_le (by omega), List.take_of_length_le (by omega)]
      unfold pre at h1 ⊢
      rw [e]
      omega
def Sec (s : Bs) (v : Value) (what : ByteArray) (t : Bs) (W : World) : Prop := Calls Tryz.prog 17 #[.string (str s), v, .string what] W fun e w' => e = .returned (.tuple #[.string (str t), .bool true]) ∧ Below W.heap.size W w'
theorem sec_of {s : Bs} {v : Value} {what : ByteArray} {o : Option Bs} {W : World} (h : Calls Tryz.prog 17 #[.string (str s), v, .string what] W (SOut o W)) (t : Bs) (ho : o = some t) : Sec s v what t W := by
  refine h.mono ?_
  rintro e w' ⟨hb, hv⟩
  subst ho
  exact ⟨hv, hb⟩
set_option maxRecDepth 100000 in
set_option maxHeartbeats 8000000 in
theorem walk (a : Option Addr) (len cap : Nat) (L : List Bs) {w : World} (hl : TextsOk w a len cap L) (he : Env w) :
    Calls Tryz.prog 6 #[.slice a len cap] w fun e w' => e = .returned (.bool true) ∧ Below w.heap.size w w' := by
  have HE := hid he
  obtain ⟨⟨_, a', c', hv', hcc, hr⟩, hlen, hsmall, heach⟩ := hl
  subst hlen
  simp only [Value.slice.injEq, List.length_map] at hv'
  obtain ⟨rfl, _, rfl⟩ := hv'
  clear he
  rcases hr with hr | ⟨g, o, rfl, hra, hg⟩
  · have h0 : L = [] := by simpa using hr
    subst h0
    clear hr hcc hsmall heach
    go_enter Tryz.func6, Tryz.ntmps6
    go_wp2_with fail
    go_loop [3, 4] (fun nv i => nv = .int .i64 0 ∧ i = .int .i64 0) (fun _ _ => 0)
    case atStart => exact ⟨rfl, rfl⟩
    case round =>
      obtain ⟨rfl, rfl⟩ := hrel
      go_wp2_with fail
      refine (alive_any HE.out).mono ?_
      rintro e wz ⟨rfl, hb⟩
      have HBz := hid (hb)
      clear hb
      go_wp2_with fail
      go_ret
      exact ⟨rfl, HBz.out⟩
  · have HEa := hid heach
    have HC : Hid (∀ k (hk : k < L.length), w.cell? ⟨g, o + k, none⟩ = some (.string (str L[k]))) := fun k hk => by
      have := hra k 0 (sR L[k]) L[k] (by rw [List.getElem?_map, List.getElem?_eq_getElem hk]; rfl) rfl
      simpa using this
    have hmx : maxLen ≤ 9223372036854775807 := by decide
    clear hra hcc heach
    by_cases hL0 : L.length = 0
    · have q0 : ((L.length : Int) == 0) = true := by rw [hL0]; rfl
      have HL0 := hid hL0
      have q1 : ¬ (0 : Int) < L.length := by omega
      have q2 : ¬ (40 : Int) < L.length := by omega
      clear hL0
      go_enter Tryz.func6, Tryz.ntmps6
      go_wp2_with fail
      go_loop [3, 4] (fun nv i => nv = .int .i64 0 ∧ i = .int .i64 0) (fun _ _ => 0)
      case atStart => exact ⟨rfl, rfl⟩
      case round =>
        obtain ⟨rfl, rfl⟩ := hrel
        go_wp2_with fail
        refine (alive_any HE.out).mono ?_
        rintro e wz ⟨rfl, hb⟩
        have HBz := hid (hb)
        clear hb
        go_wp2_with fail
        go_ret
        exact ⟨rfl, HBz.out⟩
    · have qL0 : ((L.length : Int) == 0) = false := by rw [beq_eq_false_iff_ne]; omega
      have HL0 := hid hL0
      clear hL0
      go_enter Tryz.func6, Tryz.ntmps6
      go_wp2_with fail
      go_loop [3, 4] (fun nv i => ∃ k : Nat, k ≤ 41 ∧ k ≤ L.length ∧ nv = .int .i64 (sm (L.take k)) ∧ i = .int .i64 k) (fun _ i => 50 - (intOf i).toNat)
      case atStart => exact ⟨0, by omega, by omega, by simp [sm], rfl⟩
      case round =>
        obtain ⟨k, hk41, hk, rfl, rfl⟩ := hrel
        have hsm := sm_le L k
        by_cases hlt : k < L.length
        · have hlt' : (k : Int) < L.length := by omega
          by_cases h40 : k ≤ 40
          · have h40' : (k : Int) ≤ 40 := by omega
            have ct := HC.out k hlt
            have hx := HEa.out L[k] (List.getElem_mem hlt)
            obtain ⟨m, hm1, hm2, hm3⟩ := mn L[k].length
            have HS : Hid (sm (L.take (k + 1)) = sm (L.take k) + m) := by rw [Hid, sm_snoc L k hlt, hm2]
            have hz := str_size L[k]
            clear hm2 qL0
            generalize L[k] = t at *
            generalize sm (L.take k) = n at *
            go_wp2_with fail
            go_round
            case rel => exact ⟨k + 1, by omega, by omega, by rw [HS.out]; go_num, by go_num⟩
            case measure => simp [intOf]; omega
          · have h40' : ¬ (k : Int) ≤ 40 := by omega
            have hl40 : (40 : Int) < L.length := by omega
            generalize sm (L.take k) = n at *
            clear qL0
            go_wp2_with fail
            refine (alive_any HE.out).mono ?_
            rintro e wz ⟨rfl, hb⟩
            have HBz := hid (hb)
            clear hb
            go_wp2_with fail
            go_ret
            exact ⟨rfl, HBz.out⟩
        · have hlt' : ¬ (k : Int) < L.length := by omega
          have hkL : k = L.length := by omega
          have HkL := hid hkL
          have hsmL : sm (L.take k) = sm L := by rw [List.take_of_length_le (by omega)]
          rw [hsmL] at hsm ⊢
          clear hsmL
          by_cases hl40 : 40 < L.length
          · have hl40' : (40 : Int) < L.length := by omega
            generalize sm L = n at *
            clear hkL qL0
            go_wp2_with fail
            refine (alive_any HE.out).mono ?_
            rintro e wz ⟨rfl, hb⟩
            have HBz := hid (hb)
            clear hb
            go_wp2_with fail
            go_ret
            exact ⟨rfl, HBz.out⟩
          · have hl40' : ¬ (40 : Int) < L.length := by omega
            by_cases hn : 4000 < sm L
            · have hn' : (4000 : Int) < (sm L : Int) := by omega
              generalize sm L = n at *
              clear hkL qL0
              go_wp2_with fail
              refine (alive_any HE.out).mono ?_
              rintro e wz ⟨rfl, hb⟩
              have HBz := hid (hb)
              clear hb
              go_wp2_with fail
              go_ret
              exact ⟨rfl, HBz.out⟩
            · have hn' : ¬ (4000 : Int) < (sm L : Int) := by omega
              have HPl := hid (pre_len L (by omega))
              have HSp := hid (sm_part L)
              have HsL : Hid (sm L ≤ 4000) := by rw [Hid]; omega
              generalize hn9 : sm L = n9 at *
              have Hl40 : Hid (L.length ≤ 40) := by rw [Hid]; omega
              clear hn9 hkL hlt hk41 hk hl40 hn hsm hsmall
              go_wp2_with fail
              go_loopw [5, 45] (fun sv i wr => ∃ j : Nat, j ≤ L.length ∧ i = .int .i64 j ∧ sv = .string (str (pre L j)) ∧ w = wr ∧ ∀ q (hq : q < L.length), q < j → NoDD L[q]) (fun _ i _ => L.length - (intOf i).toNat)
              case atStart => exact ⟨0, by omega, rfl, rfl, rfl, fun q hq h => by omega⟩
              case round =>
                obtain ⟨j, hj, rfl, rfl, rfl, hnd⟩ := hrel
                have HND := hid hnd
                clear hnd
                by_cases hjl : j < L.length
                · have hjl' : (j : Int) < L.length := by omega
                  have ct := HC.out j hjl
                  have hx := HEa.out L[j] (List.getElem_mem hjl)
                  have hxl : L[j].length ≤ 4000 := by
                    have h1 := HSp.out (j + 1)
                    rw [sm_snoc L j hjl] at h1
                    have := HsL.out
                    omega
                  have HPx := hid (plain_any L[j] w (by omega))
                  unfold PlainIs at HPx
                  have hp1 := HPl.out j (by have := Hl40.out; omega)
                  have hp2 := HSp.out j
                  have hnx := pre_next L j hjl
                  have e1 : str (pre L j) ++ (⟨#[45, 45, 61, 98, 61, 13, 10, 67, 111, 110, 116, 101, 110, 116, 45, 68, 101, 115, 99, 114, 105, 112, 116, 105, 111, 110, 58, 32, 100, 13, 10, 13, 10]⟩ : ByteArray) = str (pre L j ++ (wBord ++ hPart)) := app_str _ _
                  have e2 : str (pre L j ++ (wBord ++ hPart)) ++ str L[j] = str (pre L j ++ (wBord ++ hPart) ++ L[j]) := app_str _ _
                  have e3 : str (pre L j ++ (wBord ++ hPart) ++ L[j]) ++ (⟨#[13, 10]⟩ : ByteArray) = str (pre L (j + 1)) := by rw [← hnx]; exact app_str _ _
                  have z1 := str_size (pre L j)
                  have z2 := str_size (pre L j ++ (wBord ++ hPart))
                  have z3 := str_size (pre L j ++ (wBord ++ hPart) ++ L[j])
                  have zx := str_size L[j]
                  have z2' : (pre L j ++ (wBord ++ hPart)).length = (pre L j).length + 33 := by rw [List.length_append]; rfl
                  have z3' : (pre L j ++ (wBord ++ hPart) ++ L[j]).length = (pre L j).length + 33 + L[j].length := by rw [List.length_append, z2']
                  have HNx : Hid (∀ r : Bool, (r = true → NoDD L[j]) → r = true → ∀ q (hq : q < L.length), q < j + 1 → NoDD L[q]) := fun r h1 h2 q hq h => by
                    rcases Nat.lt_or_ge q j with h3 | h3
                    · exact HND.out q hq h3
                    · obtain rfl : q = j := by omega
                      exact h1 h2
                  have HsL2 := HsL.out
                  have Hl2 := Hl40.out
                  have n1 : ¬ 9223372036854775807 < (str (pre L j)).size + (⟨#[45, 45, 61, 98, 61, 13, 10, 67, 111, 110, 116, 101, 110, 116, 45, 68, 101, 115, 99, 114, 105, 112, 116, 105, 111, 110, 58, 32, 100, 13, 10, 13, 10]⟩ : ByteArray).size := by rw [z1, show (⟨#[45, 45, 61, 98, 61, 13, 10, 67, 111, 110, 116, 101, 110, 116, 45, 68, 101, 115, 99, 114, 105, 112, 116, 105, 111, 110, 58, 32, 100, 13, 10, 13, 10]⟩ : ByteArray).size = 33 from rfl]; omega
                  have n2 : ¬ 9223372036854775807 < (str (pre L j ++ (wBord ++ hPart))).size + (str L[j]).size := by rw [z2, zx]; omega
                  have n3 : ¬ 9223372036854775807 < (str (pre L j ++ (wBord ++ hPart) ++ L[j])).size + (⟨#[13, 10]⟩ : ByteArray).size := by rw [z3, show (⟨#[13, 10]⟩ : ByteArray).size = 2 from rfl]; omega
                  have HSv : Hid (str (pre L (j + 1)) = str (pre L (j + 1))) := rfl
                  clear z1 z2 z3 z2' z3' hp1 hp2 hnx HsL2 Hl2 hxl
                  generalize hA0 : str (pre L j) = A0 at *
                  generalize str (pre L j ++ (wBord ++ hPart)) = A1 at *
                  generalize str (pre L j ++ (wBord ++ hPart) ++ L[j]) = A2 at *
                  generalize hA3 : str (pre L (j + 1)) = A3 at *
                  have HA3 := hid hA3
                  clear hA0 hA3
                  go_wp2_with fail
                  refine HPx.out.mono ?_
                  rintro e w2 ⟨r, rfl, hr, rfl⟩
                  cases r with
                  | false =>
                    clear hr
                    go_wp2_with fail
                    refine (alive_any HE.out).mono ?_
                    rintro e wz ⟨rfl, hb⟩
                    have HBz := hid (hb)
                    clear hb
                    go_wp2_with fail
                    go_ret
                    exact ⟨rfl, HBz.out⟩
                  | true =>
                    have HN2 := hid (HNx.out true hr rfl)
                    clear hr
                    go_wp2_with fail
                    go_roundw
                    case rel => exact ⟨j + 1, by omega, by go_num, by rw [HA3.out], by first | rfl | trivial, HN2.out⟩
                    case measure => simp [intOf]; omega
                · have hjl' : ¬ (j : Int) < L.length := by omega
                  have hjL : j = L.length := by omega
                  subst hjL
                  clear hjl hj
                  have hml : (made L).length ≤ 6000 := by
                    rw [← pre_end, List.length_append]
                    have h1 := HPl.out L.length Hl40.out
                    have h2 := HSp.out L.length
                    have h3 := HsL.out
                    have h4 := Hl40.out
                    have : wEnd.length = 17 := rfl
                    omega
                  have hno : ¬ 9223372036854775807 < (str (pre L L.length)).size + (⟨#[45, 45, 61, 98, 61, 45, 45, 13, 10, 98, 101, 104, 105, 110, 100, 13, 10]⟩ : ByteArray).size := by
                    rw [str_size, show (⟨#[45, 45, 61, 98, 61, 45, 45, 13, 10, 98, 101, 104, 105, 110, 100, 13, 10]⟩ : ByteArray).size = 17 from rfl]
                    have h1 := HPl.out L.length Hl40.out
                    have h2 := HSp.out L.length
                    have h3 := HsL.out
                    have h4 := Hl40.out
                    omega
                  have hen : str (pre L L.length) ++ (⟨#[45, 45, 61, 98, 61, 45, 45, 13, 10, 98, 101, 104, 105, 110, 100, 13, 10]⟩ : ByteArray) = str (made L) := by rw [← pre_end]; exact app_str _ _
                  obtain ⟨f1, f2, f3, f4, f5, f6⟩ := made_struc L (fun x hx => by
                    obtain ⟨q, hq, rfl⟩ := List.getElem_of_mem hx
                    exact HND.out q hq hq) (fun e => HL0.out (by rw [e]; rfl)) Hl40.out
                  have HSt := hid (struc_any (made L) HE.out (by omega))
                  unfold PtOut at HSt
                  have HS6 : Hid (∀ (i : Nat) (k : Pt), (strucM (made L)).kids[i]? = some k → ∀ W q, W.heap.size = q → Env W → Sec (made L) (.slice (some ⟨q, 0, none⟩) 1 1) ⟨#[]⟩ (inn (made L) k.d.fr k.d.to) (W.alloc (.cells #[.int .i64 ((i : Int) + 1)] 3))) := fun i k hk W q hq h => by subst hq; exact sec_of (sect_body (made L) (h.later (below1 _ _)) (by omega) [(i : Int) + 1] _ (il_one W _) (by simp)) _ (sec_kid (made L) f5 i k hk)
                  have HCo : Hid (∀ W N vp vi vd vk, PtAt W N 7 (strucM (made L)) vp vi vd vk → Calls Tryz.prog 15 #[ptV (strucM (made L)).d vp vi vd vk] W fun e w' => e = .returned (.int .i64 (cntD 7 (strucM (made L)))) ∧ Below W.heap.size W w') := fun W N vp vi vd vk h => cnt_ok 7 W N _ _ _ _ _ h (by have := Hl40.out; omega) (by have := Hl40.out; omega)
                  unfold Sec at HS6
                  have HF6 := hid f6
                  unfold Kid at HF6
                  generalize hM : made L = M at *
                  clear hM f6
                  generalize cntD 7 (strucM M) = cn at *
                  generalize strucM M = P at *
                  have hm1 : (str P.d.ty).toList = [109, 117, 108, 116, 105, 112, 97, 114, 116] := by rw [toL, f1]; rfl
                  have hm2 : (str P.d.sub).toList = [109, 105, 120, 101, 100] := by rw [toL, f2]; rfl
                  have hq1 : ((P.kids.length : Int) != (L.length : Int)) = false := by rw [f3]; simp [bne]
                  have hq2 : ((cn : Int) != (L.length : Int) + 1) = false := by rw [f4]; simp [bne]
                  have HK3 := hid f3
                  have hL40 : L.length ≤ 40 := Hl40.out
                  generalize hpl : str (pre L L.length) = A0 at *
                  clear f1 f2 f3 f4 f5 hpl
                  go_wp2_with fail
                  refine HSt.out.mono ?_
                  rintro e w1 ⟨⟨vp, vi, vd, vk, rfl, hpt⟩, hb1⟩
                  obtain ⟨pa, pn, pc, ia, n1, c1, da, n2, c2, ka', kn, kc', rfl, rfl, rfl, hvk⟩ := hpt.slices
                  obtain ⟨ka, kc, hvk', _⟩ := KsAt.slice hpt.k
                  rw [hvk'] at hvk
                  simp only [Value.slice.injEq] at hvk
                  obtain ⟨rfl, rfl, rfl⟩ := hvk
                  subst hvk'
                  have hA := below1 w1 (.cells (ptC P.d (.slice pa pn pc) (.slice ia n1 c1) (.slice da n2 c2) (.slice ka P.kids.length kc)) 33)
                  have HD0 := hid (d11_new w1 P.d (.slice pa pn pc) (.slice ia n1 c1) (.slice da n2 c2) (.slice ka P.kids.length kc))
                  have HPt0 := hid (hpt.later hA)
                  have HB0 := hid (hb1.trans (hA.mono hb1.size))
                  clear hpt hb1 hA HSt
                  generalize hK : P.kids.length = K at *
                  have HKK := hid hK
                  clear hK
                  unfold ptV ptC at *
                  obtain ⟨x0, x1, x2, x3, x4, x5, x6, x7, x8, x9, x10⟩ := HD0.out.cs
                  go_wp2_with fail
                  generalize (w1.alloc (.cells #[.string (str P.d.ty), .string (str P.d.sub), .slice pa pn pc, .slice ia n1 c1, .slice da n2 c2, .string (str P.d.enc), .int .i64 P.d.hd, .int .i64 P.d.fr, .int .i64 P.d.to, .int .i64 P.d.lns, .slice ka K kc] 33)) = X at *
                  generalize w1.heap.size = pb at *
                  refine (HCo.out _ _ _ _ _ _ HPt0.out).mono ?_
                  rintro e Y ⟨rfl, hbY⟩
                  have HDY := hid (HD0.out.later hbY)
                  have HPtY := hid (HPt0.out.later hbY)
                  have HBY := hid (HB0.out.trans (hbY.mono HB0.out.size))
                  clear x0 x1 x2 x3 x4 x5 x6 x7 x8 x9 x10 HD0 HPt0 HB0 hbY HCo
                  obtain ⟨x0, x1, x2, x3, x4, x5, x6, x7, x8, x9, x10⟩ := HDY.out.cs
                  clear x0 x1 x2 x3 x4 x5 x6 x7 x8 x9
                  have hKL : K = L.length := HK3.out
                  obtain ⟨g2, o2, hka⟩ : ∃ g2 o2, ka = some ⟨g2, o2, none⟩ := by
                    obtain ⟨k0, hk0⟩ : ∃ k0, P.kids[0]? = some k0 := ⟨P.kids[0]'(by rw [HKK.out, hKL]; have := HL0.out; omega), List.getElem?_eq_getElem _⟩
                    obtain ⟨g2, o2, c9, hv, _⟩ := HPtY.out.kid 0 k0 hk0
                    simp only [Value.slice.injEq] at hv
                    exact ⟨g2, o2, hv.1⟩
                  subst hka
                  have HKL := hid hKL
                  have hK40 : K ≤ 40 := by omega
                  clear hKL hL40
                  go_wp2_with fail
                  go_loopw [95] (fun i wr => ∃ j : Nat, j ≤ K ∧ i = .int .i64 j ∧ Below Y.heap.size Y wr) (fun i _ => K - (intOf i).toNat)
                  case atStart => exact ⟨0, by omega, rfl, Below.refl _ _⟩
                  case round =>
                    obtain ⟨j, hj, rfl, hbj⟩ := hrel
                    have HBj := hid hbj
                    have HBw := hid (HBY.out.trans (hbj.mono HBY.out.size))
                    by_cases hjk : j < K
                    · have hjk' : (j : Int) < K := by omega
                      obtain ⟨k, hki⟩ : ∃ k, P.kids[j]? = some k := ⟨P.kids[j]'(by rw [HKK.out]; exact hjk), List.getElem?_eq_getElem _⟩
                      obtain ⟨x, hx⟩ : ∃ x, L[j]? = some x := ⟨L[j]'(by rw [← HKL.out]; exact hjk), List.getElem?_eq_getElem _⟩
                      obtain ⟨t1, t2, t3⟩ := HF6.out j k x hki hx
                      obtain ⟨g9, o9, c9, hv, wp, wi, wd, wk, hcs, hkp⟩ := HPtY.out.kid j k hki
                      simp only [Value.slice.injEq, Option.some.injEq, Addr.mk.injEq] at hv
                      obtain ⟨⟨rfl, rfl, h91⟩, h92, h93⟩ := hv
                      clear h91 h92 h93
                      obtain ⟨qa, qn, qc, ja, n3, c3, ea, n4, c4, la, ln4, c5, rfl, rfl, hwd, rfl⟩ := hkp.slices
                      have hde := hkp.d.desc
                      rw [t2, hwd] at hde
                      obtain ⟨_, a5, c4x, hv5, _, hr5⟩ := hde
                      simp only [List.map_cons, List.map_nil, List.length_cons, List.length_nil, Nat.zero_add, Value.slice.injEq] at hv5
                      obtain ⟨rfl, rfl, rfl⟩ := hv5
                      obtain ⟨g3, o3, rfl, hra5, hg3⟩ := hr5.resolve_left (by simp)
                      subst hwd
                      have hdc : Y.cell? ⟨g3, o3, none⟩ = some (.string (str [100])) := by
                        have := hra5 0 0 [[100]] [100] rfl rfl
                        simpa using this
                      have hbk : Kept [] Y wr := Kept.ofBelow hbj []
                      obtain ⟨y0, y1, y2, y3, y4, y5, y6, y7, y8, y9, y10⟩ := kid_cells (w := wr) (g := g2) (b := o2 + j * 11) (fun i' x hx => hbk.cell (hcs i' x hx) (by simp))
                      have hA8 := below1 wr (.cells (ptC k.d (.slice qa qn qc) (.slice ja n3 c3) (.slice (some ⟨g3, o3, none⟩) 1 c4) (.slice la ln4 c5)) 33)
                      have HKD8 := hid (d11_new wr k.d (.slice qa qn qc) (.slice ja n3 c3) (.slice (some ⟨g3, o3, none⟩) 1 c4) (.slice la ln4 c5))
                      have HSz : Hid ((wr.alloc (.cells (ptC k.d (.slice qa qn qc) (.slice ja n3 c3) (.slice (some ⟨g3, o3, none⟩) 1 c4) (.slice la ln4 c5)) 33)).heap.size = wr.heap.size + 1) := World.size_alloc _ _
                      have HB8 := hid (hbj.trans (hA8.mono hbj.size))
                      have HBw8 := hid (HBw.out.trans (hA8.mono HBw.out.size))
                      have HSk := hid (HS6.out j k hki)
                      rw [t3] at HSk
                      have Hdc := hid hdc
                      have hjL : j < L.length := by rw [← HKL.out]; exact hjk
                      have Hct : Hid (w.cell? ⟨g, o + j, none⟩ = some (.string (str x))) := by
                        have := HC.out j hjL
                        rw [List.getElem?_eq_getElem hjL] at hx
                        rw [← Option.some.inj hx]
                        exact this
                      have p1 : (str k.d.ty).toList = [116, 101, 120, 116] := by rw [toL, t1]; rfl
                      have p2 := sn x
                      have p3 : (str [100]).toList = [100] := toL _
                      have hjL2 : (j : Int) < L.length := by omega
                      clear hbj hbk hcs hkp hra5 hdc hA8 hki hx t1 t2 t3 hr5 hg3 hjL x10
                      unfold ptV ptC at *
                      go_wp2_with fail
                      generalize (wr.alloc (.cells #[.string (str k.d.ty), .string (str k.d.sub), .slice qa qn qc, .slice ja n3 c3, .slice (some ⟨g3, o3, none⟩) 1 c4, .string (str k.d.enc), .int .i64 k.d.hd, .int .i64 k.d.fr, .int .i64 k.d.to, .int .i64 k.d.lns, .slice la ln4 c5] 33)) = W8 at *
                      refine (HSk.out _ _ HSz.out (HE.out.below HBw8.out HE.out.pos)).mono ?_
                      rintro e w9 ⟨rfl, hb9'⟩
                      have hb9 := (below1 W8 (.cells #[.int .i64 ((j : Int) + 1)] 3)).trans (hb9'.mono (below1 W8 (.cells #[.int .i64 ((j : Int) + 1)] 3)).size)
                      have HKD9 := hid (HKD8.out.later hb9)
                      have HB9 := hid (HB8.out.trans (hb9.mono HB8.out.size))
                      have HBw9 := hid (HBw8.out.trans (hb9.mono HBw8.out.size))
                      clear hb9 hb9' y0 y1 y2 y3 y4 y5 y6 y7 y8 y9 y10
                      obtain ⟨k0, k1, k2, k3, k4, k5, k6, k7, k8, k9, k10⟩ := HKD9.out.cs
                      have ct := (World.cell?_of_block (HBw9.out.block g (World.block_lt_of_cell? w _ Hct.out))).trans Hct.out
                      have dt := (World.cell?_of_block (HB9.out.block g3 (World.block_lt_of_cell? Y _ Hdc.out))).trans Hdc.out
                      clear k1 k2 k3 k5 k6 k7 k8 k9 k10
                      go_wp2_with fail
                      go_roundw
                      case rel => exact ⟨j + 1, by omega, by go_num, HB9.out⟩
                      case measure => simp [intOf]; omega
                    · have hjk' : ¬ (j : Int) < K := by omega
                      clear hbj x10
                      go_wp2_with fail
                      refine (alive_any (HE.out.below HBw.out HE.out.pos)).mono ?_
                      rintro e wz ⟨rfl, hb⟩
                      have HBz := hid (HBw.out.trans (hb.mono HBw.out.size))
                      clear hb
                      go_wp2_with fail
                      go_ret
                      exact ⟨rfl, HBz.out⟩

theorem witness (os : Os) {H : Type} (enc : TypeId × Value → H) :
    (OpenSpec.ofChange Rows.mimeMadeSpec).preRow enc Tryz.prog Tryz.f6 Rows.mimeMadeRow.domain false Rows.mimeMadeRow.laid ((laidWorld os).forCall (fun _ _ => 0) ⟨#[], #[.slice none 0 0], []⟩).memory #[.slice none 0 0] := by
  have hw : (DataW.whole enc Tryz.prog ((laidWorld os).forCall (fun _ _ => 0) ⟨#[], #[.slice none 0 0], []⟩).memory Tryz.f6.params.toList Rows.mimeMadeSpec.vars false (#[.slice none 0 0] : Array Value).toList 8).map (fun x => (x.1, x.2.1)) =
      some ([.nil], []) := by kernel_rfl
  obtain ⟨⟨x1, x2, x3⟩, hx, hx1⟩ := Option.map_eq_some_iff.1 hw
  simp only [Prod.mk.injEq] at hx1
  obtain ⟨rfl, rfl⟩ := hx1
  exact OpenSpec.preRow_of_cond 8 hx (by kernel_rfl) (fun k hk => by cases hk) (by kernel_rfl) (laid_met os _)

set_option maxRecDepth 100000 in
set_option maxHeartbeats 2000000 in
theorem lifted (os : Os) (started : os.Started) (H : Type) (enc : TypeId × Value → H) (F : Stop.Interp) :
    ReturnsInHanded {} Tryz.checked os 6 .any ((OpenSpec.ofChange Rows.mimeMadeSpec).preRow enc Tryz.prog Tryz.f6 Rows.mimeMadeRow.domain false Rows.mimeMadeRow.laid) (((OpenSpec.ofChange Rows.mimeMadeSpec).at F).post enc Tryz.prog Tryz.f6 false true false false) := by
  refine returnsInHanded_of_row (C := Tryz.checked) (s := OpenSpec.ofChange Rows.mimeMadeSpec) own started (by kernel_rfl) Tryz.func6
    (witness_row_atRef (enc := enc) (C := Tryz.checked) false (laidWorld os) #[.slice none 0 0] rfl (by kernel_rfl) (by kernel_rfl) (by kernel_rfl) (witness os enc)) ?_
  intro W base args ds gs before hval0 hW _ _ _ hL hsh _
  have hval : ∀ (j : Nat) t v, Tryz.f6.params[j]? = some t → args[j]? = some v → Value.okWide Tryz.prog W .any base t v := hval0
  have hW' := hW
  obtain ⟨p, q, hA0, hV, rfl, hfz, hnd⟩ := hW
  have hA : DataW.TrodAll enc Tryz.prog W 0 (fun _ => true) true Tryz.f6.params.toList args.toList ds p := hA0
  rw [Tryz.params6] at hA hval
  obtain ⟨v0, vs0, d0, ds0, p0, q0, hargs, rfl, rfl, h0, r0⟩ := trodAll_cons hA
  obtain ⟨rfl, rfl, rfl⟩ := trodAll_nil r0
  obtain rfl : args = #[v0] := by cases args; simp_all
  obtain ⟨rfl, rfl⟩ := trodVars_none hV
  obtain ⟨a0, len0, cap0, rfl⟩ := okWide_slice Tryz.underlying30 (hval 0 30 v0 rfl rfl)
  have lt0 : ∀ x ∈ p0, x.block < W.heap.size := by obtain ⟨m, hm⟩ := h0; exact DataW.trod_lt m _ _ _ hm
  obtain ⟨l0, hl0⟩ : ∃ l, TextsOk W a0 len0 cap0 l := by obtain ⟨fuel, hf⟩ := h0; exact open_texts hf
  clear hA0 hval0
  refine (walk a0 len0 cap0 l0 hl0 (env_of hsh) ).mono ?_
  rintro e W' ⟨rfl, bel⟩
  exact ⟨_, rfl, _, _, _, [], _, [], hW', trodAll_mk1 (shut_bool Tryz.underlying4 _), (trodAll_cons_mk (Below.trod laidOut (by kernel_rfl) (of_decide_eq_true (by kernel_rfl)) h0 bel lt0) trodAll_mk0), rfl, bel.frame _, fun h => by cases h⟩

theorem over : Rows.mimeMadeRow.holds Tryz.pinned (OpenSpec.ofChange Rows.mimeMadeSpec) :=
  OpenClaim.holds_of_cond 6 Tryz.f6 rfl rfl rfl rfl rfl rfl rfl ⟨rfl, rfl, rfl, rfl, rfl⟩ rfl rfl rfl rfl rfl (by kernel_rfl) Tryz.func6 (by kernel_rfl)
    (of_decide_eq_true (by kernel_rfl)) (by unfold Func.isWrapper; first | (rw [if_pos (by decide +kernel)]; kernel_rfl) | (rw [if_neg (by decide +kernel)]; exact ⟨rfl, rfl⟩))
    (fun os started H enc _ F => by rw [OpenClaim.pre_eq_preRow]; exact lifted os started H enc F)

/-- No parameter wants a stand-in. -/
theorem plain (f : FuncId) (fn : Func) (hf : Tryz.pinned.checked.prog.funcNamed Rows.mimeMadeRow.func = some f) (hfn : Tryz.pinned.checked.prog.funcs[f]? = some fn) :
    false = Tryz.pinned.checked.prog.looks [] ∧ ∀ (j : Nat) t, fn.params[j]? = some t → Tryz.pinned.checked.prog.wantsStandIn t = false := by
  obtain rfl : f = 6 := Option.some.inj ((show Tryz.prog.funcNamed Rows.mimeMadeRow.func = some 6 by kernel_rfl).symm.trans hf) |>.symm
  obtain rfl : fn = Tryz.f6 := (Option.some.inj (Tryz.func6.symm.trans hfn)).symm
  refine ⟨by kernel_rfl, fun j t ht => ?_⟩
  rw [Tryz.params6] at ht
  have hm := Array.mem_of_getElem? ht
  simp only [List.mem_toArray, List.mem_cons, List.not_mem_nil, or_false, or_self] at hm
  rcases hm with rfl
  · exact (show Tryz.prog.wantsStandIn 30 = false by kernel_rfl)
end Go.Proofs.YtgolcmafbenjbaaGreatDoor.mimeMade
namespace Go.Proofs.YtgolcmafbenjbaaGreatDoor
/-- THE STATEMENT. -/
theorem mimeMade_holds : Rows.MimeMadeCardSaid :=
  Claim7.holds_tied_plain_at .later [] _ _ _ _ mimeMade.over (fun _ h => by cases h) (by kernel_rfl) (fun _ h => by cases h) mimeMade_row_tie rfl ⟨rfl, rfl⟩ (by kernel_rfl) rfl mimeMade.plain (by kernel_rfl)
#print axioms mimeMade_holds
end Go.Proofs.YtgolcmafbenjbaaGreatDoor
