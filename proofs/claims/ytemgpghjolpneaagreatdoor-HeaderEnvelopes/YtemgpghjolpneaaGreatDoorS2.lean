/- What this text holds: the document's marks. -/
import Derived.Test.YtemgpghjolpneaaGreatDoorS1
namespace Go.Proofs.YtemgpghjolpneaaGreatDoor
open Go.RowKit
set_option linter.unusedVariables false
set_option linter.unusedSimpArgs false

set_option maxRecDepth 100000 in
set_option maxHeartbeats 8000000 in
theorem rmarks_any (s : Bs) (w : World) (hs : s.length ≤ 1000000) :
    Calls Tryz.prog 55 #[.string (str s)] w fun e w' => (∃ v, e = .returned v ∧ MO w' w.heap.size v (mk false false 0 s)) ∧ Below w.heap.size w w' := by
  have hsz := str_size s
  go_enter Tryz.func55, Tryz.ntmps55
  go_wp2_with fail
  go_loopw [3, 4, 5, 6, 7] (fun v q a d i wr => ∃ (k : Nat) (q' a' : Bool) (d' : Nat) (L : List Mk), k ≤ s.length + 1 ∧ q = .bool q' ∧ a = .bool a' ∧ d = .int .i64 d' ∧ i = .int .i64 k ∧ d' ≤ k ∧ MO wr w.heap.size v L ∧ Below w.heap.size w wr ∧ L ++ mk q' a' d' (s.drop k) = mk false false 0 s ∧ L.length ≤ k) (fun _ _ _ _ i _ => s.length + 1 - (intOf i).toNat)
  case atStart => exact ⟨0, false, false, 0, [], by omega, rfl, rfl, rfl, rfl, by omega, MO.nil _ _, Below.refl _ _, by simp, by simp⟩
  case round =>
    obtain ⟨k, q, a, d, L, hk, rfl, rfl, rfl, rfl, hdk, ho, hb, he, hL⟩ := hrel
    have HO := hid ho
    have HB := hid hb
    have HE := hid he
    clear ho hb he
    obtain ⟨a0, c0, hv0⟩ := HO.out.sliceN (n := L.length) rfl
    subst hv0
    by_cases hlt : k < s.length
    · have hlt' : (k : Int) < s.length := by omega
      have hlts : k < (str s).size := by omega
      have HD : Hid (s.drop k = s[k] :: s.drop (k + 1)) := List.drop_eq_getElem_cons hlt
      have g : ((str s)[k]'hlts) = s[k] := rfl
      generalize s[k] = c at *
      cases d with
      | succ d =>
        have hd0 : (0 : Int) < ((d + 1 : Nat) : Int) := by omega
        by_cases h92 : c = 92
        · have hc := h92
          have e92 : ((c.toNat : Int) == 92) = true := by simpa using c_eq hc
          have HE' : Hid (L ++ (c, 1) :: (c, 1) :: mk q a (d + 1) (s.drop (k + 2)) = mk false false 0 s) := by
            rw [Hid, ← HE.out, HD.out, mk_deep, if_pos hc, List.drop_drop]
          obtain ⟨v', w', hr', ho', hb', hk', hz'⟩ := mo_one (W := wr.alloc (.cells #[.int .u8 (c.toNat : Int), .int .i64 ((1 : Nat) : Int)] 88)) HO.out ((Below.refl _ _).alloc (Nat.le_refl _) _) HB.out.size (by omega) c 1 (wr.heap.size + 1) (by simp)
          obtain ⟨hk1, _⟩ := hk' wr.heap.size (Nat.le_refl _) (by omega)
          rw [heap_alloc_new, show (c.toNat : Int) = 92 from c_eq hc] at hk1
          have q0 : w'.cell? ⟨wr.heap.size, 0, none⟩ = some (.int .u8 92) := by simp [World.cell?, hk1]
          have q1 : w'.cell? ⟨wr.heap.size, 1, none⟩ = some (.int .i64 1) := by simp [World.cell?, hk1]
          obtain ⟨v2, w2, hr2, ho2, hb2, _, _⟩ := mo_one (W := w') ho' (Below.refl _ _) (Nat.le_trans HB.out.size hb'.size) (by simp; omega) c 1 w'.heap.size rfl
          rw [show (c.toNat : Int) = 92 from c_eq hc] at hr' hr2
          have HR' : Hid ((Builtin.append_ #[85, 85] 85 #[.slice a0 L.length c0, .slice (some ⟨wr.heap.size + 1, 0, none⟩) 1 1]).run Tryz.prog ((wr.alloc (.cells #[.int .u8 92, .int .i64 1] 88)).alloc (.cells #[.int .u8 92, .int .i64 1] 88)) = .ok v' w') := hr'
          have HR2 : Hid ((Builtin.append_ #[85, 85] 85 #[v', .slice (some ⟨w'.heap.size, 0, none⟩) 1 1]).run Tryz.prog (w'.alloc (.cells #[.int .u8 92, .int .i64 1] 88)) = .ok v2 w2) := hr2
          have HO' := hid ho2
          have HB' := hid ((HB.out.trans hb').trans hb2)
          obtain ⟨a5, c5, hv5⟩ := ho'.sliceN (n := L.length + 1) (by simp)
          obtain ⟨a6, c6, hv6⟩ := HO'.out.sliceN (n := L.length + 2) (by simp)
          subst hv5 hv6
          clear hr' ho' hb' hr2 ho2 hb2 hk' hk1 hz' hc HD HE
          rcases Nat.lt_or_ge (k + 1) s.length with hn | hn
          · have hn' : (k : Int) + 1 < (s.length : Int) := by omega
            clear hn
            go_wp2_with (at_builtin; first | (refine wpList_append_run rfl rfl HR'.out ?_; clear HR') | refine wpList_append_run rfl rfl HR2.out ?_)
            go_roundw
            case rel => exact ⟨k + 2, q, a, d + 1, L ++ [(c, 1)] ++ [(c, 1)], by omega, by first | rfl | simp, by first | rfl | simp, by go_num, by go_num, by omega, HO'.out, HB'.out, by rw [List.append_assoc, List.append_assoc]; exact HE'.out, by simp; omega⟩
            case measure => simp [intOf]; omega
          · have hn' : ¬ (k : Int) + 1 < (s.length : Int) := by omega
            clear hn
            go_wp2_with (at_builtin; first | (refine wpList_append_run rfl rfl HR'.out ?_; clear HR') | refine wpList_append_run rfl rfl HR2.out ?_)
            go_roundw
            case rel => exact ⟨k + 2, q, a, d + 1, L ++ [(c, 1)] ++ [(c, 1)], by omega, by first | rfl | simp, by first | rfl | simp, by go_num, by go_num, by omega, HO'.out, HB'.out, by rw [List.append_assoc, List.append_assoc]; exact HE'.out, by simp; omega⟩
            case measure => simp [intOf]; omega
        · have e92 : ((c.toNat : Int) == 92) = false := by simpa using c_ne h92
          by_cases h40 : c = 40
          · have hc := h40
            have e40 : ((c.toNat : Int) == 40) = true := by simpa using c_eq hc
            have HE' : Hid (L ++ (c, 1) :: mk q a (d + 2) (s.drop (k + 1)) = mk false false 0 s) := by
              rw [Hid, ← HE.out, HD.out]
              subst hc; rw [mk_deep]; simp
            obtain ⟨v', w', hr', ho', hb', _, _⟩ := mo_one (W := wr.alloc (.cells #[.int .u8 (c.toNat : Int), .int .i64 ((1 : Nat) : Int)] 88)) HO.out ((Below.refl _ _).alloc (Nat.le_refl _) _) HB.out.size (by omega) c 1 (wr.heap.size + 1) (by simp)
            rw [show (c.toNat : Int) = 40 from c_eq hc] at hr'
            have HR' : Hid ((Builtin.append_ #[85, 85] 85 #[.slice a0 L.length c0, .slice (some ⟨wr.heap.size + 1, 0, none⟩) 1 1]).run Tryz.prog ((wr.alloc (.cells #[.int .u8 40, .int .i64 1] 88)).alloc (.cells #[.int .u8 40, .int .i64 1] 88)) = .ok v' w') := hr'
            have HO' := hid ho'
            have HB' := hid (HB.out.trans hb')
            obtain ⟨a5, c5, hv5⟩ := HO'.out.sliceN (n := L.length + 1) (by simp)
            subst hv5
            clear hr' ho' hb' hc HD HE
            go_wp2_with (at_builtin; refine wpList_append_run rfl rfl HR'.out ?_)
            go_roundw
            case rel => exact ⟨k + 1, q, a, (d + 2), L ++ [(c, 1)], by omega, by first | rfl | simp, by first | rfl | simp, by go_num, by go_num, by omega, HO'.out, HB'.out, by rw [List.append_assoc]; exact HE'.out, by simp; omega⟩
            case measure => simp [intOf]; omega
          · have e40 : ((c.toNat : Int) == 40) = false := by simpa using c_ne h40
            by_cases h41 : c = 41
            · have hc := h41
              have e41 : ((c.toNat : Int) == 41) = true := by simpa using c_eq hc
              have HE' : Hid (L ++ (c, 1) :: mk q a d (s.drop (k + 1)) = mk false false 0 s) := by
                rw [Hid, ← HE.out, HD.out]
                subst hc; rw [mk_deep]; simp
              obtain ⟨v', w', hr', ho', hb', _, _⟩ := mo_one (W := wr.alloc (.cells #[.int .u8 (c.toNat : Int), .int .i64 ((1 : Nat) : Int)] 88)) HO.out ((Below.refl _ _).alloc (Nat.le_refl _) _) HB.out.size (by omega) c 1 (wr.heap.size + 1) (by simp)
              rw [show (c.toNat : Int) = 41 from c_eq hc] at hr'
              have HR' : Hid ((Builtin.append_ #[85, 85] 85 #[.slice a0 L.length c0, .slice (some ⟨wr.heap.size + 1, 0, none⟩) 1 1]).run Tryz.prog ((wr.alloc (.cells #[.int .u8 41, .int .i64 1] 88)).alloc (.cells #[.int .u8 41, .int .i64 1] 88)) = .ok v' w') := hr'
              have HO' := hid ho'
              have HB' := hid (HB.out.trans hb')
              obtain ⟨a5, c5, hv5⟩ := HO'.out.sliceN (n := L.length + 1) (by simp)
              subst hv5
              clear hr' ho' hb' hc HD HE
              go_wp2_with (at_builtin; refine wpList_append_run rfl rfl HR'.out ?_)
              go_roundw
              case rel => exact ⟨k + 1, q, a, d, L ++ [(c, 1)], by omega, by first | rfl | simp, by first | rfl | simp, by go_num, by go_num, by omega, HO'.out, HB'.out, by rw [List.append_assoc]; exact HE'.out, by simp; omega⟩
              case measure => simp [intOf]; omega
            · have e41 : ((c.toNat : Int) == 41) = false := by simpa using c_ne h41
              have hc := h41
              have HE' : Hid (L ++ (c, 1) :: mk q a (d + 1) (s.drop (k + 1)) = mk false false 0 s) := by
                rw [Hid, ← HE.out, HD.out]
                rw [mk_deep, if_neg h92, if_neg h40, if_neg h41]
              obtain ⟨v', w', hr', ho', hb', _, _⟩ := mo_one (W := wr.alloc (.cells #[.int .u8 (c.toNat : Int), .int .i64 ((1 : Nat) : Int)] 88)) HO.out ((Below.refl _ _).alloc (Nat.le_refl _) _) HB.out.size (by omega) c 1 (wr.heap.size + 1) (by simp)
              have HR' : Hid ((Builtin.append_ #[85, 85] 85 #[.slice a0 L.length c0, .slice (some ⟨wr.heap.size + 1, 0, none⟩) 1 1]).run Tryz.prog ((wr.alloc (.cells #[.int .u8 (c.toNat : Int), .int .i64 1] 88)).alloc (.cells #[.int .u8 (c.toNat : Int), .int .i64 1] 88)) = .ok v' w') := hr'
              have HO' := hid ho'
              have HB' := hid (HB.out.trans hb')
              obtain ⟨a5, c5, hv5⟩ := HO'.out.sliceN (n := L.length + 1) (by simp)
              subst hv5
              clear hr' ho' hb' hc HD HE
              go_wp2_with (at_builtin; refine wpList_append_run rfl rfl HR'.out ?_)
              go_roundw
              case rel => exact ⟨k + 1, q, a, (d + 1), L ++ [(c, 1)], by omega, by first | rfl | simp, by first | rfl | simp, by go_num, by go_num, by omega, HO'.out, HB'.out, by rw [List.append_assoc]; exact HE'.out, by simp; omega⟩
              case measure => simp [intOf]; omega
      | zero =>
        have hd0 : ¬ (0 : Int) < ((0 : Nat) : Int) := by omega
        cases q with
        | true =>
          by_cases h92 : c = 92
          · rcases Nat.lt_or_ge (k + 1) s.length with hn | hn
            · have hn' : (k : Int) + 1 < (s.length : Int) := by omega
              have hns : k + 1 < (str s).size := by omega
              have hc := h92
              have e92 : ((c.toNat : Int) == 92) = true := by simpa using c_eq hc
              have HD2 : Hid (s.drop (k + 1) = s[k + 1] :: s.drop (k + 2)) := List.drop_eq_getElem_cons hn
              have g2 : ((str s)[k + 1]'hns) = s[k + 1] := rfl
              generalize s[k + 1] = e at *
              have HE' : Hid (L ++ (c, 1) :: (e, 0) :: mk true a 0 (s.drop (k + 2)) = mk false false 0 s) := by
                rw [Hid, ← HE.out, HD.out, HD2.out, hc, mk_esc]
              obtain ⟨v', w', hr', ho', hb', hk', hz'⟩ := mo_one (W := wr.alloc (.cells #[.int .u8 (c.toNat : Int), .int .i64 ((0 : Nat) : Int)] 88)) HO.out ((Below.refl _ _).alloc (Nat.le_refl _) _) HB.out.size (by omega) c 1 (wr.heap.size + 1) (by simp)
              obtain ⟨hk1, hk2⟩ := hk' wr.heap.size (Nat.le_refl _) (by omega)
              rw [heap_alloc_new, show (c.toNat : Int) = 92 from c_eq hc] at hk1
              have q0 : w'.cell? ⟨wr.heap.size, 0, none⟩ = some (.int .u8 92) := by simp [World.cell?, hk1]
              have q1 : w'.frozen? ⟨wr.heap.size, 0, none⟩ = false := by simp [World.frozen?, hk1]
              have hk3 : (w'.setCell ⟨wr.heap.size, 0, none⟩ (.int .u8 (e.toNat : Int))).heap[wr.heap.size]? = some (.cells #[.int .u8 (e.toNat : Int), .int .i64 0] 88 (0, 0)) := by rw [heap_setCell_same _ _ _ _ _ _ hk1]; rfl
              have q2 : (w'.setCell ⟨wr.heap.size, 0, none⟩ (.int .u8 (e.toNat : Int))).cell? ⟨wr.heap.size, 0, none⟩ = some (.int .u8 (e.toNat : Int)) := by simp [World.cell?, hk3]
              have q3 : (w'.setCell ⟨wr.heap.size, 0, none⟩ (.int .u8 (e.toNat : Int))).cell? ⟨wr.heap.size, 1, none⟩ = some (.int .i64 0) := by simp [World.cell?, hk3]
              have hb3 : Below w.heap.size w (w'.setCell ⟨wr.heap.size, 0, none⟩ (.int .u8 (e.toNat : Int))) := (HB.out.trans hb').setCell HB.out.size _
              have hoS : MO (w'.setCell ⟨wr.heap.size, 0, none⟩ (.int .u8 (e.toNat : Int))) w.heap.size v' (L ++ [(c, 1)]) := ownsRow_setCell_other ho' hk2 _
              have hsS : (w'.setCell ⟨wr.heap.size, 0, none⟩ (.int .u8 (e.toNat : Int))).heap.size = w'.heap.size := by simp
              obtain ⟨v2, w2, hr2, ho2, hb2, _, _⟩ := mo_one (W := w'.setCell ⟨wr.heap.size, 0, none⟩ (.int .u8 (e.toNat : Int))) hoS (Below.refl _ _) hb3.size (by simp; omega) e 0 w'.heap.size hsS
              rw [show (c.toNat : Int) = 92 from c_eq hc] at hr'
              have HR' : Hid ((Builtin.append_ #[85, 85] 85 #[.slice a0 L.length c0, .slice (some ⟨wr.heap.size + 1, 0, none⟩) 1 1]).run Tryz.prog ((wr.alloc (.cells #[.int .u8 92, .int .i64 0] 88)).alloc (.cells #[.int .u8 92, .int .i64 1] 88)) = .ok v' w') := hr'
              have HR2 : Hid ((Builtin.append_ #[85, 85] 85 #[v', .slice (some ⟨w'.heap.size, 0, none⟩) 1 1]).run Tryz.prog ((w'.setCell ⟨wr.heap.size, 0, none⟩ (.int .u8 (e.toNat : Int))).alloc (.cells #[.int .u8 (e.toNat : Int), .int .i64 0] 88)) = .ok v2 w2) := hr2
              have HO' := hid ho2
              have HB' := hid (hb3.trans hb2)
              obtain ⟨a5, c5, hv5⟩ := ho'.sliceN (n := L.length + 1) (by simp)
              obtain ⟨a6, c6, hv6⟩ := HO'.out.sliceN (n := L.length + 2) (by simp)
              subst hv5 hv6
              clear hr' ho' hb' hr2 ho2 hb2 hk' hk1 hk2 hk3 hz' hc HD HE hb3 hoS hsS HD2
              go_wp2_with (at_builtin; first | (refine wpList_append_run rfl rfl HR'.out ?_; clear HR') | refine wpList_append_run rfl rfl HR2.out ?_)
              go_roundw
              case rel => exact ⟨k + 2, true, a, 0, L ++ [(c, 1)] ++ [(e, 0)], by omega, by first | rfl | simp, by first | rfl | simp, by go_num, by go_num, by omega, HO'.out, HB'.out, by rw [List.append_assoc, List.append_assoc]; exact HE'.out, by simp; omega⟩
              case measure => simp [intOf]; omega
            · have hn' : ¬ (k : Int) + 1 < (s.length : Int) := by omega
              have hc := h92
              have HN0 : Hid (s.drop (k + 1) = []) := List.drop_eq_nil_of_le (by omega)
              have e92 : ((c.toNat : Int) == 92) = true := by simpa using c_eq hc
              have HE' : Hid (L ++ (c, 0) :: mk true a 0 (s.drop (k + 1)) = mk false false 0 s) := by
                rw [Hid, ← HE.out, HD.out]
                rw [mk_in a c _ (by rw [hc]; decide) (.inr HN0.out)]
              obtain ⟨v', w', hr', ho', hb', _, _⟩ := mo_one (W := wr.alloc (.cells #[.int .u8 (c.toNat : Int), .int .i64 ((0 : Nat) : Int)] 88)) HO.out ((Below.refl _ _).alloc (Nat.le_refl _) _) HB.out.size (by omega) c 0 (wr.heap.size + 1) (by simp)
              rw [show (c.toNat : Int) = 92 from c_eq hc] at hr'
              have HR' : Hid ((Builtin.append_ #[85, 85] 85 #[.slice a0 L.length c0, .slice (some ⟨wr.heap.size + 1, 0, none⟩) 1 1]).run Tryz.prog ((wr.alloc (.cells #[.int .u8 92, .int .i64 0] 88)).alloc (.cells #[.int .u8 92, .int .i64 0] 88)) = .ok v' w') := hr'
              have HO' := hid ho'
              have HB' := hid (HB.out.trans hb')
              obtain ⟨a5, c5, hv5⟩ := HO'.out.sliceN (n := L.length + 1) (by simp)
              subst hv5
              clear hr' ho' hb' hc HD HE
              go_wp2_with (at_builtin; refine wpList_append_run rfl rfl HR'.out ?_)
              go_roundw
              case rel => exact ⟨k + 1, true, a, 0, L ++ [(c, 0)], by omega, by first | rfl | simp, by first | rfl | simp, by go_num, by go_num, by omega, HO'.out, HB'.out, by rw [List.append_assoc]; exact HE'.out, by simp; omega⟩
              case measure => simp [intOf]; omega
          · have e92 : ((c.toNat : Int) == 92) = false := by simpa using c_ne h92
            by_cases h34 : c = 34
            · have hc := h34
              have e34 : ((c.toNat : Int) == 34) = true := by simpa using c_eq hc
              have HE' : Hid (L ++ (c, 1) :: mk false a 0 (s.drop (k + 1)) = mk false false 0 s) := by
                rw [Hid, ← HE.out, HD.out]
                rw [hc, mk_quote]; rfl
              obtain ⟨v', w', hr', ho', hb', _, _⟩ := mo_one (W := wr.alloc (.cells #[.int .u8 (c.toNat : Int), .int .i64 ((1 : Nat) : Int)] 88)) HO.out ((Below.refl _ _).alloc (Nat.le_refl _) _) HB.out.size (by omega) c 1 (wr.heap.size + 1) (by simp)
              rw [show (c.toNat : Int) = 34 from c_eq hc] at hr'
              have HR' : Hid ((Builtin.append_ #[85, 85] 85 #[.slice a0 L.length c0, .slice (some ⟨wr.heap.size + 1, 0, none⟩) 1 1]).run Tryz.prog ((wr.alloc (.cells #[.int .u8 34, .int .i64 1] 88)).alloc (.cells #[.int .u8 34, .int .i64 1] 88)) = .ok v' w') := hr'
              have HO' := hid ho'
              have HB' := hid (HB.out.trans hb')
              obtain ⟨a5, c5, hv5⟩ := HO'.out.sliceN (n := L.length + 1) (by simp)
              subst hv5
              clear hr' ho' hb' hc HD HE
              go_wp2_with (at_builtin; refine wpList_append_run rfl rfl HR'.out ?_)
              go_roundw
              case rel => exact ⟨k + 1, false, a, 0, L ++ [(c, 1)], by omega, by first | rfl | simp, by first | rfl | simp, by go_num, by go_num, by omega, HO'.out, HB'.out, by rw [List.append_assoc]; exact HE'.out, by simp; omega⟩
              case measure => simp [intOf]; omega
            · have e34 : ((c.toNat : Int) == 34) = false := by simpa using c_ne h34
              have hc := h34
              have HE' : Hid (L ++ (c, 0) :: mk true a 0 (s.drop (k + 1)) = mk false false 0 s) := by
                rw [Hid, ← HE.out, HD.out]
                rw [mk_in a c _ h34 (.inl h92)]
              obtain ⟨v', w', hr', ho', hb', _, _⟩ := mo_one (W := wr.alloc (.cells #[.int .u8 (c.toNat : Int), .int .i64 ((0 : Nat) : Int)] 88)) HO.out ((Below.refl _ _).alloc (Nat.le_refl _) _) HB.out.size (by omega) c 0 (wr.heap.size + 1) (by simp)
              have HR' : Hid ((Builtin.append_ #[85, 85] 85 #[.slice a0 L.length c0, .slice (some ⟨wr.heap.size + 1, 0, none⟩) 1 1]).run Tryz.prog ((wr.alloc (.cells #[.int .u8 (c.toNat : Int), .int .i64 0] 88)).alloc (.cells #[.int .u8 (c.toNat : Int), .int .i64 0] 88)) = .ok v' w') := hr'
              have HO' := hid ho'
              have HB' := hid (HB.out.trans hb')
              obtain ⟨a5, c5, hv5⟩ := HO'.out.sliceN (n := L.length + 1) (by simp)
              subst hv5
              clear hr' ho' hb' hc HD HE
              go_wp2_with (at_builtin; refine wpList_append_run rfl rfl HR'.out ?_)
              go_roundw
              case rel => exact ⟨k + 1, true, a, 0, L ++ [(c, 0)], by omega, by first | rfl | simp, by first | rfl | simp, by go_num, by go_num, by omega, HO'.out, HB'.out, by rw [List.append_assoc]; exact HE'.out, by simp; omega⟩
              case measure => simp [intOf]; omega
        | false =>
          by_cases h92 : c = 92
          · rcases Nat.lt_or_ge (k + 1) s.length with hn | hn
            · have hn' : (k : Int) + 1 < (s.length : Int) := by omega
              have hc := h92
              have e92 : ((c.toNat : Int) == 92) = true := by simpa using c_eq hc
              have HE' : Hid (L ++ (c, 0) :: mk false a 0 (s.drop (k + 1)) = mk false false 0 s) := by
                rw [Hid, ← HE.out, HD.out]
                subst hc; rw [mk_out a _ _ (by decide)]; simp
              obtain ⟨v', w', hr', ho', hb', _, _⟩ := mo_one (W := wr.alloc (.cells #[.int .u8 (c.toNat : Int), .int .i64 ((0 : Nat) : Int)] 88)) HO.out ((Below.refl _ _).alloc (Nat.le_refl _) _) HB.out.size (by omega) c 0 (wr.heap.size + 1) (by simp)
              rw [show (c.toNat : Int) = 92 from c_eq hc] at hr'
              have HR' : Hid ((Builtin.append_ #[85, 85] 85 #[.slice a0 L.length c0, .slice (some ⟨wr.heap.size + 1, 0, none⟩) 1 1]).run Tryz.prog ((wr.alloc (.cells #[.int .u8 92, .int .i64 0] 88)).alloc (.cells #[.int .u8 92, .int .i64 0] 88)) = .ok v' w') := hr'
              have HO' := hid ho'
              have HB' := hid (HB.out.trans hb')
              obtain ⟨a5, c5, hv5⟩ := HO'.out.sliceN (n := L.length + 1) (by simp)
              subst hv5
              clear hr' ho' hb' hc HD HE
              go_wp2_with (at_builtin; refine wpList_append_run rfl rfl HR'.out ?_)
              go_roundw
              case rel => exact ⟨k + 1, false, a, 0, L ++ [(c, 0)], by omega, by first | rfl | simp, by first | rfl | simp, by go_num, by go_num, by omega, HO'.out, HB'.out, by rw [List.append_assoc]; exact HE'.out, by simp; omega⟩
              case measure => simp [intOf]; omega
            · have hn' : ¬ (k : Int) + 1 < (s.length : Int) := by omega
              have hc := h92
              have e92 : ((c.toNat : Int) == 92) = true := by simpa using c_eq hc
              have HE' : Hid (L ++ (c, 0) :: mk false a 0 (s.drop (k + 1)) = mk false false 0 s) := by
                rw [Hid, ← HE.out, HD.out]
                subst hc; rw [mk_out a _ _ (by decide)]; simp
              obtain ⟨v', w', hr', ho', hb', _, _⟩ := mo_one (W := wr.alloc (.cells #[.int .u8 (c.toNat : Int), .int .i64 ((0 : Nat) : Int)] 88)) HO.out ((Below.refl _ _).alloc (Nat.le_refl _) _) HB.out.size (by omega) c 0 (wr.heap.size + 1) (by simp)
              rw [show (c.toNat : Int) = 92 from c_eq hc] at hr'
              have HR' : Hid ((Builtin.append_ #[85, 85] 85 #[.slice a0 L.length c0, .slice (some ⟨wr.heap.size + 1, 0, none⟩) 1 1]).run Tryz.prog ((wr.alloc (.cells #[.int .u8 92, .int .i64 0] 88)).alloc (.cells #[.int .u8 92, .int .i64 0] 88)) = .ok v' w') := hr'
              have HO' := hid ho'
              have HB' := hid (HB.out.trans hb')
              obtain ⟨a5, c5, hv5⟩ := HO'.out.sliceN (n := L.length + 1) (by simp)
              subst hv5
              clear hr' ho' hb' hc HD HE
              go_wp2_with (at_builtin; refine wpList_append_run rfl rfl HR'.out ?_)
              go_roundw
              case rel => exact ⟨k + 1, false, a, 0, L ++ [(c, 0)], by omega, by first | rfl | simp, by first | rfl | simp, by go_num, by go_num, by omega, HO'.out, HB'.out, by rw [List.append_assoc]; exact HE'.out, by simp; omega⟩
              case measure => simp [intOf]; omega
          · have e92 : ((c.toNat : Int) == 92) = false := by simpa using c_ne h92
            by_cases h34 : c = 34
            · have hc := h34
              have e34 : ((c.toNat : Int) == 34) = true := by simpa using c_eq hc
              have HE' : Hid (L ++ (c, 1) :: mk true a 0 (s.drop (k + 1)) = mk false false 0 s) := by
                rw [Hid, ← HE.out, HD.out]
                rw [hc, mk_quote]; rfl
              obtain ⟨v', w', hr', ho', hb', _, _⟩ := mo_one (W := wr.alloc (.cells #[.int .u8 (c.toNat : Int), .int .i64 ((1 : Nat) : Int)] 88)) HO.out ((Below.refl _ _).alloc (Nat.le_refl _) _) HB.out.size (by omega) c 1 (wr.heap.size + 1) (by simp)
              rw [show (c.toNat : Int) = 34 from c_eq hc] at hr'
              have HR' : Hid ((Builtin.append_ #[85, 85] 85 #[.slice a0 L.length c0, .slice (some ⟨wr.heap.size + 1, 0, none⟩) 1 1]).run Tryz.prog ((wr.alloc (.cells #[.int .u8 34, .int .i64 1] 88)).alloc (.cells #[.int .u8 34, .int .i64 1] 88)) = .ok v' w') := hr'
              have HO' := hid ho'
              have HB' := hid (HB.out.trans hb')
              obtain ⟨a5, c5, hv5⟩ := HO'.out.sliceN (n := L.length + 1) (by simp)
              subst hv5
              clear hr' ho' hb' hc HD HE
              go_wp2_with (at_builtin; refine wpList_append_run rfl rfl HR'.out ?_)
              go_roundw
              case rel => exact ⟨k + 1, true, a, 0, L ++ [(c, 1)], by omega, by first | rfl | simp, by first | rfl | simp, by go_num, by go_num, by omega, HO'.out, HB'.out, by rw [List.append_assoc]; exact HE'.out, by simp; omega⟩
              case measure => simp [intOf]; omega
            · have e34 : ((c.toNat : Int) == 34) = false := by simpa using c_ne h34
              by_cases h40 : c = 40
              · have hc := h40
                have e40 : ((c.toNat : Int) == 40) = true := by simpa using c_eq hc
                have HE' : Hid (L ++ (c, 1) :: mk false a 1 (s.drop (k + 1)) = mk false false 0 s) := by
                  rw [Hid, ← HE.out, HD.out]
                  subst hc; rw [mk_out a _ _ (by decide)]; simp
                obtain ⟨v', w', hr', ho', hb', _, _⟩ := mo_one (W := wr.alloc (.cells #[.int .u8 (c.toNat : Int), .int .i64 ((1 : Nat) : Int)] 88)) HO.out ((Below.refl _ _).alloc (Nat.le_refl _) _) HB.out.size (by omega) c 1 (wr.heap.size + 1) (by simp)
                rw [show (c.toNat : Int) = 40 from c_eq hc] at hr'
                have HR' : Hid ((Builtin.append_ #[85, 85] 85 #[.slice a0 L.length c0, .slice (some ⟨wr.heap.size + 1, 0, none⟩) 1 1]).run Tryz.prog ((wr.alloc (.cells #[.int .u8 40, .int .i64 1] 88)).alloc (.cells #[.int .u8 40, .int .i64 1] 88)) = .ok v' w') := hr'
                have HO' := hid ho'
                have HB' := hid (HB.out.trans hb')
                obtain ⟨a5, c5, hv5⟩ := HO'.out.sliceN (n := L.length + 1) (by simp)
                subst hv5
                clear hr' ho' hb' hc HD HE
                go_wp2_with (at_builtin; refine wpList_append_run rfl rfl HR'.out ?_)
                go_roundw
                case rel => exact ⟨k + 1, false, a, 1, L ++ [(c, 1)], by omega, by first | rfl | simp, by first | rfl | simp, by go_num, by go_num, by omega, HO'.out, HB'.out, by rw [List.append_assoc]; exact HE'.out, by simp; omega⟩
                case measure => simp [intOf]; omega
              · have e40 : ((c.toNat : Int) == 40) = false := by simpa using c_ne h40
                by_cases h60 : c = 60
                · have hc := h60
                  have e60 : ((c.toNat : Int) == 60) = true := by simpa using c_eq hc
                  cases a with
                  | false =>
                    have HE' : Hid (L ++ (c, 2) :: mk false true 0 (s.drop (k + 1)) = mk false false 0 s) := by
                      rw [Hid, ← HE.out, HD.out]
                      subst hc; rw [mk_out _ _ _ (by decide)]; simp
                    obtain ⟨v', w', hr', ho', hb', _, _⟩ := mo_one (W := wr.alloc (.cells #[.int .u8 (c.toNat : Int), .int .i64 ((2 : Nat) : Int)] 88)) HO.out ((Below.refl _ _).alloc (Nat.le_refl _) _) HB.out.size (by omega) c 2 (wr.heap.size + 1) (by simp)
                    rw [show (c.toNat : Int) = 60 from c_eq hc] at hr'
                    have HR' : Hid ((Builtin.append_ #[85, 85] 85 #[.slice a0 L.length c0, .slice (some ⟨wr.heap.size + 1, 0, none⟩) 1 1]).run Tryz.prog ((wr.alloc (.cells #[.int .u8 60, .int .i64 2] 88)).alloc (.cells #[.int .u8 60, .int .i64 2] 88)) = .ok v' w') := hr'
                    have HO' := hid ho'
                    have HB' := hid (HB.out.trans hb')
                    obtain ⟨a5, c5, hv5⟩ := HO'.out.sliceN (n := L.length + 1) (by simp)
                    subst hv5
                    clear hr' ho' hb' hc HD HE
                    go_wp2_with (at_builtin; refine wpList_append_run rfl rfl HR'.out ?_)
                    go_roundw
                    case rel => exact ⟨k + 1, false, true, 0, L ++ [(c, 2)], by omega, by first | rfl | simp, by first | rfl | simp, by go_num, by go_num, by omega, HO'.out, HB'.out, by rw [List.append_assoc]; exact HE'.out, by simp; omega⟩
                    case measure => simp [intOf]; omega
                  | true =>
                    have HE' : Hid (L ++ (c, 0) :: mk false true 0 (s.drop (k + 1)) = mk false false 0 s) := by
                      rw [Hid, ← HE.out, HD.out]
                      subst hc; rw [mk_out _ _ _ (by decide)]; simp
                    obtain ⟨v', w', hr', ho', hb', _, _⟩ := mo_one (W := wr.alloc (.cells #[.int .u8 (c.toNat : Int), .int .i64 ((0 : Nat) : Int)] 88)) HO.out ((Below.refl _ _).alloc (Nat.le_refl _) _) HB.out.size (by omega) c 0 (wr.heap.size + 1) (by simp)
                    rw [show (c.toNat : Int) = 60 from c_eq hc] at hr'
                    have HR' : Hid ((Builtin.append_ #[85, 85] 85 #[.slice a0 L.length c0, .slice (some ⟨wr.heap.size + 1, 0, none⟩) 1 1]).run Tryz.prog ((wr.alloc (.cells #[.int .u8 60, .int .i64 0] 88)).alloc (.cells #[.int .u8 60, .int .i64 0] 88)) = .ok v' w') := hr'
                    have HO' := hid ho'
                    have HB' := hid (HB.out.trans hb')
                    obtain ⟨a5, c5, hv5⟩ := HO'.out.sliceN (n := L.length + 1) (by simp)
                    subst hv5
                    clear hr' ho' hb' hc HD HE
                    go_wp2_with (at_builtin; refine wpList_append_run rfl rfl HR'.out ?_)
                    go_roundw
                    case rel => exact ⟨k + 1, false, true, 0, L ++ [(c, 0)], by omega, by first | rfl | simp, by first | rfl | simp, by go_num, by go_num, by omega, HO'.out, HB'.out, by rw [List.append_assoc]; exact HE'.out, by simp; omega⟩
                    case measure => simp [intOf]; omega
                · have e60 : ((c.toNat : Int) == 60) = false := by simpa using c_ne h60
                  by_cases h62 : c = 62
                  · have hc := h62
                    have e62 : ((c.toNat : Int) == 62) = true := by simpa using c_eq hc
                    cases a with
                    | false =>
                      have HE' : Hid (L ++ (c, 0) :: mk false false 0 (s.drop (k + 1)) = mk false false 0 s) := by
                        rw [Hid, ← HE.out, HD.out]
                        subst hc; rw [mk_out _ _ _ (by decide)]; simp
                      obtain ⟨v', w', hr', ho', hb', _, _⟩ := mo_one (W := wr.alloc (.cells #[.int .u8 (c.toNat : Int), .int .i64 ((0 : Nat) : Int)] 88)) HO.out ((Below.refl _ _).alloc (Nat.le_refl _) _) HB.out.size (by omega) c 0 (wr.heap.size + 1) (by simp)
                      rw [show (c.toNat : Int) = 62 from c_eq hc] at hr'
                      have HR' : Hid ((Builtin.append_ #[85, 85] 85 #[.slice a0 L.length c0, .slice (some ⟨wr.heap.size + 1, 0, none⟩) 1 1]).run Tryz.prog ((wr.alloc (.cells #[.int .u8 62, .int .i64 0] 88)).alloc (.cells #[.int .u8 62, .int .i64 0] 88)) = .ok v' w') := hr'
                      have HO' := hid ho'
                      have HB' := hid (HB.out.trans hb')
                      obtain ⟨a5, c5, hv5⟩ := HO'.out.sliceN (n := L.length + 1) (by simp)
                      subst hv5
                      clear hr' ho' hb' hc HD HE
                      go_wp2_with (at_builtin; refine wpList_append_run rfl rfl HR'.out ?_)
                      go_roundw
                      case rel => exact ⟨k + 1, false, false, 0, L ++ [(c, 0)], by omega, by first | rfl | simp, by first | rfl | simp, by go_num, by go_num, by omega, HO'.out, HB'.out, by rw [List.append_assoc]; exact HE'.out, by simp; omega⟩
                      case measure => simp [intOf]; omega
                    | true =>
                      have HE' : Hid (L ++ (c, 3) :: mk false false 0 (s.drop (k + 1)) = mk false false 0 s) := by
                        rw [Hid, ← HE.out, HD.out]
                        subst hc; rw [mk_out _ _ _ (by decide)]; simp
                      obtain ⟨v', w', hr', ho', hb', _, _⟩ := mo_one (W := wr.alloc (.cells #[.int .u8 (c.toNat : Int), .int .i64 ((3 : Nat) : Int)] 88)) HO.out ((Below.refl _ _).alloc (Nat.le_refl _) _) HB.out.size (by omega) c 3 (wr.heap.size + 1) (by simp)
                      rw [show (c.toNat : Int) = 62 from c_eq hc] at hr'
                      have HR' : Hid ((Builtin.append_ #[85, 85] 85 #[.slice a0 L.length c0, .slice (some ⟨wr.heap.size + 1, 0, none⟩) 1 1]).run Tryz.prog ((wr.alloc (.cells #[.int .u8 62, .int .i64 3] 88)).alloc (.cells #[.int .u8 62, .int .i64 3] 88)) = .ok v' w') := hr'
                      have HO' := hid ho'
                      have HB' := hid (HB.out.trans hb')
                      obtain ⟨a5, c5, hv5⟩ := HO'.out.sliceN (n := L.length + 1) (by simp)
                      subst hv5
                      clear hr' ho' hb' hc HD HE
                      go_wp2_with (at_builtin; refine wpList_append_run rfl rfl HR'.out ?_)
                      go_roundw
                      case rel => exact ⟨k + 1, false, false, 0, L ++ [(c, 3)], by omega, by first | rfl | simp, by first | rfl | simp, by go_num, by go_num, by omega, HO'.out, HB'.out, by rw [List.append_assoc]; exact HE'.out, by simp; omega⟩
                      case measure => simp [intOf]; omega
                  · have e62 : ((c.toNat : Int) == 62) = false := by simpa using c_ne h62
                    by_cases h44 : c = 44
                    · have hc := h44
                      have e44 : ((c.toNat : Int) == 44) = true := by simpa using c_eq hc
                      cases a with
                      | false =>
                        have HE' : Hid (L ++ (c, 4) :: mk false false 0 (s.drop (k + 1)) = mk false false 0 s) := by
                          rw [Hid, ← HE.out, HD.out]
                          subst hc; rw [mk_out _ _ _ (by decide)]; simp
                        obtain ⟨v', w', hr', ho', hb', _, _⟩ := mo_one (W := wr.alloc (.cells #[.int .u8 (c.toNat : Int), .int .i64 ((4 : Nat) : Int)] 88)) HO.out ((Below.refl _ _).alloc (Nat.le_refl _) _) HB.out.size (by omega) c 4 (wr.heap.size + 1) (by simp)
                        rw [show (c.toNat : Int) = 44 from c_eq hc] at hr'
                        have HR' : Hid ((Builtin.append_ #[85, 85] 85 #[.slice a0 L.length c0, .slice (some ⟨wr.heap.size + 1, 0, none⟩) 1 1]).run Tryz.prog ((wr.alloc (.cells #[.int .u8 44, .int .i64 4] 88)).alloc (.cells #[.int .u8 44, .int .i64 4] 88)) = .ok v' w') := hr'
                        have HO' := hid ho'
                        have HB' := hid (HB.out.trans hb')
                        obtain ⟨a5, c5, hv5⟩ := HO'.out.sliceN (n := L.length + 1) (by simp)
                        subst hv5
                        clear hr' ho' hb' hc HD HE
                        go_wp2_with (at_builtin; refine wpList_append_run rfl rfl HR'.out ?_)
                        go_roundw
                        case rel => exact ⟨k + 1, false, false, 0, L ++ [(c, 4)], by omega, by first | rfl | simp, by first | rfl | simp, by go_num, by go_num, by omega, HO'.out, HB'.out, by rw [List.append_assoc]; exact HE'.out, by simp; omega⟩
                        case measure => simp [intOf]; omega
                      | true =>
                        have HE' : Hid (L ++ (c, 0) :: mk false true 0 (s.drop (k + 1)) = mk false false 0 s) := by
                          rw [Hid, ← HE.out, HD.out]
                          subst hc; rw [mk_out _ _ _ (by decide)]; simp
                        obtain ⟨v', w', hr', ho', hb', _, _⟩ := mo_one (W := wr.alloc (.cells #[.int .u8 (c.toNat : Int), .int .i64 ((0 : Nat) : Int)] 88)) HO.out ((Below.refl _ _).alloc (Nat.le_refl _) _) HB.out.size (by omega) c 0 (wr.heap.size + 1) (by simp)
                        rw [show (c.toNat : Int) = 44 from c_eq hc] at hr'
                        have HR' : Hid ((Builtin.append_ #[85, 85] 85 #[.slice a0 L.length c0, .slice (some ⟨wr.heap.size + 1, 0, none⟩) 1 1]).run Tryz.prog ((wr.alloc (.cells #[.int .u8 44, .int .i64 0] 88)).alloc (.cells #[.int .u8 44, .int .i64 0] 88)) = .ok v' w') := hr'
                        have HO' := hid ho'
                        have HB' := hid (HB.out.trans hb')
                        obtain ⟨a5, c5, hv5⟩ := HO'.out.sliceN (n := L.length + 1) (by simp)
                        subst hv5
                        clear hr' ho' hb' hc HD HE
                        go_wp2_with (at_builtin; refine wpList_append_run rfl rfl HR'.out ?_)
                        go_roundw
                        case rel => exact ⟨k + 1, false, true, 0, L ++ [(c, 0)], by omega, by first | rfl | simp, by first | rfl | simp, by go_num, by go_num, by omega, HO'.out, HB'.out, by rw [List.append_assoc]; exact HE'.out, by simp; omega⟩
                        case measure => simp [intOf]; omega
                    · have e44 : ((c.toNat : Int) == 44) = false := by simpa using c_ne h44
                      have hc := h44
                      have HE' : Hid (L ++ (c, 0) :: mk false a 0 (s.drop (k + 1)) = mk false false 0 s) := by
                        rw [Hid, ← HE.out, HD.out]
                        rw [mk_out a c _ h34]; simp [h40, h60, h62, h44]
                      obtain ⟨v', w', hr', ho', hb', _, _⟩ := mo_one (W := wr.alloc (.cells #[.int .u8 (c.toNat : Int), .int .i64 ((0 : Nat) : Int)] 88)) HO.out ((Below.refl _ _).alloc (Nat.le_refl _) _) HB.out.size (by omega) c 0 (wr.heap.size + 1) (by simp)
                      have HR' : Hid ((Builtin.append_ #[85, 85] 85 #[.slice a0 L.length c0, .slice (some ⟨wr.heap.size + 1, 0, none⟩) 1 1]).run Tryz.prog ((wr.alloc (.cells #[.int .u8 (c.toNat : Int), .int .i64 0] 88)).alloc (.cells #[.int .u8 (c.toNat : Int), .int .i64 0] 88)) = .ok v' w') := hr'
                      have HO' := hid ho'
                      have HB' := hid (HB.out.trans hb')
                      obtain ⟨a5, c5, hv5⟩ := HO'.out.sliceN (n := L.length + 1) (by simp)
                      subst hv5
                      clear hr' ho' hb' hc HD HE
                      go_wp2_with (at_builtin; refine wpList_append_run rfl rfl HR'.out ?_)
                      go_roundw
                      case rel => exact ⟨k + 1, false, a, 0, L ++ [(c, 0)], by omega, by first | rfl | simp, by first | rfl | simp, by go_num, by go_num, by omega, HO'.out, HB'.out, by rw [List.append_assoc]; exact HE'.out, by simp; omega⟩
                      case measure => simp [intOf]; omega
    · have hlt' : ¬ (k : Int) < s.length := by omega
      have HX : Hid (L = mk false false 0 s) := by
        have h1 := HE.out
        rw [List.drop_eq_nil_of_le (by omega), mk_nil, List.append_nil] at h1
        exact h1
      go_wp2_with fail
      go_ret
      rw [← HX.out]
      exact ⟨⟨_, rfl, HO.out⟩, HB.out⟩
end Go.Proofs.YtemgpghjolpneaaGreatDoor
