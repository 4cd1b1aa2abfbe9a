/- What this text holds: the document's address of a piece. -/
import Derived.Test.YtemgpghjolpneaaGreatDoorS1
import Derived.Test.YtemgpghjolpneaaGreatDoorP8
import Derived.Test.YtemgpghjolpneaaGreatDoorR6
import Derived.Test.YtemgpghjolpneaaGreatDoorM12
namespace Go.Proofs.YtemgpghjolpneaaGreatDoor
open Go.RowKit
set_option linter.unusedVariables false
set_option linter.unusedSimpArgs false

/-- Marks lie in memory. -/
def MA (w : World) (g o : Nat) (l : List Mk) : Prop := ∀ (j : Nat) (m : Mk), l[j]? = some m → w.cell? ⟨g, o + j * 2, none⟩ = some (.int .u8 (m.1.toNat : Int)) ∧ w.cell? ⟨g, o + j * 2 + 1, none⟩ = some (.int .i64 (m.2 : Int))
theorem MA.later {w w' : World} {g o : Nat} {l : List Mk} (h : MA w g o l) (hb : Below w.heap.size w w') : MA w' g o l := by
  intro j m hm
  obtain ⟨h1, h2⟩ := h j m hm
  exact ⟨(World.cell?_of_block (hb.block g (World.block_lt_of_cell? w _ h1))).trans h1, (World.cell?_of_block (hb.block g (World.block_lt_of_cell? w _ h2))).trans h2⟩
theorem conv_ch (ch : UInt8) (w : World) : (convert 60 9 (.slice (some ⟨w.heap.size, 0, none⟩) 1 1)).run Tryz.prog (w.alloc (.cells #[.int .u8 (ch.toNat : Int)] 5)) = .ok (.string (str [ch])) (w.alloc (.cells #[.int .u8 (ch.toNat : Int)] 5)) :=
  conv_bytes (B := w.heap.size) (l := [ch]) ⟨rfl, .inr ⟨w.heap.size, 1, _, rfl, Nat.le_refl _, heap_alloc_new _ _, Nat.le_refl _, by decide, rfl, rfl⟩⟩
set_option maxRecDepth 100000 in
set_option maxHeartbeats 8000000 in
theorem raddress_any (l : List Mk) (g o c : Nat) (w : World) (hc : l.length ≤ c) (hl : l.length ≤ 100000) (hm : MA w g o l) :
    Calls Tryz.prog 56 #[.slice (some ⟨g, o, none⟩) l.length c] w fun e w' => e = .returned (.tuple #[adV (adM (stM l)), .bool (decide (adM (stM l) ≠ noAd))]) ∧ Below w.heap.size w w' := by
  have HM := hid hm
  clear hm
  go_enter Tryz.func56, Tryz.ntmps56
  go_wp2_with fail
  go_loopw [5, 6, 7, 8] (fun ah il nn i wr => ∃ (k : Nat), k ≤ l.length ∧ ah = .string (str (stM (l.take k)).1) ∧ il = .string (str (stM (l.take k)).2.1) ∧ nn = .int .i64 (stM (l.take k)).2.2 ∧ i = .int .i64 k ∧ Below w.heap.size w wr ∧ wr.heap[w.heap.size]? = some (.cells #[.string ⟨#[]⟩, .string ⟨#[]⟩, .string ⟨#[]⟩] 42 (0, 0)) ∧ wr.heap[w.heap.size + 1]? = some (.cells #[.string ⟨#[]⟩, .string ⟨#[]⟩, .string ⟨#[]⟩] 42 (0, 0)) ∧ MA wr g o l) (fun _ _ _ i _ => l.length - (intOf i).toNat)
  case atStart =>
    have hb1 : Below w.heap.size w ((w.alloc (.cells #[.string ⟨#[]⟩, .string ⟨#[]⟩, .string ⟨#[]⟩] 42)).alloc (.cells #[.string ⟨#[]⟩, .string ⟨#[]⟩, .string ⟨#[]⟩] 42)) := ((Below.refl _ _).alloc (Nat.le_refl _) _).alloc (by simp) _
    refine ⟨0, by omega, rfl, rfl, rfl, rfl, hb1, ?_, ?_, HM.out.later hb1⟩
    · rw [heap_alloc_old _ _ (by simp)]; exact heap_alloc_new _ _
    · have := heap_alloc_new (w.alloc (.cells #[.string ⟨#[]⟩, .string ⟨#[]⟩, .string ⟨#[]⟩] 42)) (.cells #[.string ⟨#[]⟩, .string ⟨#[]⟩, .string ⟨#[]⟩] 42)
      simpa using this
  case round =>
    obtain ⟨k, hk, rfl, rfl, rfl, rfl, hb, hz1, hz2, hma⟩ := hrel
    have HB := hid hb
    have HZ1 := hid hz1
    have HZ2 := hid hz2
    have HMA := hid hma
    clear hb hz1 hz2 hma
    have hsl := stM_len l k hk
    by_cases hlt : k < l.length
    · have hlt' : (k : Int) < l.length := by omega
      obtain ⟨m0, m1⟩ := HMA.out k l[k] (List.getElem?_eq_getElem hlt)
      have HS := hid (stM_take l k hlt)
      generalize l[k] = m at *
      generalize stM (l.take k) = st at *
      obtain ⟨ch, j⟩ := m
      obtain ⟨ah, il, nn⟩ := st
      simp only at m0 m1 hsl
      have hw1 : 2 ≤ wr.heap.size := by have := lt_of_some HZ2.out; omega
      by_cases h2 : j = 2
      · have b2 : ((j : Int) == 2) = true := by simp [h2]
        have HX : Hid (stM (l.take (k + 1)) = (ah, il, nn + 1)) := by rw [Hid, HS.out]; exact step_ang (.inl h2)
        go_wp2_with fail
        go_roundw
        case rel => exact ⟨k + 1, by omega, by rw [HX.out], by rw [HX.out], by rw [HX.out] <;> first | rfl | go_num, by go_num, HB.out, HZ1.out, HZ2.out, HMA.out⟩
        case measure => simp [intOf]; omega
      · have b2 : ((j : Int) == 2) = false := by simp; omega
        by_cases h3 : j = 3
        · have b3 : ((j : Int) == 3) = true := by simp [h3]
          have HX : Hid (stM (l.take (k + 1)) = (ah, il, nn + 1)) := by rw [Hid, HS.out]; exact step_ang (.inr h3)
          go_wp2_with fail
          go_roundw
          case rel => exact ⟨k + 1, by omega, by rw [HX.out], by rw [HX.out], by rw [HX.out] <;> first | rfl | go_num, by go_num, HB.out, HZ1.out, HZ2.out, HMA.out⟩
          case measure => simp [intOf]; omega
        · have b3 : ((j : Int) == 3) = false := by simp; omega
          by_cases h0 : j = 0
          · have b0 : ((j : Int) == 0) = true := by simp [h0]
            by_cases n0 : nn = 0
            · have d0 : ((nn : Int) == 0) = true := by simp [n0]
              have hcv := conv_ch ch wr
              have HA := hid (app_str ah [ch])
              have hcl : ¬ 9223372036854775807 < (str ah).size + (str [ch]).size := by rw [str_size, str_size]; simp; omega
              have HX : Hid (stM (l.take (k + 1)) = (ah ++ [ch], il, nn)) := by rw [Hid, HS.out]; exact step_ahead h0 n0
              go_wp2_with fail
              go_roundw
              case rel => exact ⟨k + 1, by omega, by rw [HX.out]; simp only [← HA.out], by rw [HX.out], by rw [HX.out] <;> first | rfl | go_num, by go_num, (HB.out.alloc HB.out.size _), (by rw [heap_alloc_old _ _ (lt_of_some HZ1.out)]; exact HZ1.out), (by rw [heap_alloc_old _ _ (lt_of_some HZ2.out)]; exact HZ2.out), (HMA.out.later ((Below.refl _ _).alloc (Nat.le_refl _) _))⟩
              case measure => simp [intOf]; omega
            · have d0 : ((nn : Int) == 0) = false := by simp [n0]
              by_cases n1 : nn = 1
              · have d1 : ((nn : Int) == 1) = true := by simp [n1]
                have hcv := conv_ch ch wr
                have HA := hid (app_str il [ch])
                have hcl : ¬ 9223372036854775807 < (str il).size + (str [ch]).size := by rw [str_size, str_size]; simp; omega
                have HX : Hid (stM (l.take (k + 1)) = (ah, il ++ [ch], nn)) := by rw [Hid, HS.out]; exact step_in h0 n1
                go_wp2_with fail
                go_roundw
                case rel => exact ⟨k + 1, by omega, by rw [HX.out], by rw [HX.out]; simp only [← HA.out], by rw [HX.out] <;> first | rfl | go_num, by go_num, (HB.out.alloc HB.out.size _), (by rw [heap_alloc_old _ _ (lt_of_some HZ1.out)]; exact HZ1.out), (by rw [heap_alloc_old _ _ (lt_of_some HZ2.out)]; exact HZ2.out), (HMA.out.later ((Below.refl _ _).alloc (Nat.le_refl _) _))⟩
                case measure => simp [intOf]; omega
              · have d1 : ((nn : Int) == 1) = false := by simp; omega
                have HX : Hid (stM (l.take (k + 1)) = (ah, il, nn)) := by rw [Hid, HS.out]; exact step_out h0 n0 n1
                go_wp2_with fail
                go_roundw
                case rel => exact ⟨k + 1, by omega, by rw [HX.out], by rw [HX.out], by rw [HX.out] <;> first | rfl | go_num, by go_num, HB.out, HZ1.out, HZ2.out, HMA.out⟩
                case measure => simp [intOf]; omega
          · have b0 : ((j : Int) == 0) = false := by simp [h0]
            have HX : Hid (stM (l.take (k + 1)) = (ah, il, nn)) := by rw [Hid, HS.out]; exact step_not h0 h2 h3
            go_wp2_with fail
            go_roundw
            case rel => exact ⟨k + 1, by omega, by rw [HX.out], by rw [HX.out], by rw [HX.out] <;> first | rfl | go_num, by go_num, HB.out, HZ1.out, HZ2.out, HMA.out⟩
            case measure => simp [intOf]; omega
    · have hlt' : ¬ (k : Int) < l.length := by omega
      have hkl : k = l.length := by omega
      have HT := hid (List.take_length (l := l))
      subst hkl
      rw [HT.out] at hsl ⊢
      generalize hst : stM l = st at *
      obtain ⟨ah, il, nn⟩ := st
      have HST := hid hst
      clear hst
      simp only at hsl
      have HC1 := hid (fun W => rtrim_true ah W (by omega))
      rw [trimR_a] at HC1
      have HC2 := hid (fun W => rtrim_true il W (by omega))
      rw [trimR_a] at HC2
      have hz := rb_cells HZ2.out
      obtain ⟨z0, z1, z2, z3⟩ := hz
      have y0 := z3 0
      have y1 := z3 1
      have y2 := z3 2
      clear z3
      by_cases hn : nn = 0
      · have d0 : ¬ (0 : Int) < (nn : Int) := by omega
        have HN : Hid (adM (ah, il, nn) = partedP [] (trimA ah)) := by unfold adM; rw [Hid, if_neg (by simp; omega)]
        have hal : (trimA ah).length ≤ 100000 := by have := trimA_len ah; omega
        go_wp2_with fail
        refine (HC1.out _).mono ?_
        rintro e w1 ⟨rfl, rfl⟩
        go_wp2_with fail
        have HB3 : Hid (Below w.heap.size w (w1.setCell ⟨w.heap.size + 1, 1, none⟩ (.string (str (trimA ah))))) := HB.out.setCell (Nat.le_succ _) _
        have HZ3 : Hid ((w1.setCell ⟨w.heap.size + 1, 1, none⟩ (.string (str (trimA ah)))).heap[w.heap.size]? = some (.cells #[.string ⟨#[]⟩, .string ⟨#[]⟩, .string ⟨#[]⟩] 42 (0, 0))) := by rw [Hid, Below.heap_setCell _ _ _ _ (by simp)]; exact HZ1.out
        have HX3 : Hid ((w1.setCell ⟨w.heap.size + 1, 1, none⟩ (.string (str (trimA ah)))).heap[w.heap.size + 1]? = some (.cells #[.string (str []), .string (str (trimA ah)), .string (str [])] 42 (0, 0))) := by rw [Hid, heap_setCell_same _ _ _ _ _ _ HZ2.out]; rfl
        clear z0 z1 z2 y0 y1 y2 HZ1 HZ2 HB HMA HM HC1 HC2
        generalize w1.setCell ⟨w.heap.size + 1, 1, none⟩ (.string (str (trimA ah))) = w3 at *
        generalize trimA ah = ad at *
        have hsz := str_size ad
        go_loopw [10] (fun i wr => ∃ (k : Nat), k ≤ ad.length ∧ i = .int .i64 k ∧ Below w.heap.size w wr ∧ wr.heap[w.heap.size]? = some (.cells #[.string ⟨#[]⟩, .string ⟨#[]⟩, .string ⟨#[]⟩] 42 (0, 0)) ∧ wr.heap[w.heap.size + 1]? = some (.cells #[.string (str (partK ([] : Bs) ad k).1), .string (str (partK ([] : Bs) ad k).2.1), .string (str (partK ([] : Bs) ad k).2.2)] 42 (0, 0))) (fun i _ => ad.length - (intOf i).toNat)
        case atStart => exact ⟨0, by omega, rfl, HB3.out, HZ3.out, HX3.out⟩
        case round =>
          obtain ⟨k, hk, rfl, hb4, hz4, hx4⟩ := hrel
          have HB4 := hid hb4
          have HZ4 := hid hz4
          have HX4 := hid hx4
          clear hb4 hz4 hx4 HX3 HZ3 HB3
          have q0 : wr.cell? ⟨w.heap.size + 1, 0, none⟩ = some (.string (str (partK ([] : Bs) ad k).1)) := by simp [World.cell?, HX4.out]
          have q1 : wr.cell? ⟨w.heap.size + 1, 1, none⟩ = some (.string (str (partK ([] : Bs) ad k).2.1)) := by simp [World.cell?, HX4.out]
          have q2 : wr.cell? ⟨w.heap.size + 1, 2, none⟩ = some (.string (str (partK ([] : Bs) ad k).2.2)) := by simp [World.cell?, HX4.out]
          have q3 : ∀ o, wr.frozen? ⟨w.heap.size + 1, o, none⟩ = false := fun o => by simp [World.frozen?, HX4.out]
          have r1 := q3 1
          have r2 := q3 2
          clear q3
          by_cases hlt : k < ad.length
          · have hlt' : (k : Int) < ad.length := by omega
            have hlts : k < (str ad).size := by omega
            have gk : ((str ad)[k]'hlts) = ad[k] := rfl
            have HPy := hid (partK_at ([] : Bs) ad k hlt)
            have HPn := hid (partK_not ([] : Bs) ad k hlt)
            have HNm := hid (partK_name ([] : Bs) ad k)
            have HT := hid (take_str ad k)
            have HD : Hid ((str ad).extract (k + 1) ad.length = str (ad.drop (k + 1))) := by rw [Hid, ← str_size]; exact drop_str ad (k + 1)
            generalize ad[k] = ck at *
            by_cases hc : ck = 64
            · have e1 : ((ck.toNat : Int) == 64) = true := by simpa using c_eq hc
              have HP := hid (HPy.out hc)
              clear HPy HPn hc
              go_wp2_with fail
              go_roundw
              case rel =>
                refine ⟨k + 1, by omega, by go_num, (HB4.out.setCell (Nat.le_succ _) _).setCell (Nat.le_succ _) _, ?_, ?_⟩
                · rw [Below.heap_setCell _ _ _ _ (by simp), Below.heap_setCell _ _ _ _ (by simp)]; exact HZ4.out
                · rw [heap_setCell_same _ _ _ _ _ _ (heap_setCell_same _ _ _ _ _ _ HX4.out), HP.out, HNm.out, ← HT.out, ← HD.out]; rfl
              case measure => simp [intOf]; omega
            · have e1 : ((ck.toNat : Int) == 64) = false := by simpa using c_ne hc
              have HP := hid (HPn.out hc)
              clear HPy HPn hc
              go_wp2_with fail
              go_roundw
              case rel => exact ⟨k + 1, by omega, by go_num, HB4.out, HZ4.out, by rw [HP.out]; exact HX4.out⟩
              case measure => simp [intOf]; omega
          · have hlt' : ¬ (k : Int) < ad.length := by omega
            have hkl2 : k = ad.length := by omega
            subst hkl2
            have HPA := hid (partK_all ([] : Bs) ad)
            rw [HPA.out] at q0 q1 q2 HX4
            have HF := hid (HN.out)
            generalize partedP ([] : Bs) ad = pa at *
            obtain ⟨p1, p2, p3⟩ := pa
            simp only at q0 q1 q2 HX4
            have l1 := eqL p1 []
            have l2 := eqL p2 []
            have l3 := eqL p3 []
            obtain ⟨s0, s1, s2, s3⟩ := rb_cells HZ4.out
            have t0 := s3 0
            have t1 := s3 1
            have t2 := s3 2
            clear s3
            by_cases f1 : p1 = []
            · clear l1
              have k1 : (str p1).toList = [] := by rw [toL]; exact f1
              have m1 : ((str p1).toList == []) = true := by rw [k1]; rfl
              have F1 := hid f1
              clear f1 k1
              by_cases f2 : p2 = []
              · clear l2
                have k2 : (str p2).toList = [] := by rw [toL]; exact f2
                have m2 : ((str p2).toList == []) = true := by rw [k2]; rfl
                have F2 := hid f2
                clear f2 k2
                by_cases f3 : p3 = []
                · clear l3
                  have k3 : (str p3).toList = [] := by rw [toL]; exact f3
                  have m3 : ((str p3).toList == []) = true := by rw [k3]; rfl
                  have F3 := hid f3
                  clear f3 k3
                  go_wp2_with fail
                  go_region
                  go_wp2_with fail
                  have h3 := put3_heap HZ4.out (.string (str p1)) (.string (str p2)) (.string (str p3))
                  have HBf : Below w.heap.size w (((wr.setCell ⟨w.heap.size, 0, none⟩ (.string (str p1))).setCell ⟨w.heap.size, 1, none⟩ (.string (str p2))).setCell ⟨w.heap.size, 2, none⟩ (.string (str p3))).drew := (((HB4.out.setCell (Nat.le_refl _) _).setCell (Nat.le_refl _) _).setCell (Nat.le_refl _) _).trans (drewN_below _ 1 _)
                  have c0 : (((wr.setCell ⟨w.heap.size, 0, none⟩ (.string (str p1))).setCell ⟨w.heap.size, 1, none⟩ (.string (str p2))).setCell ⟨w.heap.size, 2, none⟩ (.string (str p3))).drew.cell? ⟨w.heap.size, 0, none⟩ = some (.string (str p1)) := (by simp [World.cell?, h3] : (((wr.setCell ⟨w.heap.size, 0, none⟩ (.string (str p1))).setCell ⟨w.heap.size, 1, none⟩ (.string (str p2))).setCell ⟨w.heap.size, 2, none⟩ (.string (str p3))).cell? ⟨w.heap.size, 0, none⟩ = some (.string (str p1)))
                  have c1 : (((wr.setCell ⟨w.heap.size, 0, none⟩ (.string (str p1))).setCell ⟨w.heap.size, 1, none⟩ (.string (str p2))).setCell ⟨w.heap.size, 2, none⟩ (.string (str p3))).drew.cell? ⟨w.heap.size, 1, none⟩ = some (.string (str p2)) := (by simp [World.cell?, h3] : (((wr.setCell ⟨w.heap.size, 0, none⟩ (.string (str p1))).setCell ⟨w.heap.size, 1, none⟩ (.string (str p2))).setCell ⟨w.heap.size, 2, none⟩ (.string (str p3))).cell? ⟨w.heap.size, 1, none⟩ = some (.string (str p2)))
                  have c2 : (((wr.setCell ⟨w.heap.size, 0, none⟩ (.string (str p1))).setCell ⟨w.heap.size, 1, none⟩ (.string (str p2))).setCell ⟨w.heap.size, 2, none⟩ (.string (str p3))).drew.cell? ⟨w.heap.size, 2, none⟩ = some (.string (str p3)) := (by simp [World.cell?, h3] : (((wr.setCell ⟨w.heap.size, 0, none⟩ (.string (str p1))).setCell ⟨w.heap.size, 1, none⟩ (.string (str p2))).setCell ⟨w.heap.size, 2, none⟩ (.string (str p3))).cell? ⟨w.heap.size, 2, none⟩ = some (.string (str p3)))
                  generalize (((wr.setCell ⟨w.heap.size, 0, none⟩ (.string (str p1))).setCell ⟨w.heap.size, 1, none⟩ (.string (str p2))).setCell ⟨w.heap.size, 2, none⟩ (.string (str p3))).drew = W at *
                  exact bodyPost_ret (v := .tuple #[adV (p1, p2, p3), .bool false]) (by simp [results, Tryz.results56, go_sem, c0, c1, c2, adV]) rfl ⟨by rw [HST.out, HF.out]; simp [noAd, F1.out, F2.out, F3.out], HBf⟩
                · rw [show decide (p3 = []) = false by simp [f3]] at l3
                  go_wp2_with fail
                  go_region
                  go_wp2_with fail
                  have h3 := put3_heap HZ4.out (.string (str p1)) (.string (str p2)) (.string (str p3))
                  have HBf : Below w.heap.size w (((wr.setCell ⟨w.heap.size, 0, none⟩ (.string (str p1))).setCell ⟨w.heap.size, 1, none⟩ (.string (str p2))).setCell ⟨w.heap.size, 2, none⟩ (.string (str p3))).drew := (((HB4.out.setCell (Nat.le_refl _) _).setCell (Nat.le_refl _) _).setCell (Nat.le_refl _) _).trans (drewN_below _ 1 _)
                  have c0 : (((wr.setCell ⟨w.heap.size, 0, none⟩ (.string (str p1))).setCell ⟨w.heap.size, 1, none⟩ (.string (str p2))).setCell ⟨w.heap.size, 2, none⟩ (.string (str p3))).drew.cell? ⟨w.heap.size, 0, none⟩ = some (.string (str p1)) := (by simp [World.cell?, h3] : (((wr.setCell ⟨w.heap.size, 0, none⟩ (.string (str p1))).setCell ⟨w.heap.size, 1, none⟩ (.string (str p2))).setCell ⟨w.heap.size, 2, none⟩ (.string (str p3))).cell? ⟨w.heap.size, 0, none⟩ = some (.string (str p1)))
                  have c1 : (((wr.setCell ⟨w.heap.size, 0, none⟩ (.string (str p1))).setCell ⟨w.heap.size, 1, none⟩ (.string (str p2))).setCell ⟨w.heap.size, 2, none⟩ (.string (str p3))).drew.cell? ⟨w.heap.size, 1, none⟩ = some (.string (str p2)) := (by simp [World.cell?, h3] : (((wr.setCell ⟨w.heap.size, 0, none⟩ (.string (str p1))).setCell ⟨w.heap.size, 1, none⟩ (.string (str p2))).setCell ⟨w.heap.size, 2, none⟩ (.string (str p3))).cell? ⟨w.heap.size, 1, none⟩ = some (.string (str p2)))
                  have c2 : (((wr.setCell ⟨w.heap.size, 0, none⟩ (.string (str p1))).setCell ⟨w.heap.size, 1, none⟩ (.string (str p2))).setCell ⟨w.heap.size, 2, none⟩ (.string (str p3))).drew.cell? ⟨w.heap.size, 2, none⟩ = some (.string (str p3)) := (by simp [World.cell?, h3] : (((wr.setCell ⟨w.heap.size, 0, none⟩ (.string (str p1))).setCell ⟨w.heap.size, 1, none⟩ (.string (str p2))).setCell ⟨w.heap.size, 2, none⟩ (.string (str p3))).cell? ⟨w.heap.size, 2, none⟩ = some (.string (str p3)))
                  generalize (((wr.setCell ⟨w.heap.size, 0, none⟩ (.string (str p1))).setCell ⟨w.heap.size, 1, none⟩ (.string (str p2))).setCell ⟨w.heap.size, 2, none⟩ (.string (str p3))).drew = W at *
                  exact bodyPost_ret (v := .tuple #[adV (p1, p2, p3), .bool true]) (by simp [results, Tryz.results56, go_sem, c0, c1, c2, adV]) rfl ⟨by rw [HST.out, HF.out]; simp [noAd, f3], HBf⟩
              · rw [show decide (p2 = []) = false by simp [f2]] at l2
                go_wp2_with fail
                go_region
                go_wp2_with fail
                have h3 := put3_heap HZ4.out (.string (str p1)) (.string (str p2)) (.string (str p3))
                have HBf : Below w.heap.size w (((wr.setCell ⟨w.heap.size, 0, none⟩ (.string (str p1))).setCell ⟨w.heap.size, 1, none⟩ (.string (str p2))).setCell ⟨w.heap.size, 2, none⟩ (.string (str p3))).drew := (((HB4.out.setCell (Nat.le_refl _) _).setCell (Nat.le_refl _) _).setCell (Nat.le_refl _) _).trans (drewN_below _ 1 _)
                have c0 : (((wr.setCell ⟨w.heap.size, 0, none⟩ (.string (str p1))).setCell ⟨w.heap.size, 1, none⟩ (.string (str p2))).setCell ⟨w.heap.size, 2, none⟩ (.string (str p3))).drew.cell? ⟨w.heap.size, 0, none⟩ = some (.string (str p1)) := (by simp [World.cell?, h3] : (((wr.setCell ⟨w.heap.size, 0, none⟩ (.string (str p1))).setCell ⟨w.heap.size, 1, none⟩ (.string (str p2))).setCell ⟨w.heap.size, 2, none⟩ (.string (str p3))).cell? ⟨w.heap.size, 0, none⟩ = some (.string (str p1)))
                have c1 : (((wr.setCell ⟨w.heap.size, 0, none⟩ (.string (str p1))).setCell ⟨w.heap.size, 1, none⟩ (.string (str p2))).setCell ⟨w.heap.size, 2, none⟩ (.string (str p3))).drew.cell? ⟨w.heap.size, 1, none⟩ = some (.string (str p2)) := (by simp [World.cell?, h3] : (((wr.setCell ⟨w.heap.size, 0, none⟩ (.string (str p1))).setCell ⟨w.heap.size, 1, none⟩ (.string (str p2))).setCell ⟨w.heap.size, 2, none⟩ (.string (str p3))).cell? ⟨w.heap.size, 1, none⟩ = some (.string (str p2)))
                have c2 : (((wr.setCell ⟨w.heap.size, 0, none⟩ (.string (str p1))).setCell ⟨w.heap.size, 1, none⟩ (.string (str p2))).setCell ⟨w.heap.size, 2, none⟩ (.string (str p3))).drew.cell? ⟨w.heap.size, 2, none⟩ = some (.string (str p3)) := (by simp [World.cell?, h3] : (((wr.setCell ⟨w.heap.size, 0, none⟩ (.string (str p1))).setCell ⟨w.heap.size, 1, none⟩ (.string (str p2))).setCell ⟨w.heap.size, 2, none⟩ (.string (str p3))).cell? ⟨w.heap.size, 2, none⟩ = some (.string (str p3)))
                generalize (((wr.setCell ⟨w.heap.size, 0, none⟩ (.string (str p1))).setCell ⟨w.heap.size, 1, none⟩ (.string (str p2))).setCell ⟨w.heap.size, 2, none⟩ (.string (str p3))).drew = W at *
                exact bodyPost_ret (v := .tuple #[adV (p1, p2, p3), .bool true]) (by simp [results, Tryz.results56, go_sem, c0, c1, c2, adV]) rfl ⟨by rw [HST.out, HF.out]; simp [noAd, f2], HBf⟩
            · rw [show decide (p1 = []) = false by simp [f1]] at l1
              go_wp2_with fail
              go_region
              go_wp2_with fail
              have h3 := put3_heap HZ4.out (.string (str p1)) (.string (str p2)) (.string (str p3))
              have HBf : Below w.heap.size w (((wr.setCell ⟨w.heap.size, 0, none⟩ (.string (str p1))).setCell ⟨w.heap.size, 1, none⟩ (.string (str p2))).setCell ⟨w.heap.size, 2, none⟩ (.string (str p3))).drew := (((HB4.out.setCell (Nat.le_refl _) _).setCell (Nat.le_refl _) _).setCell (Nat.le_refl _) _).trans (drewN_below _ 1 _)
              have c0 : (((wr.setCell ⟨w.heap.size, 0, none⟩ (.string (str p1))).setCell ⟨w.heap.size, 1, none⟩ (.string (str p2))).setCell ⟨w.heap.size, 2, none⟩ (.string (str p3))).drew.cell? ⟨w.heap.size, 0, none⟩ = some (.string (str p1)) := (by simp [World.cell?, h3] : (((wr.setCell ⟨w.heap.size, 0, none⟩ (.string (str p1))).setCell ⟨w.heap.size, 1, none⟩ (.string (str p2))).setCell ⟨w.heap.size, 2, none⟩ (.string (str p3))).cell? ⟨w.heap.size, 0, none⟩ = some (.string (str p1)))
              have c1 : (((wr.setCell ⟨w.heap.size, 0, none⟩ (.string (str p1))).setCell ⟨w.heap.size, 1, none⟩ (.string (str p2))).setCell ⟨w.heap.size, 2, none⟩ (.string (str p3))).drew.cell? ⟨w.heap.size, 1, none⟩ = some (.string (str p2)) := (by simp [World.cell?, h3] : (((wr.setCell ⟨w.heap.size, 0, none⟩ (.string (str p1))).setCell ⟨w.heap.size, 1, none⟩ (.string (str p2))).setCell ⟨w.heap.size, 2, none⟩ (.string (str p3))).cell? ⟨w.heap.size, 1, none⟩ = some (.string (str p2)))
              have c2 : (((wr.setCell ⟨w.heap.size, 0, none⟩ (.string (str p1))).setCell ⟨w.heap.size, 1, none⟩ (.string (str p2))).setCell ⟨w.heap.size, 2, none⟩ (.string (str p3))).drew.cell? ⟨w.heap.size, 2, none⟩ = some (.string (str p3)) := (by simp [World.cell?, h3] : (((wr.setCell ⟨w.heap.size, 0, none⟩ (.string (str p1))).setCell ⟨w.heap.size, 1, none⟩ (.string (str p2))).setCell ⟨w.heap.size, 2, none⟩ (.string (str p3))).cell? ⟨w.heap.size, 2, none⟩ = some (.string (str p3)))
              generalize (((wr.setCell ⟨w.heap.size, 0, none⟩ (.string (str p1))).setCell ⟨w.heap.size, 1, none⟩ (.string (str p2))).setCell ⟨w.heap.size, 2, none⟩ (.string (str p3))).drew = W at *
              exact bodyPost_ret (v := .tuple #[adV (p1, p2, p3), .bool true]) (by simp [results, Tryz.results56, go_sem, c0, c1, c2, adV]) rfl ⟨by rw [HST.out, HF.out]; simp [noAd, f1], HBf⟩
      · have d0 : (0 : Int) < (nn : Int) := by omega
        have HN : Hid (adM (ah, il, nn) = partedP (trimA ah) (trimA il)) := by unfold adM; rw [Hid, if_pos (by simp; omega)]
        have hal : (trimA il).length ≤ 100000 := by have := trimA_len il; omega
        have hal2 : (trimA ah).length ≤ 100000 := by have := trimA_len ah; omega
        go_wp2_with fail
        refine (HC1.out _).mono ?_
        rintro e w1 ⟨rfl, rfl⟩
        go_wp2_with fail
        refine (HC2.out _).mono ?_
        rintro e w2 ⟨rfl, hw2⟩
        subst hw2
        go_wp2_with fail
        have HB3 : Hid (Below w.heap.size w ((w1.setCell ⟨w.heap.size + 1, 0, none⟩ (.string (str (trimA ah)))).setCell ⟨w.heap.size + 1, 1, none⟩ (.string (str (trimA il))))) := (HB.out.setCell (Nat.le_succ _) _).setCell (Nat.le_succ _) _
        have HZ3 : Hid (((w1.setCell ⟨w.heap.size + 1, 0, none⟩ (.string (str (trimA ah)))).setCell ⟨w.heap.size + 1, 1, none⟩ (.string (str (trimA il)))).heap[w.heap.size]? = some (.cells #[.string ⟨#[]⟩, .string ⟨#[]⟩, .string ⟨#[]⟩] 42 (0, 0))) := by rw [Hid, Below.heap_setCell _ _ _ _ (by simp), Below.heap_setCell _ _ _ _ (by simp)]; exact HZ1.out
        have HX3 : Hid (((w1.setCell ⟨w.heap.size + 1, 0, none⟩ (.string (str (trimA ah)))).setCell ⟨w.heap.size + 1, 1, none⟩ (.string (str (trimA il)))).heap[w.heap.size + 1]? = some (.cells #[.string (str (trimA ah)), .string (str (trimA il)), .string (str [])] 42 (0, 0))) := by rw [Hid, heap_setCell_same _ _ _ _ _ _ (heap_setCell_same _ _ _ _ _ _ HZ2.out)]; rfl
        clear z0 z1 z2 y0 y1 y2 HZ1 HZ2 HB HMA HM HC1 HC2
        generalize (w1.setCell ⟨w.heap.size + 1, 0, none⟩ (.string (str (trimA ah)))).setCell ⟨w.heap.size + 1, 1, none⟩ (.string (str (trimA il))) = w3 at *
        generalize trimA il = ad at *
        generalize trimA ah = nm at *
        have hsz := str_size ad
        go_loopw [10] (fun i wr => ∃ (k : Nat), k ≤ ad.length ∧ i = .int .i64 k ∧ Below w.heap.size w wr ∧ wr.heap[w.heap.size]? = some (.cells #[.string ⟨#[]⟩, .string ⟨#[]⟩, .string ⟨#[]⟩] 42 (0, 0)) ∧ wr.heap[w.heap.size + 1]? = some (.cells #[.string (str (partK nm ad k).1), .string (str (partK nm ad k).2.1), .string (str (partK nm ad k).2.2)] 42 (0, 0))) (fun i _ => ad.length - (intOf i).toNat)
        case atStart => exact ⟨0, by omega, rfl, HB3.out, HZ3.out, HX3.out⟩
        case round =>
          obtain ⟨k, hk, rfl, hb4, hz4, hx4⟩ := hrel
          have HB4 := hid hb4
          have HZ4 := hid hz4
          have HX4 := hid hx4
          clear hb4 hz4 hx4 HX3 HZ3 HB3
          have q0 : wr.cell? ⟨w.heap.size + 1, 0, none⟩ = some (.string (str (partK nm ad k).1)) := by simp [World.cell?, HX4.out]
          have q1 : wr.cell? ⟨w.heap.size + 1, 1, none⟩ = some (.string (str (partK nm ad k).2.1)) := by simp [World.cell?, HX4.out]
          have q2 : wr.cell? ⟨w.heap.size + 1, 2, none⟩ = some (.string (str (partK nm ad k).2.2)) := by simp [World.cell?, HX4.out]
          have q3 : ∀ o, wr.frozen? ⟨w.heap.size + 1, o, none⟩ = false := fun o => by simp [World.frozen?, HX4.out]
          have r1 := q3 1
          have r2 := q3 2
          clear q3
          by_cases hlt : k < ad.length
          · have hlt' : (k : Int) < ad.length := by omega
            have hlts : k < (str ad).size := by omega
            have gk : ((str ad)[k]'hlts) = ad[k] := rfl
            have HPy := hid (partK_at nm ad k hlt)
            have HPn := hid (partK_not nm ad k hlt)
            have HNm := hid (partK_name nm ad k)
            have HT := hid (take_str ad k)
            have HD : Hid ((str ad).extract (k + 1) ad.length = str (ad.drop (k + 1))) := by rw [Hid, ← str_size]; exact drop_str ad (k + 1)
            generalize ad[k] = ck at *
            by_cases hc : ck = 64
            · have e1 : ((ck.toNat : Int) == 64) = true := by simpa using c_eq hc
              have HP := hid (HPy.out hc)
              clear HPy HPn hc
              go_wp2_with fail
              go_roundw
              case rel =>
                refine ⟨k + 1, by omega, by go_num, (HB4.out.setCell (Nat.le_succ _) _).setCell (Nat.le_succ _) _, ?_, ?_⟩
                · rw [Below.heap_setCell _ _ _ _ (by simp), Below.heap_setCell _ _ _ _ (by simp)]; exact HZ4.out
                · rw [heap_setCell_same _ _ _ _ _ _ (heap_setCell_same _ _ _ _ _ _ HX4.out), HP.out, HNm.out, ← HT.out, ← HD.out]; rfl
              case measure => simp [intOf]; omega
            · have e1 : ((ck.toNat : Int) == 64) = false := by simpa using c_ne hc
              have HP := hid (HPn.out hc)
              clear HPy HPn hc
              go_wp2_with fail
              go_roundw
              case rel => exact ⟨k + 1, by omega, by go_num, HB4.out, HZ4.out, by rw [HP.out]; exact HX4.out⟩
              case measure => simp [intOf]; omega
          · have hlt' : ¬ (k : Int) < ad.length := by omega
            have hkl2 : k = ad.length := by omega
            subst hkl2
            have HPA := hid (partK_all nm ad)
            rw [HPA.out] at q0 q1 q2 HX4
            have HF := hid (HN.out)
            generalize partedP nm ad = pa at *
            obtain ⟨p1, p2, p3⟩ := pa
            simp only at q0 q1 q2 HX4
            have l1 := eqL p1 []
            have l2 := eqL p2 []
            have l3 := eqL p3 []
            obtain ⟨s0, s1, s2, s3⟩ := rb_cells HZ4.out
            have t0 := s3 0
            have t1 := s3 1
            have t2 := s3 2
            clear s3
            by_cases f1 : p1 = []
            · clear l1
              have k1 : (str p1).toList = [] := by rw [toL]; exact f1
              have m1 : ((str p1).toList == []) = true := by rw [k1]; rfl
              have F1 := hid f1
              clear f1 k1
              by_cases f2 : p2 = []
              · clear l2
                have k2 : (str p2).toList = [] := by rw [toL]; exact f2
                have m2 : ((str p2).toList == []) = true := by rw [k2]; rfl
                have F2 := hid f2
                clear f2 k2
                by_cases f3 : p3 = []
                · clear l3
                  have k3 : (str p3).toList = [] := by rw [toL]; exact f3
                  have m3 : ((str p3).toList == []) = true := by rw [k3]; rfl
                  have F3 := hid f3
                  clear f3 k3
                  go_wp2_with fail
                  go_region
                  go_wp2_with fail
                  have h3 := put3_heap HZ4.out (.string (str p1)) (.string (str p2)) (.string (str p3))
                  have HBf : Below w.heap.size w (((wr.setCell ⟨w.heap.size, 0, none⟩ (.string (str p1))).setCell ⟨w.heap.size, 1, none⟩ (.string (str p2))).setCell ⟨w.heap.size, 2, none⟩ (.string (str p3))).drew := (((HB4.out.setCell (Nat.le_refl _) _).setCell (Nat.le_refl _) _).setCell (Nat.le_refl _) _).trans (drewN_below _ 1 _)
                  have c0 : (((wr.setCell ⟨w.heap.size, 0, none⟩ (.string (str p1))).setCell ⟨w.heap.size, 1, none⟩ (.string (str p2))).setCell ⟨w.heap.size, 2, none⟩ (.string (str p3))).drew.cell? ⟨w.heap.size, 0, none⟩ = some (.string (str p1)) := (by simp [World.cell?, h3] : (((wr.setCell ⟨w.heap.size, 0, none⟩ (.string (str p1))).setCell ⟨w.heap.size, 1, none⟩ (.string (str p2))).setCell ⟨w.heap.size, 2, none⟩ (.string (str p3))).cell? ⟨w.heap.size, 0, none⟩ = some (.string (str p1)))
                  have c1 : (((wr.setCell ⟨w.heap.size, 0, none⟩ (.string (str p1))).setCell ⟨w.heap.size, 1, none⟩ (.string (str p2))).setCell ⟨w.heap.size, 2, none⟩ (.string (str p3))).drew.cell? ⟨w.heap.size, 1, none⟩ = some (.string (str p2)) := (by simp [World.cell?, h3] : (((wr.setCell ⟨w.heap.size, 0, none⟩ (.string (str p1))).setCell ⟨w.heap.size, 1, none⟩ (.string (str p2))).setCell ⟨w.heap.size, 2, none⟩ (.string (str p3))).cell? ⟨w.heap.size, 1, none⟩ = some (.string (str p2)))
                  have c2 : (((wr.setCell ⟨w.heap.size, 0, none⟩ (.string (str p1))).setCell ⟨w.heap.size, 1, none⟩ (.string (str p2))).setCell ⟨w.heap.size, 2, none⟩ (.string (str p3))).drew.cell? ⟨w.heap.size, 2, none⟩ = some (.string (str p3)) := (by simp [World.cell?, h3] : (((wr.setCell ⟨w.heap.size, 0, none⟩ (.string (str p1))).setCell ⟨w.heap.size, 1, none⟩ (.string (str p2))).setCell ⟨w.heap.size, 2, none⟩ (.string (str p3))).cell? ⟨w.heap.size, 2, none⟩ = some (.string (str p3)))
                  generalize (((wr.setCell ⟨w.heap.size, 0, none⟩ (.string (str p1))).setCell ⟨w.heap.size, 1, none⟩ (.string (str p2))).setCell ⟨w.heap.size, 2, none⟩ (.string (str p3))).drew = W at *
                  exact bodyPost_ret (v := .tuple #[adV (p1, p2, p3), .bool false]) (by simp [results, Tryz.results56, go_sem, c0, c1, c2, adV]) rfl ⟨by rw [HST.out, HF.out]; simp [noAd, F1.out, F2.out, F3.out], HBf⟩
                · rw [show decide (p3 = []) = false by simp [f3]] at l3
                  go_wp2_with fail
                  go_region
                  go_wp2_with fail
                  have h3 := put3_heap HZ4.out (.string (str p1)) (.string (str p2)) (.string (str p3))
                  have HBf : Below w.heap.size w (((wr.setCell ⟨w.heap.size, 0, none⟩ (.string (str p1))).setCell ⟨w.heap.size, 1, none⟩ (.string (str p2))).setCell ⟨w.heap.size, 2, none⟩ (.string (str p3))).drew := (((HB4.out.setCell (Nat.le_refl _) _).setCell (Nat.le_refl _) _).setCell (Nat.le_refl _) _).trans (drewN_below _ 1 _)
                  have c0 : (((wr.setCell ⟨w.heap.size, 0, none⟩ (.string (str p1))).setCell ⟨w.heap.size, 1, none⟩ (.string (str p2))).setCell ⟨w.heap.size, 2, none⟩ (.string (str p3))).drew.cell? ⟨w.heap.size, 0, none⟩ = some (.string (str p1)) := (by simp [World.cell?, h3] : (((wr.setCell ⟨w.heap.size, 0, none⟩ (.string (str p1))).setCell ⟨w.heap.size, 1, none⟩ (.string (str p2))).setCell ⟨w.heap.size, 2, none⟩ (.string (str p3))).cell? ⟨w.heap.size, 0, none⟩ = some (.string (str p1)))
                  have c1 : (((wr.setCell ⟨w.heap.size, 0, none⟩ (.string (str p1))).setCell ⟨w.heap.size, 1, none⟩ (.string (str p2))).setCell ⟨w.heap.size, 2, none⟩ (.string (str p3))).drew.cell? ⟨w.heap.size, 1, none⟩ = some (.string (str p2)) := (by simp [World.cell?, h3] : (((wr.setCell ⟨w.heap.size, 0, none⟩ (.string (str p1))).setCell ⟨w.heap.size, 1, none⟩ (.string (str p2))).setCell ⟨w.heap.size, 2, none⟩ (.string (str p3))).cell? ⟨w.heap.size, 1, none⟩ = some (.string (str p2)))
                  have c2 : (((wr.setCell ⟨w.heap.size, 0, none⟩ (.string (str p1))).setCell ⟨w.heap.size, 1, none⟩ (.string (str p2))).setCell ⟨w.heap.size, 2, none⟩ (.string (str p3))).drew.cell? ⟨w.heap.size, 2, none⟩ = some (.string (str p3)) := (by simp [World.cell?, h3] : (((wr.setCell ⟨w.heap.size, 0, none⟩ (.string (str p1))).setCell ⟨w.heap.size, 1, none⟩ (.string (str p2))).setCell ⟨w.heap.size, 2, none⟩ (.string (str p3))).cell? ⟨w.heap.size, 2, none⟩ = some (.string (str p3)))
                  generalize (((wr.setCell ⟨w.heap.size, 0, none⟩ (.string (str p1))).setCell ⟨w.heap.size, 1, none⟩ (.string (str p2))).setCell ⟨w.heap.size, 2, none⟩ (.string (str p3))).drew = W at *
                  exact bodyPost_ret (v := .tuple #[adV (p1, p2, p3), .bool true]) (by simp [results, Tryz.results56, go_sem, c0, c1, c2, adV]) rfl ⟨by rw [HST.out, HF.out]; simp [noAd, f3], HBf⟩
              · rw [show decide (p2 = []) = false by simp [f2]] at l2
                go_wp2_with fail
                go_region
                go_wp2_with fail
                have h3 := put3_heap HZ4.out (.string (str p1)) (.string (str p2)) (.string (str p3))
                have HBf : Below w.heap.size w (((wr.setCell ⟨w.heap.size, 0, none⟩ (.string (str p1))).setCell ⟨w.heap.size, 1, none⟩ (.string (str p2))).setCell ⟨w.heap.size, 2, none⟩ (.string (str p3))).drew := (((HB4.out.setCell (Nat.le_refl _) _).setCell (Nat.le_refl _) _).setCell (Nat.le_refl _) _).trans (drewN_below _ 1 _)
                have c0 : (((wr.setCell ⟨w.heap.size, 0, none⟩ (.string (str p1))).setCell ⟨w.heap.size, 1, none⟩ (.string (str p2))).setCell ⟨w.heap.size, 2, none⟩ (.string (str p3))).drew.cell? ⟨w.heap.size, 0, none⟩ = some (.string (str p1)) := (by simp [World.cell?, h3] : (((wr.setCell ⟨w.heap.size, 0, none⟩ (.string (str p1))).setCell ⟨w.heap.size, 1, none⟩ (.string (str p2))).setCell ⟨w.heap.size, 2, none⟩ (.string (str p3))).cell? ⟨w.heap.size, 0, none⟩ = some (.string (str p1)))
                have c1 : (((wr.setCell ⟨w.heap.size, 0, none⟩ (.string (str p1))).setCell ⟨w.heap.size, 1, none⟩ (.string (str p2))).setCell ⟨w.heap.size, 2, none⟩ (.string (str p3))).drew.cell? ⟨w.heap.size, 1, none⟩ = some (.string (str p2)) := (by simp [World.cell?, h3] : (((wr.setCell ⟨w.heap.size, 0, none⟩ (.string (str p1))).setCell ⟨w.heap.size, 1, none⟩ (.string (str p2))).setCell ⟨w.heap.size, 2, none⟩ (.string (str p3))).cell? ⟨w.heap.size, 1, none⟩ = some (.string (str p2)))
                have c2 : (((wr.setCell ⟨w.heap.size, 0, none⟩ (.string (str p1))).setCell ⟨w.heap.size, 1, none⟩ (.string (str p2))).setCell ⟨w.heap.size, 2, none⟩ (.string (str p3))).drew.cell? ⟨w.heap.size, 2, none⟩ = some (.string (str p3)) := (by simp [World.cell?, h3] : (((wr.setCell ⟨w.heap.size, 0, none⟩ (.string (str p1))).setCell ⟨w.heap.size, 1, none⟩ (.string (str p2))).setCell ⟨w.heap.size, 2, none⟩ (.string (str p3))).cell? ⟨w.heap.size, 2, none⟩ = some (.string (str p3)))
                generalize (((wr.setCell ⟨w.heap.size, 0, none⟩ (.string (str p1))).setCell ⟨w.heap.size, 1, none⟩ (.string (str p2))).setCell ⟨w.heap.size, 2, none⟩ (.string (str p3))).drew = W at *
                exact bodyPost_ret (v := .tuple #[adV (p1, p2, p3), .bool true]) (by simp [results, Tryz.results56, go_sem, c0, c1, c2, adV]) rfl ⟨by rw [HST.out, HF.out]; simp [noAd, f2], HBf⟩
            · rw [show decide (p1 = []) = false by simp [f1]] at l1
              go_wp2_with fail
              go_region
              go_wp2_with fail
              have h3 := put3_heap HZ4.out (.string (str p1)) (.string (str p2)) (.string (str p3))
              have HBf : Below w.heap.size w (((wr.setCell ⟨w.heap.size, 0, none⟩ (.string (str p1))).setCell ⟨w.heap.size, 1, none⟩ (.string (str p2))).setCell ⟨w.heap.size, 2, none⟩ (.string (str p3))).drew := (((HB4.out.setCell (Nat.le_refl _) _).setCell (Nat.le_refl _) _).setCell (Nat.le_refl _) _).trans (drewN_below _ 1 _)
              have c0 : (((wr.setCell ⟨w.heap.size, 0, none⟩ (.string (str p1))).setCell ⟨w.heap.size, 1, none⟩ (.string (str p2))).setCell ⟨w.heap.size, 2, none⟩ (.string (str p3))).drew.cell? ⟨w.heap.size, 0, none⟩ = some (.string (str p1)) := (by simp [World.cell?, h3] : (((wr.setCell ⟨w.heap.size, 0, none⟩ (.string (str p1))).setCell ⟨w.heap.size, 1, none⟩ (.string (str p2))).setCell ⟨w.heap.size, 2, none⟩ (.string (str p3))).cell? ⟨w.heap.size, 0, none⟩ = some (.string (str p1)))
              have c1 : (((wr.setCell ⟨w.heap.size, 0, none⟩ (.string (str p1))).setCell ⟨w.heap.size, 1, none⟩ (.string (str p2))).setCell ⟨w.heap.size, 2, none⟩ (.string (str p3))).drew.cell? ⟨w.heap.size, 1, none⟩ = some (.string (str p2)) := (by simp [World.cell?, h3] : (((wr.setCell ⟨w.heap.size, 0, none⟩ (.string (str p1))).setCell ⟨w.heap.size, 1, none⟩ (.string (str p2))).setCell ⟨w.heap.size, 2, none⟩ (.string (str p3))).cell? ⟨w.heap.size, 1, none⟩ = some (.string (str p2)))
              have c2 : (((wr.setCell ⟨w.heap.size, 0, none⟩ (.string (str p1))).setCell ⟨w.heap.size, 1, none⟩ (.string (str p2))).setCell ⟨w.heap.size, 2, none⟩ (.string (str p3))).drew.cell? ⟨w.heap.size, 2, none⟩ = some (.string (str p3)) := (by simp [World.cell?, h3] : (((wr.setCell ⟨w.heap.size, 0, none⟩ (.string (str p1))).setCell ⟨w.heap.size, 1, none⟩ (.string (str p2))).setCell ⟨w.heap.size, 2, none⟩ (.string (str p3))).cell? ⟨w.heap.size, 2, none⟩ = some (.string (str p3)))
              generalize (((wr.setCell ⟨w.heap.size, 0, none⟩ (.string (str p1))).setCell ⟨w.heap.size, 1, none⟩ (.string (str p2))).setCell ⟨w.heap.size, 2, none⟩ (.string (str p3))).drew = W at *
              exact bodyPost_ret (v := .tuple #[adV (p1, p2, p3), .bool true]) (by simp [results, Tryz.results56, go_sem, c0, c1, c2, adV]) rfl ⟨by rw [HST.out, HF.out]; simp [noAd, f1], HBf⟩
end Go.Proofs.YtemgpghjolpneaaGreatDoor
