/- What this text holds: Pin and Unpin of a pager. -/
import Derived.Test.YtambgimfbdecpaaGAlive
namespace Go.Proofs.Ytambgimfbdecpaa
open Go.RowKit Go.Maps
set_option linter.unusedVariables false

/-- Pin. -/
def PS.pin (P : PS) : PS := { P with pins := P.pins ++ [P.gen], pm := P.pm + 1 }
/-- Unpin. -/
def PS.unpin (P : PS) (g : Int) : Int × PS :=
  if P.pins.count g = 0 then (7, P)
  else if P.pins.count g = 1 then (0, { P with pins := P.pins.erase g, pm := P.pm + 1, st := P.st.map (relF (lowPin (P.pins.erase g) P.gen)) })
  else (0, { P with pins := P.pins.erase g, pm := P.pm + 1 })

theorem key_ne {x y : Int} (h : x ≠ y) : (Lit.int .i64 x) ≠ (Lit.int .i64 y) := fun e => h (by injection e)
theorem PinsD.add {w w' : World} {mb m : Nat} {pins : List Int} {D : DataW Unit} (h : PinsD w mb m pins D) (g : Int) (ho : w'.ownsMap Try.prog 3 (plainElem (H := Unit) Try.prog 3) mb (m + 1) (D.put (.int .i64 g) (.lit (.int .i64 ((pins.count g : Nat) + 1 : Int))))) : PinsAt w' mb (m + 1) (pins ++ [g]) := by
  refine ⟨_, ho, fun x => ?_, fun x => ?_⟩
  · by_cases e : x = g
    · subst e
      rw [has_put_same (k := Lit.int .i64 x) h.own.isMap trivial]
      simp
    · rw [has_put_other (key_ne e), h.has x]
      simp [e]
  · by_cases e : x = g
    · subst e
      rw [atKey_put_same (k := Lit.int .i64 x) h.own.isMap trivial]
      rw [List.count_append]
      simp
    · rw [atKey_put_other (key_ne e), h.cnt x, List.count_append, List.count_singleton]
      have : (g == x) = false := by rw [beq_eq_false_iff_ne]; exact fun h => e h.symm
      rw [this]
      simp
theorem count_erase_other {pins : List Int} {g x : Int} (e : x ≠ g) : (pins.erase g).count x = pins.count x := by
  rw [List.count_erase]
  have : (g == x) = false := by rw [beq_eq_false_iff_ne]; exact fun h => e h.symm
  rw [this]
  simp
theorem mem_erase_other {pins : List Int} {g x : Int} (e : x ≠ g) : x ∈ pins.erase g ↔ x ∈ pins := List.mem_erase_of_ne e
theorem PinsD.less {w w' : World} {mb m : Nat} {pins : List Int} {D : DataW Unit} (h : PinsD w mb m pins D) (g : Int) (h2 : 2 ≤ pins.count g) (ho : w'.ownsMap Try.prog 3 (plainElem (H := Unit) Try.prog 3) mb (m + 1) (D.put (.int .i64 g) (.lit (.int .i64 ((pins.count g : Nat) - 1 : Int))))) : PinsAt w' mb (m + 1) (pins.erase g) := by
  refine ⟨_, ho, fun x => ?_, fun x => ?_⟩
  · by_cases e : x = g
    · subst e
      rw [has_put_same (k := Lit.int .i64 x) h.own.isMap trivial]
      have : x ∈ pins.erase x := by
        rw [← List.count_pos_iff, List.count_erase_self]; omega
      simp [this]
    · rw [has_put_other (key_ne e), h.has x]
      simp [mem_erase_other e]
  · by_cases e : x = g
    · subst e
      rw [atKey_put_same (k := Lit.int .i64 x) h.own.isMap trivial, List.count_erase_self]
      congr 2
      omega
    · rw [atKey_put_other (key_ne e), h.cnt x, count_erase_other e]
theorem PinsD.gone {w w' : World} {mb m : Nat} {pins : List Int} {D : DataW Unit} (h : PinsD w mb m pins D) (g : Int) (h1 : pins.count g = 1) (d : DataW Unit) (ho : w'.ownsMap Try.prog 3 (plainElem (H := Unit) Try.prog 3) mb (m + 1) ((D.put (.int .i64 g) d).del (.int .i64 g))) : PinsAt w' mb (m + 1) (pins.erase g) := by
  refine ⟨_, ho, fun x => ?_, fun x => ?_⟩
  · by_cases e : x = g
    · subst e
      rw [has_del_same]
      have : x ∉ pins.erase x := by
        rw [← List.count_eq_zero, List.count_erase_self]; omega
      simp [this]
    · rw [has_del_other (key_ne e), has_put_other (key_ne e), h.has x]
      simp [mem_erase_other e]
  · by_cases e : x = g
    · subst e
      rw [atKey_del_same, List.count_erase_self, h1]
      rfl
    · rw [atKey_del_other (key_ne e), atKey_put_other (key_ne e), h.cnt x, count_erase_other e]

theorem field114_2 (b : Nat) (w : World) : (Instr.fieldAt 114 (.pointer (some ⟨b, 0, none⟩)) 2).run Try.prog w = .ok (.pointer (some ⟨b, 2, none⟩)) w := by kernel_rfl
theorem field114_3 (b : Nat) (w : World) : (Instr.fieldAt 114 (.pointer (some ⟨b, 0, none⟩)) 3).run Try.prog w = .ok (.pointer (some ⟨b, 3, none⟩)) w := by kernel_rfl
theorem load112 {b k : Nat} {v : Value} {w : World} (h : w.cell? ⟨b, k, none⟩ = some v) : (Instr.loadAt 112 (.pointer (some ⟨b, k, none⟩))).run Try.prog w = .ok v w := by
  simp [Instr.loadAt, Instr.sureAddr, loadVar, isAgg, run_underlying Try.underlying112, h]
theorem load3c {b k : Nat} {v : Value} {w : World} (h : w.cell? ⟨b, k, none⟩ = some v) : (Instr.loadAt 3 (.pointer (some ⟨b, k, none⟩))).run Try.prog w = .ok v w := by
  simp [Instr.loadAt, Instr.sureAddr, loadVar, isAgg, run_underlying Try.underlying3, h]
theorem exec_lookup {a : Act} {x y : Operand} {u s v : Value} {w : World} {d : Option Tmp} {t ty : Nat} {pos : String} {af : Array Edge} {g : Option (Nat × Bool)} (hx : a.eval x = u) (hy : a.eval y = s)
    (h : (Instr.lookup t u s false).run Try.prog w = .ok v w) : (execOp a.eval ⟨d, .lookup t x y false, ty, pos, af, g⟩).run Try.prog w = .ok (.value v) w := by
  simp only [execOp, hx, hy]
  exact exec_v h
theorem exec_mapUpdate {a : Act} {x y z : Operand} {u s v : Value} {w w' : World} {d : Option Tmp} {t ty : Nat} {pos : String} {af : Array Edge} {g : Option (Nat × Bool)} (hx : a.eval x = u) (hy : a.eval y = s) (hz : a.eval z = v)
    (h : (Instr.mapUpdate t u s v).run Try.prog w = .ok () w') : (execOp a.eval ⟨d, .mapUpdate t x y z, ty, pos, af, g⟩).run Try.prog w = .ok .skip w' := by
  simp only [execOp, hx, hy, hz, Sem.run_bind, h, Result.andThen_ok, Sem.run_pure]
theorem exec_addI {a : Act} {x : Operand} {c : Int} {w : World} {d : Option Tmp} {ty : Nat} {pos : String} {af : Array Edge} {g : Option (Nat × Bool)} (hx : a.eval x = .int .i64 c) (h0 : 0 ≤ c) (h1 : c ≤ 100000) :
    (execOp a.eval ⟨d, .binOp .add 3 x (.const (.int .i64 1)) 3, ty, pos, af, g⟩).run Try.prog w = .ok (.value (.int .i64 (c + 1))) w := by
  have hw := wrap_i64 (c + 1) (by omega) (by omega)
  have h2 : a.eval (.const (.int .i64 1)) = .int .i64 1 := rfl
  simp only [execOp, hx, h2]
  simp [go_sem]
  omega
theorem PinsD.lookup {w : World} {mb m : Nat} {pins : List Int} {D : DataW Unit} (h : PinsD w mb m pins D) (g : Int) (hw : (Lit.int .i64 g).wf = true) : (Instr.lookup 112 (.map (some mb)) (.int .i64 g) false).run Try.prog w = .ok (.int .i64 (pins.count g : Nat)) w := by
  obtain ⟨c, hlk, hat, hwc⟩ := h.own.lookup_int law3 Try.underlying112 Try.underlying3 (zero3 _) (keyOf_int_mk Try.underlying3 hw)
  have hc : c = (pins.count g : Nat) := by
    have := h.cnt g
    rw [hat] at this
    exact (Lit.int.inj (DataW.lit.inj this)).2
  subst hc
  exact hlk
theorem PinsD.heap {w w2 : World} {mb m : Nat} {pins : List Int} {D : DataW Unit} (h : PinsD w mb m pins D) (e : w2.heap = w.heap) : PinsD w2 mb m pins D := by
  obtain ⟨es, clock, hb, r⟩ := h.own
  exact ⟨⟨es, clock, by rw [e]; exact hb, r⟩, h.has, h.cnt⟩
theorem cell_heap {w w2 : World} {p : Addr} {v : Value} (h : w.cell? p = some v) (e : w2.heap = w.heap) : w2.cell? p = some v := by
  have : w2.cell? p = w.cell? p := World.cell?_of_block (by rw [e])
  rw [this, h]

set_option maxRecDepth 100000 in
set_option maxHeartbeats 2000000 in
theorem pin_at {w : World} {B b db gs mb : Nat} {own : List Nat} {P : PS} (h : PAt w B b db gs mb own P) (hp : P.pins.length ≤ 1000) (hm : P.pm ≤ 1000) :
    Calls Try.prog 35 #[.pointer (some ⟨b, 0, none⟩)] w (DidP w B b db (b :: gs :: mb :: own) (.int .i64 P.gen) P.pin) := by
  obtain ⟨c0, c1, c2, c3, c4, c5⟩ := h.cells
  have HN := hid (none_any h)
  have HH := hid h
  obtain ⟨D, hD⟩ := h.pins
  have g0 := h.g0
  have g1 := h.g1
  have hwf : (Lit.int .i64 P.gen).wf = true := WalkArith.wf_i64 (by omega)
  have hkey := keyOf_int_mk Try.underlying3 hwf
  have hcl : P.pins.count P.gen ≤ 1000 := Nat.le_trans List.count_le_length hp
  have hval : (Lit.int .i64 (((P.pins.count P.gen : Nat) : Int) + 1)).wf = true := WalkArith.wf_i64 (by omega)
  obtain ⟨w', hup, ho, hg⟩ := (hD.heap (w2 := w.drew) rfl).own.update (t := 112) law3 Try.underlying112 (by unfold maxLen; omega) hkey (plainElem_int Try.underlying3 hval)
  have hpn := hD.add P.gen ho
  have hk : Kept [mb] w w' := (Kept.drew [mb] w).trans (Kept.ofGrown hg [mb] (fun k h => by simpa using h.symm)) (fun _ _ h => h)
  have HF := hid (HH.out.setPins hpn hk)
  have HK := hid hk
  have HUp := hid hup
  have d3 : w'.cell? ⟨b, 3, none⟩ = some (.int .i64 P.gen) := hk.cell c3 (by simpa using fun e => HH.out.n3 e.symm)
  have d2 : w'.cell? ⟨b, 2, none⟩ = some (.map (some mb)) := hk.cell c2 (by simpa using fun e => HH.out.n3 e.symm)
  have HL : Hid (∀ w2 : World, w2.heap = w.heap → (Instr.lookup 112 (.map (some mb)) (.int .i64 P.gen) false).run Try.prog w2 = .ok (.int .i64 (P.pins.count P.gen : Nat)) w2) := fun w2 e => (hD.heap e).lookup P.gen hwf
  have HC := hid hcl
  clear h hD hpn hk hup ho hg hval hwf hkey
  go_enter Try.func35, Try.ntmps35
  go_wp2_with (first | (go_at_call 59; refine HN.out.mono ?_; rintro e wa ⟨rfl, rfl⟩))
  refine wp_region_held_drew (S := fun X => X.cell? ⟨b, 2, none⟩ = some (.map (some mb)) ∧ X.cell? ⟨b, 3, none⟩ = some (.int .i64 P.gen)) (by kernel_rfl) ⟨c2, c3⟩ ?_
  intro hS
  refine anyH_take 0 ⟨some 5, .move (.tmp 0), _, _, _, none⟩ (.pointer (some ⟨b, 0, none⟩)) rfl rfl (by kernel_rfl) (by kernel_rfl) (by kernel_rfl) (fun _ _ _ h => h) (fun _ _ => rfl) hS ?_
  simp only [Act.put, List.setIfInBounds_toArray, List.set_cons_zero, List.set_cons_succ]
  refine anyH_take 1 ⟨some 6, .nilCheck (.tmp 5), _, _, _, none⟩ (.pointer (some ⟨b, 0, none⟩)) rfl rfl (by kernel_rfl) (by kernel_rfl) (by kernel_rfl) (fun _ _ _ h => h) (fun _ _ => rfl) hS ?_
  simp only [Act.put, List.setIfInBounds_toArray, List.set_cons_zero, List.set_cons_succ]
  refine anyH_take 2 ⟨some 7, .fieldAddr 114 (.tmp 6) 2, _, _, _, none⟩ (.pointer (some ⟨b, 2, none⟩)) rfl rfl (by kernel_rfl) (by kernel_rfl) (by kernel_rfl) (fun _ _ _ h => h) (fun w _ => exec_v (field114_2 b w)) hS ?_
  simp only [Act.put, List.setIfInBounds_toArray, List.set_cons_zero, List.set_cons_succ]
  refine anyH_take 3 ⟨some 8, .load 112 (.tmp 7), _, _, _, none⟩ (.map (some mb)) rfl rfl (by kernel_rfl) (by kernel_rfl) (by kernel_rfl) (fun _ _ _ h => h) (fun w hw => exec_v (load112 hw.1)) hS ?_
  simp only [Act.put, List.setIfInBounds_toArray, List.set_cons_zero, List.set_cons_succ]
  refine anyH_take 4 ⟨some 9, .move (.tmp 0), _, _, _, none⟩ (.pointer (some ⟨b, 0, none⟩)) rfl rfl (by kernel_rfl) (by kernel_rfl) (by kernel_rfl) (fun _ _ _ h => h) (fun _ _ => rfl) hS ?_
  simp only [Act.put, List.setIfInBounds_toArray, List.set_cons_zero, List.set_cons_succ]
  refine anyH_take 5 ⟨some 10, .nilCheck (.tmp 9), _, _, _, none⟩ (.pointer (some ⟨b, 0, none⟩)) rfl rfl (by kernel_rfl) (by kernel_rfl) (by kernel_rfl) (fun _ _ _ h => h) (fun _ _ => rfl) hS ?_
  simp only [Act.put, List.setIfInBounds_toArray, List.set_cons_zero, List.set_cons_succ]
  refine anyH_take 6 ⟨some 11, .fieldAddr 114 (.tmp 10) 3, _, _, _, none⟩ (.pointer (some ⟨b, 3, none⟩)) rfl rfl (by kernel_rfl) (by kernel_rfl) (by kernel_rfl) (fun _ _ _ h => h) (fun w _ => exec_v (field114_3 b w)) hS ?_
  simp only [Act.put, List.setIfInBounds_toArray, List.set_cons_zero, List.set_cons_succ]
  refine anyH_take 7 ⟨some 12, .load 3 (.tmp 11), _, _, _, none⟩ (.int .i64 P.gen) rfl rfl (by kernel_rfl) (by kernel_rfl) (by kernel_rfl) (fun _ _ _ h => h) (fun w hw => exec_v (load3 hw.2)) hS ?_
  simp only [Act.put, List.setIfInBounds_toArray, List.set_cons_zero, List.set_cons_succ]
  refine anyH_one 8 ⟨some 13, .lookup 112 (.tmp 8) (.tmp 12) false, _, _, _, none⟩ (.int .i64 (P.pins.count P.gen : Nat)) wa.drew (by kernel_rfl) rfl rfl (exec_lookup rfl rfl (HL.out _ rfl)) hS ?_
  simp only [Act.put, List.setIfInBounds_toArray, List.set_cons_zero, List.set_cons_succ]
  refine anyH_one 9 ⟨some 14, .binOp .add 3 (.tmp 13) (.const (.int .i64 1)) 3, _, _, _, none⟩ (.int .i64 ((P.pins.count P.gen : Nat) + 1)) wa.drew (by kernel_rfl) rfl rfl (exec_addI rfl (by omega) (by have := HC.out; omega)) hS ?_
  simp only [Act.put, List.setIfInBounds_toArray, List.set_cons_zero, List.set_cons_succ]
  refine anyH_oneSkip 10 ⟨none, .mapUpdate 112 (.tmp 8) (.tmp 12) (.tmp 14), _, _, _, none⟩ w' (by kernel_rfl) rfl rfl (exec_mapUpdate rfl rfl rfl HUp.out) ⟨d2, d3⟩ ?_
  refine wpAnyH_done (by kernel_rfl) ?_ _
  clear c0 c1 c2 c3 c4 c5 d2
  go_wp2_with fail
  go_ret
  exact DidP.at HF.out (HK.out.mono (fun i _ hi => by simp only [List.mem_singleton] at hi; simp [hi]))

set_option maxRecDepth 100000 in
set_option maxHeartbeats 2000000 in
theorem unpin_at {w : World} {B b db gs mb : Nat} {own : List Nat} {P : PS} (h : PAt w B b db gs mb own P) (hp : P.pins.length ≤ 1000) (hm : P.pm ≤ 1000) (g : Int) (hg : -9223372036854775808 ≤ g ∧ g ≤ 9223372036854775807) :
    Calls Try.prog 37 #[.pointer (some ⟨b, 0, none⟩), .int .i64 g] w (DidP w B b db (b :: gs :: mb :: own) (.int .i64 (P.unpin g).1) (P.unpin g).2) := by
  obtain ⟨c0, c1, c2, c3, c4, c5⟩ := h.cells
  have HN := hid (none_any h)
  have HH := hid h
  obtain ⟨D, hD⟩ := h.pins
  have hwf : (Lit.int .i64 g).wf = true := WalkArith.wf_i64 (by omega)
  have hkey := keyOf_int_mk Try.underlying3 hwf
  have hcl : P.pins.count g ≤ 1000 := Nat.le_trans List.count_le_length hp
  have hlk := hD.lookup g hwf
  unfold PS.unpin
  by_cases h0 : P.pins.count g = 0
  · rw [if_pos h0]
    rw [h0] at hlk
    clear h hD
    go_enter Try.func37, Try.ntmps37
    go_wp2_with (first | (go_at_call 59; refine HN.out.mono ?_; rintro e wa ⟨rfl, rfl⟩))
    go_ret
    exact DidP.same HH.out
  · rw [if_neg h0]
    have hval : (Lit.int .i64 (((P.pins.count g : Nat) : Int) - 1)).wf = true := WalkArith.wf_i64 (by omega)
    have h0' : (((P.pins.count g : Nat) : Int) == 0) = false := by rw [beq_eq_false_iff_ne]; omega
    obtain ⟨w1, hup, ho, hgr⟩ := hD.own.update (t := 112) law3 Try.underlying112 (by unfold maxLen; omega) hkey (plainElem_int Try.underlying3 hval)
    have hk1 : Kept [mb] w w1 := Kept.ofGrown hgr [mb] (fun k h => by simpa using h.symm)
    have e2 : w1.cell? ⟨b, 2, none⟩ = some (.map (some mb)) := hk1.cell c2 (by simpa using fun e => HH.out.n3 e.symm)
    have hz0 : (zeroValue 3).run Try.prog w1 = .ok (.int .i64 0) w1 := zero3 _
    obtain ⟨c, hlk1, hat, _⟩ := ho.lookup_int law3 Try.underlying112 Try.underlying3 hz0 hkey
    have hc : c = ((P.pins.count g : Nat) : Int) - 1 := by
      rw [atKey_put_same (k := Lit.int .i64 g) hD.own.isMap trivial] at hat
      exact (Lit.int.inj (DataW.lit.inj hat)).2.symm
    subst hc
    by_cases h1 : P.pins.count g = 1
    · rw [if_pos h1]
      have hlk1' : (Instr.lookup 112 (.map (some mb)) (.int .i64 g) false).run Try.prog w1 = .ok (.int .i64 0) w1 := by rw [hlk1, h1]; rfl
      obtain ⟨w2, hdl, ho2, ht2⟩ := ho.drop (t := 112) law3 Try.underlying112 hkey 0
      have hdl' : ∀ ty, (Builtin.delete_ #[112, 3] ty #[.map (some mb), .int .i64 g]).run Try.prog w1 = .ok (.tuple #[]) w2 := fun ty => by
        rw [← hdl]; rfl
      have hk2 : Kept [mb] w1 w2 := Kept.ofGrown ht2.grown [mb] (fun k h => by simpa using h.symm)
      have hk12 := hk1.trans hk2 (fun _ _ h => h)
      have HP2 := hid (HH.out.setPins (hD.gone g h1 _ ho2) hk12)
      have HK2 := hid hk12
      rw [h1] at hlk hup
      have hup' : (Instr.mapUpdate 112 (.map (some mb)) (.int .i64 g) (.int .i64 0)).run Try.prog w = .ok () w1 := hup
      have hlk' : (Instr.lookup 112 (.map (some mb)) (.int .i64 g) false).run Try.prog w = .ok (.int .i64 1) w := hlk
      clear h hD ho ho2 ht2 hgr hk1 hk2 hk12 hlk1 hdl hat h0' hup hlk hkey hwf hval hcl h0 h1
      go_enter Try.func37, Try.ntmps37
      go_wp2_with (first | (go_at_call 59; refine HN.out.mono ?_; rintro e wa ⟨rfl, rfl⟩))
      refine (release_any HP2.out.shAt HP2.out.pins HP2.out.n1 HP2.out.n2 HP2.out.cells.2.2.1 HP2.out.cells.2.2.2.1).mono ?_
      rintro e w3 ⟨rfl, hs3, hk3⟩
      have H3 := hid (HP2.out.setSt hs3 hk3)
      have HK3 := hid ((HK2.out.mono (T := b :: gs :: mb :: own) (fun i _ hi => by simp only [List.mem_singleton] at hi; simp [hi])).trans hk3 (fun i _ hi => by simp only [List.mem_singleton] at hi; simp [hi]))
      clear hs3 hk3
      go_wp2_with fail
      go_ret
      exact DidP.at H3.out HK3.out
    · rw [if_neg h1]
      have HP2 := hid (HH.out.setPins (hD.less g (by omega) ho) hk1)
      have HK2 := hid (hk1.mono (T := b :: gs :: mb :: own) (fun i _ hi => by simp only [List.mem_singleton] at hi; simp [hi]))
      have hb1 : (((P.pins.count g : Nat) : Int) - 1 == 0) = false := by rw [beq_eq_false_iff_ne]; omega
      clear h hD ho hgr hk1 hat hkey hwf hval
      generalize P.pins.count g = C at *
      have hC1 : 2 ≤ C := by omega
      clear h0 h1
      go_enter Try.func37, Try.ntmps37
      go_wp2_with (first | (go_at_call 59; refine HN.out.mono ?_; rintro e wa ⟨rfl, rfl⟩))
      go_ret
      exact DidP.at HP2.out HK2.out
theorem pin_all {w : World} {B b db : Nat} {all : List Nat} {P : PS} (h : Pgr w B b db all P) (hp : P.pins.length ≤ 1000) (hm : P.pm ≤ 1000) :
    Calls Try.prog 35 #[.pointer (some ⟨b, 0, none⟩)] w (DidP w B b db all (.int .i64 P.gen) P.pin) := by
  obtain ⟨gs, mb, own, h, rfl⟩ := h
  exact pin_at h hp hm
theorem unpin_all {w : World} {B b db : Nat} {all : List Nat} {P : PS} (h : Pgr w B b db all P) (hp : P.pins.length ≤ 1000) (hm : P.pm ≤ 1000) (g : Int) (hg : -9223372036854775808 ≤ g ∧ g ≤ 9223372036854775807) :
    Calls Try.prog 37 #[.pointer (some ⟨b, 0, none⟩), .int .i64 g] w (DidP w B b db all (.int .i64 (P.unpin g).1) (P.unpin g).2) := by
  obtain ⟨gs, mb, own, h, rfl⟩ := h
  exact unpin_at h hp hm g hg
end Go.Proofs.Ytambgimfbdecpaa
