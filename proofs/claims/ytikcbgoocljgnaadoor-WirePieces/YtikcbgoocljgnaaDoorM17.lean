/- What this text holds: a feed takes bytes: the call. -/
import Derived.Test.YtikcbgoocljgnaaDoorM16
namespace Go.Proofs.YtikcbgoocljgnaaDoor
open Go.RowKit
set_option linter.unusedVariables false
set_option linter.unusedSimpArgs false

theorem take_len : ∀ (s : Bs) (F : Fd), (takeP F s).2.length ≤ s.length
  | [], F => by simp [takeP]
  | c :: s, F => by
    have := take_len s (stepP F c).f
    have h : (evOf (stepP F c)).length ≤ 1 := by unfold evOf; split <;> simp
    rw [takeP, List.length_append, List.length_cons]
    omega
/-- What a call of Take answers, and leaves. -/
def TakeIs (w : World) (b : Nat) (own : List Nat) (F : Fd) (L : List Ev) (e : Ending) (w' : World) : Prop := ∃ v own', e = .returned v ∧ EvL w' v own' L ∧ FAt w' b own' F ∧ Kept own w w' ∧ ∀ g ∈ own', g ∈ own ∨ w.heap.size ≤ g
set_option maxRecDepth 100000 in
set_option maxHeartbeats 4000000 in
theorem take_any (hol : OfLineOk) (hsd : ∀ F c, Sound F → Sound (stepP F c).f) {w : World} {b : Nat} {own : List Nat} {F : Fd} (h : FAt w b own F) (hS : Sound F) (g o c : Nat) (s : Bs) (hc : s.length ≤ c) (hb : GA eB w g o s) (hno : g ∉ own) (hgl : g < w.heap.size) (hsl : s.length ≤ 1000000) :
    Calls Tryd.prog 12 #[.pointer (some ⟨b, 0, none⟩), .slice (some ⟨g, o, none⟩) s.length c] w (TakeIs w b own (takeP F s).1 (takeP F s).2) := by
  have H0 := hid h
  have HB := hid hb
  have HS : Hid (∀ k, Sound (takeP F (s.take k)).1) := by
    intro k
    induction k with
    | zero => simpa [takeP] using hS
    | succ k ih =>
      rcases Nat.lt_or_ge k s.length with hk | hk
      · rw [take_snoc s k hk]; exact hsd _ _ ih
      · rw [List.take_of_length_le (by omega)] at ih ⊢; exact ih
  clear h hb hS hsd
  go_enter Tryd.func12, Tryd.ntmps12
  go_wp2_with fail
  go_loopw [5, 13] (fun v i wr => ∃ k : Nat, k ≤ s.length ∧ i = .int .i64 k ∧ TkAt w wr b own v (takeP F (s.take k)).1 (takeP F (s.take k)).2) (fun _ i _ => s.length - (intOf i).toNat)
  case atStart => exact ⟨0, by omega, rfl, ⟨⟨own, H0.out, EvL.nil _ _, fun g hg => .inl hg⟩, Kept.refl _ _, fun g hg => by simp [Value.ownBlock] at hg⟩⟩
  case round =>
    obtain ⟨k, hk, rfl, ⟨⟨own', hf, hv, ho⟩, hkk, hvn⟩⟩ := hrel
    generalize u5 = v at *
    have hlenL : (takeP F (s.take k)).2.length ≤ k := by have := take_len (s.take k) F; rw [List.length_take] at this; omega
    by_cases hlt : k < s.length
    · have hlt' : (k : Int) < s.length := by omega
      have hcell : wr.cell? ⟨g, o + k, none⟩ = some (.int .u8 (s[k].toNat : Int)) := hkk.cell (HB.out.b k s[k] (List.getElem?_eq_getElem hlt)) hno
      have HT := hid (take_snoc s k hlt F)
      have hsnd := HS.out k
      have HLl : Hid ((takeP F (s.take k)).2.length ≤ 1000000) := by unfold Hid; omega
      generalize s[k] = ch at *
      generalize (takeP F (s.take k)).2 = L at *
      generalize (takeP F (s.take k)).1 = G at *
      have HVn := hid hvn
      have HF := hid hf
      have HV := hid hv
      have HO := hid ho
      have HK := hid hkk
      have hq := nx_nil b G.nx wr
      have hgd := nx_guard b G.nx (.tmp 20) (.const .nilFunc) wr
      obtain ⟨vt, vl, vu, f, he⟩ := hf
      have c7 : wr.cell? ⟨b, 7, none⟩ = some (nxV b G.nx) := f.r4.cell 7 rfl
      have f7 := f.r4.free 7
      have HLn : Hid (∀ (W : World), FAt W b own' { G with nx := .line } → Calls Tryd.prog 22 #[.pointer (some ⟨b, 0, none⟩), .int .u8 ch.toNat] W (StepO W b own' (ofLineP { G with nx := .line } ch))) := fun W hW => hol hW ch (by show G.texts.length ≤ 900; have := hsnd.t; have := hsnd.l; omega) (by show G.lits.length ≤ 900; have := hsnd.l; omega) (by show G.size ≤ 1000000; have := hsnd.s; omega) (by show G.under.length ≤ 900000; have := hsnd.u; omega)
      cases hx : G.nx with
      | no =>
        rw [hx] at c7 hq hgd
        have HO' : Hid (stepP G ch = ofLineP { G with nx := .line } ch) := by unfold stepP; rw [Hid, hx]
        rw [HO'.out] at HT
        have r1 := f.r4.set 7 (.func (.func 22) #[.pointer (some ⟨b, 0, none⟩)] #[])
        have hfW : FAt (wr.setCell ⟨b, 7, none⟩ (.func (.func 22) #[.pointer (some ⟨b, 0, none⟩)] #[])) b own' { G with nx := .line } := ⟨vt, vl, vu, r1.fin { G with nx := .line } rfl rfl rfl rfl f.tl, he⟩
        have kW := kept1 wr b 7 (.func (.func 22) #[.pointer (some ⟨b, 0, none⟩)] #[])
        have HC := hid (HLn.out _ hfW)
        generalize ofLineP { G with nx := .line } ch = O at *
        unfold nxV at c7 hq hgd
        simp only at c7 hq hgd
        clear f r1 HLn hx hv ho hkk hvn HO' hol HS
        go_wp2_with fail
        refine HC.out.mono ?_
        intro e w3 st
        have tt := TkAt.step HF.out HV.out HO.out HK.out kW hfW st
        obtain ⟨vT, vL, own3, rfl, gt, gl, hf3, hv3, ho3, hk3, n1, n2⟩ := tt
        have HSt : Hid (takeP F (s.take (k + 1)) = (O.f, L ++ evOf O)) := HT.out
        have hal : Below w3.heap.size w3 (w3.alloc (.cells #[.int .i64 O.k, vT, vL] 41)) := (Below.refl _ _).alloc (Nat.le_refl _) _
        have hf4 := hf3.below hal
        have hk4 : Kept own w (w3.alloc (.cells #[.int .i64 O.k, vT, vL] 41)) := hk3.trans (Kept.alloc _ _ _) (fun _ _ h => h)
        have hv4 := hv3.kept (Kept.alloc own3 w3 (.cells #[.int .i64 O.k, vT, vL] 41)) (own' := own3) (fun g hg => .inl hg)
        have gt4 := gt.later hal
        have gl4 := gl.later hal
        obtain ⟨aT, kT, hvT⟩ := gt.slice (n := O.t.length) rfl
        obtain ⟨aL, kL, hvL⟩ := gl.slice (n := O.l.length) rfl
        subst hvT hvL
        by_cases hk0 : O.k = 0
        · have q0 : (O.k == 0) = true := by simpa using hk0
          have q1 : (O.k != 0) = false := by simp [hk0]
          have HE : Hid (evOf O = []) := by unfold evOf; rw [Hid, if_pos hk0]
          have HF4 := hid hf4
          have HK4 := hid hk4
          have HV4 := hid hv4
          have HO4 := hid ho3
          clear hf4 hk4 hv4 ho3 st gt gl gt4 gl4 hf3 hv3 hk3 n1 n2 hk0 hal kW hfW
          go_wp2_with fail
          go_roundw
          case rel => exact ⟨k + 1, by omega, by go_num, ⟨⟨own3, by rw [HSt.out]; exact HF4.out, by rw [HSt.out, HE.out, List.append_nil]; exact HV4.out, HO4.out⟩, HK4.out, HVn.out⟩⟩
          case measure => simp [intOf]; omega
        · have q0 : (O.k == 0) = false := by simpa using hk0
          have q1 : (O.k != 0) = true := by simp [hk0]
          have HE : Hid (evOf O = [(O.k, O.t, O.l)]) := by unfold evOf; rw [Hid, if_neg hk0]
          obtain ⟨es, e1, e2, e3, e4⟩ := hv4
          have hes : es.length ≤ 10000000 := by rw [e3]; have := HLl.out; omega
          obtain ⟨v', w5, hr, ho5, hk5, hn5⟩ := go_one_kept eE e1 hes (O.k, (aT, O.t.length, kT), (aL, O.l.length, kL)) ((w3.alloc (.cells #[.int .i64 O.k, .slice aT O.t.length kT, .slice aL O.l.length kL] 41)).heap.size) rfl
          have hv5 := EvL.more (e := (O.k, (aT, O.t.length, kT), (aL, O.l.length, kL))) (E := (O.k, O.t, O.l)) e1 e2 e3 e4 ⟨rfl, gt4, gl4, n1, n2⟩ hf4.lt ho5 hk5 hn5
          have hf5 := hf4.kept hk5 (fun g hg => by rw [Option.mem_toList]; exact fun e => e2 g e hg)
          have hk6 : Kept own w w5 := hk4.trans (hk5.mono (T := own ++ v.ownBlock.toList) (fun i _ hi => by simp at hi ⊢; exact .inr hi)) (fun i hi hm => by
            rw [List.mem_append] at hm
            rcases hm with q | q
            · exact q
            · exact absurd (HVn.out i (by simpa using q)) (by omega))
          have HN5 : Hid (∀ g, v'.ownBlock = some g → w.heap.size ≤ g) := fun g hg => by
            rcases hn5 g hg with q | q
            · exact HVn.out g q
            · have := hk4.size; omega
          have HR : Hid ((Builtin.append_ #[29, 29] 29 #[v, .slice (some ⟨w3.heap.size + 1, 0, none⟩) 1 1]).run Tryd.prog ((w3.alloc (.cells #[.int .i64 O.k, .slice aT O.t.length kT, .slice aL O.l.length kL] 41)).alloc (.cells #[.int .i64 O.k, .slice aT O.t.length kT, .slice aL O.l.length kL] 41)) = .ok v' w5) := by
            rw [World.size_alloc] at hr
            exact hr
          have HF5 := hid hf5
          have HK5 := hid hk6
          have HV5 := hid hv5
          have HO5 := hid ho3
          obtain ⟨av, kv, hvv⟩ := e1.slice (n := es.length) rfl
          obtain ⟨av5, kv5, hvv5⟩ := ho5.slice (n := es.length + 1) (by simp)
          subst hvv hvv5
          clear hf4 hk4 e1 e2 e3 e4 hr ho5 hk5 hn5 hv5 hf5 hk6 ho3 st gt gl gt4 gl4 hf3 hv3 hk3 n1 n2 hk0 hal kW hfW
          go_wp2_with (at_builtin; refine wpList_append_run rfl rfl HR.out ?_)
          go_roundw
          case rel => exact ⟨k + 1, by omega, by go_num, ⟨⟨own3, by rw [HSt.out]; exact HF5.out, by rw [HSt.out, HE.out]; exact HV5.out, HO5.out⟩, HK5.out, HN5.out⟩⟩
          case measure => simp [intOf]; omega
      | line =>
        rw [hx] at c7 hq hgd
        have HO' : Hid (stepP G ch = (ofLineP G ch)) := by unfold stepP; rw [Hid, hx]
        rw [HO'.out] at HT
        have hfW : FAt wr b own' G := HF.out
        have kW : Kept [b] wr wr := Kept.refl _ _
        have HC : Hid (Calls Tryd.prog 22 #[.pointer (some ⟨b, 0, none⟩), .int .u8 ch.toNat] wr (StepO wr b own' (ofLineP G ch))) := hol HF.out ch (by have := hsnd.t; have := hsnd.l; omega) (by have := hsnd.l; omega) (by have := hsnd.s; omega) (by have := hsnd.u; omega)
        generalize (ofLineP G ch) = O at *
        unfold nxV at c7 hq hgd
        simp only at c7 hq hgd
        clear f HLn hx hv ho hkk hvn HO' hol HS
        go_wp2_with fail
        refine HC.out.mono ?_
        intro e w3 st
        have tt := TkAt.step HF.out HV.out HO.out HK.out kW hfW st
        obtain ⟨vT, vL, own3, rfl, gt, gl, hf3, hv3, ho3, hk3, n1, n2⟩ := tt
        have HSt : Hid (takeP F (s.take (k + 1)) = (O.f, L ++ evOf O)) := HT.out
        have hal : Below w3.heap.size w3 (w3.alloc (.cells #[.int .i64 O.k, vT, vL] 41)) := (Below.refl _ _).alloc (Nat.le_refl _) _
        have hf4 := hf3.below hal
        have hk4 : Kept own w (w3.alloc (.cells #[.int .i64 O.k, vT, vL] 41)) := hk3.trans (Kept.alloc _ _ _) (fun _ _ h => h)
        have hv4 := hv3.kept (Kept.alloc own3 w3 (.cells #[.int .i64 O.k, vT, vL] 41)) (own' := own3) (fun g hg => .inl hg)
        have gt4 := gt.later hal
        have gl4 := gl.later hal
        obtain ⟨aT, kT, hvT⟩ := gt.slice (n := O.t.length) rfl
        obtain ⟨aL, kL, hvL⟩ := gl.slice (n := O.l.length) rfl
        subst hvT hvL
        by_cases hk0 : O.k = 0
        · have q0 : (O.k == 0) = true := by simpa using hk0
          have q1 : (O.k != 0) = false := by simp [hk0]
          have HE : Hid (evOf O = []) := by unfold evOf; rw [Hid, if_pos hk0]
          have HF4 := hid hf4
          have HK4 := hid hk4
          have HV4 := hid hv4
          have HO4 := hid ho3
          clear hf4 hk4 hv4 ho3 st gt gl gt4 gl4 hf3 hv3 hk3 n1 n2 hk0 hal kW hfW
          go_wp2_with fail
          go_roundw
          case rel => exact ⟨k + 1, by omega, by go_num, ⟨⟨own3, by rw [HSt.out]; exact HF4.out, by rw [HSt.out, HE.out, List.append_nil]; exact HV4.out, HO4.out⟩, HK4.out, HVn.out⟩⟩
          case measure => simp [intOf]; omega
        · have q0 : (O.k == 0) = false := by simpa using hk0
          have q1 : (O.k != 0) = true := by simp [hk0]
          have HE : Hid (evOf O = [(O.k, O.t, O.l)]) := by unfold evOf; rw [Hid, if_neg hk0]
          obtain ⟨es, e1, e2, e3, e4⟩ := hv4
          have hes : es.length ≤ 10000000 := by rw [e3]; have := HLl.out; omega
          obtain ⟨v', w5, hr, ho5, hk5, hn5⟩ := go_one_kept eE e1 hes (O.k, (aT, O.t.length, kT), (aL, O.l.length, kL)) ((w3.alloc (.cells #[.int .i64 O.k, .slice aT O.t.length kT, .slice aL O.l.length kL] 41)).heap.size) rfl
          have hv5 := EvL.more (e := (O.k, (aT, O.t.length, kT), (aL, O.l.length, kL))) (E := (O.k, O.t, O.l)) e1 e2 e3 e4 ⟨rfl, gt4, gl4, n1, n2⟩ hf4.lt ho5 hk5 hn5
          have hf5 := hf4.kept hk5 (fun g hg => by rw [Option.mem_toList]; exact fun e => e2 g e hg)
          have hk6 : Kept own w w5 := hk4.trans (hk5.mono (T := own ++ v.ownBlock.toList) (fun i _ hi => by simp at hi ⊢; exact .inr hi)) (fun i hi hm => by
            rw [List.mem_append] at hm
            rcases hm with q | q
            · exact q
            · exact absurd (HVn.out i (by simpa using q)) (by omega))
          have HN5 : Hid (∀ g, v'.ownBlock = some g → w.heap.size ≤ g) := fun g hg => by
            rcases hn5 g hg with q | q
            · exact HVn.out g q
            · have := hk4.size; omega
          have HR : Hid ((Builtin.append_ #[29, 29] 29 #[v, .slice (some ⟨w3.heap.size + 1, 0, none⟩) 1 1]).run Tryd.prog ((w3.alloc (.cells #[.int .i64 O.k, .slice aT O.t.length kT, .slice aL O.l.length kL] 41)).alloc (.cells #[.int .i64 O.k, .slice aT O.t.length kT, .slice aL O.l.length kL] 41)) = .ok v' w5) := by
            rw [World.size_alloc] at hr
            exact hr
          have HF5 := hid hf5
          have HK5 := hid hk6
          have HV5 := hid hv5
          have HO5 := hid ho3
          obtain ⟨av, kv, hvv⟩ := e1.slice (n := es.length) rfl
          obtain ⟨av5, kv5, hvv5⟩ := ho5.slice (n := es.length + 1) (by simp)
          subst hvv hvv5
          clear hf4 hk4 e1 e2 e3 e4 hr ho5 hk5 hn5 hv5 hf5 hk6 ho3 st gt gl gt4 gl4 hf3 hv3 hk3 n1 n2 hk0 hal kW hfW
          go_wp2_with (at_builtin; refine wpList_append_run rfl rfl HR.out ?_)
          go_roundw
          case rel => exact ⟨k + 1, by omega, by go_num, ⟨⟨own3, by rw [HSt.out]; exact HF5.out, by rw [HSt.out, HE.out]; exact HV5.out, HO5.out⟩, HK5.out, HN5.out⟩⟩
          case measure => simp [intOf]; omega
      | lit =>
        rw [hx] at c7 hq hgd
        have HO' : Hid (stepP G ch = (⟨ofLiteralF G ch, 0, [], []⟩ : Out)) := by unfold stepP; rw [Hid, hx]
        rw [HO'.out] at HT
        have hfW : FAt wr b own' G := HF.out
        have kW : Kept [b] wr wr := Kept.refl _ _
        have HC : Hid (Calls Tryd.prog 49 #[.pointer (some ⟨b, 0, none⟩), .int .u8 ch.toNat] wr (StepO wr b own' (⟨ofLiteralF G ch, 0, [], []⟩ : Out))) := ofLiteral_any HF.out ch (by have := hsnd.l; omega) (hsnd.lit hx).1 (by have := hsnd.lf; omega) (by have := hsnd.u; omega)
        generalize (⟨ofLiteralF G ch, 0, [], []⟩ : Out) = O at *
        unfold nxV at c7 hq hgd
        simp only at c7 hq hgd
        clear f HLn hx hv ho hkk hvn HO' hol HS
        go_wp2_with fail
        refine HC.out.mono ?_
        intro e w3 st
        have tt := TkAt.step HF.out HV.out HO.out HK.out kW hfW st
        obtain ⟨vT, vL, own3, rfl, gt, gl, hf3, hv3, ho3, hk3, n1, n2⟩ := tt
        have HSt : Hid (takeP F (s.take (k + 1)) = (O.f, L ++ evOf O)) := HT.out
        have hal : Below w3.heap.size w3 (w3.alloc (.cells #[.int .i64 O.k, vT, vL] 41)) := (Below.refl _ _).alloc (Nat.le_refl _) _
        have hf4 := hf3.below hal
        have hk4 : Kept own w (w3.alloc (.cells #[.int .i64 O.k, vT, vL] 41)) := hk3.trans (Kept.alloc _ _ _) (fun _ _ h => h)
        have hv4 := hv3.kept (Kept.alloc own3 w3 (.cells #[.int .i64 O.k, vT, vL] 41)) (own' := own3) (fun g hg => .inl hg)
        have gt4 := gt.later hal
        have gl4 := gl.later hal
        obtain ⟨aT, kT, hvT⟩ := gt.slice (n := O.t.length) rfl
        obtain ⟨aL, kL, hvL⟩ := gl.slice (n := O.l.length) rfl
        subst hvT hvL
        by_cases hk0 : O.k = 0
        · have q0 : (O.k == 0) = true := by simpa using hk0
          have q1 : (O.k != 0) = false := by simp [hk0]
          have HE : Hid (evOf O = []) := by unfold evOf; rw [Hid, if_pos hk0]
          have HF4 := hid hf4
          have HK4 := hid hk4
          have HV4 := hid hv4
          have HO4 := hid ho3
          clear hf4 hk4 hv4 ho3 st gt gl gt4 gl4 hf3 hv3 hk3 n1 n2 hk0 hal kW hfW
          go_wp2_with fail
          go_roundw
          case rel => exact ⟨k + 1, by omega, by go_num, ⟨⟨own3, by rw [HSt.out]; exact HF4.out, by rw [HSt.out, HE.out, List.append_nil]; exact HV4.out, HO4.out⟩, HK4.out, HVn.out⟩⟩
          case measure => simp [intOf]; omega
        · have q0 : (O.k == 0) = false := by simpa using hk0
          have q1 : (O.k != 0) = true := by simp [hk0]
          have HE : Hid (evOf O = [(O.k, O.t, O.l)]) := by unfold evOf; rw [Hid, if_neg hk0]
          obtain ⟨es, e1, e2, e3, e4⟩ := hv4
          have hes : es.length ≤ 10000000 := by rw [e3]; have := HLl.out; omega
          obtain ⟨v', w5, hr, ho5, hk5, hn5⟩ := go_one_kept eE e1 hes (O.k, (aT, O.t.length, kT), (aL, O.l.length, kL)) ((w3.alloc (.cells #[.int .i64 O.k, .slice aT O.t.length kT, .slice aL O.l.length kL] 41)).heap.size) rfl
          have hv5 := EvL.more (e := (O.k, (aT, O.t.length, kT), (aL, O.l.length, kL))) (E := (O.k, O.t, O.l)) e1 e2 e3 e4 ⟨rfl, gt4, gl4, n1, n2⟩ hf4.lt ho5 hk5 hn5
          have hf5 := hf4.kept hk5 (fun g hg => by rw [Option.mem_toList]; exact fun e => e2 g e hg)
          have hk6 : Kept own w w5 := hk4.trans (hk5.mono (T := own ++ v.ownBlock.toList) (fun i _ hi => by simp at hi ⊢; exact .inr hi)) (fun i hi hm => by
            rw [List.mem_append] at hm
            rcases hm with q | q
            · exact q
            · exact absurd (HVn.out i (by simpa using q)) (by omega))
          have HN5 : Hid (∀ g, v'.ownBlock = some g → w.heap.size ≤ g) := fun g hg => by
            rcases hn5 g hg with q | q
            · exact HVn.out g q
            · have := hk4.size; omega
          have HR : Hid ((Builtin.append_ #[29, 29] 29 #[v, .slice (some ⟨w3.heap.size + 1, 0, none⟩) 1 1]).run Tryd.prog ((w3.alloc (.cells #[.int .i64 O.k, .slice aT O.t.length kT, .slice aL O.l.length kL] 41)).alloc (.cells #[.int .i64 O.k, .slice aT O.t.length kT, .slice aL O.l.length kL] 41)) = .ok v' w5) := by
            rw [World.size_alloc] at hr
            exact hr
          have HF5 := hid hf5
          have HK5 := hid hk6
          have HV5 := hid hv5
          have HO5 := hid ho3
          obtain ⟨av, kv, hvv⟩ := e1.slice (n := es.length) rfl
          obtain ⟨av5, kv5, hvv5⟩ := ho5.slice (n := es.length + 1) (by simp)
          subst hvv hvv5
          clear hf4 hk4 e1 e2 e3 e4 hr ho5 hk5 hn5 hv5 hf5 hk6 ho3 st gt gl gt4 gl4 hf3 hv3 hk3 n1 n2 hk0 hal kW hfW
          go_wp2_with (at_builtin; refine wpList_append_run rfl rfl HR.out ?_)
          go_roundw
          case rel => exact ⟨k + 1, by omega, by go_num, ⟨⟨own3, by rw [HSt.out]; exact HF5.out, by rw [HSt.out, HE.out]; exact HV5.out, HO5.out⟩, HK5.out, HN5.out⟩⟩
          case measure => simp [intOf]; omega
      | pline =>
        rw [hx] at c7 hq hgd
        have HO' : Hid (stepP G ch = (⟨pastLineF G ch, 0, [], []⟩ : Out)) := by unfold stepP; rw [Hid, hx]
        rw [HO'.out] at HT
        have hfW : FAt wr b own' G := HF.out
        have kW : Kept [b] wr wr := Kept.refl _ _
        have HC : Hid (Calls Tryd.prog 31 #[.pointer (some ⟨b, 0, none⟩), .int .u8 ch.toNat] wr (StepO wr b own' (⟨pastLineF G ch, 0, [], []⟩ : Out))) := pastLine_any HF.out ch
        generalize (⟨pastLineF G ch, 0, [], []⟩ : Out) = O at *
        unfold nxV at c7 hq hgd
        simp only at c7 hq hgd
        clear f HLn hx hv ho hkk hvn HO' hol HS
        go_wp2_with fail
        refine HC.out.mono ?_
        intro e w3 st
        have tt := TkAt.step HF.out HV.out HO.out HK.out kW hfW st
        obtain ⟨vT, vL, own3, rfl, gt, gl, hf3, hv3, ho3, hk3, n1, n2⟩ := tt
        have HSt : Hid (takeP F (s.take (k + 1)) = (O.f, L ++ evOf O)) := HT.out
        have hal : Below w3.heap.size w3 (w3.alloc (.cells #[.int .i64 O.k, vT, vL] 41)) := (Below.refl _ _).alloc (Nat.le_refl _) _
        have hf4 := hf3.below hal
        have hk4 : Kept own w (w3.alloc (.cells #[.int .i64 O.k, vT, vL] 41)) := hk3.trans (Kept.alloc _ _ _) (fun _ _ h => h)
        have hv4 := hv3.kept (Kept.alloc own3 w3 (.cells #[.int .i64 O.k, vT, vL] 41)) (own' := own3) (fun g hg => .inl hg)
        have gt4 := gt.later hal
        have gl4 := gl.later hal
        obtain ⟨aT, kT, hvT⟩ := gt.slice (n := O.t.length) rfl
        obtain ⟨aL, kL, hvL⟩ := gl.slice (n := O.l.length) rfl
        subst hvT hvL
        by_cases hk0 : O.k = 0
        · have q0 : (O.k == 0) = true := by simpa using hk0
          have q1 : (O.k != 0) = false := by simp [hk0]
          have HE : Hid (evOf O = []) := by unfold evOf; rw [Hid, if_pos hk0]
          have HF4 := hid hf4
          have HK4 := hid hk4
          have HV4 := hid hv4
          have HO4 := hid ho3
          clear hf4 hk4 hv4 ho3 st gt gl gt4 gl4 hf3 hv3 hk3 n1 n2 hk0 hal kW hfW
          go_wp2_with fail
          go_roundw
          case rel => exact ⟨k + 1, by omega, by go_num, ⟨⟨own3, by rw [HSt.out]; exact HF4.out, by rw [HSt.out, HE.out, List.append_nil]; exact HV4.out, HO4.out⟩, HK4.out, HVn.out⟩⟩
          case measure => simp [intOf]; omega
        · have q0 : (O.k == 0) = false := by simpa using hk0
          have q1 : (O.k != 0) = true := by simp [hk0]
          have HE : Hid (evOf O = [(O.k, O.t, O.l)]) := by unfold evOf; rw [Hid, if_neg hk0]
          obtain ⟨es, e1, e2, e3, e4⟩ := hv4
          have hes : es.length ≤ 10000000 := by rw [e3]; have := HLl.out; omega
          obtain ⟨v', w5, hr, ho5, hk5, hn5⟩ := go_one_kept eE e1 hes (O.k, (aT, O.t.length, kT), (aL, O.l.length, kL)) ((w3.alloc (.cells #[.int .i64 O.k, .slice aT O.t.length kT, .slice aL O.l.length kL] 41)).heap.size) rfl
          have hv5 := EvL.more (e := (O.k, (aT, O.t.length, kT), (aL, O.l.length, kL))) (E := (O.k, O.t, O.l)) e1 e2 e3 e4 ⟨rfl, gt4, gl4, n1, n2⟩ hf4.lt ho5 hk5 hn5
          have hf5 := hf4.kept hk5 (fun g hg => by rw [Option.mem_toList]; exact fun e => e2 g e hg)
          have hk6 : Kept own w w5 := hk4.trans (hk5.mono (T := own ++ v.ownBlock.toList) (fun i _ hi => by simp at hi ⊢; exact .inr hi)) (fun i hi hm => by
            rw [List.mem_append] at hm
            rcases hm with q | q
            · exact q
            · exact absurd (HVn.out i (by simpa using q)) (by omega))
          have HN5 : Hid (∀ g, v'.ownBlock = some g → w.heap.size ≤ g) := fun g hg => by
            rcases hn5 g hg with q | q
            · exact HVn.out g q
            · have := hk4.size; omega
          have HR : Hid ((Builtin.append_ #[29, 29] 29 #[v, .slice (some ⟨w3.heap.size + 1, 0, none⟩) 1 1]).run Tryd.prog ((w3.alloc (.cells #[.int .i64 O.k, .slice aT O.t.length kT, .slice aL O.l.length kL] 41)).alloc (.cells #[.int .i64 O.k, .slice aT O.t.length kT, .slice aL O.l.length kL] 41)) = .ok v' w5) := by
            rw [World.size_alloc] at hr
            exact hr
          have HF5 := hid hf5
          have HK5 := hid hk6
          have HV5 := hid hv5
          have HO5 := hid ho3
          obtain ⟨av, kv, hvv⟩ := e1.slice (n := es.length) rfl
          obtain ⟨av5, kv5, hvv5⟩ := ho5.slice (n := es.length + 1) (by simp)
          subst hvv hvv5
          clear hf4 hk4 e1 e2 e3 e4 hr ho5 hk5 hn5 hv5 hf5 hk6 ho3 st gt gl gt4 gl4 hf3 hv3 hk3 n1 n2 hk0 hal kW hfW
          go_wp2_with (at_builtin; refine wpList_append_run rfl rfl HR.out ?_)
          go_roundw
          case rel => exact ⟨k + 1, by omega, by go_num, ⟨⟨own3, by rw [HSt.out]; exact HF5.out, by rw [HSt.out, HE.out]; exact HV5.out, HO5.out⟩, HK5.out, HN5.out⟩⟩
          case measure => simp [intOf]; omega
      | plit =>
        rw [hx] at c7 hq hgd
        have HO' : Hid (stepP G ch = (⟨pastLitF G ch, 0, [], []⟩ : Out)) := by unfold stepP; rw [Hid, hx]
        rw [HO'.out] at HT
        have hfW : FAt wr b own' G := HF.out
        have kW : Kept [b] wr wr := Kept.refl _ _
        have HC : Hid (Calls Tryd.prog 61 #[.pointer (some ⟨b, 0, none⟩), .int .u8 ch.toNat] wr (StepO wr b own' (⟨pastLitF G ch, 0, [], []⟩ : Out))) := pastLiteral_any HF.out ch (hsnd.plit hx) (by have := hsnd.lf; omega) (by have := hsnd.mny; omega)
        generalize (⟨pastLitF G ch, 0, [], []⟩ : Out) = O at *
        unfold nxV at c7 hq hgd
        simp only at c7 hq hgd
        clear f HLn hx hv ho hkk hvn HO' hol HS
        go_wp2_with fail
        refine HC.out.mono ?_
        intro e w3 st
        have tt := TkAt.step HF.out HV.out HO.out HK.out kW hfW st
        obtain ⟨vT, vL, own3, rfl, gt, gl, hf3, hv3, ho3, hk3, n1, n2⟩ := tt
        have HSt : Hid (takeP F (s.take (k + 1)) = (O.f, L ++ evOf O)) := HT.out
        have hal : Below w3.heap.size w3 (w3.alloc (.cells #[.int .i64 O.k, vT, vL] 41)) := (Below.refl _ _).alloc (Nat.le_refl _) _
        have hf4 := hf3.below hal
        have hk4 : Kept own w (w3.alloc (.cells #[.int .i64 O.k, vT, vL] 41)) := hk3.trans (Kept.alloc _ _ _) (fun _ _ h => h)
        have hv4 := hv3.kept (Kept.alloc own3 w3 (.cells #[.int .i64 O.k, vT, vL] 41)) (own' := own3) (fun g hg => .inl hg)
        have gt4 := gt.later hal
        have gl4 := gl.later hal
        obtain ⟨aT, kT, hvT⟩ := gt.slice (n := O.t.length) rfl
        obtain ⟨aL, kL, hvL⟩ := gl.slice (n := O.l.length) rfl
        subst hvT hvL
        by_cases hk0 : O.k = 0
        · have q0 : (O.k == 0) = true := by simpa using hk0
          have q1 : (O.k != 0) = false := by simp [hk0]
          have HE : Hid (evOf O = []) := by unfold evOf; rw [Hid, if_pos hk0]
          have HF4 := hid hf4
          have HK4 := hid hk4
          have HV4 := hid hv4
          have HO4 := hid ho3
          clear hf4 hk4 hv4 ho3 st gt gl gt4 gl4 hf3 hv3 hk3 n1 n2 hk0 hal kW hfW
          go_wp2_with fail
          go_roundw
          case rel => exact ⟨k + 1, by omega, by go_num, ⟨⟨own3, by rw [HSt.out]; exact HF4.out, by rw [HSt.out, HE.out, List.append_nil]; exact HV4.out, HO4.out⟩, HK4.out, HVn.out⟩⟩
          case measure => simp [intOf]; omega
        · have q0 : (O.k == 0) = false := by simpa using hk0
          have q1 : (O.k != 0) = true := by simp [hk0]
          have HE : Hid (evOf O = [(O.k, O.t, O.l)]) := by unfold evOf; rw [Hid, if_neg hk0]
          obtain ⟨es, e1, e2, e3, e4⟩ := hv4
          have hes : es.length ≤ 10000000 := by rw [e3]; have := HLl.out; omega
          obtain ⟨v', w5, hr, ho5, hk5, hn5⟩ := go_one_kept eE e1 hes (O.k, (aT, O.t.length, kT), (aL, O.l.length, kL)) ((w3.alloc (.cells #[.int .i64 O.k, .slice aT O.t.length kT, .slice aL O.l.length kL] 41)).heap.size) rfl
          have hv5 := EvL.more (e := (O.k, (aT, O.t.length, kT), (aL, O.l.length, kL))) (E := (O.k, O.t, O.l)) e1 e2 e3 e4 ⟨rfl, gt4, gl4, n1, n2⟩ hf4.lt ho5 hk5 hn5
          have hf5 := hf4.kept hk5 (fun g hg => by rw [Option.mem_toList]; exact fun e => e2 g e hg)
          have hk6 : Kept own w w5 := hk4.trans (hk5.mono (T := own ++ v.ownBlock.toList) (fun i _ hi => by simp at hi ⊢; exact .inr hi)) (fun i hi hm => by
            rw [List.mem_append] at hm
            rcases hm with q | q
            · exact q
            · exact absurd (HVn.out i (by simpa using q)) (by omega))
          have HN5 : Hid (∀ g, v'.ownBlock = some g → w.heap.size ≤ g) := fun g hg => by
            rcases hn5 g hg with q | q
            · exact HVn.out g q
            · have := hk4.size; omega
          have HR : Hid ((Builtin.append_ #[29, 29] 29 #[v, .slice (some ⟨w3.heap.size + 1, 0, none⟩) 1 1]).run Tryd.prog ((w3.alloc (.cells #[.int .i64 O.k, .slice aT O.t.length kT, .slice aL O.l.length kL] 41)).alloc (.cells #[.int .i64 O.k, .slice aT O.t.length kT, .slice aL O.l.length kL] 41)) = .ok v' w5) := by
            rw [World.size_alloc] at hr
            exact hr
          have HF5 := hid hf5
          have HK5 := hid hk6
          have HV5 := hid hv5
          have HO5 := hid ho3
          obtain ⟨av, kv, hvv⟩ := e1.slice (n := es.length) rfl
          obtain ⟨av5, kv5, hvv5⟩ := ho5.slice (n := es.length + 1) (by simp)
          subst hvv hvv5
          clear hf4 hk4 e1 e2 e3 e4 hr ho5 hk5 hn5 hv5 hf5 hk6 ho3 st gt gl gt4 gl4 hf3 hv3 hk3 n1 n2 hk0 hal kW hfW
          go_wp2_with (at_builtin; refine wpList_append_run rfl rfl HR.out ?_)
          go_roundw
          case rel => exact ⟨k + 1, by omega, by go_num, ⟨⟨own3, by rw [HSt.out]; exact HF5.out, by rw [HSt.out, HE.out]; exact HV5.out, HO5.out⟩, HK5.out, HN5.out⟩⟩
          case measure => simp [intOf]; omega
    · have hlt' : ¬ (k : Int) < s.length := by omega
      have hkl : k = s.length := by omega
      have HT : Hid (s.take k = s) := by rw [Hid, hkl, List.take_length]
      rw [HT.out] at hf hv
      have HF := hid hf
      have HV := hid hv
      have HO := hid ho
      have HK := hid hkk
      obtain ⟨es, e1, e2, e3, e4⟩ := hv
      obtain ⟨av, kv, hvv⟩ := e1.slice (n := es.length) rfl
      subst hvv
      clear hf e1 e2 e3 e4 ho hkk hvn hkl hol HS
      go_wp2_with fail
      go_ret
      exact ⟨_, own', rfl, HV.out, HF.out, HK.out, HO.out⟩
end Go.Proofs.YtikcbgoocljgnaaDoor
