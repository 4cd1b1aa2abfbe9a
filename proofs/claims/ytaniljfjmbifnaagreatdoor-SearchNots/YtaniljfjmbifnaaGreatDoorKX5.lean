/- What this text holds: how keys that come in lie in memory. · What this text holds: whether a key and a message are gone through. -/
import Derived.Test.YtaniljfjmbifnaaGreatDoorHOpen
import Derived.Test.YtaniljfjmbifnaaGreatDoorKX4
namespace Go.Proofs.YtaniljfjmbifnaaGreatDoor.H
open Go.ChangeShapes Go.WideShapes Go.ChangeAt Go.RowKit
set_option linter.unusedVariables false
set_option linter.unusedSimpArgs false

theorem cells25 : Tryz.prog.cellsOf 25 = 1 := by kernel_rfl
theorem cells26 : Tryz.prog.cellsOf 26 = 1 := by kernel_rfl
theorem cells28 : Tryz.prog.cellsOf 28 = 6 := by kernel_rfl
theorem cells79 : Tryz.prog.cellsOf 79 = 2 := by kernel_rfl
section
variable {H : Type} {enc : TypeId × Value → H} {W : World} {held : Bool}

theorem open_gen {α β : Type} (E : S.En α) (hk : Tryz.prog.cellsOf E.T = E.k) (Q : α → β → Prop) {n0 : Nat}
    (hel : ∀ n, n < n0 → ∀ cs y, cs.length = E.k → DataW.trod enc Tryz.prog W 0 (fun _ => true) held n E.T cs = some y → ∃ x b, cs = E.enc x ∧ Q x b)
    {a : Option Addr} {len cap : Nat} {y : DataW H × List MemPlace} (h : DataW.trod enc Tryz.prog W 0 (fun _ => true) held n0 E.t [.slice a len cap] = some y) :
    ∃ ps : List (α × β), S.GL E W (.slice a len cap) (ps.map (·.1)) ∧ ps.length = len ∧ len ≤ maxLen ∧ ∀ p ∈ ps, Q p.1 p.2 := by
  rcases DataW.trod_slice E.ut h with ⟨hcs, rfl⟩ | ⟨a', len', cap', elems, rest, n, rfl, hcs, rfl, _, hl, hm, hlen, hel', _, _⟩
  · simp at hcs
    obtain ⟨rfl, rfl, rfl⟩ := hcs
    exact ⟨[], ⟨none, 0, rfl, Nat.le_refl _, .inl rfl⟩, rfl, by omega, by simp⟩
  · simp only [List.cons.injEq, Value.slice.injEq, and_true] at hcs
    obtain ⟨rfl, rfl, rfl⟩ := hcs
    rw [hk] at hel'
    have hact : ∀ i, i < len → ∃ x : α × β, (∀ j v, (E.enc x.1)[j]? = some v → W.cell? (a'.add (i * E.k + j)) = some v) ∧ Q x.1 x.2 := by
      intro i hi
      have h9 := hel' i hi
      have hi' : i < elems.length := by omega
      rw [List.getElem?_eq_getElem hi'] at h9
      obtain ⟨cs', h1, h2⟩ := Option.bind_eq_some_iff.1 h9
      obtain ⟨_, hlen', hcell⟩ := World.cells?_some h1
      obtain ⟨x, b, rfl, hq⟩ := hel n (by omega) cs' _ hlen' h2
      refine ⟨(x, b), fun j v hv => ?_, hq⟩
      obtain ⟨hj, hv⟩ := List.getElem?_eq_some_iff.1 hv
      have := hcell j (by rw [← E.len x]; exact hj)
      rw [Deep.add_add] at this
      rw [this]
      exact List.getElem?_eq_some_iff.2 ⟨hj, hv⟩
    by_cases h0 : len = 0
    · subst h0
      exact ⟨[], ⟨_, _, rfl, by simp, .inl rfl⟩, rfl, by omega, by simp⟩
    · obtain ⟨z, _⟩ := hact 0 (by omega)
      have hinh : Inhabited (α × β) := ⟨z⟩
      obtain ⟨f, hf⟩ := Deep.choose_lt hact
      obtain ⟨ab, ao, sp⟩ := a'
      have h00 : ∃ v, (E.enc (f 0).1)[0]? = some v := ⟨_, List.getElem?_eq_getElem (by rw [E.len]; exact E.hk)⟩
      obtain ⟨v0, hv0⟩ := h00
      have hz := (hf 0 (by omega)).1 0 v0 hv0
      have hsp : sp = none := by
        have := hz
        simp only [Nat.zero_mul, Addr.add, Nat.add_zero, World.cell?] at this
        cases sp with
        | none => rfl
        | some s => simp at this; split at this <;> simp at this
      subst hsp
      rw [Addr.add_mid] at hz
      refine ⟨(List.range len).map f, ⟨_, _, by rw [List.length_map, List.length_map, List.length_range], by simp; omega, .inr ⟨ab, ao, rfl, fun j i s v h1 h2 => ?_, World.block_lt_of_cell? W _ hz⟩⟩, by simp, by omega, fun p hp => ?_⟩
      · have hj : j < len := by have := (List.getElem?_eq_some_iff.1 h1).1; simpa using this
        simp only [List.getElem?_map, List.getElem?_range hj, Option.map_some, Option.some.injEq] at h1
        subst h1
        have := (hf j hj).1 i v h2
        rw [Addr.add_mid] at this
        exact this
      · simp only [List.mem_map, List.mem_range] at hp
        obtain ⟨i, hi, rfl⟩ := hp
        exact (hf i hi).2
set_option maxRecDepth 100000 in
theorem open_sp (n : Nat) (cs : List Value) (y : DataW H × List MemPlace) (hl : cs.length = 2) (h : DataW.trod enc Tryz.prog W 0 (fun _ => true) held n 79 cs = some y) : ∃ s : S.Sp, cs = S.eSp.enc s := by
  obtain ⟨xs, k, hk, hxy, _, hxl, hf⟩ := DataW.trod_struct Tryz.underlying79 h
  have hxl5 : xs.length = 2 := hxl
  match cs, hl, xs, hxl5 with
  | [v0, v1], _, [y0, y1], _ =>
    have g0 : DataW.trod enc Tryz.prog W 0 (fun _ => true) held k 3 [v0] = some y0 := by
      have h9 : DataW.trod enc Tryz.prog W 0 (fun _ => true) held k 3 (([v0, v1].drop 0).take (Tryz.prog.cellsOf 3)) = [y0, y1][0]? := hf 0 _ rfl
      rw [cells3] at h9
      exact h9
    have g1 : DataW.trod enc Tryz.prog W 0 (fun _ => true) held k 3 [v1] = some y1 := by
      have h9 : DataW.trod enc Tryz.prog W 0 (fun _ => true) held k 3 (([v0, v1].drop 1).take (Tryz.prog.cellsOf 3)) = [y0, y1][1]? := hf 1 _ rfl
      rw [cells3] at h9
      exact h9
    obtain ⟨n0, e0, w0⟩ := open_i g0
    obtain ⟨n1, e1, w1⟩ := open_i g1
    subst e0 e1
    exact ⟨(n0, n1), rfl⟩
set_option maxRecDepth 100000 in
theorem open_key : ∀ (n : Nat) (cs : List Value) (y : DataW H × List MemPlace), cs.length = 6 → DataW.trod enc Tryz.prog W 0 (fun _ => true) held n 28 cs = some y →
    ∃ (r : Ky) (v : Kv), cs = r.c ∧ KOk W r v ∧ BigK v := by
  intro n
  induction n using Nat.strongRecOn with
  | _ n ih =>
  intro cs y hl h
  obtain ⟨xs, k, hk, hxy, _, hxl, hf⟩ := DataW.trod_struct Tryz.underlying28 h
  have hxl5 : xs.length = 6 := hxl
  match cs, hl, xs, hxl5 with
  | [v0, v1, v2, v3, v4, v5], _, [y0, y1, y2, y3, y4, y5], _ =>
    have g0 : DataW.trod enc Tryz.prog W 0 (fun _ => true) held k 9 [v0] = some y0 := by
      have h9 : DataW.trod enc Tryz.prog W 0 (fun _ => true) held k 9 (([v0, v1, v2, v3, v4, v5].drop 0).take (Tryz.prog.cellsOf 9)) = [y0, y1, y2, y3, y4, y5][0]? := hf 0 _ rfl
      rw [cells9] at h9
      exact h9
    have g1 : DataW.trod enc Tryz.prog W 0 (fun _ => true) held k 9 [v1] = some y1 := by
      have h9 : DataW.trod enc Tryz.prog W 0 (fun _ => true) held k 9 (([v0, v1, v2, v3, v4, v5].drop 1).take (Tryz.prog.cellsOf 9)) = [y0, y1, y2, y3, y4, y5][1]? := hf 1 _ rfl
      rw [cells9] at h9
      exact h9
    have g2 : DataW.trod enc Tryz.prog W 0 (fun _ => true) held k 9 [v2] = some y2 := by
      have h9 : DataW.trod enc Tryz.prog W 0 (fun _ => true) held k 9 (([v0, v1, v2, v3, v4, v5].drop 2).take (Tryz.prog.cellsOf 9)) = [y0, y1, y2, y3, y4, y5][2]? := hf 2 _ rfl
      rw [cells9] at h9
      exact h9
    have g3 : DataW.trod enc Tryz.prog W 0 (fun _ => true) held k 3 [v3] = some y3 := by
      have h9 : DataW.trod enc Tryz.prog W 0 (fun _ => true) held k 3 (([v0, v1, v2, v3, v4, v5].drop 3).take (Tryz.prog.cellsOf 3)) = [y0, y1, y2, y3, y4, y5][3]? := hf 3 _ rfl
      rw [cells3] at h9
      exact h9
    have g4 : DataW.trod enc Tryz.prog W 0 (fun _ => true) held k 25 [v4] = some y4 := by
      have h9 : DataW.trod enc Tryz.prog W 0 (fun _ => true) held k 25 (([v0, v1, v2, v3, v4, v5].drop 4).take (Tryz.prog.cellsOf 25)) = [y0, y1, y2, y3, y4, y5][4]? := hf 4 _ rfl
      rw [cells25] at h9
      exact h9
    have g5 : DataW.trod enc Tryz.prog W 0 (fun _ => true) held k 26 [v5] = some y5 := by
      have h9 : DataW.trod enc Tryz.prog W 0 (fun _ => true) held k 26 (([v0, v1, v2, v3, v4, v5].drop 5).take (Tryz.prog.cellsOf 26)) = [y0, y1, y2, y3, y4, y5][5]? := hf 5 _ rfl
      rw [cells26] at h9
      exact h9
    obtain ⟨s0, e0, _, w0⟩ := DataW.trod_string Tryz.underlying9 g0
    simp only [List.cons.injEq, and_true] at e0
    obtain ⟨s1, e1, _, w1⟩ := DataW.trod_string Tryz.underlying9 g1
    simp only [List.cons.injEq, and_true] at e1
    obtain ⟨s2, e2, _, w2⟩ := DataW.trod_string Tryz.underlying9 g2
    simp only [List.cons.injEq, and_true] at e2
    subst e0 e1 e2
    obtain ⟨n3, e3, w3⟩ := open_i g3
    obtain ⟨a4, l4, c4, e4⟩ := open_sl Tryz.underlying25 g4
    obtain ⟨a5, l5, c5, e5⟩ := open_sl Tryz.underlying26 g5
    subst e3 e4 e5
    obtain ⟨ps, p1, p2, p3, p4⟩ := open_gen (β := Unit) S.eSp cells79 (fun _ _ => True) (fun m hm cs' y' hl' hy' => by
      obtain ⟨s, hs⟩ := open_sp m cs' y' hl' hy'
      exact ⟨s, (), hs, trivial⟩) g4
    obtain ⟨ks, k1, k2, k3, k4⟩ := open_gen (β := Kv) eK cells28 (fun r v => KOk W r v ∧ BigK v) (fun m hm cs' y' hl' hy' => by
      obtain ⟨r, v, h1, h2⟩ := ih m (by omega) cs' y' hl' hy'
      exact ⟨r, v, h1, h2⟩) g5
    have hs1 : s1.size = s1.data.toList.length := Go.Lib.size_eq s1
    have hs2 : s2.size = s2.data.toList.length := Go.Lib.size_eq s2
    refine ⟨⟨s0.data.toList, s1.data.toList, s2.data.toList, n3, (a4, l4, c4), (a5, l5, c5)⟩, .mk s0.data.toList s1.data.toList s2.data.toList n3 (ps.map (·.1)) (ks.map (·.2)), ?_, KOk.mk ⟨s0.data.toList, s1.data.toList, s2.data.toList, n3, (a4, l4, c4), (a5, l5, c5)⟩ _ ks p1 k1 (fun p hp => (k4 p hp).1), BigK.mk _ _ _ _ _ _ (by omega) (by omega) (by rw [List.length_map]; omega) (by rw [List.length_map]; omega) (fun u hu => ?_)⟩
    · simp [Ky.c, sv, str_of]
    · obtain ⟨p, hp, rfl⟩ := List.mem_map.1 hu
      exact (k4 p hp).2
end
theorem open_keyA {H : Type} {enc : TypeId × Value → H} {W : World} {held : Bool} {n : Nat} {cs : Array Value} {y : DataW H × List MemPlace} (hl : cs.toList.length = 6) (h : DataW.trod enc Tryz.prog W 0 (fun _ => true) held n 28 cs.toList = some y) :
    ∃ (r : Ky) (v : Kv), cs = r.c.toArray ∧ KOk W r v ∧ BigK v := by
  obtain ⟨r, v, hcs, h1, h2⟩ := open_key n _ y hl h
  exact ⟨r, v, by rw [show cs = cs.toList.toArray from rfl, hcs], h1, h2⟩
end Go.Proofs.YtaniljfjmbifnaaGreatDoor.H
namespace Go.Proofs.YtaniljfjmbifnaaGreatDoor.H
open Go.RowKit
set_option linter.unusedVariables false
set_option linter.unusedSimpArgs false

theorem tot_each (l : List Bs) (h : tot l ≤ 1000) : ∀ x ∈ l, x.length ≤ 1000 := by
  induction l with
  | nil => simp
  | cons a l ih =>
    rw [tot] at h
    intro x hx
    rcases List.mem_cons.1 hx with rfl | hx
    · omega
    · exact ih (by omega) x hx
/-- What is known of the answer about a message's flags. -/
def ShortIs (l : List Bs) (e : Ending) : Prop := ∃ z, e = .returned (.bool z) ∧ (z = true → l.length ≤ 60 ∧ tot l ≤ 1000)
set_option maxRecDepth 100000 in
set_option maxHeartbeats 4000000 in
theorem short_is {w : World} {a : Option Addr} {len cap : Nat} {l : List Bs} (h : TextsOk w a len cap l) (most : Int) (hmost : most = 1000) : Calls Tryz.prog 15 #[.slice a len cap, .int .i64 most] w fun e w' => ShortIs l e ∧ w' = w := by
  obtain ⟨hr, rfl, hsm, hea⟩ := h
  unfold maxLen at hsm
  obtain ⟨hw, a', c', e1, hc, hr⟩ := hr
  simp only [Value.slice.injEq] at e1
  obtain ⟨rfl, _, rfl⟩ := e1
  have HM := hid hea
  clear hea
  rw [List.length_map] at *
  rcases hr with hr | ⟨g, o, rfl, hr, hg⟩
  · have : l = [] := by simpa using hr
    subst this
    subst hmost
    go_enter Tryz.func15, Tryz.ntmps15
    go_wp2_with fail
    go_loop [5, 6] (fun v i => v = .int .i64 0 ∧ i = .int .i64 0) (fun _ _ => 0)
    case atStart => exact ⟨rfl, rfl⟩
    case round =>
      obtain ⟨rfl, rfl⟩ := hrel
      go_wp2_with fail
      go_ret
      exact ⟨⟨_, rfl, fun _ => by simp [tot]⟩, rfl⟩
  · have HR := hid hr
    clear hr
    subst hmost
    go_enter Tryz.func15, Tryz.ntmps15
    go_wp2_with fail
    go_loop [5, 6] (fun v i => ∃ k : Nat, k ≤ l.length ∧ k ≤ 61 ∧ i = .int .i64 k ∧ v = .int .i64 (tot (l.take k))) (fun _ i => 61 - (intOf i).toNat)
    case atStart => exact ⟨0, by omega, by omega, rfl, rfl⟩
    case round =>
      obtain ⟨k, hk, hk31, rfl, rfl⟩ := hrel
      have htl := tot_le (l.take k)
      rw [List.length_take] at htl
      by_cases hlt : k < l.length
      · have hlt' : (k : Int) < l.length := by omega
        by_cases h30 : k ≤ 60
        · have h30' : (k : Int) ≤ 60 := by omega
          have HN := hid (tot_next l k hlt)
          have hsz := str_size l[k]
          have hml := HM.out l[k] (List.getElem_mem hlt)
          unfold maxLen at hml
          have hc0 : w.cell? ⟨g, o + k, none⟩ = some (.string (str l[k])) := by
            have := HR.out.rec k (sR l[k]) (by rw [List.getElem?_map, List.getElem?_eq_getElem hlt]; rfl) 0 _ rfl
            rw [Nat.mul_one] at this
            exact this
          generalize tot (l.take k) = T at *
          generalize hq : l[k].length = M at *
          have hT : (T : Int) ≤ 10000000 := by omega
          clear htl hq
          go_wp2_with fail
          go_round
          case rel => exact ⟨k + 1, by omega, by omega, by go_num, by rw [HN.out]; congr 1; omega⟩
          case measure => simp [intOf]; omega
        · have h30' : ¬ (k : Int) ≤ 60 := by omega
          have hlen : ¬ (l.length : Int) ≤ 60 := by omega
          go_wp2_with fail
          go_ret
          refine ⟨⟨_, rfl, fun h => ?_⟩, rfl⟩; exfalso; first | (cases h; done) | (simp at h; done) | (simp at h; omega)
      · have hlt' : ¬ (k : Int) < l.length := by omega
        have hkl : l.take k = l := List.take_of_length_le (by omega)
        rw [hkl] at htl ⊢
        clear hkl htl
        have HTo : Hid (tot l = tot l) := rfl
        generalize hTT : tot l = T at *
        have HTT := hid hTT
        clear hTT
        by_cases hlen : (l.length : Int) ≤ 60
        · by_cases ht : (T : Int) ≤ 1000
          · go_wp2_with fail
            go_ret
            exact ⟨⟨_, rfl, fun _ => ⟨by omega, by rw [HTT.out]; omega⟩⟩, rfl⟩
          · go_wp2_with fail
            go_ret
            refine ⟨⟨_, rfl, fun h => ?_⟩, rfl⟩; exfalso; first | (cases h; done) | (simp at h; done) | (simp at h; omega)
        · go_wp2_with fail
          go_ret
          refine ⟨⟨_, rfl, fun h => ?_⟩, rfl⟩; exfalso; first | (cases h; done) | (simp at h; done) | (simp at h; omega)
/-- What is known of the answer. -/
def FewIs (v : Kv) (m : Ml) (l : List Bs) (e : Ending) : Prop := ∃ z, e = .returned (.bool z) ∧ (z = true → wtV v 0 ≤ 600 ∧ m.text.length ≤ 1500 ∧ l.length ≤ 60 ∧ ∀ x ∈ l, x.length ≤ 1000)
set_option maxRecDepth 100000 in
set_option maxHeartbeats 4000000 in
theorem fewk_any {w : World} (m : Ml) (l : List Bs) (hm : MailOk w m.fa m.fn m.fc l m.text) (r : Ky) {v : Kv} (hK : KOk w r v) (hB : BigK v) :
    Calls Tryz.prog 10 #[.agg #[.string (str r.op), .string (str r.text), .string (str r.field), .int .i64 r.n, .slice r.set.1 r.set.2.1 r.set.2.2, .slice r.kids.1 r.kids.2.1 r.kids.2.2], .agg #[.int .i64 m.uid, .slice m.fa m.fn m.fc, .int .i64 m.d1, .int .i64 m.d2, .int .i64 m.d3, .int .i64 m.d4, .int .i64 m.d5, .int .i64 m.d6, .int .i64 m.d7, .string (str m.text), .int .i64 m.size, .int .i64 m.id]] w fun e w' => FewIs v m l e ∧ Below w.heap.size w w' := by
  obtain ⟨wa, hwa⟩ : ∃ wa, w.alloc (.cells #[.string (str r.op), .string (str r.text), .string (str r.field), .int .i64 r.n, .slice r.set.1 r.set.2.1 r.set.2.2, .slice r.kids.1 r.kids.2.1 r.kids.2.2] 28) = wa := ⟨_, rfl⟩
  have ba : Below w.heap.size w wa := by rw [← hwa]; exact (Below.refl _ _).alloc (Nat.le_refl _) _
  have sa : wa.heap.size = w.heap.size + 1 := by rw [← hwa]; simp
  have hka : wa.heap[w.heap.size]? = some (.cells #[.string (str r.op), .string (str r.text), .string (str r.field), .int .i64 r.n, .slice r.set.1 r.set.2.1 r.set.2.2, .slice r.kids.1 r.kids.2.1 r.kids.2.2] 28 (0, 0)) := by rw [← hwa]; exact heap_alloc_new _ _
  obtain ⟨wb, hwb⟩ : ∃ wb, wa.alloc (.cells #[.int .i64 m.uid, .slice m.fa m.fn m.fc, .int .i64 m.d1, .int .i64 m.d2, .int .i64 m.d3, .int .i64 m.d4, .int .i64 m.d5, .int .i64 m.d6, .int .i64 m.d7, .string (str m.text), .int .i64 m.size, .int .i64 m.id] 33) = wb := ⟨_, rfl⟩
  have bb : Below wa.heap.size wa wb := by rw [← hwb]; exact (Below.refl _ _).alloc (Nat.le_refl _) _
  have hmb : MlAt wb wa.heap.size m := by rw [← hwb]; exact heap_alloc_new _ _
  have hkb : wb.heap[w.heap.size]? = some (.cells #[.string (str r.op), .string (str r.text), .string (str r.field), .int .i64 r.n, .slice r.set.1 r.set.2.1 r.set.2.2, .slice r.kids.1 r.kids.2.1 r.kids.2.2] 28 (0, 0)) := (bb.block _ (by omega)).trans hka
  have bw : Below w.heap.size w wb := ba.trans (bb.mono (by omega))
  have k0 : wb.cell? ⟨w.heap.size, 0, none⟩ = some (.string (str r.op)) := cell_of hkb rfl
  have k1 : wb.cell? ⟨w.heap.size, 1, none⟩ = some (.string (str r.text)) := cell_of hkb rfl
  have k2 : wb.cell? ⟨w.heap.size, 2, none⟩ = some (.string (str r.field)) := cell_of hkb rfl
  have k3 : wb.cell? ⟨w.heap.size, 3, none⟩ = some (.int .i64 r.n) := cell_of hkb rfl
  have k4 : wb.cell? ⟨w.heap.size, 4, none⟩ = some (.slice r.set.1 r.set.2.1 r.set.2.2) := cell_of hkb rfl
  have k5 : wb.cell? ⟨w.heap.size, 5, none⟩ = some (.slice r.kids.1 r.kids.2.1 r.kids.2.2) := cell_of hkb rfl
  have HBW := hid bw
  have HM := hid hmb
  have HML := hid hm
  have CW : Calls Tryz.prog 22 #[.agg #[.string (str r.op), .string (str r.text), .string (str r.field), .int .i64 r.n, .slice r.set.1 r.set.2.1 r.set.2.2, .slice r.kids.1 r.kids.2.1 r.kids.2.2], .int .i64 0] wb _ := wt_any (hK.later bw) hB 0 (by omega) wb (Below.refl _ _)
  have HCT := hid (fun (w0 : World) (h0 : Below w.heap.size w w0) => short_is (hm.1.later h0) 1000 rfl)
  have htz := str_size m.text
  have htm := hm.2
  have hwl := wtV_le v 0
  unfold maxLen at htm
  clear hK hB hka hkb hmb bw ba bb hm sa
  generalize hT : wtV v 0 = T at *
  have HT := hid hT
  clear hT
  go_enter Tryz.func10, Tryz.ntmps10
  go_wp2_with fail
  refine CW.mono ?_
  rintro e w2 ⟨rfl, b2⟩
  have B2 := hid (HBW.out.trans (b2.mono HBW.out.size))
  have hm2 := HM.out.later b2
  have c1 : w2.cell? ⟨wa.heap.size, 1, none⟩ = some (.slice m.fa m.fn m.fc) := cell_of hm2 rfl
  have c9 : w2.cell? ⟨wa.heap.size, 9, none⟩ = some (.string (str m.text)) := cell_of hm2 rfl
  clear b2 CW hm2 k0 k1 k2 k3 k4 k5
  by_cases h6 : T ≤ 600
  · have h6' : (T : Int) ≤ 600 := by omega
    go_wp2_with fail
    refine (HCT.out w2 B2.out).mono ?_
    rintro e w3 ⟨⟨z, rfl, hz⟩, h3⟩
    have h3 := h3.symm
    subst h3
    have HZz := hid hz
    clear hz
    cases z
    · go_wp2_with fail
      go_ret
      refine ⟨⟨_, rfl, fun h => ?_⟩, B2.out⟩
      first | (cases h; done) | exact absurd (of_decide_eq_true h) (by omega)
    · by_cases h15 : m.text.length ≤ 1500
      · have h15' : (m.text.length : Int) ≤ 1500 := by omega
        go_wp2_with fail
        go_ret
        exact ⟨⟨_, rfl, fun _ => ⟨by rw [HT.out]; exact h6, h15, (HZz.out (by simp)).1, tot_each _ (HZz.out (by simp)).2⟩⟩, B2.out⟩
      · have h15' : ¬ (m.text.length : Int) ≤ 1500 := by omega
        go_wp2_with fail
        go_ret
        refine ⟨⟨_, rfl, fun h => ?_⟩, B2.out⟩
        first | (cases h; done) | exact absurd (of_decide_eq_true h) (by omega)
  · have h6' : ¬ (T : Int) ≤ 600 := by omega
    go_wp2_with fail
    go_ret
    refine ⟨⟨_, rfl, fun h => ?_⟩, B2.out⟩
    first | (cases h; done) | exact absurd (of_decide_eq_true h) (by omega)
end Go.Proofs.YtaniljfjmbifnaaGreatDoor.H
namespace Go.Proofs.YtaniljfjmbifnaaGreatDoor.H
open Go.RowKit
set_option linter.unusedVariables false
set_option linter.unusedSimpArgs false

section
variable {P : Program} {ops : Array Oper} {Q : Exit → Act → World → Prop} {md : Region.Mode} {S : World → Prop}
theorem anyH_skipW (i : Nat) (o : Oper) {fuel : Nat} {listed : Array Bool} {a : Act} {w : World} (hi : ops[i]? = some o) (hw : Region.wanted o (yielded ops a.tmps) = false)
    (hs : Region.noSelect ops = true) (hf : Region.free md ops listed i = true) (hr : (Region.ready md ops listed).contains i = true)
    (hQ : ∀ c a w, Q (.panic c) (a.put o.dst undef) w → Q (.panic c) a w) (hS : S w)
    (h : wpAnyH P md ops Q S fuel (listed.setIfInBounds i true) (a.put o.dst undef) w) : wpAnyH P md ops Q S (fuel + 1) listed a w :=
  wpAnyH_take hi hs hf hr hQ (.inr ⟨hw, rfl⟩) hS h
theorem anyH_oneSkipW (i : Nat) (o : Oper) {fuel : Nat} {listed : Array Bool} {a : Act} {w : World} (hr : Region.ready md ops listed = [i]) (hi : ops[i]? = some o) (hw : Region.wanted o (yielded ops a.tmps) = false) (hS : S w)
    (h : wpAnyH P md ops Q S fuel (listed.setIfInBounds i true) (a.put o.dst undef) w) : wpAnyH P md ops Q S (fuel + 1) listed a w := by
  refine wpAnyH_all hr (by simp) fun j hj => ?_
  obtain rfl := List.mem_singleton.1 hj
  refine wpOp_step hi fun K' hK => ?_
  rw [if_neg (by simp [hw])]
  exact hK _ _ ⟨hS, h⟩
end
theorem exec_load28 {a : Act} {x : Operand} {A : Nat} {K : Ky} {w : World} {d : Option Tmp} {ty : Nat} {pos : String} {af : Array Edge} {g : Option (Nat × Bool)} (hx : a.eval x = .pointer (some ⟨A, 0, none⟩)) (hA : KyAt w A K) :
    (execOp a.eval ⟨d, .load 28 x, ty, pos, af, g⟩).run Tryz.prog w = .ok (.value (kyV K)) w := by
  have a0 := hA.cell 0
  have a1 := hA.cell 1
  have a2 := hA.cell 2
  have a3 := hA.cell 3
  have a4 := hA.cell 4
  have a5 := hA.cell 5
  simp only [Ky.c, sv, List.getElem?_cons_succ, List.getElem?_cons_zero] at a0 a1 a2 a3 a4 a5
  simp only [execOp, hx]
  simp [go_sem, a0, a1, a2, a3, a4, a5, kyV, Ky.c, sv]
theorem exec_call14 {a : Act} {x y : Operand} {v : Value} {w : World} {d : Option Tmp} {ty : Nat} {ts : Array Nat} {pos : String} {af : Array Edge} {g : Option (Nat × Bool)} (hy : a.eval y = .func (.func 14) #[] #[]) (hx : a.eval x = v) :
    (execOp a.eval ⟨d, .call { callee := .value y, args := #[x], argTypes := ts }, ty, pos, af, g⟩).run Tryz.prog w = .ok (.enter 14 #[v]) w := by
  simp only [execOp, resolve, List.map_toArray, List.map_cons, List.map_nil, hx, hy]
  kernel_rfl
theorem exec_call13 {a : Act} {x y : Operand} {v p q r : Value} {w : World} {d : Option Tmp} {ty : Nat} {ts : Array Nat} {pos : String} {af : Array Edge} {g : Option (Nat × Bool)} (hy : a.eval y = .func (.func 13) #[] #[p, q, r]) (hx : a.eval x = v) :
    (execOp a.eval ⟨d, .call { callee := .value y, args := #[x], argTypes := ts }, ty, pos, af, g⟩).run Tryz.prog w = .ok (.enter 13 #[v, p, q, r]) w := by
  simp only [execOp, resolve, List.map_toArray, List.map_cons, List.map_nil, hx, hy]
  kernel_rfl
theorem exec_call7 {a : Act} {w : World} {d : Option Tmp} {ty : Nat} {ts : Array Nat} {pos : String} {af : Array Edge} {g : Option (Nat × Bool)} :
    (execOp a.eval ⟨d, .call { callee := .value (.func 7), args := #[], argTypes := ts }, ty, pos, af, g⟩).run Tryz.prog w = .ok (.enter 7 #[]) w := by
  simp only [execOp, resolve, List.map_toArray, List.map_nil]
  kernel_rfl
theorem exec_two28 {a : Act} {x y : Operand} {r s : Ky} {w : World} {d : Option Tmp} {ty : Nat} {pos : String} {af : Array Edge} {g : Option (Nat × Bool)} (hx : a.eval x = kyV r) (hy : a.eval y = kyV s) :
    (execOp a.eval ⟨d, .buildSlice 26 2 #[(0, x), (1, y)], ty, pos, af, g⟩).run Tryz.prog w = .ok (.value (.slice (some ⟨w.heap.size, 0, none⟩) 2 2)) (w.alloc (.cells (r.c ++ s.c).toArray 28)) := by
  simp only [execOp, List.map_toArray, List.map_cons, List.map_nil, hx, hy]
  simp [go_sem, kyV, Ky.c, sv]
end Go.Proofs.YtaniljfjmbifnaaGreatDoor.H
