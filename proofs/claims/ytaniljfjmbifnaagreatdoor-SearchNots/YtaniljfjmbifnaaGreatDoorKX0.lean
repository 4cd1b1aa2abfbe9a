/- What this text holds: a message's own flags are gone through; how long a field's values are. · What this text holds: what a message answers to a key that asks for its days or its length. -/
import Derived.Test.YtaniljfjmbifnaaGreatDoorHOpen
namespace Go.Proofs.YtaniljfjmbifnaaGreatDoor.H
open Go.RowKit
set_option linter.unusedVariables false
set_option linter.unusedSimpArgs false

theorem vals_short (t nm : Bs) : ∀ v ∈ valsL t nm, v.length ≤ t.length := by
  intro v hv
  have hl : (t.take (hdr t)).length ≤ t.length := by rw [List.length_take]; omega
  unfold valsL getP headL fieldsP at hv
  obtain ⟨f, hf, rfl⟩ := List.mem_map.1 hv
  obtain ⟨e, he, rfl⟩ := List.mem_map.1 (List.mem_filter.1 hf).1
  have h1 := ents_in _ _ (Nat.le_refl _) e he
  have h2 := bare_len (e.2.drop (e.1.length + 1))
  rw [List.length_drop] at h2
  have h3 := unf_len (bare (e.2.drop (e.1.length + 1)))
  simp only
  omega
def tot : List Bs → Nat
  | [] => 0
  | a :: l => min a.length 10000 + tot l
theorem tot_append (l m : List Bs) : tot (l ++ m) = tot l + tot m := by
  induction l with
  | nil => simp [tot]
  | cons a l ih => rw [List.cons_append, tot, tot, ih]; omega
theorem tot_next (l : List Bs) (k : Nat) (hk : k < l.length) : tot (l.take (k + 1)) = tot (l.take k) + min l[k].length 10000 := by
  rw [List.take_succ_eq_append_getElem hk, tot_append]; rfl
theorem tot_le (l : List Bs) : tot l ≤ 10000 * l.length := by
  induction l with
  | nil => simp [tot]
  | cons a l ih => rw [tot, List.length_cons]; omega
/-- A truth is answered. -/
def AnyB (e : Ending) : Prop := ∃ z, e = .returned (.bool z)
set_option maxRecDepth 100000 in
set_option maxHeartbeats 4000000 in
theorem short_any {w : World} {a : Option Addr} {len cap : Nat} {l : List Bs} (h : TextsOk w a len cap l) (most : Int) : Calls Tryz.prog 15 #[.slice a len cap, .int .i64 most] w fun e w' => AnyB e ∧ w' = w := by
  obtain ⟨hr, rfl, hsm, hea⟩ := h
  unfold maxLen at hsm
  obtain ⟨hw, a', c', e1, hc, hr⟩ := hr
  simp only [Value.slice.injEq] at e1
  obtain ⟨rfl, _, rfl⟩ := e1
  have HM := hid hea
  clear hea
  rw [List.length_map] at *
  rcases hr with hr | ⟨g, o, rfl, hr, hg⟩
  · have : l = [] := by simpa using hr
    subst this
    by_cases hms : (0 : Int) ≤ most
    · go_enter Tryz.func15, Tryz.ntmps15
      go_wp2_with fail
      go_loop [5, 6] (fun v i => v = .int .i64 0 ∧ i = .int .i64 0) (fun _ _ => 0)
      case atStart => exact ⟨rfl, rfl⟩
      case round =>
        obtain ⟨rfl, rfl⟩ := hrel
        go_wp2_with fail
        go_ret
        first | exact ⟨⟨_, rfl⟩, rfl⟩ | exact ⟨_, rfl, rfl⟩
    · go_enter Tryz.func15, Tryz.ntmps15
      go_wp2_with fail
      go_loop [5, 6] (fun v i => v = .int .i64 0 ∧ i = .int .i64 0) (fun _ _ => 0)
      case atStart => exact ⟨rfl, rfl⟩
      case round =>
        obtain ⟨rfl, rfl⟩ := hrel
        go_wp2_with fail
        go_ret
        first | exact ⟨⟨_, rfl⟩, rfl⟩ | exact ⟨_, rfl, rfl⟩
  · have HR := hid hr
    clear hr
    go_enter Tryz.func15, Tryz.ntmps15
    go_wp2_with fail
    go_loop [5, 6] (fun v i => ∃ k : Nat, k ≤ l.length ∧ k ≤ 61 ∧ i = .int .i64 k ∧ v = .int .i64 (tot (l.take k))) (fun _ i => 61 - (intOf i).toNat)
    case atStart => exact ⟨0, by omega, by omega, rfl, rfl⟩
    case round =>
      obtain ⟨k, hk, hk31, rfl, rfl⟩ := hrel
      have htl := tot_le (l.take k)
      rw [List.length_take] at htl
      by_cases hlt : k < l.length
      · have hlt' : (k : Int) < l.length := by omega
        by_cases h30 : k ≤ 60
        · have h30' : (k : Int) ≤ 60 := by omega
          have HN := hid (tot_next l k hlt)
          have hsz := str_size l[k]
          have hml := HM.out l[k] (List.getElem_mem hlt)
          unfold maxLen at hml
          have hc0 : w.cell? ⟨g, o + k, none⟩ = some (.string (str l[k])) := by
            have := HR.out.rec k (sR l[k]) (by rw [List.getElem?_map, List.getElem?_eq_getElem hlt]; rfl) 0 _ rfl
            rw [Nat.mul_one] at this
            exact this
          generalize tot (l.take k) = T at *
          generalize hq : l[k].length = M at *
          have hT : (T : Int) ≤ 10000000 := by omega
          clear htl hq
          go_wp2_with fail
          go_round
          case rel => exact ⟨k + 1, by omega, by omega, by go_num, by rw [HN.out]; congr 1; omega⟩
          case measure => simp [intOf]; omega
        · have h30' : ¬ (k : Int) ≤ 60 := by omega
          have hlen : ¬ (l.length : Int) ≤ 60 := by omega
          go_wp2_with fail
          go_ret
          first | exact ⟨⟨_, rfl⟩, rfl⟩ | exact ⟨_, rfl, rfl⟩
      · have hlt' : ¬ (k : Int) < l.length := by omega
        clear htl
        generalize tot (l.take k) = T at *
        by_cases hlen : (l.length : Int) ≤ 60
        · by_cases ht : (T : Int) ≤ most
          · go_wp2_with fail
            go_ret
            first | exact ⟨⟨_, rfl⟩, rfl⟩ | exact ⟨_, rfl, rfl⟩
          · go_wp2_with fail
            go_ret
            first | exact ⟨⟨_, rfl⟩, rfl⟩ | exact ⟨_, rfl, rfl⟩
        · go_wp2_with fail
          go_ret
          first | exact ⟨⟨_, rfl⟩, rfl⟩ | exact ⟨_, rfl, rfl⟩
end Go.Proofs.YtaniljfjmbifnaaGreatDoor.H
namespace Go.Proofs.YtaniljfjmbifnaaGreatDoor.H
open Go.RowKit
set_option linter.unusedVariables false
set_option linter.unusedSimpArgs false

/-- A message that comes in. -/
structure Ml where
  uid : Int
  fa : Option Addr
  fn : Nat
  fc : Nat
  d1 : Int
  d2 : Int
  d3 : Int
  d4 : Int
  d5 : Int
  d6 : Int
  d7 : Int
  text : Bs
  size : Int
  id : Int
def Ml.c (m : Ml) : List Value := [.int .i64 m.uid, .slice m.fa m.fn m.fc, .int .i64 m.d1, .int .i64 m.d2, .int .i64 m.d3, .int .i64 m.d4, .int .i64 m.d5, .int .i64 m.d6, .int .i64 m.d7, .string (str m.text), .int .i64 m.size, .int .i64 m.id]
def Ml.v (m : Ml) : Value := .agg m.c.toArray
def MlAt (w : World) (b : Nat) (m : Ml) : Prop := w.heap[b]? = some (.cells m.c.toArray 33 (0, 0))
theorem MlAt.later {w w' : World} {b : Nat} {m : Ml} (h : MlAt w b m) (hb : Below w.heap.size w w') : MlAt w' b m := (hb.block b (Array.getElem?_eq_some_iff.1 h).1).trans h
/-- One of the eight. -/
def oneOf (op : Bs) : Prop := op = [66, 69, 70, 79, 82, 69] ∨ op = [79, 78] ∨ op = [83, 73, 78, 67, 69] ∨ op = [83, 69, 78, 84, 66, 69, 70, 79, 82, 69] ∨ op = [83, 69, 78, 84, 79, 78] ∨ op = [83, 69, 78, 84, 83, 73, 78, 67, 69] ∨ op = [76, 65, 82, 71, 69, 82] ∨ op = [83, 77, 65, 76, 76, 69, 82]
/-- What it answers. -/
def asksN (m : Ml) (op : Bs) (n : Int) : Bool :=
  if op = [76, 65, 82, 71, 69, 82] then decide (n < (m.text.length : Int)) else if op = [83, 77, 65, 76, 76, 69, 82] then decide ((m.text.length : Int) < n)
  else if op = [83, 69, 78, 84, 66, 69, 70, 79, 82, 69] ∨ op = [83, 69, 78, 84, 79, 78] ∨ op = [83, 69, 78, 84, 83, 73, 78, 67, 69] then sentB m.text (op.drop 4) n else placedB op (D.daysV m.d1 m.d2 m.d3) n
set_option maxRecDepth 100000 in
theorem asks_n {w : World} (he : Env w) (m : Ml) (ht : m.text.length ≤ 1000000) (n : Int) (op : Bs) (ho : oneOf op) :
    Calls Tryz.prog 11 #[.agg #[.string (str op), .string (str []), .string (str []), .int .i64 n, .slice none 0 0, .slice none 0 0], .agg #[.int .i64 m.uid, .slice m.fa m.fn m.fc, .int .i64 m.d1, .int .i64 m.d2, .int .i64 m.d3, .int .i64 m.d4, .int .i64 m.d5, .int .i64 m.d6, .int .i64 m.d7, .string (str m.text), .int .i64 m.size, .int .i64 m.id], .int .i64 1, .int .i64 1, .int .i64 1] w fun e w' => e = .returned (.bool (asksN m op n)) ∧ Below w.heap.size w w' := by
  refine match2_any op [] [] n none 0 0 none 0 0 m.uid m.fa m.fn m.fc m.d1 m.d2 m.d3 m.d4 m.d5 m.d6 m.d7 m.text m.size m.id 1 1 1 (asksN m op n) ?_
  intro w1 b hb hL hB
  have he1 := he.later hB
  have hp := he.pos
  have hb0 : 0 < b := by omega
  have hf : FsOk w1 ⟨m.uid, (m.fa, m.fn, m.fc), m.d1, m.d2, m.d3, m.d4, m.d5, m.d6, m.d7, m.text, m.size, m.id, 1, 1, 1, false, (none, 0, 0), 0, false⟩ := fun h => by cases h
  have hv : ∀ v ∈ valsL m.text dateN, v.length ≤ 1000000 := fun v hv => Nat.le_trans (vals_short _ _ v hv) ht
  rcases ho with rfl | rfl | rfl | rfl | rfl | rfl | rfl | rfl
  · exact before_any he1 hb0 hL hf ht _ [] [] n none 0 0 none 0 0 rfl
  · exact on_any he1 hb0 hL hf ht _ [] [] n none 0 0 none 0 0 rfl
  · exact since_any he1 hb0 hL hf ht _ [] [] n none 0 0 none 0 0 rfl
  · exact sentbefore_any he1 hb0 hL hf ht _ [] [] n none 0 0 none 0 0 rfl hv
  · exact senton_any he1 hb0 hL hf ht _ [] [] n none 0 0 none 0 0 rfl hv
  · exact sentsince_any he1 hb0 hL hf ht _ [] [] n none 0 0 none 0 0 rfl hv
  · exact larger_any he1 hb0 hL hf ht _ [] [] n none 0 0 none 0 0 rfl
  · exact smaller_any he1 hb0 hL hf ht _ [] [] n none 0 0 none 0 0 rfl
/-- The same as a number. -/
def oneI (z : Bool) : Int := if z then 1 else 0
theorem cell_b {w : World} {b : Nat} {v : Value} {t : TypeId} (h : w.heap[b]? = some (.cells #[v] t (0, 0))) : w.cell? ⟨b, 0, none⟩ = some v := cell_of h rfl
set_option maxRecDepth 100000 in
set_option maxHeartbeats 4000000 in
theorem is_any {w : World} (he : Env w) {nb mb : Nat} {m : Ml} (hm : MlAt w mb m) (n : Int) (hn : w.cell? ⟨nb, 0, none⟩ = some (.int .i64 n)) (ht : m.text.length ≤ 1000000) (op : Bs) (ho : oneOf op) :
    Calls Tryz.prog 16 #[.string (str op), .pointer (some ⟨nb, 0, none⟩), .pointer (some ⟨mb, 0, none⟩)] w fun e w' => e = .returned (.int .i64 (oneI (asksN m op n))) ∧ Below w.heap.size w w' := by
  have c0 : w.cell? ⟨mb, 0, none⟩ = some (.int .i64 m.uid) := cell_of hm rfl
  have c1 : w.cell? ⟨mb, 1, none⟩ = some (.slice m.fa m.fn m.fc) := cell_of hm rfl
  have c2 : w.cell? ⟨mb, 2, none⟩ = some (.int .i64 m.d1) := cell_of hm rfl
  have c3 : w.cell? ⟨mb, 3, none⟩ = some (.int .i64 m.d2) := cell_of hm rfl
  have c4 : w.cell? ⟨mb, 4, none⟩ = some (.int .i64 m.d3) := cell_of hm rfl
  have c5 : w.cell? ⟨mb, 5, none⟩ = some (.int .i64 m.d4) := cell_of hm rfl
  have c6 : w.cell? ⟨mb, 6, none⟩ = some (.int .i64 m.d5) := cell_of hm rfl
  have c7 : w.cell? ⟨mb, 7, none⟩ = some (.int .i64 m.d6) := cell_of hm rfl
  have c8 : w.cell? ⟨mb, 8, none⟩ = some (.int .i64 m.d7) := cell_of hm rfl
  have c9 : w.cell? ⟨mb, 9, none⟩ = some (.string (str m.text)) := cell_of hm rfl
  have c10 : w.cell? ⟨mb, 10, none⟩ = some (.int .i64 m.size) := cell_of hm rfl
  have c11 : w.cell? ⟨mb, 11, none⟩ = some (.int .i64 m.id) := cell_of hm rfl
  have C := asks_n he m ht n op ho
  have HD : Hid (asksN m op n = asksN m op n) := rfl
  generalize asksN m op n = z at *
  clear hm he ho ht
  go_enter Tryz.func16, Tryz.ntmps16
  go_wp2_with fail
  refine C.mono ?_
  rintro e w1 ⟨rfl, b1⟩
  have B1 := hid b1
  clear b1 C
  cases z
  · go_wp2_with fail
    go_ret
    exact ⟨rfl, B1.out⟩
  · go_wp2_with fail
    go_ret
    exact ⟨rfl, B1.out⟩
theorem open_mailA {H : Type} {enc : TypeId × Value → H} {W : World} {held : Bool} {n : Nat} {cs : Array Value} {y : DataW H × List MemPlace} (hl : cs.toList.length = 12) (h : DataW.trod enc Tryz.prog W 0 (fun _ => true) held n 33 cs.toList = some y) :
    ∃ (m : Ml) (l : List Bs), cs = m.c.toArray ∧ MailOk W m.fa m.fn m.fc l m.text := by
  obtain ⟨uid, fa, fn, fc, l, d1, d2, d3, d4, d5, d6, d7, text, size, id, hcs, hok, _⟩ := open_mail n _ y hl h
  exact ⟨⟨uid, fa, fn, fc, d1, d2, d3, d4, d5, d6, d7, text, size, id⟩, l, by rw [show cs = cs.toList.toArray from rfl, hcs]; rfl, hok⟩
theorem TextsOk.later {w w' : World} {a : Option Addr} {len cap : Nat} {l : List Bs} (h : TextsOk w a len cap l) (hb : Below w.heap.size w w') : TextsOk w' a len cap l := ⟨h.rl.later hb, h.len_, h.small, h.each⟩
end Go.Proofs.YtaniljfjmbifnaaGreatDoor.H
