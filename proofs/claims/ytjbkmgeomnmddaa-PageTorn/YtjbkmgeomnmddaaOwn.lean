/- What this text holds: bytes that are handed in, and a copy of them. -/
import Derived.Test.YtjbkmgeomnmddaaRROpen
import Derived.Laws.AppendOwnNone
namespace Go.Proofs.Ytjbkmgeomnmddaa
open Go.RowKit
set_option linter.unusedVariables false

/-- A slice that is nil has no room. -/
def NilNone (a : Option Addr) (len cap : Nat) : Prop := a = none → len = 0 ∧ cap = 0
section
variable {H : Type} {enc : TypeId × Value → H} {W : World} {held : Bool}
theorem open_nil {fuel : Nat} {a : Option Addr} {len cap : Nat} {x : DataW H × List MemPlace} (h : DataW.trod enc Try.prog W 0 (fun _ => true) held fuel 22 [.slice a len cap] = some x) : NilNone a len cap := by
  rcases Go.ChangeShapes.open_ints Try.underlying22 Try.underlying5 cells5 h with ⟨hcs, _⟩ | ⟨a', len', cap', zs, hcs, _⟩
  · simp only [List.cons.injEq, Value.slice.injEq, and_true] at hcs
    obtain ⟨rfl, rfl, rfl⟩ := hcs
    exact fun _ => ⟨rfl, rfl⟩
  · simp only [List.cons.injEq, Value.slice.injEq, and_true] at hcs
    obtain ⟨rfl, rfl, rfl⟩ := hcs
    intro e
    cases e
end

theorem owns_sOut {w' : World} {B n : Nat} {v : Value} {l : List Int} (ho : w'.ownsRow B 5 1 v n (bc l)) (hb : Byt l) : SOut w' v l := by
  have hl := ho.1
  rw [bc_length, Nat.mul_one] at hl
  subst hl
  rcases ho.2 with ⟨h', h0⟩ | ⟨g, cap, cur, h', _, _, hnc, hcm, _⟩
  · have e : l = [] := List.eq_nil_of_length_eq_zero h0
    subst e
    rw [h']
    exact sOut_nil _
  · subst h'
    exact ⟨_, cap, rfl, fun j x hx => ⟨_, rfl, cells_of_owned ho j _ (by rw [bc, List.getElem?_map, hx, Option.map_some])⟩, rfl, hb, hnc, hcm⟩

/-- append([]byte{}, b...) -/
theorem wpList_clone {w : World} {ops : Array Oper} {rest : List Oper} {o : Oper} {a : Act} {Q : Exit → Act → World → Prop} (hgd : o.guard = none) (s x : Operand)
    (ho : o.op = .call { callee := .builtin .append, args := #[s, x], argTypes := #[22, 22] }) (hs : a.eval s = .slice (some ⟨w.heap.size, 0, none⟩) 0 0)
    {ad : Option Addr} {len cap : Nat} {l : List Int} (hx : a.eval x = .slice ad len cap) (H : BArg w ad len cap l) (hn : NilNone ad len cap) (hl : len ≤ 5000)
    (h : ∀ v' w', SOut w' v' l → Below w.heap.size w w' → wpList Try.prog ops Q rest (a.put o.dst v') w') : wpList Try.prog ops Q (o :: rest) a (w.alloc (.cells #[] 5)) := by
  obtain ⟨i, hi, hz0, hz1, hz2⟩ := info_parts Try.info5
  have hown0 : (w.alloc (.cells #[] 5)).ownsRow w.heap.size 5 1 (.slice (some ⟨w.heap.size, 0, none⟩) 0 0) 0 [] := World.ownsRow_made w #[] 0 (Nat.le_refl _) (by unfold maxLen; omega) (by simp)
  have hbel : Below w.heap.size w (w.alloc (.cells #[] 5)) := (Below.refl _ _).alloc (Nat.le_refl _) _
  cases ad with
  | none =>
    obtain ⟨rfl, rfl⟩ := hn rfl
    have e : l = [] := List.eq_nil_of_length_eq_zero H.len_
    subst e
    refine wpList_append_own_none hgd s x 22 ho w.heap.size 5 i 1 Try.underlying22 hi _ 0 [] hs hown0 hx (h _ _ ?_ hbel)
    exact owns_sOut (l := []) hown0 (fun x hx => nomatch hx)
  | some p =>
    have hc1 : ∀ j v, (bc l)[j]? = some v → (w.alloc (.cells #[] 5)).cell? (p.add j) = some v := by
      intro j v hv
      have hcc := H.at_.cells j v hv
      rw [World.cell?_alloc_some _ _ _ (by simp [hcc]), hcc]
    refine wpList_append_own _ hgd s x 22 ho w.heap.size 5 i (.int .u8 0) 1 1 Try.underlying22 hi hz0 hz1 hz2 rfl (by omega) _ 0 [] hs hown0 p len cap (bc l) hx (by rw [bc_length, Nat.mul_one]; exact H.len_) hc1 (bc_oneCell _) (by unfold maxLen; omega) (by omega) (by simp) ?_
    intro v' w' ho' hg hn'
    rw [Nat.zero_add, List.nil_append] at ho'
    exact h v' w' (owns_sOut ho' H.byt) (hbel.grown hg (by simp) (fun k hk => by simp only [Value.ownBlock, Option.some.injEq] at hk; omega))

/-- Open, and OpenRoot, of any bytes. -/
theorem openV_len {l : List Int} (h : l.length ≠ 512) : openV l = .tuple #[.int .i64 0, .int .i64 0, .string ⟨#[]⟩, .int .i64 11] := openV_no (fun hp => h hp.1)
theorem ropenV_len {l : List Int} (h : l.length ≠ 512) : ropenV l = .tuple #[.int .i64 0, .string ⟨#[]⟩, .int .i64 11] := ropenV_no (fun hp => h hp.1)
theorem open_all {w : World} {a : Option Addr} {len cap : Nat} {l : List Int} (h : BArg w a len cap l) :
    Calls Try.prog 17 #[.slice a len cap] w fun e w' => e = .returned (openV l) ∧ Below w.heap.size w w' := by
  have hl := h.len_
  by_cases hn : len = 512
  · subst hn
    obtain ⟨p, rfl, _⟩ := h.at_ 0 (l[0]'(by omega)) (by rw [List.getElem?_eq_getElem])
    exact open_any h.at_ hl h.byt h.le h.max
  · rw [openV_len (by omega)]
    refine (open_len a len cap (Nat.le_trans h.le h.max) hn).mono ?_
    rintro e w' ⟨rfl, rfl⟩
    exact ⟨rfl, Below.refl _ _⟩
theorem ropen_all {w : World} {a : Option Addr} {len cap : Nat} {l : List Int} (h : BArg w a len cap l) :
    Calls Try.prog 19 #[.slice a len cap] w fun e w' => e = .returned (ropenV l) ∧ Below w.heap.size w w' := by
  have hl := h.len_
  by_cases hn : len = 512
  · subst hn
    obtain ⟨p, rfl, _⟩ := h.at_ 0 (l[0]'(by omega)) (by rw [List.getElem?_eq_getElem])
    exact ropen_any h.at_ hl h.byt h.le h.max
  · rw [ropenV_len (by omega)]
    refine (ropen_len a len cap (Nat.le_trans h.le h.max) hn).mono ?_
    rintro e w' ⟨rfl, rfl⟩
    exact ⟨rfl, Below.refl _ _⟩
theorem rdoc_all {w : World} {S : ByteArray} {l : List Int} (hS : bOf S = l) (hm : S.size ≤ maxLen) :
    Calls Try.prog 18 #[.string S] w fun e w' => e = .returned (openV l) ∧ Below w.heap.size w w' := by
  have hsz : S.size = l.length := by rw [← hS, bOf_length]
  by_cases hn : l.length = 512
  · exact rdoc_any S l hS w hn
  · rw [openV_len hn]
    refine (rdoc_len S w hm (by omega)).mono ?_
    rintro e w' ⟨rfl, rfl⟩
    exact ⟨rfl, Below.refl _ _⟩
theorem rrdoc_all {w : World} {S : ByteArray} {l : List Int} (hS : bOf S = l) (hm : S.size ≤ maxLen) :
    Calls Try.prog 20 #[.string S] w fun e w' => e = .returned (ropenV l) ∧ Below w.heap.size w w' := by
  have hsz : S.size = l.length := by rw [← hS, bOf_length]
  by_cases hn : l.length = 512
  · exact rrdoc_any S l hS w hn
  · rw [ropenV_len hn]
    refine (rrdoc_len S w hm (by omega)).mono ?_
    rintro e w' ⟨rfl, rfl⟩
    exact ⟨rfl, Below.refl _ _⟩
/-- The parts of what Open answers. -/
theorem openV_parts (l : List Int) : ∃ k g S e, openV l = .tuple #[.int .i64 k, .int .i64 g, .string S, .int .i64 e] := by
  by_cases h : isPage l
  · exact ⟨_, _, _, _, openV_yes h⟩
  · exact ⟨_, _, _, _, openV_no h⟩
theorem ropenV_parts (l : List Int) : ∃ g S e, ropenV l = .tuple #[.int .i64 g, .string S, .int .i64 e] := by
  by_cases h : isRoot l
  · exact ⟨_, _, _, ropenV_yes h⟩
  · exact ⟨_, _, _, ropenV_no h⟩
end Go.Proofs.Ytjbkmgeomnmddaa
