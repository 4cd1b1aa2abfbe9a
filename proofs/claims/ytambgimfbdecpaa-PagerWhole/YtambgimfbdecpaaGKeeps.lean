/- What this text holds: keeps that are handed in, and a crash; a list of pages, copied. -/
import Derived.Test.YtambgimfbdecpaaGUse
import Derived.Deep.SlicePairs
import Derived.Laws.AppendOwnNone
namespace Go.Proofs.Ytambgimfbdecpaa
open Go.RowKit Go.Maps
set_option linter.unusedVariables false

/-- A slice of keeps that was handed in. -/
def KeepsOk (w : World) (ka : Option Addr) (klen : Nat) (ks : List (Int × Int)) : Prop :=
  ks.length = klen ∧ klen ≤ maxLen ∧ (klen = 0 ∨ ∃ kb ko, ka = some ⟨kb, ko, none⟩ ∧ KeepsAt w kb ko ks)
theorem KeepsOk.later {w w' : World} {ka : Option Addr} {klen : Nat} {ks : List (Int × Int)} (h : KeepsOk w ka klen ks) (hb : Below w.heap.size w w') : KeepsOk w' ka klen ks := by
  refine ⟨h.1, h.2.1, ?_⟩
  rcases h.2.2 with h0 | ⟨kb, ko, e, hk⟩
  · exact .inl h0
  · exact .inr ⟨kb, ko, e, fun j hj => ⟨cell_later hb (hk j hj).1, cell_later hb (hk j hj).2⟩⟩
theorem crash_all {w : World} {B b : Nat} {own : List Nat} {D : DS} (h : Disk w B b own D) (ka : Option Addr) (klen kcap : Nat) (ks : List (Int × Int)) (hk : KeepsOk w ka klen ks) :
    Calls Try.prog 19 #[.pointer (some ⟨b, 0, none⟩), .slice ka klen kcap] w (MadeDisk w (D.crash ks)) := by
  obtain ⟨bs, sc, wv, hd, rfl⟩ := h
  obtain ⟨h1, h2, h3⟩ := hk
  rcases h3 with h0 | ⟨kb, ko, rfl, hk⟩
  · subst h0
    obtain rfl : ks = [] := List.eq_nil_of_length_eq_zero h1
    exact crash_none hd ka kcap
  · subst h1
    exact crash_some hd kb ko kcap ks h2 hk
section
variable {H : Type} {enc : TypeId × Value → H} {W : World} {held : Bool}
theorem open_keeps {fuel : Nat} {ka : Option Addr} {klen kcap : Nat} {x : DataW H × List MemPlace} (h : DataW.trod enc Try.prog W 0 (fun _ => true) held fuel 40 [.slice ka klen kcap] = some x) : ∃ ks, KeepsOk W ka klen ks := by
  rcases Deep.open_slice_pairs Try.underlying40 Try.underlying94 (by kernel_rfl) rfl rfl (by kernel_rfl) (by kernel_rfl) h with ⟨hcs, _⟩ | ⟨a, len, cap, m, n, V0, V1, D0, D1, P0, P1, hcs, _, hl, hm, hmm, _, hx⟩
  · simp at hcs
    obtain ⟨rfl, rfl, rfl⟩ := hcs
    exact ⟨[], rfl, by unfold maxLen; omega, .inl rfl⟩
  · simp only [List.cons.injEq, Value.slice.injEq, and_true] at hcs
    obtain ⟨rfl, rfl, rfl⟩ := hcs
    simp only [if_true] at hmm
    subst hmm
    have hint : ∀ i, i < m → ∃ p : Int × Int, V0 i = .int .i64 p.1 ∧ V1 i = .int .i64 p.2 := fun i hi => by
      obtain ⟨_, _, h3, h4⟩ := hx i hi
      obtain ⟨y0, e0, _⟩ := DataW.trod_int Try.underlying3 h3
      obtain ⟨y1, e1, _⟩ := DataW.trod_int Try.underlying3 h4
      simp at e0 e1
      exact ⟨(y0, y1), e0, e1⟩
    obtain ⟨f, hf⟩ := Deep.choose_lt hint
    refine ⟨(List.range klen).map f, by simp, by omega, ?_⟩
    by_cases h0 : klen = 0
    · exact .inl h0
    · right
      obtain ⟨kb, ko, sp⟩ := a
      have hsp : sp = none := by
        have := (hx 0 (by omega)).1
        rw [Nat.zero_mul] at this
        exact spot_none this
      subst hsp
      refine ⟨kb, ko, rfl, fun j hj => ?_⟩
      simp only [List.length_map, List.length_range] at hj
      obtain ⟨h1, h2, _, _⟩ := hx j (by omega)
      obtain ⟨e0, e1⟩ := hf j (by omega)
      rw [Addr.add_mid] at h1 h2
      rw [e0] at h1
      rw [e1] at h2
      simp only [List.getElem_map, List.getElem_range]
      exact ⟨h1, by rw [← Nat.add_assoc] at h2; exact h2⟩
end
theorem disk_base {w : World} {B B' b : Nat} {own : List Nat} {D : DS} (h : Disk w B b own D) (hB : B' ≤ B) : Disk w B' b own D := by
  obtain ⟨bs, sc, wv, hd, rfl⟩ := h
  exact ⟨bs, sc, wv, hd.base hB, rfl⟩
/-- The disk beneath a pager. -/
theorem Pgr.disk {w : World} {B b db : Nat} {all : List Nat} {P : PS} (h : Pgr w B b db all P) : ∃ own, Disk w B db own P.D ∧ P.D.byt := by
  obtain ⟨gs, mb, own, h, rfl⟩ := h
  exact ⟨own, h.disk, h.byt⟩
/-- A fuse is set. -/
theorem fuse_p {w : World} {B b db : Nat} {all : List Nat} {P : PS} (h : Pgr w B b db all P) (n : Int) (hn : n ≤ 9223372036854775807) :
    Calls Try.prog 17 #[.pointer (some ⟨db, 0, none⟩), .int .i64 n] w (DidP w B b db all (.tuple #[]) { P with D := P.D.fused n }) := by
  obtain ⟨gs, mb, own, h, rfl⟩ := h
  refine (fuse_all h.disk n hn).mono ?_
  rintro e w' ⟨rfl, hd, hk⟩
  exact DidP.at (h.setDisk hd hk (fun k hk => .inl hk) rfl (h.byt.fused n)) (hk.mono (fun i _ hi => by simp [hi]))
/-- A list of pages is copied. -/
theorem pgs_copy {w : World} {B : Nat} {v : Value} {ps : List (Int × ByteArray)} (h : PgsAt w B v ps) (hl : ps.length ≤ 1000) :
    ∃ v' w', (Builtin.append_ #[57, 57] 57 #[.slice (some ⟨w.heap.size, 0, none⟩) 0 0, v]).run Try.prog (w.alloc (.cells #[] 65)) = .ok v' w' ∧ PgsAt w' w.heap.size v' ps ∧ Below w.heap.size w w' := by
  obtain ⟨i, hi, hz0, hz1, hz2⟩ := info_parts Try.info65
  have hown0 : (w.alloc (.cells #[] 65)).ownsRow w.heap.size 65 2 (.slice (some ⟨w.heap.size, 0, none⟩) 0 0) 0 [] := World.ownsRow_made w #[] 0 (Nat.le_refl _) (by unfold maxLen; omega) (by simp)
  have hbel : Below w.heap.size w (w.alloc (.cells #[] 65)) := (Below.refl _ _).alloc (Nat.le_refl _) _
  rcases h.2 with ⟨h1, h2⟩ | ⟨g, cap, cur, h1, _⟩
  · obtain rfl : ps = [] := List.eq_nil_of_length_eq_zero h2
    subst h1
    refine ⟨_, _, run_append_owned_none (P := Try.prog) (w.alloc (.cells #[] 65)) w.heap.size 57 57 65 i 2 Try.underlying57 hi _ 0 [] hown0, hown0, hbel⟩
  · subst h1
    obtain ⟨v', w', hr, ho, hg, _⟩ := run_append_own (P := Try.prog) (w.alloc (.cells #[] 65)) w.heap.size 57 57 65 i _ 2 24 Try.underlying57 hi hz0 hz1 hz2 rfl (by omega) _ 0 [] hown0 ⟨g, 0, none⟩ ps.length cap (pgc ps)
      (by rw [pgc_length]) (cells_of_owned (World.ownsRow.alloc h _)) (pgc_oneCell _) (by unfold maxLen; omega) (by omega) (by simp)
    rw [Nat.zero_add, List.nil_append] at ho
    exact ⟨v', w', hr, ho, hbel.grown hg (by simp) (fun k hk => by simp only [Value.ownBlock, Option.some.injEq] at hk; omega)⟩
theorem PAt.base {w : World} {B B' b db gs mb : Nat} {own : List Nat} {P : PS} (h : PAt w B b db gs mb own P) (hB : B' ≤ B) : PAt w B' b db gs mb own P :=
  { h with disk := disk_base h.disk hB, hb := Nat.le_trans hB h.hb, hgs := Nat.le_trans hB h.hgs, hmb := Nat.le_trans hB h.hmb }
theorem PgsAt.base {w : World} {B B' : Nat} {v : Value} {ps : List (Int × ByteArray)} (h : PgsAt w B v ps) (hB : B' ≤ B) : PgsAt w B' v ps := ownsRow_base h hB

/-- Open, where a root lies on the disk. -/
theorem open_yes {w : World} {B db : Nat} {own : List Nat} {D : DS} (h : Disk w B db own D) (hy : D.byt) (h4 : 4 ≤ D.n) (hg : D.gone = false) {g : Int} {r : ByteArray} (hr : D.roots 2 = (g, r)) (hg0 : g ≠ 0) :
    Calls Try.prog 33 #[.pointer (some ⟨db, 0, none⟩)] w fun e w' => ∃ b gs mb, e = .returned (.tuple #[.pointer (some ⟨b, 0, none⟩), .int .i64 0]) ∧ (w.heap.size ≤ b ∧ w.heap.size ≤ gs ∧ w.heap.size ≤ mb) ∧ Pgr w' B b db (b :: gs :: mb :: own) { D := D, st := List.replicate D.n (0, 0), pins := [], pm := 0, gen := g, root := r, dead := false } ∧ Below w.heap.size w w' := by
  refine (open_at h hy).mono ?_
  rintro e w' ⟨⟨pv, rfl, hp⟩, hb⟩
  have h0 : D.openE = 0 := by unfold DS.openE; rw [if_neg (by omega), hg, if_neg (by decide), hr, if_neg hg0]
  rcases hp with ⟨h1, _⟩ | ⟨_, b, gs, mb, rfl, h1, h2, h3, hp⟩
  · exact absurd h0 h1
  · have e : PS.at D 2 = { D := D, st := List.replicate D.n (0, 0), pins := [], pm := 0, gen := g, root := r, dead := false } := by unfold PS.at; rw [hr]; rfl
    rw [e] at hp
    exact ⟨b, gs, mb, by rw [h0], ⟨h1, h2, h3⟩, ⟨gs, mb, own, hp, rfl⟩, hb⟩
theorem anew_start (D : DS) (hn : D.n = 30) (hok : D.ok) (ps : List (Int × ByteArray)) (g : Int) (r : ByteArray) : Anew D ps 0 { D := D, st := List.replicate D.n (0, 0), pins := [], pm := 0, gen := g, root := r, dead := false } := by
  refine ⟨rfl, ⟨hok, rfl⟩, by simp [hn], fun i hi => .inr ?_⟩
  show stOf (List.replicate D.n (0, 0)) i = 0
  rw [hn, blank_room 30 (by omega)]
  rcases Nat.lt_or_ge i 2 with h | h
  · rcases (by omega : i = 0 ∨ i = 1) with rfl | rfl <;> rfl
  · rw [roomSt_at 2 30 2 i (by omega) (by omega) h hi, if_neg (by omega)]
theorem hear_D (P : PS) (e : Int) : (P.hear e).D = P.D := by unfold PS.hear; split <;> rfl
theorem layRoot_n (D : DS) (g : Int) (X : List Int) : (D.layRoot g X).2.n = D.n := by
  unfold DS.layRoot
  split
  · split
    · rw [(flush_grow _).1, (write_grow _ _ _).1, (flush_grow _).1]
    · rw [(write_grow _ _ _).1, (flush_grow _).1]
  · exact (flush_grow _).1
theorem commit_n (P : PS) (s : ByteArray) : (P.commit s).2.D.n = P.D.n := by
  unfold PS.commit
  split
  · rfl
  · split
    · rfl
    · split
      · exact layRoot_n _ _ _
      · rw [hear_D]; exact layRoot_n _ _ _
theorem pages_nodup (ss : List ByteArray) (m : Nat) : ((pagesOf ss m).map (·.1)).Nodup := by
  rw [show (pagesOf ss m).map (·.1) = (List.range m).map fun i => ((i + 2 : Nat) : Int) by simp [pagesOf, Function.comp_def]]
  refine List.Pairwise.map _ (fun a b hab => ?_) List.nodup_range
  omega
end Go.Proofs.Ytambgimfbdecpaa
