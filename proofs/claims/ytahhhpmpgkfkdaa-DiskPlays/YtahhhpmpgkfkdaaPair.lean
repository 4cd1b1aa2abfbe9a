/- What this text holds: a disk of the program and one of the document, side by side, and each call of both. -/
import Derived.Test.YtahhhpmpgkfkdaaRCrash
namespace Go.Proofs.Ytahhhpmpgkfkdaa
open Go.RowKit
set_option linter.unusedVariables false

def RDid (w : World) (B b : Nat) (own : List Nat) (r : Int) (D' : DS) (e : Ending) (w' : World) : Prop :=
  e = .returned (.int .i64 r) ∧ ∃ own', RDisk w' B b own' D' ∧ Kept own w w' ∧ ∀ k ∈ own', k ∈ own ∨ w.heap.size ≤ k

theorem rflush_all {w : World} {B b : Nat} {own : List Nat} {D : DS} (h : RDisk w B b own D) (hs : D.steps < 1000) :
    Calls Try.prog 38 #[.pointer (some ⟨b, 0, none⟩)] w (RDid w B b own D.flush.1 D.flush.2) := by
  obtain ⟨bs, sc, wv, hd, rfl⟩ := h
  cases hp : D.step.1 with
  | true =>
    refine (rflush_yes hd hs hp).mono ?_
    rintro e w' ⟨rfl, hd', hk⟩
    simp only [DS.flush, hp, if_true]
    refine ⟨rfl, _, ⟨bs, sc, _, hd', rfl⟩, hk.mono (fun k _ h => by simp only [List.mem_cons, List.not_mem_nil, or_false] at h ⊢; rcases h with h | h; exact .inl h; exact .inr (.inl h)), fun k hk => .inl ?_⟩
    simp only [Value.ownBlock, Option.toList_none, List.mem_cons, List.not_mem_nil, or_false] at hk ⊢
    rcases hk with h | h
    · exact .inl h
    · exact .inr (.inl h)
  | false =>
    refine (rflush_power hd hs hp).mono ?_
    rintro e w' ⟨rfl, hd', hk⟩
    simp only [DS.flush, hp]
    exact ⟨rfl, _, ⟨bs, sc, _, hd', rfl⟩, hk.mono (fun k _ h => by simp only [List.mem_cons, List.not_mem_nil, or_false] at h; simp [h]), fun k hk => .inl hk⟩

theorem rwrite_all {w : World} {B b : Nat} {own : List Nat} {D : DS} (h : RDisk w B b own D) (hs : D.steps < 1000) (hwl : D.waits.length < 200) (i : Int) (x : Addr) (len cap : Nat) (l : List Int) (hm : len ≤ maxLen) (hl1 : l.length = len) (hx : SrcAt x l w) (ha : x.block ∉ own) :
    Calls Try.prog 36 #[.pointer (some ⟨b, 0, none⟩), .int .i64 i, .slice (some x) len cap] w (RDid w B b own (D.write i l).1 (D.write i l).2) := by
  obtain ⟨bs, sc, wv, hd, rfl⟩ := h
  by_cases h1 : len = 512
  · subst h1
    by_cases h2 : 0 ≤ i ∧ i < D.n
    · obtain ⟨q, rfl⟩ : ∃ q : Nat, i = q := ⟨i.toNat, by omega⟩
      cases hp : D.step.1 with
      | true =>
        refine (rwrite_yes hd q x cap l hl1 hx (fun hm => ha (by simp only [List.mem_cons] at hm ⊢; rcases hm with h | h; exact .inl h; exact .inr (.inr h))) (by omega) hs hp hwl).mono ?_
        rintro e w' ⟨rfl, wv', hd', hk, hfr⟩
        have e1 : D.write q l = (0, { D.step.2 with waits := D.step.2.waits ++ [((q : Int), l)] }) := by simp only [DS.write, hl1, ne_eq, not_true_eq_false, if_false, h2, hp, if_true]; simp
        rw [e1]
        refine ⟨rfl, _, ⟨bs, sc, wv', hd', rfl⟩, hk.mono (fun k _ h => by simp only [List.mem_cons] at h ⊢; rcases h with h | h; exact .inl h; exact .inr (.inr h)), fun k hk => ?_⟩
        simp only [List.mem_cons, Option.mem_toList] at hk ⊢
        rcases hk with h | h | h
        · exact .inl (.inl h)
        · exact .inl (.inr (.inl h))
        · rcases hfr k h with h | h
          · exact .inl (.inr (.inr h))
          · exact .inr h
      | false =>
        refine (rwrite_power hd q (some x) cap (by omega) hs hp).mono ?_
        rintro e w' ⟨rfl, hd', hk⟩
        have e1 : D.write q l = (9, D.step.2) := by simp only [DS.write, hl1, ne_eq, not_true_eq_false, if_false, h2, hp]; simp
        rw [e1]
        exact ⟨rfl, _, ⟨bs, sc, wv, hd', rfl⟩, hk.mono (fun k _ h => by simp only [List.mem_cons, List.not_mem_nil, or_false] at h; simp [h]), fun k hk => .inl hk⟩
    · refine (rwrite_range hd i (some x) cap h2).mono ?_
      rintro e w' ⟨rfl, rfl⟩
      have e1 : D.write i l = (3, D) := by simp only [DS.write, hl1, ne_eq, not_true_eq_false, if_false, h2]; simp
      rw [e1]
      exact ⟨rfl, _, ⟨bs, sc, wv, hd, rfl⟩, Kept.refl _ _, fun k hk => .inl hk⟩
  · refine (rwrite_len hd i (some x) len cap h1 hm).mono ?_
    rintro e w' ⟨rfl, rfl⟩
    have e1 : D.write i l = (2, D) := by simp only [DS.write, hl1, ne_eq, h1, not_false_eq_true, if_true]
    rw [e1]
    exact ⟨rfl, _, ⟨bs, sc, wv, hd, rfl⟩, Kept.refl _ _, fun k hk => .inl hk⟩

theorem rfuse_all {w : World} {B b : Nat} {own : List Nat} {D : DS} (h : RDisk w B b own D) (n : Int) (hn : n ≤ 9223372036854775807) :
    Calls Try.prog 39 #[.pointer (some ⟨b, 0, none⟩), .int .i64 n] w fun e w' => e = .returned (.tuple #[]) ∧ RDisk w' B b own (D.fused n) ∧ Kept own w w' := by
  obtain ⟨bs, sc, wv, hd, rfl⟩ := h
  refine (rfuse_any hd n hn).mono ?_
  rintro e w' ⟨rfl, hd', hk⟩
  exact ⟨rfl, ⟨bs, sc, wv, hd', rfl⟩, hk.mono (fun k _ h => by simp only [List.mem_cons, List.not_mem_nil, or_false] at h; simp [h])⟩

theorem rcrash_all {w : World} {B b : Nat} {own : List Nat} {D : DS} (h : RDisk w B b own D) (ka : Option Addr) (klen kcap : Nat) (ks : List (Int × Int)) (hk : KeepsOk w ka klen ks) :
    Calls Try.prog 15 #[.pointer (some ⟨b, 0, none⟩), .slice ka klen kcap] w (RMade w (D.crash ks)) := by
  obtain ⟨bs, sc, wv, hd, rfl⟩ := h
  obtain ⟨h1, h2, h3⟩ := hk
  rcases h3 with h0 | ⟨kb, ko, rfl, hk⟩
  · subst h0
    obtain rfl : ks = [] := List.eq_nil_of_length_eq_zero h1
    exact rcrash_none hd ka kcap
  · subst h1
    exact rcrash_some hd kb ko kcap ks h2 hk

/-- What a read answers: bytes and a number. -/
def DS.ans (D : DS) (i : Int) : List Int × Int := if 0 ≤ i ∧ i < D.n then (if D.gone then ([], 9) else (D.read i.toNat, 0)) else ([], 3)
def ReadPost (w : World) (x : List Int × Int) (e : Ending) (w' : World) : Prop :=
  ∃ a len cap, e = .returned (.tuple #[.slice a len cap, .int .i64 x.2]) ∧ (convert 40 9 (.slice a len cap)).run Try.prog w' = .ok (.string (strOf x.1)) w' ∧ Below w.heap.size w w'
theorem conv_nil (w : World) : (convert 40 9 (.slice none 0 0)).run Try.prog w = .ok (.string (strOf [])) w := by kernel_rfl
theorem read_all {w : World} {B b : Nat} {own : List Nat} {D : DS} (h : Disk w B b own D) (i : Int) : Calls Try.prog 26 #[.pointer (some ⟨b, 0, none⟩), .int .i64 i] w (ReadPost w (D.ans i)) := by
  obtain ⟨bs, sc, wv, hd, rfl⟩ := h
  by_cases h2 : 0 ≤ i ∧ i < D.n
  · obtain ⟨q, rfl⟩ : ∃ q : Nat, i = q := ⟨i.toNat, by omega⟩
    cases hg : D.gone with
    | true =>
      refine (read_gone hd q (by omega) hg).mono ?_
      rintro e w' ⟨rfl, rfl⟩
      have e1 : D.ans q = ([], 9) := by simp only [DS.ans, h2, hg]; simp
      rw [e1]
      exact ⟨none, 0, 0, rfl, conv_nil _, Below.refl _ _⟩
    | false =>
      refine (read_yes hd q (by omega) hg).mono ?_
      rintro e w' ⟨g, rfl, _, hh, hb⟩
      have e1 : D.ans q = (D.read q, 0) := by simp only [DS.ans, h2, hg]; simp
      rw [e1]
      exact ⟨_, _, _, rfl, conv_whole hh (read_length hd q (by omega)), hb⟩
  · refine (read_range hd i h2).mono ?_
    rintro e w' ⟨rfl, rfl⟩
    have e1 : D.ans i = ([], 3) := by simp only [DS.ans, h2]; simp
    rw [e1]
    exact ⟨none, 0, 0, rfl, conv_nil _, Below.refl _ _⟩
theorem rread_all {w : World} {B b : Nat} {own : List Nat} {D : DS} (h : RDisk w B b own D) (i : Int) : Calls Try.prog 37 #[.pointer (some ⟨b, 0, none⟩), .int .i64 i] w fun e w' => e = .returned (.tuple #[.string (strOf (D.ans i).1), .int .i64 (D.ans i).2]) ∧ w' = w := by
  obtain ⟨bs, sc, wv, hd, rfl⟩ := h
  by_cases h2 : 0 ≤ i ∧ i < D.n
  · obtain ⟨q, rfl⟩ : ∃ q : Nat, i = q := ⟨i.toNat, by omega⟩
    cases hg : D.gone with
    | true =>
      refine (rread_gone hd q (by omega) hg).mono ?_
      rintro e w' ⟨rfl, rfl⟩
      have e1 : D.ans q = ([], 9) := by simp only [DS.ans, h2, hg]; simp
      rw [e1]
      exact ⟨rfl, rfl⟩
    | false =>
      refine (rread_yes hd q (by omega) hg).mono ?_
      rintro e w' ⟨rfl, rfl⟩
      have e1 : D.ans q = (D.read q, 0) := by simp only [DS.ans, h2, hg]; simp
      rw [e1]
      exact ⟨rfl, rfl⟩
  · refine (rread_range hd i h2).mono ?_
    rintro e w' ⟨rfl, rfl⟩
    have e1 : D.ans i = ([], 3) := by simp only [DS.ans, h2]; simp
    rw [e1]
    exact ⟨rfl, rfl⟩

/-- Both disks, apart from each other. -/
structure Pair (w0 w : World) (b r : Nat) (own rown : List Nat) (D E : DS) : Prop where
  d : Disk w w0.heap.size b own D
  r : RDisk w w0.heap.size r rown E
  dj : ∀ i ∈ own, i ∉ rown
  b : Below w0.heap.size w0 w
theorem Pair.later {w0 w w' : World} {b r : Nat} {own rown : List Nat} {D E : DS} (h : Pair w0 w b r own rown D E) (hb : Below w.heap.size w w') : Pair w0 w' b r own rown D E :=
  ⟨h.d.keep (Kept.ofBelow hb []) (by simp), h.r.keep (Kept.ofBelow hb []) (by simp), h.dj, h.b.trans (hb.mono h.b.size)⟩
theorem Pair.alloc {w0 w : World} {b r : Nat} {own rown : List Nat} {D E : DS} (h : Pair w0 w b r own rown D E) (o : Obj) : Pair w0 (w.alloc o) b r own rown D E := h.later ((Below.refl _ _).alloc (Nat.le_refl _) o)
theorem Pair.drew {w0 w : World} {b r : Nat} {own rown : List Nat} {D E : DS} (h : Pair w0 w b r own rown D E) : Pair w0 w.drew b r own rown D E := h.later ((Below.refl _ _).drew)
theorem Pair.setD {w0 w w' : World} {b r : Nat} {own own' rown : List Nat} {D D' E : DS} (h : Pair w0 w b r own rown D E) (hd : Disk w' w0.heap.size b own' D') (hk : Kept own w w') (hf : ∀ k ∈ own', k ∈ own ∨ w.heap.size ≤ k) : Pair w0 w' b r own' rown D' E := by
  refine ⟨hd, h.r.keep hk (fun i hi hm => h.dj i hm hi), fun i hi hm => ?_, h.d.below hk h.b (Nat.le_refl _)⟩
  rcases hf i hi with h1 | h1
  · exact h.dj i h1 hm
  · have := (h.r.lt i hm).2; omega
theorem Pair.setR {w0 w w' : World} {b r : Nat} {own rown' rown : List Nat} {D E' E : DS} (h : Pair w0 w b r own rown D E) (hr : RDisk w' w0.heap.size r rown' E') (hk : Kept rown w w') (hf : ∀ k ∈ rown', k ∈ rown ∨ w.heap.size ≤ k) : Pair w0 w' b r own rown' D E' := by
  refine ⟨h.d.keep hk (fun i hi hm => h.dj i hi hm), hr, fun i hi hm => ?_, below_kept h.b hk (fun i hi => (h.r.lt i hi).1) h.b.size⟩
  rcases hf i hm with h1 | h1
  · exact h.dj i hi h1
  · have := (h.d.lt i hi).2; omega

/-- Behind a call of both: the same disk, and how many steps and writes it may have. -/
structure Both (w0 w : World) (b r k : Nat) (own rown : List Nat) (D : DS) : Prop where
  p : Pair w0 w b r own rown D D
  s : D.steps ≤ k
  w : D.waits.length ≤ k
def BothEx (w0 w : World) (b r k : Nat) : Prop := ∃ own rown D, Both w0 w b r k own rown D

theorem pair_bytes {w0 wA : World} {b r q : Nat} {own rown : List Nat} {D E : DS} {v : ActV} (hp : Pair w0 wA b r own rown D E) (hst : D.steps < 1000) (hwt : D.waits.length < 200) {at_ : Int} {l : List Int} {e : Ending} {w2 : World} (hm : MadeBytes wA l e w2) (hS : BoxS q v wA) (hl : l.length ≤ 512 := by exact abytes_length _ _) :
    ∃ g, e = .returned (.slice (some ⟨g, 0, none⟩) l.length 512) ∧ Hid (BoxS q v w2) ∧ Hid (Pair w0 w2 b r own rown D E) ∧
      Hid (Calls Try.prog 17 #[.pointer (some ⟨b, 0, none⟩), .int .i64 at_, .slice (some ⟨g, 0, none⟩) l.length 512] w2 (Did w2 w0.heap.size b own (D.write at_ l).1 (D.write at_ l).2)) := by
  obtain ⟨g, rfl, hg, hcs, hb2⟩ := hm
  have hp2 := hp.later hb2
  refine ⟨g, rfl, box_later hb2 hS.1 hS.2.1 hS.2.2.1 hS.2.2.2.1 hS.2.2.2.2, hp2, ?_⟩
  refine write_all hp2.d hst hwt at_ (some ⟨g, 0, none⟩) _ 512 l (Nat.le_trans hl (by decide)) ⟨rfl, fun _ => ⟨_, rfl, fun j u hu => by rw [Addr.add_mid, Nat.zero_add]; exact hcs j u hu⟩⟩ (fun x hx hm => ?_)
  simp only [Option.some.injEq] at hx
  subst hx
  have := (hp.d.lt _ hm).2
  simp only at this
  omega
theorem pair_did {w0 w2 w3 : World} {b r q : Nat} {own rown : List Nat} {D D' E : DS} {v : ActV} {c : Int} {e : Ending} (hp : Pair w0 w2 b r own rown D E) (hS : BoxS q v w2) (hd : Did w2 w0.heap.size b own c D' e w3) (hq : q ∉ own) :
    e = .returned (.int .i64 c) ∧ BoxS q v w3 ∧ Hid (∃ own', Pair w0 w3 b r own' rown D' E) := by
  obtain ⟨rfl, own3, hd3, hk3, hfr3⟩ := hd
  exact ⟨rfl, box_kept hk3 hq hS.1 hS.2.1 hS.2.2.1 hS.2.2.2.1 hS.2.2.2.2, ⟨own3, hp.setD hd3 hk3 hfr3⟩⟩
theorem pair_rbytes {w0 wA : World} {b r q : Nat} {rown : List Nat} {D E : DS} {v : ActV} (hp : ∃ own, Pair w0 wA b r own rown D E) (hst : E.steps < 1000) (hwt : E.waits.length < 200) {at_ : Int} {l : List Int} {e : Ending} {w2 : World} (hm : MadeBytes wA l e w2) (hS : BoxS q v wA) (hl : l.length ≤ 512 := by exact abytes_length _ _) :
    ∃ g, e = .returned (.slice (some ⟨g, 0, none⟩) l.length 512) ∧ Hid (BoxS q v w2) ∧ Hid (∃ own, Pair w0 w2 b r own rown D E) ∧
      Hid (Calls Try.prog 36 #[.pointer (some ⟨r, 0, none⟩), .int .i64 at_, .slice (some ⟨g, 0, none⟩) l.length 512] w2 (RDid w2 w0.heap.size r rown (E.write at_ l).1 (E.write at_ l).2)) := by
  obtain ⟨own, hp⟩ := hp
  obtain ⟨g, rfl, hg, hcs, hb2⟩ := hm
  have hp2 := hp.later hb2
  refine ⟨g, rfl, box_later hb2 hS.1 hS.2.1 hS.2.2.1 hS.2.2.2.1 hS.2.2.2.2, ⟨own, hp2⟩, ?_⟩
  refine rwrite_all hp2.r hst hwt at_ ⟨g, 0, none⟩ _ 512 l (Nat.le_trans hl (by decide)) rfl (fun j u hu => by rw [Addr.add_mid, Nat.zero_add]; exact hcs j u hu) (fun hm => ?_)
  have := (hp.r.lt _ hm).2
  simp only at this
  omega
theorem pair_rdid {w0 w2 w3 : World} {b r q : Nat} {rown : List Nat} {D E' E : DS} {v : ActV} {c : Int} {e : Ending} (hp : ∃ own, Pair w0 w2 b r own rown D E) (hS : BoxS q v w2) (hd : RDid w2 w0.heap.size r rown c E' e w3) (hq : q ∉ rown) :
    e = .returned (.int .i64 c) ∧ BoxS q v w3 ∧ Hid (∃ own rown', Pair w0 w3 b r own rown' D E') := by
  obtain ⟨own, hp⟩ := hp
  obtain ⟨rfl, own3, hd3, hk3, hfr3⟩ := hd
  exact ⟨rfl, box_kept hk3 hq hS.1 hS.2.1 hS.2.2.1 hS.2.2.2.1 hS.2.2.2.2, ⟨own, own3, hp.setR hd3 hk3 hfr3⟩⟩
end Go.Proofs.Ytahhhpmpgkfkdaa
