/- What this text holds: what was sealed is what it seems to hold. -/
import Derived.Test.YtambgimfbdecpaaPOpen
namespace Go.Proofs.Ytambgimfbdecpaa
open Go.RowKit
set_option linter.unusedVariables false

theorem mid (A B C : List Int) {a b : Nat} (ha : A.length = a) (hb : B.length = b) : ((A ++ (B ++ C)).drop a).take b = B := by
  subst ha; subst hb
  rw [List.drop_left, List.take_left]
theorem val_numB (n : Int) (h0 : 0 ≤ n) : ∀ k, val (numB k n) = n % 256 ^ k := by
  have aux : ∀ k (x : Int), (numB k n).foldl (fun n c => n * 256 + c) x = x * 256 ^ k + n % 256 ^ k := by
    intro k
    induction k with
    | zero => intro x; simp [numB, Int.emod_one]
    | succ k ih =>
      intro x
      rw [numB, List.foldl_cons, ih, Int.pow_succ]
      have e1 : n % (256 ^ k * 256) = n % 256 ^ k + 256 ^ k * (n / 256 ^ k % 256) := by
        obtain ⟨m, rfl⟩ := Int.eq_ofNat_of_zero_le h0
        have h : ((m % (256 ^ k * 256) : Nat) : Int) = ((m % 256 ^ k + 256 ^ k * (m / 256 ^ k % 256) : Nat) : Int) := congrArg _ Nat.mod_mul
        have ep : ((256 ^ k : Nat) : Int) = (256 : Int) ^ k := Int.natCast_pow 256 k
        rw [Int.natCast_emod, Int.natCast_mul, Int.natCast_add, Int.natCast_mul, Int.natCast_emod, Int.natCast_emod, Int.natCast_ediv, ep] at h
        exact h
      rw [e1, Int.add_mul]
      have e2 : x * 256 * 256 ^ k = x * (256 ^ k * 256) := by rw [Int.mul_assoc, Int.mul_comm 256]
      have e3 : n / 256 ^ k % 256 * 256 ^ k = 256 ^ k * (n / 256 ^ k % 256) := Int.mul_comm _ _
      omega
  intro k
  have := aux k 0
  rw [Int.zero_mul, Int.zero_add] at this
  exact this
theorem val_numB' (n : Int) (k : Nat) (h0 : 0 ≤ n) (h1 : n < 256 ^ k) : val (numB k n) = n := by
  rw [val_numB n h0, Int.emod_eq_of_lt h0 h1]

theorem genOf_seal (kind gen : Int) (c : List Int) (h0 : 0 ≤ gen) (h1 : gen ≤ 281474976710655) : genOf (sealL kind gen c) = gen := by
  have e : (sealL kind gen c).drop 6 = ((([72, 118] ++ numB 1 kind ++ numB 1 0 ++ numB 2 c.length) ++ (numB 6 gen ++ (numB 4 (sumL (bareL kind gen c)) ++ (rep 4 0 ++ (c ++ rep (492 - c.length) 0)))))).drop 6 := by
    unfold sealL headL
    simp only [List.append_assoc]
  unfold genOf
  rw [e, mid _ _ _ (by simp [numB_length]) (numB_length _ _)]
  exact val_numB' _ _ h0 (by omega)
theorem lenOf_seal (kind gen : Int) (c : List Int) (h : c.length ≤ 492) : lenOf (sealL kind gen c) = c.length := by
  have e : (sealL kind gen c).drop 4 = (([72, 118] ++ numB 1 kind ++ numB 1 0) ++ (numB 2 c.length ++ (numB 6 gen ++ (numB 4 (sumL (bareL kind gen c)) ++ (rep 4 0 ++ (c ++ rep (492 - c.length) 0)))))).drop 4 := by
    unfold sealL headL
    simp only [List.append_assoc]
  unfold lenOf
  rw [e, mid _ _ _ (by simp [numB_length]) (numB_length _ _)]
  exact val_numB' _ _ (by omega) (by omega)
theorem kindOf_seal (kind gen : Int) (c : List Int) (h0 : 0 ≤ kind) (h1 : kind ≤ 255) : kindOf (sealL kind gen c) = kind := by
  unfold kindOf sealL headL
  simp only [List.cons_append, List.nil_append, numB, List.getD_cons_succ, List.getD_cons_zero]
  simp
  omega
theorem conOf_seal (kind gen : Int) (c : List Int) (h : c.length ≤ 492) : conOf (sealL kind gen c) = c := by
  unfold conOf
  rw [lenOf_seal kind gen c h, Int.toNat_natCast]
  have e : (sealL kind gen c).drop 20 = ((headL kind gen c.length ++ numB 4 (sumL (bareL kind gen c)) ++ rep 4 0) ++ (c ++ rep (492 - c.length) 0)).drop 20 := by
    unfold sealL
    simp only [List.append_assoc]
  rw [e, mid _ _ _ (by simp [numB_length, headL_length, rep_length]) rfl]
theorem isPage_seal (kind gen : Int) (c : List Int) (hk0 : 0 ≤ kind) (hk1 : kind ≤ 255) (hg0 : 0 ≤ gen) (hg1 : gen ≤ 281474976710655) (h : c.length ≤ 492) : isPage (sealL kind gen c) := by
  refine ⟨sealL_length _ _ _ h, ?_⟩
  rw [kindOf_seal _ _ _ hk0 hk1, genOf_seal _ _ _ hg0 hg1, conOf_seal _ _ _ h]

theorem rgenOf_root (gen : Int) (c : List Int) (h0 : 1 ≤ gen) (h1 : gen ≤ 4611686018427387904) : rgenOf (rootL gen c) = gen := by
  unfold rgenOf rootL
  rw [List.take_append_of_le_length (by rw [numB_length]; omega), List.take_of_length_le (by rw [numB_length]; omega), val_numB' _ _ (by omega) (by omega), wrap64_fits _ (by omega) (by omega)]
theorem rlenOf_root (gen : Int) (c : List Int) (h : c.length ≤ 494) : rlenOf (rootL gen c) = c.length := by
  unfold rlenOf rootL
  rw [mid _ _ _ (numB_length _ _) (numB_length _ _)]
  exact val_numB' _ _ (by omega) (by omega)
theorem rconOf_root (gen : Int) (c : List Int) (h : c.length ≤ 494) : rconOf (rootL gen c) = c := by
  unfold rconOf
  rw [rlenOf_root gen c h, Int.toNat_natCast, List.take_take, Nat.min_eq_left h]
  have e : (rootL gen c).drop 10 = ((numB 8 gen ++ numB 2 c.length) ++ (c ++ (rep (494 - c.length) 0 ++ numB 8 gen))).drop 10 := by
    unfold rootL
    simp only [List.append_assoc]
  rw [e, mid _ _ _ (by simp [numB_length]) rfl]
theorem isRoot_root (gen : Int) (c : List Int) (h0 : 1 ≤ gen) (h1 : gen ≤ 4611686018427387904) (h : c.length ≤ 490) : isRoot (rootL gen c) := by
  refine ⟨rootL_length _ _ (by omega), ?_, ?_, ?_⟩
  · rw [rgenOf_root _ _ h0 h1]; exact ⟨h0, h1⟩
  · rw [rconOf_root _ _ (by omega)]; exact h
  · rw [rgenOf_root _ _ h0 h1, rconOf_root _ _ (by omega)]
/-- A new slice: its place, its room, its bytes. -/
theorem NewB.all {w w' : World} {v : Value} {l : List Int} (h : NewB w w' v l) (hl : l.length = 512) : ∃ g c, v = .slice (some ⟨g, 0, none⟩) 512 c ∧ w.heap.size ≤ g ∧ g < w'.heap.size ∧ BAt w' (some ⟨g, 0, none⟩) l ∧ 512 ≤ c ∧ c ≤ maxLen := by
  obtain ⟨g, c, rfl, hg, ho⟩ := h
  have hb : BAt w' (some ⟨g, 0, none⟩) l := fun j x hx => ⟨_, rfl, cells_of_owned ho j _ (by rw [bc, List.getElem?_map, hx, Option.map_some])⟩
  rw [hl] at ho
  refine ⟨g, c, by rw [hl], hg, (ho.lt g rfl).2, hb, ?_⟩
  rcases ho.2 with ⟨h', _⟩ | ⟨g', cap', cur, h', _, _, hnc, hcm, _⟩
  · simp at h'
  · simp only [Value.slice.injEq, Option.some.injEq, Addr.mk.injEq, and_true, true_and] at h'
    obtain ⟨_, rfl⟩ := h'
    exact ⟨hnc, hcm⟩
theorem openV_seal (kind gen : Int) (s : ByteArray) (hk0 : 0 ≤ kind) (hk1 : kind ≤ 255) (hg0 : 0 ≤ gen) (hg1 : gen ≤ 281474976710655) (h : s.size ≤ 492) :
    openV (sealL kind gen (bOf s)) = .tuple #[.int .i64 kind, .int .i64 gen, .string s, .int .i64 0] := by
  have hl : (bOf s).length ≤ 492 := by rw [bOf_length]; exact h
  rw [openV_yes (isPage_seal _ _ _ hk0 hk1 hg0 hg1 hl), kindOf_seal _ _ _ hk0 hk1, genOf_seal _ _ _ hg0 hg1, conOf_seal _ _ _ hl, strOf_bOf]
theorem ropenV_root (gen : Int) (s : ByteArray) (h0 : 1 ≤ gen) (h1 : gen ≤ 4611686018427387904) (h : s.size ≤ 490) :
    ropenV (rootL gen (bOf s)) = .tuple #[.int .i64 gen, .string s, .int .i64 0] := by
  have hl : (bOf s).length ≤ 490 := by rw [bOf_length]; exact h
  rw [ropenV_yes (isRoot_root _ _ h0 h1 hl), rgenOf_root _ _ h0 h1, rconOf_root _ _ (by omega), strOf_bOf]
end Go.Proofs.Ytambgimfbdecpaa
