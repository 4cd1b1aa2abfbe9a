/- What this text holds: a call of both pagers ('do'). -/
import Derived.Test.YtambgimfbdecpaaQ31
namespace Go.Proofs.Ytambgimfbdecpaa
open Go.RowKit
set_option linter.unusedVariables false
set_option linter.unusedSimpArgs false

theorem Duo.xc {w : World} {B b db r c : Nat} {G : List Guest} {al ar : List Nat} {P : PS} {R : RS} (h : Duo w B G b db r c al ar P R) {k : Nat} {cs : List Value} {t : Nat} (hm : ((k, cs, t) : Guest) ∈ G) {j : Nat} {v : Value} (hv : cs[j]? = some v) : w.cell? ⟨k, j, none⟩ = some v := Guest.cell (h.g _ hm) hv
/-- What 'do' ends in. -/
def DoP (w : World) (B xb b db r c k : Nat) (e : Ending) (w' : World) : Prop :=
  e = .returned (.bool true) ∧ ∃ al ar P R, Duo w' B [(xb, [.pointer (some ⟨db, 0, none⟩), .pointer (some ⟨b, 0, none⟩), .pointer (some ⟨c, 0, none⟩), .pointer (some ⟨r, 0, none⟩)], 39)] b db r c al ar P R ∧ Sim P R ∧ Lim P k ∧ Below B w w'
theorem two_mem {x y : Guest} : x ∈ [x, y] ∧ y ∈ [x, y] := by simp

set_option maxRecDepth 100000 in
set_option maxHeartbeats 4000000 in
theorem do_put {w : World} {B xb b db r c k : Nat} {al ar : List Nat} {P : PS} {R : RS} (h : Duo w B [(xb, [.pointer (some ⟨db, 0, none⟩), .pointer (some ⟨b, 0, none⟩), .pointer (some ⟨c, 0, none⟩), .pointer (some ⟨r, 0, none⟩)], 39)] b db r c al ar P R) (hsim : Sim P R) (hlim : Lim P k) (hk : k ≤ 60) (kind n m : Int) (s : ByteArray) (hs : s.size ≤ maxLen) (hn : -9223372036854775808 ≤ n ∧ n ≤ 9223372036854775807) (ka : Option Addr) (klen kcap : Nat) (hkd : kind = 0) :
    Calls Try.prog 23 #[.pointer (some ⟨xb, 0, none⟩), .agg #[.int .i64 kind, .int .i64 n, .int .i64 m, .string s, .slice ka klen kcap]] w (DoP w B xb b db r c (k + 1)) := by
  have hst : P.D.steps < 1000 ∧ P.D.steps + 3 ≤ 1000 := by have := hlim.st; omega
  have hwt : P.D.waits.length < 200 := by have := hlim.wt; omega
  have hpn : P.pins.length ≤ 1000 := by have := hlim.pn; omega
  have hpm : P.pm ≤ 1000 := by have := hlim.pm; omega
  have hRD := hsim.D
  have hRp := hsim.pins
  obtain ⟨hst1, hst2⟩ := hst
  have e0 : (kind == 0) = true := by simp [hkd]
  have e1 : (kind == 1) = false := by simp [hkd]
  have e2 : (kind == 2) = false := by simp [hkd]
  have e3 : (kind == 3) = false := by simp [hkd]
  have e4 : (kind == 4) = false := by simp [hkd]
  have e5 : (kind == 5) = false := by simp [hkd]
  have e6 : (kind == 6) = false := by simp [hkd]
  have e7 : (kind == 7) = false := by simp [hkd]
  clear hkd
  have h1 := h.box [.int .i64 kind, .int .i64 n, .int .i64 m, .string s, .slice ka klen kcap] 42
  have hb1 : Below w.heap.size w (w.alloc (.cells #[.int .i64 kind, .int .i64 n, .int .i64 m, .string s, .slice ka klen kcap] 42)) := (Below.refl _ _).alloc (Nat.le_refl _) _
  have HB1 := hid (hb1.mono h.hB)
  have HSim := hid hsim
  have HLim := hid hlim
  clear h hb1 hsim hlim
  have H1 := hid (show Duo (w.alloc (.cells #[.int .i64 kind, .int .i64 n, .int .i64 m, .string s, .slice ka klen kcap] 42)) B [(w.heap.size, [.int .i64 kind, .int .i64 n, .int .i64 m, .string s, .slice ka klen kcap], 42), (xb, [.pointer (some ⟨db, 0, none⟩), .pointer (some ⟨b, 0, none⟩), .pointer (some ⟨c, 0, none⟩), .pointer (some ⟨r, 0, none⟩)], 39)] b db r c al ar P R from h1)
  clear h1
  go_enter Try.func23, Try.ntmps23
  go_wp2_with fail
  generalize w.alloc (.cells #[.int .i64 kind, .int .i64 n, .int .i64 m, .string s, .slice ka klen kcap] 42) = W at *
  generalize w.heap.size = ab at *
  have hBW : B ≤ W.heap.size := H1.out.hB
  have x0 := H1.out.xc (k := xb) two_mem.2 (j := 0) rfl
  have x1 := H1.out.xc (k := xb) two_mem.2 (j := 1) rfl
  have x2 := H1.out.xc (k := xb) two_mem.2 (j := 2) rfl
  have x3 := H1.out.xc (k := xb) two_mem.2 (j := 3) rfl
  have a0 := H1.out.xc (k := ab) two_mem.1 (j := 0) rfl
  have a1 := H1.out.xc (k := ab) two_mem.1 (j := 1) rfl
  have a2 := H1.out.xc (k := ab) two_mem.1 (j := 2) rfl
  have a3 := H1.out.xc (k := ab) two_mem.1 (j := 3) rfl
  have a4 := H1.out.xc (k := ab) two_mem.1 (j := 4) rfl
  have Hd := hid (H1.out.later ((Below.refl W.heap.size W).drew))
  have HBd := hid (HB1.out.trans (((Below.refl W.heap.size W).drew).mono hBW))
  obtain ⟨hs1, hs2⟩ := HSim.out.put n s
  have HS2 := hid hs2
  have HLm := hid (HLim.out.put n s)
  have HR2 := hid (fun (w : World) (al : List Nat) (P' : PS) (h : Duo w B [(ab, [.int .i64 kind, .int .i64 n, .int .i64 m, .string s, .slice ka klen kcap], 42), (xb, [.pointer (some ⟨db, 0, none⟩), .pointer (some ⟨b, 0, none⟩), .pointer (some ⟨c, 0, none⟩), .pointer (some ⟨r, 0, none⟩)], 39)] b db r c al ar P' R) => h.rput (by rw [hRD]; exact hst1) (by rw [hRD]; exact hwt) n s hs)
  rw [← hs1] at HR2
  have HP1 := hid (put_all Hd.out.p hst1 hwt n s hs)
  generalize (P.put n s).1.1 = q1 at *
  generalize (P.put n s).1.2 = q2 at *
  clear hs1 hs2 hRD hRp
  go_wp2_with fail
  clear x0 x1 x2 x3 a0 a1 a2 a3 a4
  go_region_held3 (fun w' => w'.cell? ⟨xb, 0, none⟩ = some (.pointer (some ⟨db, 0, none⟩)) ∧ w'.cell? ⟨xb, 1, none⟩ = some (.pointer (some ⟨b, 0, none⟩)) ∧ w'.cell? ⟨xb, 2, none⟩ = some (.pointer (some ⟨c, 0, none⟩)) ∧ w'.cell? ⟨xb, 3, none⟩ = some (.pointer (some ⟨r, 0, none⟩)) ∧ w'.cell? ⟨ab, 0, none⟩ = some (.int .i64 kind) ∧ w'.cell? ⟨ab, 1, none⟩ = some (.int .i64 n) ∧ w'.cell? ⟨ab, 2, none⟩ = some (.int .i64 m) ∧ w'.cell? ⟨ab, 3, none⟩ = some (.string s) ∧ w'.cell? ⟨ab, 4, none⟩ = some (.slice ka klen kcap)) (first | exact ⟨H2.out.xc (k := xb) two_mem.2 (j := 0) rfl, H2.out.xc (k := xb) two_mem.2 (j := 1) rfl, H2.out.xc (k := xb) two_mem.2 (j := 2) rfl, H2.out.xc (k := xb) two_mem.2 (j := 3) rfl, H2.out.xc (k := ab) two_mem.1 (j := 0) rfl, H2.out.xc (k := ab) two_mem.1 (j := 1) rfl, H2.out.xc (k := ab) two_mem.1 (j := 2) rfl, H2.out.xc (k := ab) two_mem.1 (j := 3) rfl, H2.out.xc (k := ab) two_mem.1 (j := 4) rfl⟩ | exact ⟨Hd.out.xc (k := xb) two_mem.2 (j := 0) rfl, Hd.out.xc (k := xb) two_mem.2 (j := 1) rfl, Hd.out.xc (k := xb) two_mem.2 (j := 2) rfl, Hd.out.xc (k := xb) two_mem.2 (j := 3) rfl, Hd.out.xc (k := ab) two_mem.1 (j := 0) rfl, Hd.out.xc (k := ab) two_mem.1 (j := 1) rfl, Hd.out.xc (k := ab) two_mem.1 (j := 2) rfl, Hd.out.xc (k := ab) two_mem.1 (j := 3) rfl, Hd.out.xc (k := ab) two_mem.1 (j := 4) rfl⟩ | exact ⟨H1.out.xc (k := xb) two_mem.2 (j := 0) rfl, H1.out.xc (k := xb) two_mem.2 (j := 1) rfl, H1.out.xc (k := xb) two_mem.2 (j := 2) rfl, H1.out.xc (k := xb) two_mem.2 (j := 3) rfl, H1.out.xc (k := ab) two_mem.1 (j := 0) rfl, H1.out.xc (k := ab) two_mem.1 (j := 1) rfl, H1.out.xc (k := ab) two_mem.1 (j := 2) rfl, H1.out.xc (k := ab) two_mem.1 (j := 3) rfl, H1.out.xc (k := ab) two_mem.1 (j := 4) rfl⟩) (first | (go_at_call 31; refine HP1.out.mono ?_; intro e w1 hd; obtain ⟨rfl, al1, h2, hB2⟩ := Hd.out.left hd; have H2 := hid h2; have HB2 := hid (HBd.out.trans hB2); clear hd h2 hB2))
  have H2d := hid (H2.out.later ((Below.refl w1.heap.size w1).drew))
  have HB2d := hid (HB2.out.trans (((Below.refl w1.heap.size w1).drew).mono H2.out.hB))

  have x0 := H2.out.xc (k := xb) two_mem.2 (j := 0) rfl
  have x1 := H2.out.xc (k := xb) two_mem.2 (j := 1) rfl
  have x2 := H2.out.xc (k := xb) two_mem.2 (j := 2) rfl
  have x3 := H2.out.xc (k := xb) two_mem.2 (j := 3) rfl
  have a0 := H2.out.xc (k := ab) two_mem.1 (j := 0) rfl
  have a1 := H2.out.xc (k := ab) two_mem.1 (j := 1) rfl
  have a2 := H2.out.xc (k := ab) two_mem.1 (j := 2) rfl
  have a3 := H2.out.xc (k := ab) two_mem.1 (j := 3) rfl
  have a4 := H2.out.xc (k := ab) two_mem.1 (j := 4) rfl
  go_wp2_with fail
  clear x0 x1 x2 x3 a0 a1 a2 a3 a4
  go_region_held3 (fun w' => w'.cell? ⟨xb, 0, none⟩ = some (.pointer (some ⟨db, 0, none⟩)) ∧ w'.cell? ⟨xb, 1, none⟩ = some (.pointer (some ⟨b, 0, none⟩)) ∧ w'.cell? ⟨xb, 2, none⟩ = some (.pointer (some ⟨c, 0, none⟩)) ∧ w'.cell? ⟨xb, 3, none⟩ = some (.pointer (some ⟨r, 0, none⟩)) ∧ w'.cell? ⟨ab, 0, none⟩ = some (.int .i64 kind) ∧ w'.cell? ⟨ab, 1, none⟩ = some (.int .i64 n) ∧ w'.cell? ⟨ab, 2, none⟩ = some (.int .i64 m) ∧ w'.cell? ⟨ab, 3, none⟩ = some (.string s) ∧ w'.cell? ⟨ab, 4, none⟩ = some (.slice ka klen kcap)) (first | exact ⟨H3.out.xc (k := xb) two_mem.2 (j := 0) rfl, H3.out.xc (k := xb) two_mem.2 (j := 1) rfl, H3.out.xc (k := xb) two_mem.2 (j := 2) rfl, H3.out.xc (k := xb) two_mem.2 (j := 3) rfl, H3.out.xc (k := ab) two_mem.1 (j := 0) rfl, H3.out.xc (k := ab) two_mem.1 (j := 1) rfl, H3.out.xc (k := ab) two_mem.1 (j := 2) rfl, H3.out.xc (k := ab) two_mem.1 (j := 3) rfl, H3.out.xc (k := ab) two_mem.1 (j := 4) rfl⟩ | exact ⟨H2d.out.xc (k := xb) two_mem.2 (j := 0) rfl, H2d.out.xc (k := xb) two_mem.2 (j := 1) rfl, H2d.out.xc (k := xb) two_mem.2 (j := 2) rfl, H2d.out.xc (k := xb) two_mem.2 (j := 3) rfl, H2d.out.xc (k := ab) two_mem.1 (j := 0) rfl, H2d.out.xc (k := ab) two_mem.1 (j := 1) rfl, H2d.out.xc (k := ab) two_mem.1 (j := 2) rfl, H2d.out.xc (k := ab) two_mem.1 (j := 3) rfl, H2d.out.xc (k := ab) two_mem.1 (j := 4) rfl⟩ | exact ⟨H2.out.xc (k := xb) two_mem.2 (j := 0) rfl, H2.out.xc (k := xb) two_mem.2 (j := 1) rfl, H2.out.xc (k := xb) two_mem.2 (j := 2) rfl, H2.out.xc (k := xb) two_mem.2 (j := 3) rfl, H2.out.xc (k := ab) two_mem.1 (j := 0) rfl, H2.out.xc (k := ab) two_mem.1 (j := 1) rfl, H2.out.xc (k := ab) two_mem.1 (j := 2) rfl, H2.out.xc (k := ab) two_mem.1 (j := 3) rfl, H2.out.xc (k := ab) two_mem.1 (j := 4) rfl⟩) (first | (go_at_call 51; refine (HR2.out _ _ _ H2d.out).mono ?_; intro e w2 hd; obtain ⟨rfl, ar1, h3, hB3⟩ := H2d.out.right hd; have H3 := hid h3; have HB3 := hid (HB2d.out.trans hB3); clear hd h3 hB3))
  go_wp2_with (first | (go_at_call 11; refine (no_any _ _).mono ?_; rintro e wz ⟨rfl, rfl⟩))
  go_ret
  exact ⟨rfl, _, _, _, _, H3.out.less, HS2.out, HLm.out, HB3.out⟩

set_option maxRecDepth 100000 in
set_option maxHeartbeats 4000000 in
theorem do_drop {w : World} {B xb b db r c k : Nat} {al ar : List Nat} {P : PS} {R : RS} (h : Duo w B [(xb, [.pointer (some ⟨db, 0, none⟩), .pointer (some ⟨b, 0, none⟩), .pointer (some ⟨c, 0, none⟩), .pointer (some ⟨r, 0, none⟩)], 39)] b db r c al ar P R) (hsim : Sim P R) (hlim : Lim P k) (hk : k ≤ 60) (kind n m : Int) (s : ByteArray) (hs : s.size ≤ maxLen) (hn : -9223372036854775808 ≤ n ∧ n ≤ 9223372036854775807) (ka : Option Addr) (klen kcap : Nat) (hkd : kind = 2) :
    Calls Try.prog 23 #[.pointer (some ⟨xb, 0, none⟩), .agg #[.int .i64 kind, .int .i64 n, .int .i64 m, .string s, .slice ka klen kcap]] w (DoP w B xb b db r c (k + 1)) := by
  have hst : P.D.steps < 1000 ∧ P.D.steps + 3 ≤ 1000 := by have := hlim.st; omega
  have hwt : P.D.waits.length < 200 := by have := hlim.wt; omega
  have hpn : P.pins.length ≤ 1000 := by have := hlim.pn; omega
  have hpm : P.pm ≤ 1000 := by have := hlim.pm; omega
  have hRD := hsim.D
  have hRp := hsim.pins
  obtain ⟨hst1, hst2⟩ := hst
  have e0 : (kind == 0) = false := by simp [hkd]
  have e1 : (kind == 1) = false := by simp [hkd]
  have e2 : (kind == 2) = true := by simp [hkd]
  have e3 : (kind == 3) = false := by simp [hkd]
  have e4 : (kind == 4) = false := by simp [hkd]
  have e5 : (kind == 5) = false := by simp [hkd]
  have e6 : (kind == 6) = false := by simp [hkd]
  have e7 : (kind == 7) = false := by simp [hkd]
  clear hkd
  have h1 := h.box [.int .i64 kind, .int .i64 n, .int .i64 m, .string s, .slice ka klen kcap] 42
  have hb1 : Below w.heap.size w (w.alloc (.cells #[.int .i64 kind, .int .i64 n, .int .i64 m, .string s, .slice ka klen kcap] 42)) := (Below.refl _ _).alloc (Nat.le_refl _) _
  have HB1 := hid (hb1.mono h.hB)
  have HSim := hid hsim
  have HLim := hid hlim
  clear h hb1 hsim hlim
  have H1 := hid (show Duo (w.alloc (.cells #[.int .i64 kind, .int .i64 n, .int .i64 m, .string s, .slice ka klen kcap] 42)) B [(w.heap.size, [.int .i64 kind, .int .i64 n, .int .i64 m, .string s, .slice ka klen kcap], 42), (xb, [.pointer (some ⟨db, 0, none⟩), .pointer (some ⟨b, 0, none⟩), .pointer (some ⟨c, 0, none⟩), .pointer (some ⟨r, 0, none⟩)], 39)] b db r c al ar P R from h1)
  clear h1
  go_enter Try.func23, Try.ntmps23
  go_wp2_with fail
  generalize w.alloc (.cells #[.int .i64 kind, .int .i64 n, .int .i64 m, .string s, .slice ka klen kcap] 42) = W at *
  generalize w.heap.size = ab at *
  have hBW : B ≤ W.heap.size := H1.out.hB
  have x0 := H1.out.xc (k := xb) two_mem.2 (j := 0) rfl
  have x1 := H1.out.xc (k := xb) two_mem.2 (j := 1) rfl
  have x2 := H1.out.xc (k := xb) two_mem.2 (j := 2) rfl
  have x3 := H1.out.xc (k := xb) two_mem.2 (j := 3) rfl
  have a0 := H1.out.xc (k := ab) two_mem.1 (j := 0) rfl
  have a1 := H1.out.xc (k := ab) two_mem.1 (j := 1) rfl
  have a2 := H1.out.xc (k := ab) two_mem.1 (j := 2) rfl
  have a3 := H1.out.xc (k := ab) two_mem.1 (j := 3) rfl
  have a4 := H1.out.xc (k := ab) two_mem.1 (j := 4) rfl
  have Hd := hid (H1.out.later ((Below.refl W.heap.size W).drew))
  have HBd := hid (HB1.out.trans (((Below.refl W.heap.size W).drew).mono hBW))
  obtain ⟨hs1, hs2⟩ := HSim.out.drop n
  have HS2 := hid hs2
  have HLm := hid (HLim.out.drop n)
  have HR2 := hid (fun (w : World) (al : List Nat) (P' : PS) (h : Duo w B [(ab, [.int .i64 kind, .int .i64 n, .int .i64 m, .string s, .slice ka klen kcap], 42), (xb, [.pointer (some ⟨db, 0, none⟩), .pointer (some ⟨b, 0, none⟩), .pointer (some ⟨c, 0, none⟩), .pointer (some ⟨r, 0, none⟩)], 39)] b db r c al ar P' R) => h.rdrop n)
  rw [← hs1] at HR2
  have HP1 := hid (drop_all Hd.out.p n)
  generalize (P.drop n).1 = q1 at *
  clear hs1 hs2 hRD hRp
  go_wp2_with fail
  clear x0 x1 x2 x3 a0 a1 a2 a3 a4
  go_region_held3 (fun w' => w'.cell? ⟨xb, 0, none⟩ = some (.pointer (some ⟨db, 0, none⟩)) ∧ w'.cell? ⟨xb, 1, none⟩ = some (.pointer (some ⟨b, 0, none⟩)) ∧ w'.cell? ⟨xb, 2, none⟩ = some (.pointer (some ⟨c, 0, none⟩)) ∧ w'.cell? ⟨xb, 3, none⟩ = some (.pointer (some ⟨r, 0, none⟩)) ∧ w'.cell? ⟨ab, 0, none⟩ = some (.int .i64 kind) ∧ w'.cell? ⟨ab, 1, none⟩ = some (.int .i64 n) ∧ w'.cell? ⟨ab, 2, none⟩ = some (.int .i64 m) ∧ w'.cell? ⟨ab, 3, none⟩ = some (.string s) ∧ w'.cell? ⟨ab, 4, none⟩ = some (.slice ka klen kcap)) (first | exact ⟨H3.out.xc (k := xb) two_mem.2 (j := 0) rfl, H3.out.xc (k := xb) two_mem.2 (j := 1) rfl, H3.out.xc (k := xb) two_mem.2 (j := 2) rfl, H3.out.xc (k := xb) two_mem.2 (j := 3) rfl, H3.out.xc (k := ab) two_mem.1 (j := 0) rfl, H3.out.xc (k := ab) two_mem.1 (j := 1) rfl, H3.out.xc (k := ab) two_mem.1 (j := 2) rfl, H3.out.xc (k := ab) two_mem.1 (j := 3) rfl, H3.out.xc (k := ab) two_mem.1 (j := 4) rfl⟩ | exact ⟨H2.out.xc (k := xb) two_mem.2 (j := 0) rfl, H2.out.xc (k := xb) two_mem.2 (j := 1) rfl, H2.out.xc (k := xb) two_mem.2 (j := 2) rfl, H2.out.xc (k := xb) two_mem.2 (j := 3) rfl, H2.out.xc (k := ab) two_mem.1 (j := 0) rfl, H2.out.xc (k := ab) two_mem.1 (j := 1) rfl, H2.out.xc (k := ab) two_mem.1 (j := 2) rfl, H2.out.xc (k := ab) two_mem.1 (j := 3) rfl, H2.out.xc (k := ab) two_mem.1 (j := 4) rfl⟩ | exact ⟨Hd.out.xc (k := xb) two_mem.2 (j := 0) rfl, Hd.out.xc (k := xb) two_mem.2 (j := 1) rfl, Hd.out.xc (k := xb) two_mem.2 (j := 2) rfl, Hd.out.xc (k := xb) two_mem.2 (j := 3) rfl, Hd.out.xc (k := ab) two_mem.1 (j := 0) rfl, Hd.out.xc (k := ab) two_mem.1 (j := 1) rfl, Hd.out.xc (k := ab) two_mem.1 (j := 2) rfl, Hd.out.xc (k := ab) two_mem.1 (j := 3) rfl, Hd.out.xc (k := ab) two_mem.1 (j := 4) rfl⟩ | exact ⟨H1.out.xc (k := xb) two_mem.2 (j := 0) rfl, H1.out.xc (k := xb) two_mem.2 (j := 1) rfl, H1.out.xc (k := xb) two_mem.2 (j := 2) rfl, H1.out.xc (k := xb) two_mem.2 (j := 3) rfl, H1.out.xc (k := ab) two_mem.1 (j := 0) rfl, H1.out.xc (k := ab) two_mem.1 (j := 1) rfl, H1.out.xc (k := ab) two_mem.1 (j := 2) rfl, H1.out.xc (k := ab) two_mem.1 (j := 3) rfl, H1.out.xc (k := ab) two_mem.1 (j := 4) rfl⟩) (first | (go_at_call 11; refine (no_any _ _).mono ?_; rintro e wz ⟨rfl, rfl⟩) | (go_at_call 29; refine HP1.out.mono ?_; intro e w1 hd; obtain ⟨rfl, al1, h2, hB2⟩ := Hd.out.left hd; have H2 := hid h2; have HB2 := hid (HBd.out.trans hB2); clear hd h2 hB2) | (go_at_call 53; refine (HR2.out _ _ _ H2.out).mono ?_; intro e w2 hd; obtain ⟨rfl, ar1, h3, hB3⟩ := H2.out.right hd; have H3 := hid h3; have HB3 := hid (HB2.out.trans hB3); clear hd h3 hB3))
  go_wp2_with fail
  go_ret
  exact ⟨rfl, _, _, _, _, H3.out.less, HS2.out, HLm.out, HB3.out⟩

set_option maxRecDepth 100000 in
set_option maxHeartbeats 4000000 in
theorem do_commit {w : World} {B xb b db r c k : Nat} {al ar : List Nat} {P : PS} {R : RS} (h : Duo w B [(xb, [.pointer (some ⟨db, 0, none⟩), .pointer (some ⟨b, 0, none⟩), .pointer (some ⟨c, 0, none⟩), .pointer (some ⟨r, 0, none⟩)], 39)] b db r c al ar P R) (hsim : Sim P R) (hlim : Lim P k) (hk : k ≤ 60) (kind n m : Int) (s : ByteArray) (hs : s.size ≤ maxLen) (hn : -9223372036854775808 ≤ n ∧ n ≤ 9223372036854775807) (ka : Option Addr) (klen kcap : Nat) (hkd : kind = 3) :
    Calls Try.prog 23 #[.pointer (some ⟨xb, 0, none⟩), .agg #[.int .i64 kind, .int .i64 n, .int .i64 m, .string s, .slice ka klen kcap]] w (DoP w B xb b db r c (k + 1)) := by
  have hst : P.D.steps < 1000 ∧ P.D.steps + 3 ≤ 1000 := by have := hlim.st; omega
  have hwt : P.D.waits.length < 200 := by have := hlim.wt; omega
  have hpn : P.pins.length ≤ 1000 := by have := hlim.pn; omega
  have hpm : P.pm ≤ 1000 := by have := hlim.pm; omega
  have hRD := hsim.D
  have hRp := hsim.pins
  obtain ⟨hst1, hst2⟩ := hst
  have e0 : (kind == 0) = false := by simp [hkd]
  have e1 : (kind == 1) = false := by simp [hkd]
  have e2 : (kind == 2) = false := by simp [hkd]
  have e3 : (kind == 3) = true := by simp [hkd]
  have e4 : (kind == 4) = false := by simp [hkd]
  have e5 : (kind == 5) = false := by simp [hkd]
  have e6 : (kind == 6) = false := by simp [hkd]
  have e7 : (kind == 7) = false := by simp [hkd]
  clear hkd
  have h1 := h.box [.int .i64 kind, .int .i64 n, .int .i64 m, .string s, .slice ka klen kcap] 42
  have hb1 : Below w.heap.size w (w.alloc (.cells #[.int .i64 kind, .int .i64 n, .int .i64 m, .string s, .slice ka klen kcap] 42)) := (Below.refl _ _).alloc (Nat.le_refl _) _
  have HB1 := hid (hb1.mono h.hB)
  have HSim := hid hsim
  have HLim := hid hlim
  clear h hb1 hsim hlim
  have H1 := hid (show Duo (w.alloc (.cells #[.int .i64 kind, .int .i64 n, .int .i64 m, .string s, .slice ka klen kcap] 42)) B [(w.heap.size, [.int .i64 kind, .int .i64 n, .int .i64 m, .string s, .slice ka klen kcap], 42), (xb, [.pointer (some ⟨db, 0, none⟩), .pointer (some ⟨b, 0, none⟩), .pointer (some ⟨c, 0, none⟩), .pointer (some ⟨r, 0, none⟩)], 39)] b db r c al ar P R from h1)
  clear h1
  go_enter Try.func23, Try.ntmps23
  go_wp2_with fail
  generalize w.alloc (.cells #[.int .i64 kind, .int .i64 n, .int .i64 m, .string s, .slice ka klen kcap] 42) = W at *
  generalize w.heap.size = ab at *
  have hBW : B ≤ W.heap.size := H1.out.hB
  have x0 := H1.out.xc (k := xb) two_mem.2 (j := 0) rfl
  have x1 := H1.out.xc (k := xb) two_mem.2 (j := 1) rfl
  have x2 := H1.out.xc (k := xb) two_mem.2 (j := 2) rfl
  have x3 := H1.out.xc (k := xb) two_mem.2 (j := 3) rfl
  have a0 := H1.out.xc (k := ab) two_mem.1 (j := 0) rfl
  have a1 := H1.out.xc (k := ab) two_mem.1 (j := 1) rfl
  have a2 := H1.out.xc (k := ab) two_mem.1 (j := 2) rfl
  have a3 := H1.out.xc (k := ab) two_mem.1 (j := 3) rfl
  have a4 := H1.out.xc (k := ab) two_mem.1 (j := 4) rfl
  have Hd := hid (H1.out.later ((Below.refl W.heap.size W).drew))
  have HBd := hid (HB1.out.trans (((Below.refl W.heap.size W).drew).mono hBW))
  obtain ⟨hs1, hs2⟩ := HSim.out.commit s
  have HS2 := hid hs2
  have HLm := hid (HLim.out.commit s)
  have HR2 := hid (fun (w : World) (al : List Nat) (P' : PS) (h : Duo w B [(ab, [.int .i64 kind, .int .i64 n, .int .i64 m, .string s, .slice ka klen kcap], 42), (xb, [.pointer (some ⟨db, 0, none⟩), .pointer (some ⟨b, 0, none⟩), .pointer (some ⟨c, 0, none⟩), .pointer (some ⟨r, 0, none⟩)], 39)] b db r c al ar P' R) => h.rcommit (by rw [hRD]; exact hst2) s hs)
  rw [← hs1] at HR2
  have HP1 := hid (commit_all Hd.out.p hst2 s hs)
  generalize (P.commit s).1 = q1 at *
  clear hs1 hs2 hRD hRp
  go_wp2_with fail
  clear x0 x1 x2 x3 a0 a1 a2 a3 a4
  go_region_held3 (fun w' => w'.cell? ⟨xb, 0, none⟩ = some (.pointer (some ⟨db, 0, none⟩)) ∧ w'.cell? ⟨xb, 1, none⟩ = some (.pointer (some ⟨b, 0, none⟩)) ∧ w'.cell? ⟨xb, 2, none⟩ = some (.pointer (some ⟨c, 0, none⟩)) ∧ w'.cell? ⟨xb, 3, none⟩ = some (.pointer (some ⟨r, 0, none⟩)) ∧ w'.cell? ⟨ab, 0, none⟩ = some (.int .i64 kind) ∧ w'.cell? ⟨ab, 1, none⟩ = some (.int .i64 n) ∧ w'.cell? ⟨ab, 2, none⟩ = some (.int .i64 m) ∧ w'.cell? ⟨ab, 3, none⟩ = some (.string s) ∧ w'.cell? ⟨ab, 4, none⟩ = some (.slice ka klen kcap)) (first | exact ⟨H3.out.xc (k := xb) two_mem.2 (j := 0) rfl, H3.out.xc (k := xb) two_mem.2 (j := 1) rfl, H3.out.xc (k := xb) two_mem.2 (j := 2) rfl, H3.out.xc (k := xb) two_mem.2 (j := 3) rfl, H3.out.xc (k := ab) two_mem.1 (j := 0) rfl, H3.out.xc (k := ab) two_mem.1 (j := 1) rfl, H3.out.xc (k := ab) two_mem.1 (j := 2) rfl, H3.out.xc (k := ab) two_mem.1 (j := 3) rfl, H3.out.xc (k := ab) two_mem.1 (j := 4) rfl⟩ | exact ⟨H2.out.xc (k := xb) two_mem.2 (j := 0) rfl, H2.out.xc (k := xb) two_mem.2 (j := 1) rfl, H2.out.xc (k := xb) two_mem.2 (j := 2) rfl, H2.out.xc (k := xb) two_mem.2 (j := 3) rfl, H2.out.xc (k := ab) two_mem.1 (j := 0) rfl, H2.out.xc (k := ab) two_mem.1 (j := 1) rfl, H2.out.xc (k := ab) two_mem.1 (j := 2) rfl, H2.out.xc (k := ab) two_mem.1 (j := 3) rfl, H2.out.xc (k := ab) two_mem.1 (j := 4) rfl⟩ | exact ⟨Hd.out.xc (k := xb) two_mem.2 (j := 0) rfl, Hd.out.xc (k := xb) two_mem.2 (j := 1) rfl, Hd.out.xc (k := xb) two_mem.2 (j := 2) rfl, Hd.out.xc (k := xb) two_mem.2 (j := 3) rfl, Hd.out.xc (k := ab) two_mem.1 (j := 0) rfl, Hd.out.xc (k := ab) two_mem.1 (j := 1) rfl, Hd.out.xc (k := ab) two_mem.1 (j := 2) rfl, Hd.out.xc (k := ab) two_mem.1 (j := 3) rfl, Hd.out.xc (k := ab) two_mem.1 (j := 4) rfl⟩ | exact ⟨H1.out.xc (k := xb) two_mem.2 (j := 0) rfl, H1.out.xc (k := xb) two_mem.2 (j := 1) rfl, H1.out.xc (k := xb) two_mem.2 (j := 2) rfl, H1.out.xc (k := xb) two_mem.2 (j := 3) rfl, H1.out.xc (k := ab) two_mem.1 (j := 0) rfl, H1.out.xc (k := ab) two_mem.1 (j := 1) rfl, H1.out.xc (k := ab) two_mem.1 (j := 2) rfl, H1.out.xc (k := ab) two_mem.1 (j := 3) rfl, H1.out.xc (k := ab) two_mem.1 (j := 4) rfl⟩) (first | (go_at_call 11; refine (no_any _ _).mono ?_; rintro e wz ⟨rfl, rfl⟩) | (go_at_call 32; refine HP1.out.mono ?_; intro e w1 hd; obtain ⟨rfl, al1, h2, hB2⟩ := Hd.out.left hd; have H2 := hid h2; have HB2 := hid (HBd.out.trans hB2); clear hd h2 hB2) | (go_at_call 54; refine (HR2.out _ _ _ H2.out).mono ?_; intro e w2 hd; obtain ⟨rfl, ar1, h3, hB3⟩ := H2.out.right hd; have H3 := hid h3; have HB3 := hid (HB2.out.trans hB3); clear hd h3 hB3))
  go_wp2_with fail
  go_ret
  exact ⟨rfl, _, _, _, _, H3.out.less, HS2.out, HLm.out, HB3.out⟩

set_option maxRecDepth 100000 in
set_option maxHeartbeats 4000000 in
theorem do_unpin {w : World} {B xb b db r c k : Nat} {al ar : List Nat} {P : PS} {R : RS} (h : Duo w B [(xb, [.pointer (some ⟨db, 0, none⟩), .pointer (some ⟨b, 0, none⟩), .pointer (some ⟨c, 0, none⟩), .pointer (some ⟨r, 0, none⟩)], 39)] b db r c al ar P R) (hsim : Sim P R) (hlim : Lim P k) (hk : k ≤ 60) (kind n m : Int) (s : ByteArray) (hs : s.size ≤ maxLen) (hn : -9223372036854775808 ≤ n ∧ n ≤ 9223372036854775807) (ka : Option Addr) (klen kcap : Nat) (hkd : kind = 6) :
    Calls Try.prog 23 #[.pointer (some ⟨xb, 0, none⟩), .agg #[.int .i64 kind, .int .i64 n, .int .i64 m, .string s, .slice ka klen kcap]] w (DoP w B xb b db r c (k + 1)) := by
  have hst : P.D.steps < 1000 ∧ P.D.steps + 3 ≤ 1000 := by have := hlim.st; omega
  have hwt : P.D.waits.length < 200 := by have := hlim.wt; omega
  have hpn : P.pins.length ≤ 1000 := by have := hlim.pn; omega
  have hpm : P.pm ≤ 1000 := by have := hlim.pm; omega
  have hRD := hsim.D
  have hRp := hsim.pins
  obtain ⟨hst1, hst2⟩ := hst
  have e0 : (kind == 0) = false := by simp [hkd]
  have e1 : (kind == 1) = false := by simp [hkd]
  have e2 : (kind == 2) = false := by simp [hkd]
  have e3 : (kind == 3) = false := by simp [hkd]
  have e4 : (kind == 4) = false := by simp [hkd]
  have e5 : (kind == 5) = false := by simp [hkd]
  have e6 : (kind == 6) = true := by simp [hkd]
  have e7 : (kind == 7) = false := by simp [hkd]
  clear hkd
  have h1 := h.box [.int .i64 kind, .int .i64 n, .int .i64 m, .string s, .slice ka klen kcap] 42
  have hb1 : Below w.heap.size w (w.alloc (.cells #[.int .i64 kind, .int .i64 n, .int .i64 m, .string s, .slice ka klen kcap] 42)) := (Below.refl _ _).alloc (Nat.le_refl _) _
  have HB1 := hid (hb1.mono h.hB)
  have HSim := hid hsim
  have HLim := hid hlim
  clear h hb1 hsim hlim
  have H1 := hid (show Duo (w.alloc (.cells #[.int .i64 kind, .int .i64 n, .int .i64 m, .string s, .slice ka klen kcap] 42)) B [(w.heap.size, [.int .i64 kind, .int .i64 n, .int .i64 m, .string s, .slice ka klen kcap], 42), (xb, [.pointer (some ⟨db, 0, none⟩), .pointer (some ⟨b, 0, none⟩), .pointer (some ⟨c, 0, none⟩), .pointer (some ⟨r, 0, none⟩)], 39)] b db r c al ar P R from h1)
  clear h1
  go_enter Try.func23, Try.ntmps23
  go_wp2_with fail
  generalize w.alloc (.cells #[.int .i64 kind, .int .i64 n, .int .i64 m, .string s, .slice ka klen kcap] 42) = W at *
  generalize w.heap.size = ab at *
  have hBW : B ≤ W.heap.size := H1.out.hB
  have x0 := H1.out.xc (k := xb) two_mem.2 (j := 0) rfl
  have x1 := H1.out.xc (k := xb) two_mem.2 (j := 1) rfl
  have x2 := H1.out.xc (k := xb) two_mem.2 (j := 2) rfl
  have x3 := H1.out.xc (k := xb) two_mem.2 (j := 3) rfl
  have a0 := H1.out.xc (k := ab) two_mem.1 (j := 0) rfl
  have a1 := H1.out.xc (k := ab) two_mem.1 (j := 1) rfl
  have a2 := H1.out.xc (k := ab) two_mem.1 (j := 2) rfl
  have a3 := H1.out.xc (k := ab) two_mem.1 (j := 3) rfl
  have a4 := H1.out.xc (k := ab) two_mem.1 (j := 4) rfl
  have Hd := hid (H1.out.later ((Below.refl W.heap.size W).drew))
  have HBd := hid (HB1.out.trans (((Below.refl W.heap.size W).drew).mono hBW))
  obtain ⟨hs1, hs2⟩ := HSim.out.unpin n
  have HS2 := hid hs2
  have HLm := hid (HLim.out.unpin n)
  have HR2 := hid (fun (w : World) (al : List Nat) (P' : PS) (h : Duo w B [(ab, [.int .i64 kind, .int .i64 n, .int .i64 m, .string s, .slice ka klen kcap], 42), (xb, [.pointer (some ⟨db, 0, none⟩), .pointer (some ⟨b, 0, none⟩), .pointer (some ⟨c, 0, none⟩), .pointer (some ⟨r, 0, none⟩)], 39)] b db r c al ar P' R) => h.runpin (by rw [hRp]; exact hpn) n)
  rw [← hs1] at HR2
  have HP1 := hid (unpin_all Hd.out.p hpn hpm n hn)
  generalize (P.unpin n).1 = q1 at *
  clear hs1 hs2 hRD hRp
  go_wp2_with fail
  clear x0 x1 x2 x3 a0 a1 a2 a3 a4
  go_region_held3 (fun w' => w'.cell? ⟨xb, 0, none⟩ = some (.pointer (some ⟨db, 0, none⟩)) ∧ w'.cell? ⟨xb, 1, none⟩ = some (.pointer (some ⟨b, 0, none⟩)) ∧ w'.cell? ⟨xb, 2, none⟩ = some (.pointer (some ⟨c, 0, none⟩)) ∧ w'.cell? ⟨xb, 3, none⟩ = some (.pointer (some ⟨r, 0, none⟩)) ∧ w'.cell? ⟨ab, 0, none⟩ = some (.int .i64 kind) ∧ w'.cell? ⟨ab, 1, none⟩ = some (.int .i64 n) ∧ w'.cell? ⟨ab, 2, none⟩ = some (.int .i64 m) ∧ w'.cell? ⟨ab, 3, none⟩ = some (.string s) ∧ w'.cell? ⟨ab, 4, none⟩ = some (.slice ka klen kcap)) (first | exact ⟨H3.out.xc (k := xb) two_mem.2 (j := 0) rfl, H3.out.xc (k := xb) two_mem.2 (j := 1) rfl, H3.out.xc (k := xb) two_mem.2 (j := 2) rfl, H3.out.xc (k := xb) two_mem.2 (j := 3) rfl, H3.out.xc (k := ab) two_mem.1 (j := 0) rfl, H3.out.xc (k := ab) two_mem.1 (j := 1) rfl, H3.out.xc (k := ab) two_mem.1 (j := 2) rfl, H3.out.xc (k := ab) two_mem.1 (j := 3) rfl, H3.out.xc (k := ab) two_mem.1 (j := 4) rfl⟩ | exact ⟨H2.out.xc (k := xb) two_mem.2 (j := 0) rfl, H2.out.xc (k := xb) two_mem.2 (j := 1) rfl, H2.out.xc (k := xb) two_mem.2 (j := 2) rfl, H2.out.xc (k := xb) two_mem.2 (j := 3) rfl, H2.out.xc (k := ab) two_mem.1 (j := 0) rfl, H2.out.xc (k := ab) two_mem.1 (j := 1) rfl, H2.out.xc (k := ab) two_mem.1 (j := 2) rfl, H2.out.xc (k := ab) two_mem.1 (j := 3) rfl, H2.out.xc (k := ab) two_mem.1 (j := 4) rfl⟩ | exact ⟨Hd.out.xc (k := xb) two_mem.2 (j := 0) rfl, Hd.out.xc (k := xb) two_mem.2 (j := 1) rfl, Hd.out.xc (k := xb) two_mem.2 (j := 2) rfl, Hd.out.xc (k := xb) two_mem.2 (j := 3) rfl, Hd.out.xc (k := ab) two_mem.1 (j := 0) rfl, Hd.out.xc (k := ab) two_mem.1 (j := 1) rfl, Hd.out.xc (k := ab) two_mem.1 (j := 2) rfl, Hd.out.xc (k := ab) two_mem.1 (j := 3) rfl, Hd.out.xc (k := ab) two_mem.1 (j := 4) rfl⟩ | exact ⟨H1.out.xc (k := xb) two_mem.2 (j := 0) rfl, H1.out.xc (k := xb) two_mem.2 (j := 1) rfl, H1.out.xc (k := xb) two_mem.2 (j := 2) rfl, H1.out.xc (k := xb) two_mem.2 (j := 3) rfl, H1.out.xc (k := ab) two_mem.1 (j := 0) rfl, H1.out.xc (k := ab) two_mem.1 (j := 1) rfl, H1.out.xc (k := ab) two_mem.1 (j := 2) rfl, H1.out.xc (k := ab) two_mem.1 (j := 3) rfl, H1.out.xc (k := ab) two_mem.1 (j := 4) rfl⟩) (first | (go_at_call 11; refine (no_any _ _).mono ?_; rintro e wz ⟨rfl, rfl⟩) | (go_at_call 37; refine HP1.out.mono ?_; intro e w1 hd; obtain ⟨rfl, al1, h2, hB2⟩ := Hd.out.left hd; have H2 := hid h2; have HB2 := hid (HBd.out.trans hB2); clear hd h2 hB2) | (go_at_call 57; refine (HR2.out _ _ _ H2.out).mono ?_; intro e w2 hd; obtain ⟨rfl, ar1, h3, hB3⟩ := H2.out.right hd; have H3 := hid h3; have HB3 := hid (HB2.out.trans hB3); clear hd h3 hB3))
  go_wp2_with fail
  go_ret
  exact ⟨rfl, _, _, _, _, H3.out.less, HS2.out, HLm.out, HB3.out⟩

set_option maxRecDepth 100000 in
set_option maxHeartbeats 4000000 in
theorem do_read {w : World} {B xb b db r c k : Nat} {al ar : List Nat} {P : PS} {R : RS} (h : Duo w B [(xb, [.pointer (some ⟨db, 0, none⟩), .pointer (some ⟨b, 0, none⟩), .pointer (some ⟨c, 0, none⟩), .pointer (some ⟨r, 0, none⟩)], 39)] b db r c al ar P R) (hsim : Sim P R) (hlim : Lim P k) (hk : k ≤ 60) (kind n m : Int) (s : ByteArray) (hs : s.size ≤ maxLen) (hn : -9223372036854775808 ≤ n ∧ n ≤ 9223372036854775807) (ka : Option Addr) (klen kcap : Nat) (hkd : kind = 1) :
    Calls Try.prog 23 #[.pointer (some ⟨xb, 0, none⟩), .agg #[.int .i64 kind, .int .i64 n, .int .i64 m, .string s, .slice ka klen kcap]] w (DoP w B xb b db r c (k + 1)) := by
  have hst : P.D.steps < 1000 ∧ P.D.steps + 3 ≤ 1000 := by have := hlim.st; omega
  have hwt : P.D.waits.length < 200 := by have := hlim.wt; omega
  have hpn : P.pins.length ≤ 1000 := by have := hlim.pn; omega
  have hpm : P.pm ≤ 1000 := by have := hlim.pm; omega
  have hRD := hsim.D
  have hRp := hsim.pins
  obtain ⟨hst1, hst2⟩ := hst
  have e0 : (kind == 0) = false := by simp [hkd]
  have e1 : (kind == 1) = true := by simp [hkd]
  have e2 : (kind == 2) = false := by simp [hkd]
  have e3 : (kind == 3) = false := by simp [hkd]
  have e4 : (kind == 4) = false := by simp [hkd]
  have e5 : (kind == 5) = false := by simp [hkd]
  have e6 : (kind == 6) = false := by simp [hkd]
  have e7 : (kind == 7) = false := by simp [hkd]
  clear hkd
  have h1 := h.box [.int .i64 kind, .int .i64 n, .int .i64 m, .string s, .slice ka klen kcap] 42
  have hb1 : Below w.heap.size w (w.alloc (.cells #[.int .i64 kind, .int .i64 n, .int .i64 m, .string s, .slice ka klen kcap] 42)) := (Below.refl _ _).alloc (Nat.le_refl _) _
  have HB1 := hid (hb1.mono h.hB)
  have HSim := hid hsim
  have HLim := hid hlim
  clear h hb1 hsim hlim
  have H1 := hid (show Duo (w.alloc (.cells #[.int .i64 kind, .int .i64 n, .int .i64 m, .string s, .slice ka klen kcap] 42)) B [(w.heap.size, [.int .i64 kind, .int .i64 n, .int .i64 m, .string s, .slice ka klen kcap], 42), (xb, [.pointer (some ⟨db, 0, none⟩), .pointer (some ⟨b, 0, none⟩), .pointer (some ⟨c, 0, none⟩), .pointer (some ⟨r, 0, none⟩)], 39)] b db r c al ar P R from h1)
  clear h1
  go_enter Try.func23, Try.ntmps23
  go_wp2_with fail
  generalize w.alloc (.cells #[.int .i64 kind, .int .i64 n, .int .i64 m, .string s, .slice ka klen kcap] 42) = W at *
  generalize w.heap.size = ab at *
  have hBW : B ≤ W.heap.size := H1.out.hB
  have x0 := H1.out.xc (k := xb) two_mem.2 (j := 0) rfl
  have x1 := H1.out.xc (k := xb) two_mem.2 (j := 1) rfl
  have x2 := H1.out.xc (k := xb) two_mem.2 (j := 2) rfl
  have x3 := H1.out.xc (k := xb) two_mem.2 (j := 3) rfl
  have a0 := H1.out.xc (k := ab) two_mem.1 (j := 0) rfl
  have a1 := H1.out.xc (k := ab) two_mem.1 (j := 1) rfl
  have a2 := H1.out.xc (k := ab) two_mem.1 (j := 2) rfl
  have a3 := H1.out.xc (k := ab) two_mem.1 (j := 3) rfl
  have a4 := H1.out.xc (k := ab) two_mem.1 (j := 4) rfl
  have Hd := hid (H1.out.later ((Below.refl W.heap.size W).drew))
  have HBd := hid (HB1.out.trans (((Below.refl W.heap.size W).drew).mono hBW))
  obtain ⟨hs1, hs2⟩ := HSim.out.read n
  have HS2 := hid hs2
  have HLm := hid (HLim.out.read n)
  have HR2 := hid (fun (w : World) (al : List Nat) (P' : PS) (h : Duo w B [(ab, [.int .i64 kind, .int .i64 n, .int .i64 m, .string s, .slice ka klen kcap], 42), (xb, [.pointer (some ⟨db, 0, none⟩), .pointer (some ⟨b, 0, none⟩), .pointer (some ⟨c, 0, none⟩), .pointer (some ⟨r, 0, none⟩)], 39)] b db r c al ar P' R) => h.rread n)
  rw [← hs1] at HR2
  have HP1 := hid (read_all Hd.out.p n)
  generalize (P.read n).1 = v at *
  obtain ⟨v1, v2, v3⟩ := v
  unfold RdV.val at HR2 HP1
  clear hs1 hs2 hRD hRp
  go_wp2_with fail
  clear x0 x1 x2 x3 a0 a1 a2 a3 a4
  go_region_held3 (fun w' => w'.cell? ⟨xb, 0, none⟩ = some (.pointer (some ⟨db, 0, none⟩)) ∧ w'.cell? ⟨xb, 1, none⟩ = some (.pointer (some ⟨b, 0, none⟩)) ∧ w'.cell? ⟨xb, 2, none⟩ = some (.pointer (some ⟨c, 0, none⟩)) ∧ w'.cell? ⟨xb, 3, none⟩ = some (.pointer (some ⟨r, 0, none⟩)) ∧ w'.cell? ⟨ab, 0, none⟩ = some (.int .i64 kind) ∧ w'.cell? ⟨ab, 1, none⟩ = some (.int .i64 n) ∧ w'.cell? ⟨ab, 2, none⟩ = some (.int .i64 m) ∧ w'.cell? ⟨ab, 3, none⟩ = some (.string s) ∧ w'.cell? ⟨ab, 4, none⟩ = some (.slice ka klen kcap)) (first | exact ⟨H2.out.xc (k := xb) two_mem.2 (j := 0) rfl, H2.out.xc (k := xb) two_mem.2 (j := 1) rfl, H2.out.xc (k := xb) two_mem.2 (j := 2) rfl, H2.out.xc (k := xb) two_mem.2 (j := 3) rfl, H2.out.xc (k := ab) two_mem.1 (j := 0) rfl, H2.out.xc (k := ab) two_mem.1 (j := 1) rfl, H2.out.xc (k := ab) two_mem.1 (j := 2) rfl, H2.out.xc (k := ab) two_mem.1 (j := 3) rfl, H2.out.xc (k := ab) two_mem.1 (j := 4) rfl⟩ | exact ⟨Hd.out.xc (k := xb) two_mem.2 (j := 0) rfl, Hd.out.xc (k := xb) two_mem.2 (j := 1) rfl, Hd.out.xc (k := xb) two_mem.2 (j := 2) rfl, Hd.out.xc (k := xb) two_mem.2 (j := 3) rfl, Hd.out.xc (k := ab) two_mem.1 (j := 0) rfl, Hd.out.xc (k := ab) two_mem.1 (j := 1) rfl, Hd.out.xc (k := ab) two_mem.1 (j := 2) rfl, Hd.out.xc (k := ab) two_mem.1 (j := 3) rfl, Hd.out.xc (k := ab) two_mem.1 (j := 4) rfl⟩ | exact ⟨H1.out.xc (k := xb) two_mem.2 (j := 0) rfl, H1.out.xc (k := xb) two_mem.2 (j := 1) rfl, H1.out.xc (k := xb) two_mem.2 (j := 2) rfl, H1.out.xc (k := xb) two_mem.2 (j := 3) rfl, H1.out.xc (k := ab) two_mem.1 (j := 0) rfl, H1.out.xc (k := ab) two_mem.1 (j := 1) rfl, H1.out.xc (k := ab) two_mem.1 (j := 2) rfl, H1.out.xc (k := ab) two_mem.1 (j := 3) rfl, H1.out.xc (k := ab) two_mem.1 (j := 4) rfl⟩) (first | (go_at_call 36; refine HP1.out.mono ?_; intro e w1 hd; obtain ⟨rfl, al1, h2, hB2⟩ := Hd.out.left hd; have H2 := hid h2; have HB2 := hid (HBd.out.trans hB2); clear hd h2 hB2))
  have H2d := hid (H2.out.later ((Below.refl w1.heap.size w1).drew))
  have HB2d := hid (HB2.out.trans (((Below.refl w1.heap.size w1).drew).mono H2.out.hB))

  have x0 := H2.out.xc (k := xb) two_mem.2 (j := 0) rfl
  have x1 := H2.out.xc (k := xb) two_mem.2 (j := 1) rfl
  have x2 := H2.out.xc (k := xb) two_mem.2 (j := 2) rfl
  have x3 := H2.out.xc (k := xb) two_mem.2 (j := 3) rfl
  have a0 := H2.out.xc (k := ab) two_mem.1 (j := 0) rfl
  have a1 := H2.out.xc (k := ab) two_mem.1 (j := 1) rfl
  have a2 := H2.out.xc (k := ab) two_mem.1 (j := 2) rfl
  have a3 := H2.out.xc (k := ab) two_mem.1 (j := 3) rfl
  have a4 := H2.out.xc (k := ab) two_mem.1 (j := 4) rfl
  go_wp2_with fail
  clear x0 x1 x2 x3 a0 a1 a2 a3 a4
  go_region_held3 (fun w' => w'.cell? ⟨xb, 0, none⟩ = some (.pointer (some ⟨db, 0, none⟩)) ∧ w'.cell? ⟨xb, 1, none⟩ = some (.pointer (some ⟨b, 0, none⟩)) ∧ w'.cell? ⟨xb, 2, none⟩ = some (.pointer (some ⟨c, 0, none⟩)) ∧ w'.cell? ⟨xb, 3, none⟩ = some (.pointer (some ⟨r, 0, none⟩)) ∧ w'.cell? ⟨ab, 0, none⟩ = some (.int .i64 kind) ∧ w'.cell? ⟨ab, 1, none⟩ = some (.int .i64 n) ∧ w'.cell? ⟨ab, 2, none⟩ = some (.int .i64 m) ∧ w'.cell? ⟨ab, 3, none⟩ = some (.string s) ∧ w'.cell? ⟨ab, 4, none⟩ = some (.slice ka klen kcap)) (first | exact ⟨H3.out.xc (k := xb) two_mem.2 (j := 0) rfl, H3.out.xc (k := xb) two_mem.2 (j := 1) rfl, H3.out.xc (k := xb) two_mem.2 (j := 2) rfl, H3.out.xc (k := xb) two_mem.2 (j := 3) rfl, H3.out.xc (k := ab) two_mem.1 (j := 0) rfl, H3.out.xc (k := ab) two_mem.1 (j := 1) rfl, H3.out.xc (k := ab) two_mem.1 (j := 2) rfl, H3.out.xc (k := ab) two_mem.1 (j := 3) rfl, H3.out.xc (k := ab) two_mem.1 (j := 4) rfl⟩ | exact ⟨H2d.out.xc (k := xb) two_mem.2 (j := 0) rfl, H2d.out.xc (k := xb) two_mem.2 (j := 1) rfl, H2d.out.xc (k := xb) two_mem.2 (j := 2) rfl, H2d.out.xc (k := xb) two_mem.2 (j := 3) rfl, H2d.out.xc (k := ab) two_mem.1 (j := 0) rfl, H2d.out.xc (k := ab) two_mem.1 (j := 1) rfl, H2d.out.xc (k := ab) two_mem.1 (j := 2) rfl, H2d.out.xc (k := ab) two_mem.1 (j := 3) rfl, H2d.out.xc (k := ab) two_mem.1 (j := 4) rfl⟩ | exact ⟨H2.out.xc (k := xb) two_mem.2 (j := 0) rfl, H2.out.xc (k := xb) two_mem.2 (j := 1) rfl, H2.out.xc (k := xb) two_mem.2 (j := 2) rfl, H2.out.xc (k := xb) two_mem.2 (j := 3) rfl, H2.out.xc (k := ab) two_mem.1 (j := 0) rfl, H2.out.xc (k := ab) two_mem.1 (j := 1) rfl, H2.out.xc (k := ab) two_mem.1 (j := 2) rfl, H2.out.xc (k := ab) two_mem.1 (j := 3) rfl, H2.out.xc (k := ab) two_mem.1 (j := 4) rfl⟩) (first | (go_at_call 52; refine (HR2.out _ _ _ H2d.out).mono ?_; intro e w2 hd; obtain ⟨rfl, ar1, h3, hB3⟩ := H2d.out.right hd; have H3 := hid h3; have HB3 := hid (HB2d.out.trans hB3); clear hd h3 hB3))
  go_wp2_with (first | (go_at_call 11; refine (no_any _ _).mono ?_; rintro e wz ⟨rfl, rfl⟩))
  go_ret
  exact ⟨rfl, _, _, _, _, H3.out.less, HS2.out, HLm.out, HB3.out⟩

set_option maxRecDepth 100000 in
set_option maxHeartbeats 4000000 in
theorem do_abort {w : World} {B xb b db r c k : Nat} {al ar : List Nat} {P : PS} {R : RS} (h : Duo w B [(xb, [.pointer (some ⟨db, 0, none⟩), .pointer (some ⟨b, 0, none⟩), .pointer (some ⟨c, 0, none⟩), .pointer (some ⟨r, 0, none⟩)], 39)] b db r c al ar P R) (hsim : Sim P R) (hlim : Lim P k) (hk : k ≤ 60) (kind n m : Int) (s : ByteArray) (hs : s.size ≤ maxLen) (hn : -9223372036854775808 ≤ n ∧ n ≤ 9223372036854775807) (ka : Option Addr) (klen kcap : Nat) (hkd : kind = 4) :
    Calls Try.prog 23 #[.pointer (some ⟨xb, 0, none⟩), .agg #[.int .i64 kind, .int .i64 n, .int .i64 m, .string s, .slice ka klen kcap]] w (DoP w B xb b db r c (k + 1)) := by
  have hst : P.D.steps < 1000 ∧ P.D.steps + 3 ≤ 1000 := by have := hlim.st; omega
  have hwt : P.D.waits.length < 200 := by have := hlim.wt; omega
  have hpn : P.pins.length ≤ 1000 := by have := hlim.pn; omega
  have hpm : P.pm ≤ 1000 := by have := hlim.pm; omega
  have hRD := hsim.D
  have hRp := hsim.pins
  obtain ⟨hst1, hst2⟩ := hst
  have e0 : (kind == 0) = false := by simp [hkd]
  have e1 : (kind == 1) = false := by simp [hkd]
  have e2 : (kind == 2) = false := by simp [hkd]
  have e3 : (kind == 3) = false := by simp [hkd]
  have e4 : (kind == 4) = true := by simp [hkd]
  have e5 : (kind == 5) = false := by simp [hkd]
  have e6 : (kind == 6) = false := by simp [hkd]
  have e7 : (kind == 7) = false := by simp [hkd]
  clear hkd
  have h1 := h.box [.int .i64 kind, .int .i64 n, .int .i64 m, .string s, .slice ka klen kcap] 42
  have hb1 : Below w.heap.size w (w.alloc (.cells #[.int .i64 kind, .int .i64 n, .int .i64 m, .string s, .slice ka klen kcap] 42)) := (Below.refl _ _).alloc (Nat.le_refl _) _
  have HB1 := hid (hb1.mono h.hB)
  have HSim := hid hsim
  have HLim := hid hlim
  clear h hb1 hsim hlim
  have H1 := hid (show Duo (w.alloc (.cells #[.int .i64 kind, .int .i64 n, .int .i64 m, .string s, .slice ka klen kcap] 42)) B [(w.heap.size, [.int .i64 kind, .int .i64 n, .int .i64 m, .string s, .slice ka klen kcap], 42), (xb, [.pointer (some ⟨db, 0, none⟩), .pointer (some ⟨b, 0, none⟩), .pointer (some ⟨c, 0, none⟩), .pointer (some ⟨r, 0, none⟩)], 39)] b db r c al ar P R from h1)
  clear h1
  have x0 := H1.out.xc (k := xb) two_mem.2 (j := 0) rfl
  have x1 := H1.out.xc (k := xb) two_mem.2 (j := 1) rfl
  have x2 := H1.out.xc (k := xb) two_mem.2 (j := 2) rfl
  have x3 := H1.out.xc (k := xb) two_mem.2 (j := 3) rfl
  have a0 := H1.out.xc (k := w.heap.size) two_mem.1 (j := 0) rfl
  have a1 := H1.out.xc (k := w.heap.size) two_mem.1 (j := 1) rfl
  have a2 := H1.out.xc (k := w.heap.size) two_mem.1 (j := 2) rfl
  have a3 := H1.out.xc (k := w.heap.size) two_mem.1 (j := 3) rfl
  have a4 := H1.out.xc (k := w.heap.size) two_mem.1 (j := 4) rfl
  go_enter Try.func23, Try.ntmps23
  go_wp2_with fail
  generalize w.alloc (.cells #[.int .i64 kind, .int .i64 n, .int .i64 m, .string s, .slice ka klen kcap] 42) = W at *
  generalize w.heap.size = ab at *
  have hBW : B ≤ W.heap.size := H1.out.hB
  refine (abort_all H1.out.p).mono ?_
  intro e w1 hd
  obtain ⟨rfl, al1, h2, hB2⟩ := H1.out.left hd
  have H2 := hid h2
  have HB2 := hid (HB1.out.trans hB2)
  clear hd h2 hB2 x0 x1 x2 x3 a0 a1 a2 a3 a4
  have x0 := H2.out.xc (k := xb) two_mem.2 (j := 0) rfl
  have x1 := H2.out.xc (k := xb) two_mem.2 (j := 1) rfl
  have x2 := H2.out.xc (k := xb) two_mem.2 (j := 2) rfl
  have x3 := H2.out.xc (k := xb) two_mem.2 (j := 3) rfl
  have a0 := H2.out.xc (k := ab) two_mem.1 (j := 0) rfl
  have a1 := H2.out.xc (k := ab) two_mem.1 (j := 1) rfl
  have a2 := H2.out.xc (k := ab) two_mem.1 (j := 2) rfl
  have a3 := H2.out.xc (k := ab) two_mem.1 (j := 3) rfl
  have a4 := H2.out.xc (k := ab) two_mem.1 (j := 4) rfl
  have HS2 := hid HSim.out.abort
  have HLm := hid HLim.out.abort
  clear hRD hRp
  go_wp2_with fail
  refine H2.out.rabort.mono ?_
  intro e w2 hd
  obtain ⟨rfl, ar1, h3, hB3⟩ := H2.out.right hd
  have H3 := hid h3
  have HB3 := hid (HB2.out.trans hB3)
  clear hd h3 hB3 x0 x1 x2 x3 a0 a1 a2 a3 a4
  go_wp2_with fail
  go_ret
  exact ⟨rfl, _, _, _, _, H3.out.less, HS2.out, HLm.out, HB3.out⟩

set_option maxRecDepth 100000 in
set_option maxHeartbeats 4000000 in
theorem do_pin {w : World} {B xb b db r c k : Nat} {al ar : List Nat} {P : PS} {R : RS} (h : Duo w B [(xb, [.pointer (some ⟨db, 0, none⟩), .pointer (some ⟨b, 0, none⟩), .pointer (some ⟨c, 0, none⟩), .pointer (some ⟨r, 0, none⟩)], 39)] b db r c al ar P R) (hsim : Sim P R) (hlim : Lim P k) (hk : k ≤ 60) (kind n m : Int) (s : ByteArray) (hs : s.size ≤ maxLen) (hn : -9223372036854775808 ≤ n ∧ n ≤ 9223372036854775807) (ka : Option Addr) (klen kcap : Nat) (hkd : kind = 5) :
    Calls Try.prog 23 #[.pointer (some ⟨xb, 0, none⟩), .agg #[.int .i64 kind, .int .i64 n, .int .i64 m, .string s, .slice ka klen kcap]] w (DoP w B xb b db r c (k + 1)) := by
  have hst : P.D.steps < 1000 ∧ P.D.steps + 3 ≤ 1000 := by have := hlim.st; omega
  have hwt : P.D.waits.length < 200 := by have := hlim.wt; omega
  have hpn : P.pins.length ≤ 1000 := by have := hlim.pn; omega
  have hpm : P.pm ≤ 1000 := by have := hlim.pm; omega
  have hRD := hsim.D
  have hRp := hsim.pins
  obtain ⟨hst1, hst2⟩ := hst
  have e0 : (kind == 0) = false := by simp [hkd]
  have e1 : (kind == 1) = false := by simp [hkd]
  have e2 : (kind == 2) = false := by simp [hkd]
  have e3 : (kind == 3) = false := by simp [hkd]
  have e4 : (kind == 4) = false := by simp [hkd]
  have e5 : (kind == 5) = true := by simp [hkd]
  have e6 : (kind == 6) = false := by simp [hkd]
  have e7 : (kind == 7) = false := by simp [hkd]
  clear hkd
  have h1 := h.box [.int .i64 kind, .int .i64 n, .int .i64 m, .string s, .slice ka klen kcap] 42
  have hb1 : Below w.heap.size w (w.alloc (.cells #[.int .i64 kind, .int .i64 n, .int .i64 m, .string s, .slice ka klen kcap] 42)) := (Below.refl _ _).alloc (Nat.le_refl _) _
  have HB1 := hid (hb1.mono h.hB)
  have HSim := hid hsim
  have HLim := hid hlim
  clear h hb1 hsim hlim
  have H1 := hid (show Duo (w.alloc (.cells #[.int .i64 kind, .int .i64 n, .int .i64 m, .string s, .slice ka klen kcap] 42)) B [(w.heap.size, [.int .i64 kind, .int .i64 n, .int .i64 m, .string s, .slice ka klen kcap], 42), (xb, [.pointer (some ⟨db, 0, none⟩), .pointer (some ⟨b, 0, none⟩), .pointer (some ⟨c, 0, none⟩), .pointer (some ⟨r, 0, none⟩)], 39)] b db r c al ar P R from h1)
  clear h1
  go_enter Try.func23, Try.ntmps23
  go_wp2_with fail
  generalize w.alloc (.cells #[.int .i64 kind, .int .i64 n, .int .i64 m, .string s, .slice ka klen kcap] 42) = W at *
  generalize w.heap.size = ab at *
  have hBW : B ≤ W.heap.size := H1.out.hB
  have x0 := H1.out.xc (k := xb) two_mem.2 (j := 0) rfl
  have x1 := H1.out.xc (k := xb) two_mem.2 (j := 1) rfl
  have x2 := H1.out.xc (k := xb) two_mem.2 (j := 2) rfl
  have x3 := H1.out.xc (k := xb) two_mem.2 (j := 3) rfl
  have a0 := H1.out.xc (k := ab) two_mem.1 (j := 0) rfl
  have a1 := H1.out.xc (k := ab) two_mem.1 (j := 1) rfl
  have a2 := H1.out.xc (k := ab) two_mem.1 (j := 2) rfl
  have a3 := H1.out.xc (k := ab) two_mem.1 (j := 3) rfl
  have a4 := H1.out.xc (k := ab) two_mem.1 (j := 4) rfl
  have Hd := hid (H1.out.later ((Below.refl W.heap.size W).drew))
  have HBd := hid (HB1.out.trans (((Below.refl W.heap.size W).drew).mono hBW))
  have hs1 := HSim.out.gen.symm
  have hs2 := HSim.out.pin
  have HS2 := hid hs2
  have HLm := hid (HLim.out.pin)
  have HP1 := hid (pin_all Hd.out.p hpn hpm)
  have HR2 := hid (fun (w : World) (al : List Nat) (P' : PS) (h : Duo w B [(ab, [.int .i64 kind, .int .i64 n, .int .i64 m, .string s, .slice ka klen kcap], 42), (xb, [.pointer (some ⟨db, 0, none⟩), .pointer (some ⟨b, 0, none⟩), .pointer (some ⟨c, 0, none⟩), .pointer (some ⟨r, 0, none⟩)], 39)] b db r c al ar P' R) => h.rpin (by rw [hRp]; exact hpn))
  rw [← hs1] at HR2
  generalize P.gen = q1 at *

  clear hs1 hs2 hRD hRp
  go_wp2_with fail
  clear x0 x1 x2 x3 a0 a1 a2 a3 a4
  go_region_held3 (fun w' => w'.cell? ⟨xb, 0, none⟩ = some (.pointer (some ⟨db, 0, none⟩)) ∧ w'.cell? ⟨xb, 1, none⟩ = some (.pointer (some ⟨b, 0, none⟩)) ∧ w'.cell? ⟨xb, 2, none⟩ = some (.pointer (some ⟨c, 0, none⟩)) ∧ w'.cell? ⟨xb, 3, none⟩ = some (.pointer (some ⟨r, 0, none⟩)) ∧ w'.cell? ⟨ab, 0, none⟩ = some (.int .i64 kind) ∧ w'.cell? ⟨ab, 1, none⟩ = some (.int .i64 n) ∧ w'.cell? ⟨ab, 2, none⟩ = some (.int .i64 m) ∧ w'.cell? ⟨ab, 3, none⟩ = some (.string s) ∧ w'.cell? ⟨ab, 4, none⟩ = some (.slice ka klen kcap)) (first | exact ⟨H3.out.xc (k := xb) two_mem.2 (j := 0) rfl, H3.out.xc (k := xb) two_mem.2 (j := 1) rfl, H3.out.xc (k := xb) two_mem.2 (j := 2) rfl, H3.out.xc (k := xb) two_mem.2 (j := 3) rfl, H3.out.xc (k := ab) two_mem.1 (j := 0) rfl, H3.out.xc (k := ab) two_mem.1 (j := 1) rfl, H3.out.xc (k := ab) two_mem.1 (j := 2) rfl, H3.out.xc (k := ab) two_mem.1 (j := 3) rfl, H3.out.xc (k := ab) two_mem.1 (j := 4) rfl⟩ | exact ⟨H2.out.xc (k := xb) two_mem.2 (j := 0) rfl, H2.out.xc (k := xb) two_mem.2 (j := 1) rfl, H2.out.xc (k := xb) two_mem.2 (j := 2) rfl, H2.out.xc (k := xb) two_mem.2 (j := 3) rfl, H2.out.xc (k := ab) two_mem.1 (j := 0) rfl, H2.out.xc (k := ab) two_mem.1 (j := 1) rfl, H2.out.xc (k := ab) two_mem.1 (j := 2) rfl, H2.out.xc (k := ab) two_mem.1 (j := 3) rfl, H2.out.xc (k := ab) two_mem.1 (j := 4) rfl⟩ | exact ⟨Hd.out.xc (k := xb) two_mem.2 (j := 0) rfl, Hd.out.xc (k := xb) two_mem.2 (j := 1) rfl, Hd.out.xc (k := xb) two_mem.2 (j := 2) rfl, Hd.out.xc (k := xb) two_mem.2 (j := 3) rfl, Hd.out.xc (k := ab) two_mem.1 (j := 0) rfl, Hd.out.xc (k := ab) two_mem.1 (j := 1) rfl, Hd.out.xc (k := ab) two_mem.1 (j := 2) rfl, Hd.out.xc (k := ab) two_mem.1 (j := 3) rfl, Hd.out.xc (k := ab) two_mem.1 (j := 4) rfl⟩ | exact ⟨H1.out.xc (k := xb) two_mem.2 (j := 0) rfl, H1.out.xc (k := xb) two_mem.2 (j := 1) rfl, H1.out.xc (k := xb) two_mem.2 (j := 2) rfl, H1.out.xc (k := xb) two_mem.2 (j := 3) rfl, H1.out.xc (k := ab) two_mem.1 (j := 0) rfl, H1.out.xc (k := ab) two_mem.1 (j := 1) rfl, H1.out.xc (k := ab) two_mem.1 (j := 2) rfl, H1.out.xc (k := ab) two_mem.1 (j := 3) rfl, H1.out.xc (k := ab) two_mem.1 (j := 4) rfl⟩) (first | (go_at_call 11; refine (no_any _ _).mono ?_; rintro e wz ⟨rfl, rfl⟩) | (go_at_call 35; refine HP1.out.mono ?_; intro e w1 hd; obtain ⟨rfl, al1, h2, hB2⟩ := Hd.out.left hd; have H2 := hid h2; have HB2 := hid (HBd.out.trans hB2); clear hd h2 hB2) | (go_at_call 56; refine (HR2.out _ _ _ H2.out).mono ?_; intro e w2 hd; obtain ⟨rfl, ar1, h3, hB3⟩ := H2.out.right hd; have H3 := hid h3; have HB3 := hid (HB2.out.trans hB3); clear hd h3 hB3))
  go_wp2_with fail
  go_ret
  exact ⟨rfl, _, _, _, _, H3.out.less, HS2.out, HLm.out, HB3.out⟩

set_option maxRecDepth 100000 in
set_option maxHeartbeats 4000000 in
theorem do_none {w : World} {B xb b db r c k : Nat} {al ar : List Nat} {P : PS} {R : RS} (h : Duo w B [(xb, [.pointer (some ⟨db, 0, none⟩), .pointer (some ⟨b, 0, none⟩), .pointer (some ⟨c, 0, none⟩), .pointer (some ⟨r, 0, none⟩)], 39)] b db r c al ar P R) (hsim : Sim P R) (hlim : Lim P k) (hk : k ≤ 60) (kind n m : Int) (s : ByteArray) (hs : s.size ≤ maxLen) (hn : -9223372036854775808 ≤ n ∧ n ≤ 9223372036854775807) (ka : Option Addr) (klen kcap : Nat) (hkd : kind < 0 ∨ 7 < kind) :
    Calls Try.prog 23 #[.pointer (some ⟨xb, 0, none⟩), .agg #[.int .i64 kind, .int .i64 n, .int .i64 m, .string s, .slice ka klen kcap]] w (DoP w B xb b db r c (k + 1)) := by
  have hst : P.D.steps < 1000 ∧ P.D.steps + 3 ≤ 1000 := by have := hlim.st; omega
  have hwt : P.D.waits.length < 200 := by have := hlim.wt; omega
  have hpn : P.pins.length ≤ 1000 := by have := hlim.pn; omega
  have hpm : P.pm ≤ 1000 := by have := hlim.pm; omega
  have hRD := hsim.D
  have hRp := hsim.pins
  obtain ⟨hst1, hst2⟩ := hst
  have e0 : (kind == 0) = false := by simp; omega
  have e1 : (kind == 1) = false := by simp; omega
  have e2 : (kind == 2) = false := by simp; omega
  have e3 : (kind == 3) = false := by simp; omega
  have e4 : (kind == 4) = false := by simp; omega
  have e5 : (kind == 5) = false := by simp; omega
  have e6 : (kind == 6) = false := by simp; omega
  have e7 : (kind == 7) = false := by simp; omega
  clear hkd
  have h1 := h.box [.int .i64 kind, .int .i64 n, .int .i64 m, .string s, .slice ka klen kcap] 42
  have hb1 : Below w.heap.size w (w.alloc (.cells #[.int .i64 kind, .int .i64 n, .int .i64 m, .string s, .slice ka klen kcap] 42)) := (Below.refl _ _).alloc (Nat.le_refl _) _
  have HB1 := hid (hb1.mono h.hB)
  have HSim := hid hsim
  have HLim := hid hlim
  clear h hb1 hsim hlim
  have H1 := hid (show Duo (w.alloc (.cells #[.int .i64 kind, .int .i64 n, .int .i64 m, .string s, .slice ka klen kcap] 42)) B [(w.heap.size, [.int .i64 kind, .int .i64 n, .int .i64 m, .string s, .slice ka klen kcap], 42), (xb, [.pointer (some ⟨db, 0, none⟩), .pointer (some ⟨b, 0, none⟩), .pointer (some ⟨c, 0, none⟩), .pointer (some ⟨r, 0, none⟩)], 39)] b db r c al ar P R from h1)
  clear h1
  go_enter Try.func23, Try.ntmps23
  go_wp2_with fail
  generalize w.alloc (.cells #[.int .i64 kind, .int .i64 n, .int .i64 m, .string s, .slice ka klen kcap] 42) = W at *
  generalize w.heap.size = ab at *
  have hBW : B ≤ W.heap.size := H1.out.hB
  have x0 := H1.out.xc (k := xb) two_mem.2 (j := 0) rfl
  have x1 := H1.out.xc (k := xb) two_mem.2 (j := 1) rfl
  have x2 := H1.out.xc (k := xb) two_mem.2 (j := 2) rfl
  have x3 := H1.out.xc (k := xb) two_mem.2 (j := 3) rfl
  have a0 := H1.out.xc (k := ab) two_mem.1 (j := 0) rfl
  have a1 := H1.out.xc (k := ab) two_mem.1 (j := 1) rfl
  have a2 := H1.out.xc (k := ab) two_mem.1 (j := 2) rfl
  have a3 := H1.out.xc (k := ab) two_mem.1 (j := 3) rfl
  have a4 := H1.out.xc (k := ab) two_mem.1 (j := 4) rfl
  go_wp2_with fail
  go_ret
  exact ⟨rfl, _, _, _, _, H1.out.less, HSim.out, HLim.out.more, HB1.out⟩
end Go.Proofs.Ytambgimfbdecpaa
