/- What this text holds: 'few' and 'play': a disk behind some calls. -/
import Derived.Test.YtahhhpmpgkfkdaaAct
namespace Go.Proofs.Ytahhhpmpgkfkdaa
open Go.RowKit
set_option linter.unusedVariables false

/-- A call that a play makes, as plain data, and where its keeps lie. -/
structure ActV where
  kind : Int
  at_ : Int
  n : Int
  by_ : Int
  ka : Option Addr
  klen : Nat
  kcap : Nat
  ks : List (Int × Int)
def ActV.kv (v : ActV) : Value := .slice v.ka v.klen v.kcap

/-- A slice of keeps that was handed in. -/
def KeepsOk (w : World) (ka : Option Addr) (klen : Nat) (ks : List (Int × Int)) : Prop :=
  ks.length = klen ∧ klen ≤ maxLen ∧ (klen = 0 ∨ ∃ kb ko, ka = some ⟨kb, ko, none⟩ ∧ KeepsAt w kb ko ks)
theorem KeepsOk.below {w w' : World} {ka : Option Addr} {klen : Nat} {ks : List (Int × Int)} (h : KeepsOk w ka klen ks) (hb : Below w.heap.size w w') : KeepsOk w' ka klen ks := by
  refine ⟨h.1, h.2.1, ?_⟩
  rcases h.2.2 with h0 | ⟨kb, ko, e, hk⟩
  · exact .inl h0
  · exact .inr ⟨kb, ko, e, fun j hj => ⟨cell_later hb (hk j hj).1, cell_later hb (hk j hj).2⟩⟩

/-- Calls that lie in memory. -/
structure ActAt (w : World) (ab o : Nat) (v : ActV) : Prop where
  c0 : w.cell? ⟨ab, o, none⟩ = some (.int .i64 v.kind)
  c1 : w.cell? ⟨ab, o + 1, none⟩ = some (.int .i64 v.at_)
  c2 : w.cell? ⟨ab, o + 2, none⟩ = some (.int .i64 v.n)
  c3 : w.cell? ⟨ab, o + 3, none⟩ = some (.int .u8 v.by_)
  c4 : w.cell? ⟨ab, o + 4, none⟩ = some (.slice v.ka v.klen v.kcap)
  n1 : -9223372036854775808 ≤ v.n
  n2 : v.n ≤ 9223372036854775807
  k : KeepsOk w v.ka v.klen v.ks
theorem ActAt.below {w w' : World} {ab o : Nat} {v : ActV} (h : ActAt w ab o v) (hb : Below w.heap.size w w') : ActAt w' ab o v :=
  ⟨cell_later hb h.c0, cell_later hb h.c1, cell_later hb h.c2, cell_later hb h.c3, cell_later hb h.c4, h.n1, h.n2, h.k.below hb⟩
def ActsOk (w : World) (a : Option Addr) (len : Nat) (l : List ActV) : Prop :=
  l.length = len ∧ len ≤ maxLen ∧ (len = 0 ∨ ∃ ab ao, a = some ⟨ab, ao, none⟩ ∧ ∀ j (hj : j < l.length), ActAt w ab (ao + j * 5) l[j])
theorem ActsOk.below {w w' : World} {a : Option Addr} {len : Nat} {l : List ActV} (h : ActsOk w a len l) (hb : Below w.heap.size w w') : ActsOk w' a len l := by
  refine ⟨h.1, h.2.1, ?_⟩
  rcases h.2.2 with h0 | ⟨ab, ao, e, hk⟩
  · exact .inl h0
  · exact .inr ⟨ab, ao, e, fun j hj => (hk j hj).below hb⟩

/-- What 'few' ends in. -/
def FewPost (w : World) (len : Nat) (e : Ending) (w' : World) : Prop := (∃ r, e = .returned (.bool r) ∧ (r = true → len ≤ 80)) ∧ w' = w

set_option maxRecDepth 100000 in
set_option maxHeartbeats 2000000 in
theorem few_any (w : World) (a : Option Addr) (len cap : Nat) (l : List ActV) (h : ActsOk w a len l) :
    Calls Try.prog 13 #[.slice a len cap] w (FewPost w len) := by
  have hm := h.2.1
  unfold maxLen at hm
  have HA := hid h
  clear h
  go_enter Try.func13, Try.ntmps13
  go_wp2
  go_loop [3, 4] (fun m q => ∃ (k : Nat) (x : Int), k ≤ len ∧ q = .int .i64 k ∧ m = .int .i64 x) (fun _ q => len - (intOf q).toNat)
  case atStart => exact ⟨0, _, by omega, rfl, rfl⟩
  case round =>
    obtain ⟨k, x, hk, rfl, rfl⟩ := hrel
    by_cases hlt : k < len ∧ k ≤ 80
    · obtain ⟨hlt, h80⟩ := hlt
      rcases HA.out.2.2 with h0 | ⟨ab, ao, rfl, hk⟩
      · omega
      · have h4 := (hk k (by rw [HA.out.1]; exact hlt)).c4
        have hkl := (hk k (by rw [HA.out.1]; exact hlt)).k.2.1
        unfold maxLen at hkl
        clear hk
        go_wp2
        all_goals
          go_round
          case rel => exact ⟨k + 1, _, by omega, by go_num, rfl⟩
          case measure => simp [intOf]; omega
    · by_cases h1 : k < len
      · have h2 : (80 : Int) < k := by omega
        have h3 : (80 : Int) < len := by omega
        clear hlt
        go_wp2
        go_ret
        exact ⟨⟨_, rfl, fun h => by simp at h⟩, rfl⟩
      · have h2 : k = len := by omega
        subst h2
        clear hlt
        go_wp2
        · have h80 : (k : Int) ≤ 80 := by assumption
          go_ret
          exact ⟨⟨_, rfl, fun _ => by omega⟩, rfl⟩
        · go_ret
          exact ⟨⟨_, rfl, fun h => by simp at h⟩, rfl⟩

theorem bytes_any (kind at_ n by_ : Int) (kv : Value) (w : World) (h1 : -9223372036854775808 ≤ n) (h2 : n ≤ 9223372036854775807) :
    Calls Try.prog 35 #[.agg #[.int .i64 kind, .int .i64 at_, .int .i64 n, .int .u8 by_, kv]] w (MadeBytes w (abytes n by_)) := by
  by_cases hn : 0 ≤ n
  · exact bytes_pos kind at_ n by_ kv w hn h2
  · exact bytes_neg kind at_ n by_ kv w (by omega) h1

theorem crash_all {w : World} {B b : Nat} {own : List Nat} {D : DS} (h : Disk w B b own D) (ka : Option Addr) (klen kcap : Nat) (ks : List (Int × Int)) (hk : KeepsOk w ka klen ks) :
    Calls Try.prog 14 #[.pointer (some ⟨b, 0, none⟩), .slice ka klen kcap] w (MadeDisk w (D.crash ks)) := by
  obtain ⟨bs, sc, wv, hd, rfl⟩ := h
  obtain ⟨h1, h2, h3⟩ := hk
  rcases h3 with h0 | ⟨kb, ko, rfl, hk⟩
  · subst h0
    obtain rfl : ks = [] := List.eq_nil_of_length_eq_zero h1
    exact crash_none hd ka kcap
  · subst h1
    exact crash_some hd kb ko kcap ks h2 hk

/-- A disk in a play behind k calls. -/
structure Played (w0 wr : World) (b n k : Nat) (own : List Nat) (D : DS) : Prop where
  d : Disk wr w0.heap.size b own D
  n : D.n = n
  s : D.steps ≤ k
  w : D.waits.length ≤ k
  b : Below w0.heap.size w0 wr

theorem step_steps (D : DS) : D.step.2.steps ≤ D.steps + 1 ∧ D.step.2.n = D.n ∧ D.step.2.waits = D.waits := by
  refine ⟨?_, DS.step_n D, DS.step_waits D⟩
  unfold DS.step
  split
  · simp; omega
  · simp
theorem flush_grow (D : DS) : D.flush.2.n = D.n ∧ D.flush.2.steps ≤ D.steps + 1 ∧ D.flush.2.waits.length ≤ D.waits.length := by
  obtain ⟨h1, h2, h3⟩ := step_steps D
  unfold DS.flush
  split
  · exact ⟨h2, h1, by simp [DS.flushed]⟩
  · exact ⟨h2, h1, by rw [h3]; exact Nat.le_refl _⟩
theorem write_grow (D : DS) (i : Int) (l : List Int) : (D.write i l).2.n = D.n ∧ (D.write i l).2.steps ≤ D.steps + 1 ∧ (D.write i l).2.waits.length ≤ D.waits.length + 1 := by
  obtain ⟨h1, h2, h3⟩ := step_steps D
  unfold DS.write
  split
  · exact ⟨rfl, by simp; omega, by simp⟩
  · split
    · exact ⟨rfl, by simp; omega, by simp⟩
    · split
      · exact ⟨h2, h1, by simp [h3]⟩
      · exact ⟨h2, h1, by simp only [h3]; omega⟩

/-- The variable of a call in a play. -/
def boxX (v : ActV) : Obj := .cells #[.int .i64 v.kind, .int .i64 v.at_, .int .i64 v.n, .int .u8 v.by_, .slice v.ka v.klen v.kcap] 35

theorem Played.alloc {w0 wr : World} {b n k : Nat} {own : List Nat} {D : DS} (h : Played w0 wr b n k own D) (o : Obj) : Played w0 (wr.alloc o) b n k own D :=
  ⟨h.d.keep (Kept.alloc [] wr o) (by simp), h.n, h.s, h.w, h.b.alloc h.b.size o⟩
theorem Played.drew {w0 wr : World} {b n k : Nat} {own : List Nat} {D : DS} (h : Played w0 wr b n k own D) : Played w0 wr.drew b n k own D :=
  ⟨h.d.keep (Kept.drew [] wr) (by simp), h.n, h.s, h.w, h.b.drew⟩
theorem Played.later {w0 wr w2 : World} {b n k : Nat} {own : List Nat} {D : DS} (h : Played w0 wr b n k own D) (hb : Below wr.heap.size wr w2) : Played w0 w2 b n k own D :=
  ⟨h.d.keep (Kept.ofBelow hb []) (by simp), h.n, h.s, h.w, h.b.trans (hb.mono h.b.size)⟩
theorem Played.next {w0 wr : World} {b n k : Nat} {own : List Nat} {D : DS} (h : Played w0 wr b n k own D) : Played w0 wr b n (k + 1) own D :=
  ⟨h.d, h.n, by have := h.s; omega, by have := h.w; omega, h.b⟩
theorem Played.did {w0 wr w2 : World} {b n k : Nat} {own own' : List Nat} {D D' : DS} (h : Played w0 wr b n k own D) (hd : Disk w2 w0.heap.size b own' D') (hk : Kept own wr w2)
    (hg : D'.n = D.n ∧ D'.steps ≤ D.steps + 1 ∧ D'.waits.length ≤ D.waits.length + 1) : Played w0 w2 b n (k + 1) own' D' :=
  ⟨hd, hg.1.trans h.n, by have := h.s; have := hg.2.1; omega, by have := h.w; have := hg.2.2; omega, h.d.below hk h.b (Nat.le_refl _)⟩
theorem box_later {w w' : World} {q : Nat} {a b c d e : Value} (hb : Below w.heap.size w w') (h0 : w.cell? ⟨q, 0, none⟩ = some a) (h1 : w.cell? ⟨q, 1, none⟩ = some b) (h2 : w.cell? ⟨q, 2, none⟩ = some c) (h3 : w.cell? ⟨q, 3, none⟩ = some d) (h4 : w.cell? ⟨q, 4, none⟩ = some e) :
    w'.cell? ⟨q, 0, none⟩ = some a ∧ w'.cell? ⟨q, 1, none⟩ = some b ∧ w'.cell? ⟨q, 2, none⟩ = some c ∧ w'.cell? ⟨q, 3, none⟩ = some d ∧ w'.cell? ⟨q, 4, none⟩ = some e :=
  ⟨cell_later hb h0, cell_later hb h1, cell_later hb h2, cell_later hb h3, cell_later hb h4⟩
theorem box_kept {w w' : World} {S : List Nat} {q : Nat} {a b c d e : Value} (hb : Kept S w w') (hq : q ∉ S) (h0 : w.cell? ⟨q, 0, none⟩ = some a) (h1 : w.cell? ⟨q, 1, none⟩ = some b) (h2 : w.cell? ⟨q, 2, none⟩ = some c) (h3 : w.cell? ⟨q, 3, none⟩ = some d) (h4 : w.cell? ⟨q, 4, none⟩ = some e) :
    w'.cell? ⟨q, 0, none⟩ = some a ∧ w'.cell? ⟨q, 1, none⟩ = some b ∧ w'.cell? ⟨q, 2, none⟩ = some c ∧ w'.cell? ⟨q, 3, none⟩ = some d ∧ w'.cell? ⟨q, 4, none⟩ = some e :=
  ⟨hb.cell h0 hq, hb.cell h1 hq, hb.cell h2 hq, hb.cell h3 hq, hb.cell h4 hq⟩

/-- The cells of a call's variable. -/
def BoxS (q : Nat) (v : ActV) (w' : World) : Prop := w'.cell? ⟨q, 0, none⟩ = some (.int .i64 v.kind) ∧ w'.cell? ⟨q, 1, none⟩ = some (.int .i64 v.at_) ∧ w'.cell? ⟨q, 2, none⟩ = some (.int .i64 v.n) ∧ w'.cell? ⟨q, 3, none⟩ = some (.int .u8 v.by_) ∧ w'.cell? ⟨q, 4, none⟩ = some (.slice v.ka v.klen v.kcap)

theorem bytes_then {w0 wA : World} {b n k q : Nat} {own : List Nat} {D : DS} {v : ActV} (hp : Played w0 wA b n k own D) (hst : D.steps < 1000) (hwt : D.waits.length < 200) {at_ : Int} {l : List Int} {e : Ending} {w2 : World} (hm : MadeBytes wA l e w2) (hS : BoxS q v wA) (hl : l.length ≤ 512 := by exact abytes_length _ _) :
    ∃ g, e = .returned (.slice (some ⟨g, 0, none⟩) l.length 512) ∧ Hid (BoxS q v w2) ∧ Hid (Played w0 w2 b n k own D) ∧
      Hid (Calls Try.prog 17 #[.pointer (some ⟨b, 0, none⟩), .int .i64 at_, .slice (some ⟨g, 0, none⟩) l.length 512] w2 (Did w2 w0.heap.size b own (D.write at_ l).1 (D.write at_ l).2)) := by
  obtain ⟨g, rfl, hg, hcs, hb2⟩ := hm
  have hp2 := hp.later hb2
  refine ⟨g, rfl, box_later hb2 hS.1 hS.2.1 hS.2.2.1 hS.2.2.2.1 hS.2.2.2.2, hp2, ?_⟩
  refine write_all hp2.d hst hwt at_ (some ⟨g, 0, none⟩) _ 512 l (Nat.le_trans hl (by decide)) ⟨rfl, fun _ => ⟨_, rfl, fun j u hu => by rw [Addr.add_mid, Nat.zero_add]; exact hcs j u hu⟩⟩ (fun x hx hm => ?_)
  simp only [Option.some.injEq] at hx
  subst hx
  have := (hp.d.lt _ hm).2
  simp only at this
  omega

theorem did_then {w0 w2 w3 : World} {b n k q : Nat} {own : List Nat} {D D' : DS} {v : ActV} {r : Int} {e : Ending} (hp : Played w0 w2 b n k own D) (hS : BoxS q v w2) (hd : Did w2 w0.heap.size b own r D' e w3)
    (hg : D'.n = D.n ∧ D'.steps ≤ D.steps + 1 ∧ D'.waits.length ≤ D.waits.length + 1) (hq : q ∉ own) :
    e = .returned (.int .i64 r) ∧ BoxS q v w3 ∧ Hid (∃ own' D', Played w0 w3 b n (k + 1) own' D') := by
  obtain ⟨rfl, own3, hd3, hk3, hfr3⟩ := hd
  exact ⟨rfl, box_kept hk3 hq hS.1 hS.2.1 hS.2.2.1 hS.2.2.2.1 hS.2.2.2.2, ⟨own3, D', hp.did hd3 hk3 hg⟩⟩

theorem disk_base {w : World} {B B' b : Nat} {own : List Nat} {D : DS} (h : Disk w B b own D) (hB : B' ≤ B) : Disk w B' b own D := by
  obtain ⟨bs, sc, wv, hd, rfl⟩ := h
  exact ⟨bs, sc, wv, hd.base hB, rfl⟩

/-- What 'play' ends in. -/
def PlayPost (w : World) (n : Int) (e : Ending) (w' : World) : Prop :=
  (e = .returned (.pointer none) ∧ Below w.heap.size w w') ∨ ∃ m : Nat, n = m ∧ ∃ b own D, e = .returned (.pointer (some ⟨b, 0, none⟩)) ∧ Played w w' b m 80 own D

set_option maxRecDepth 100000 in
set_option maxHeartbeats 4000000 in
theorem play_none (n : Int) (v : Value) (w : World) (h : n < 1 ∨ 4096 < n) : Calls Try.prog 22 #[.int .i64 n, v] w (PlayPost w n) := by
  have HN := hid h
  clear h
  go_enter Try.func22, Try.ntmps22
  go_wp2_with (first | (go_at_call 9; refine (new_no n _ HN.out).mono ?_; rintro e w ⟨rfl, rfl⟩) | (go_at_call 11; refine (no_any _ _).mono ?_; rintro e w ⟨rfl, rfl⟩))
  go_ret
  exact .inl ⟨rfl, Below.refl _ _⟩

set_option maxRecDepth 100000 in
set_option maxHeartbeats 4000000 in
theorem play_some (n : Nat) (a : Option Addr) (len cap : Nat) (l : List ActV) (w : World) (h1 : 1 ≤ n) (h2 : n ≤ 4096) (h : ActsOk w a len l) :
    Calls Try.prog 22 #[.int .i64 n, .slice a len cap] w (PlayPost w n) := by
  have hm := h.2.1
  unfold maxLen at hm
  have HA := hid h
  clear h
  go_enter Try.func22, Try.ntmps22
  go_wp2_with (first | (go_at_call 9; refine (new_yes n _ h1 h2).mono ?_; rintro e w1 ⟨b, own, rfl, hd, hb⟩) | (go_at_call 11; refine (no_any _ _).mono ?_; rintro e w1 ⟨rfl, rfl⟩))
  refine (few_any _ a len cap l (HA.out.below hb)).mono ?_
  rintro e w1 ⟨⟨r, rfl, hr⟩, rfl⟩
  have HD := hid hd
  have HB := hid hb
  clear hd hb
  cases r with
  | false =>
    clear hr
    go_wp2_with fail
    go_ret
    exact .inl ⟨rfl, HB.out⟩
  | true =>
    have h80 : len ≤ 80 := hr rfl
    clear hr
    go_wp2_with fail
    go_loopw [5, 24] (fun d q wr => ∃ (k b : Nat), k ≤ len ∧ q = .int .i64 k ∧ d = .pointer (some ⟨b, 0, none⟩) ∧ Hid (∃ own D, Played w wr b n k own D)) (fun _ q _ => len - (intOf q).toNat)
    case atStart => exact ⟨0, b, by omega, rfl, rfl, ⟨_, _, ⟨HD.out, rfl, by simp [DS.blank], by simp [DS.blank], HB.out⟩⟩⟩
    case round =>
      obtain ⟨k, b, hk, rfl, rfl, hP⟩ := hrel
      obtain ⟨own, D, hp⟩ := hP.out
      by_cases hlt : k < len
      · rcases HA.out.2.2 with h0 | ⟨ab, ao, rfl, hk2⟩
        · omega
        · have hkl : k < l.length := by rw [HA.out.1]; exact hlt
          have hat := (hk2 k hkl).below hp.b
          obtain ⟨v, hv⟩ : ∃ v, v = l[k] := ⟨_, rfl⟩
          rw [← hv] at hat
          obtain ⟨c0, c1, c2, c3, c4, n1, n2, hko⟩ := hat
          have hst : D.steps < 1000 := by have := hp.s; omega
          have hwt : D.waits.length < 200 := by have := hp.w; omega
          have HP2 := hid hp
          have HKo := hid hko
          clear hp hko hk2 hv hP HD HB
          have HPA := hid (HP2.out.alloc (boxX v))
          have hBl := HP2.out.b
          by_cases k0 : v.kind = 0
          · have e0 : (v.kind == 0) = true := by simp [k0]
            have HP3 := hid (HP2.out.alloc (boxX v)).drew
            have hS0 : BoxS wr.heap.size v (wr.alloc (boxX v)).drew := ⟨by simp [boxX], by simp [boxX], by simp [boxX], by simp [boxX], by simp [boxX]⟩
            have HQ := hid (show wr.heap.size ∉ own from fun hm => by have := (HP2.out.d.lt _ hm).2; omega)
            clear k0
            go_wp2_with fail
            go_region_held3 (fun w' => w'.cell? ⟨wr.heap.size, 0, none⟩ = some (.int .i64 v.kind) ∧ w'.cell? ⟨wr.heap.size, 1, none⟩ = some (.int .i64 v.at_) ∧ w'.cell? ⟨wr.heap.size, 2, none⟩ = some (.int .i64 v.n) ∧ w'.cell? ⟨wr.heap.size, 3, none⟩ = some (.int .u8 v.by_) ∧ w'.cell? ⟨wr.heap.size, 4, none⟩ = some (.slice v.ka v.klen v.kcap)) (first | assumption | go_keep) (first | (go_at_call 17; refine HWR.out.mono ?_; intro e w3 hdid; obtain ⟨rfl, hS3, HP5⟩ := did_then HP4.out hS2.out hdid (write_grow _ _ _) HQ.out) | (go_at_call 35; refine (bytes_any _ _ _ _ _ _ n1 n2).mono ?_; intro e w2 hmade; obtain ⟨g, rfl, hS2, HP4, HWR⟩ := bytes_then HP3.out hst hwt (at_ := v.at_) hmade hS0))
            clear hS3 hmade hdid
            go_wp2_with fail
            go_roundw
            case rel => exact ⟨k + 1, b, by omega, by go_num, rfl, HP5⟩
            case measure => simp [intOf]; omega
          · have e0 : (v.kind == 0) = false := by simp [k0]
            by_cases k2 : v.kind = 2
            · have e2 : (v.kind == 2) = true := by simp [k2]
              have hfl := flush_all HPA.out.d hst
              have HFL := hid hfl
              clear k2 k0 hfl
              go_wp2_with fail
              refine HFL.out.mono ?_
              rintro e w3 ⟨rfl, own3, hd3, hk3, _⟩
              have hg := flush_grow D
              have HP5 := hid (show ∃ own' D', Played w w3 b n (k + 1) own' D' from ⟨_, _, HPA.out.did hd3 hk3 ⟨hg.1, hg.2.1, Nat.le_succ_of_le hg.2.2⟩⟩)
              clear hg hd3 hk3
              go_wp2_with fail
              go_roundw
              case rel => exact ⟨k + 1, b, by omega, by go_num, rfl, HP5⟩
              case measure => simp [intOf]; omega
            · have e2 : (v.kind == 2) = false := by simp [k2]
              by_cases k3 : v.kind = 3
              · have e3 : (v.kind == 3) = true := by simp [k3]
                have hfu := fuse_all HPA.out.d v.n n2
                have HFU := hid hfu
                clear k2 k0 k3 hfu
                go_wp2_with fail
                refine HFU.out.mono ?_
                rintro e w3 ⟨rfl, hd3, hk3⟩
                have HP5 := hid (show ∃ own' D', Played w w3 b n (k + 1) own' D' from ⟨_, _, HPA.out.did hd3 hk3 ⟨rfl, by simp [DS.fused]; omega, by simp [DS.fused]⟩⟩)
                clear hd3 hk3
                go_wp2_with fail
                go_roundw
                case rel => exact ⟨k + 1, b, by omega, by go_num, rfl, HP5⟩
                case measure => simp [intOf]; omega
              · have e3 : (v.kind == 3) = false := by simp [k3]
                by_cases k4 : v.kind = 4
                · have e4 : (v.kind == 4) = true := by simp [k4]
                  have hcr := crash_all HPA.out.d v.ka v.klen v.kcap v.ks (HKo.out.below ((Below.refl _ _).alloc (Nat.le_refl _) _))
                  have HCR := hid hcr
                  clear k2 k0 k3 k4 hcr
                  go_wp2_with fail
                  refine HCR.out.mono ?_
                  rintro e w3 ⟨b3, own3, rfl, hd3, hb3⟩
                  have HP5 := hid (show ∃ own' D', Played w w3 b3 n (k + 1) own' D' from ⟨own3, _, ⟨disk_base hd3 HPA.out.b.size, HPA.out.n, by simp [DS.crash]; omega, by simp [DS.crash], HPA.out.b.trans (hb3.mono HPA.out.b.size)⟩⟩)
                  clear hd3 hb3
                  go_wp2_with fail
                  go_roundw
                  case rel => exact ⟨k + 1, b3, by omega, by go_num, rfl, HP5⟩
                  case measure => simp [intOf]; omega
                · have e4 : (v.kind == 4) = false := by simp [k4]
                  have HP5 := hid (show ∃ own' D', Played w (wr.alloc (boxX v)) b n (k + 1) own' D' from ⟨_, _, HPA.out.next⟩)
                  clear k2 k0 k3 k4
                  go_wp2_with fail
                  go_roundw
                  case rel => exact ⟨k + 1, b, by omega, by go_num, rfl, HP5⟩
                  case measure => simp [intOf]; omega
      · have e : k = len := by omega
        subst e
        have HP2 := hid hp
        clear hp hP
        go_wp2_with fail
        go_ret
        exact .inr ⟨n, rfl, b, own, D, rfl, ⟨HP2.out.d, HP2.out.n, by have := HP2.out.s; omega, by have := HP2.out.w; omega, HP2.out.b⟩⟩
end Go.Proofs.Ytahhhpmpgkfkdaa
