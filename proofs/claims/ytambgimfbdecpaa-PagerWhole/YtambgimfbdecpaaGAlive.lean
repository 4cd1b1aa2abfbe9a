/- What this text holds: 'alive': the chapter's example. -/
import Derived.Test.YtambgimfbdecpaaGPure
namespace Go.Proofs.Ytambgimfbdecpaa
open Go.RowKit Go.Maps
set_option linter.unusedVariables false

section
variable {w : World} {B b db : Nat} {all : List Nat} {P : PS}
theorem put_all (h : Pgr w B b db all P) (hs : P.D.steps < 1000) (hw : P.D.waits.length < 200) (kind : Int) (s : ByteArray) (hm : s.size ≤ maxLen) :
    Calls Try.prog 31 #[.pointer (some ⟨b, 0, none⟩), .int .i64 kind, .string s] w (DidP w B b db all (.tuple #[.int .i64 (P.put kind s).1.1, .int .i64 (P.put kind s).1.2]) (P.put kind s).2) := by
  obtain ⟨gs, mb, own, h, rfl⟩ := h
  exact put_at h hs hw kind s hm
theorem commit_all (h : Pgr w B b db all P) (hs : P.D.steps + 3 ≤ 1000) (s : ByteArray) (hm : s.size ≤ maxLen) :
    Calls Try.prog 32 #[.pointer (some ⟨b, 0, none⟩), .string s] w (DidP w B b db all (.int .i64 (P.commit s).1) (P.commit s).2) := by
  obtain ⟨gs, mb, own, h, rfl⟩ := h
  exact commit_at h hs s hm
theorem drop_all (h : Pgr w B b db all P) (n : Int) : Calls Try.prog 29 #[.pointer (some ⟨b, 0, none⟩), .int .i64 n] w (DidP w B b db all (.int .i64 (P.drop n).1) (P.drop n).2) := by
  obtain ⟨gs, mb, own, h, rfl⟩ := h
  exact drop_at h n
theorem abort_all (h : Pgr w B b db all P) : Calls Try.prog 38 #[.pointer (some ⟨b, 0, none⟩)] w (DidP w B b db all (.tuple #[]) P.abort) := by
  obtain ⟨gs, mb, own, h, rfl⟩ := h
  exact abort_at h
theorem read_all (h : Pgr w B b db all P) (n : Int) : Calls Try.prog 36 #[.pointer (some ⟨b, 0, none⟩), .int .i64 n] w (DidP w B b db all (P.read n).1.val (P.read n).2) := by
  obtain ⟨gs, mb, own, h, rfl⟩ := h
  exact read_at h n
theorem Pgr.len (h : Pgr w B b db all P) : P.st.length = P.D.n := by
  obtain ⟨gs, mb, own, h, rfl⟩ := h
  exact h.len
theorem Pgr.good (h : Pgr w B b db all P) : P.D.good := by
  obtain ⟨gs, mb, own, h, rfl⟩ := h
  exact h.disk.good
/-- What a call of a pager keeps below its base. -/
theorem DidP.below {w0 w' : World} (h : Pgr w B b db all P) (hk : Kept all w w') (hb : Below B w0 w) (hB : B ≤ w0.heap.size) : Below B w0 w' :=
  below_kept hb hk (fun i hi => (h.lt i hi).1) (Nat.le_trans hB hb.size)
end

set_option maxHeartbeats 400000 in
theorem no_any' (n : Int) (w : World) : Calls Try.prog 11 #[.int .i64 n] w fun e w' => e = .returned (.int .i64 n) ∧ w' = w := no_any n w

/-- The chapter's example, step by step. -/
def aP1 : PS := { PS.fmt 6 with D := (DS.fmt 6).wrote 2 (sealL 7 2 (bOf ⟨#[97]⟩)), st := [(0, 0), (0, 0), (2, 0), (0, 0), (0, 0), (0, 0)] }
def aP2 : PS := { aP1 with D := aP1.D.laid 2 (rootL 2 (bOf ⟨#[114]⟩)), gen := 2, root := ⟨#[114]⟩, st := [(0, 0), (0, 0), (1, 0), (0, 0), (0, 0), (0, 0)] }
def aP3 : PS := { aP2 with st := [(0, 0), (0, 0), (3, 0), (0, 0), (0, 0), (0, 0)] }
def aP4 : PS := { aP3 with D := aP3.D.laid 3 (rootL 3 (bOf ⟨#[115]⟩)), gen := 3, root := ⟨#[115]⟩, st := [(0, 0), (0, 0), (0, 0), (0, 0), (0, 0), (0, 0)] }
theorem aS1 : (PS.fmt 6).put 7 ⟨#[97]⟩ = ((2, 0), aP1) := by
  have hl : lowFree (PS.fmt 6).st = 2 := by decide
  rw [(PS.ok.fmt 6).put 7 ⟨#[97]⟩ (by unfold okPage PS.fmt; simp) (by decide) (by rw [hl]; decide) rfl, hl]
  rfl
theorem aO1 : aP1.ok := ⟨⟨rfl, rfl⟩, rfl⟩
theorem aS2 : aP1.commit ⟨#[114]⟩ = (0, aP2) := by
  rw [aO1.commit ⟨#[114]⟩ (by decide) (by unfold okGen aP1 PS.fmt; simp) (by decide)]
  rfl
theorem aO2 : aP2.ok := ⟨⟨rfl, rfl⟩, rfl⟩
theorem aS3 : aP2.drop 2 = (0, aP3) := by
  unfold PS.drop
  rw [if_neg (by rw [aO2.a]; decide), if_neg (by decide), if_neg (by decide), if_pos (by decide)]
  rfl
theorem aO3 : aP3.ok := ⟨⟨rfl, rfl⟩, rfl⟩
theorem aS4 : aP3.commit ⟨#[115]⟩ = (0, aP4) := by
  rw [aO3.commit ⟨#[115]⟩ (by decide) (by unfold okGen aP3 aP2 aP1 PS.fmt; simp) (by decide)]
  rfl
theorem aN1 : aP1.D.steps = 6 ∧ aP1.D.waits.length = 1 := by
  have := (fmt_facts 6 (by omega))
  simp [aP1, DS.wrote, this.2.2.1, this.2.1]
theorem aN3 : aP3.D.steps = 9 := by
  have := (laid_facts aP1.D 2 (rootL 2 (bOf ⟨#[114]⟩))).2.2
  rw [aN1.1] at this
  exact this

theorem DS.byt.wrote {D : DS} (h : D.byt) (i : Int) (l : List Int) (hl : Byt l) : (D.wrote i l).byt := ⟨h.s, fun x hx => by
  simp only [DS.wrote, List.mem_append, List.mem_singleton] at hx
  rcases hx with hx | rfl
  · exact h.w x hx
  · exact hl⟩
theorem DS.byt.flushd {D : DS} (h : D.byt) : D.flushd.byt := ⟨byt_layAll _ _ h.s h.w, fun x hx => by simp [DS.flushd] at hx⟩
theorem DS.byt.laid {D : DS} (h : D.byt) (g : Int) (X : List Int) (hX : Byt X) : (D.laid g X).byt := (h.flushd.wrote _ _ hX).flushd
theorem DS.byt.fmt (n : Nat) : (DS.fmt n).byt := (((DS.byt.blank n).wrote 0 Z512 Z512_byt).wrote 1 Z512 Z512_byt).laid 1 _ (byt_root 1 [] (fun x hx => nomatch hx))

/-- Open, on a disk that was formatted. -/
theorem open_fmt {w : World} {B db n : Nat} {own : List Nat} (h : Disk w B db own (DS.fmt n)) (h4 : 4 ≤ n) (hn : n ≤ 4096) :
    Calls Try.prog 33 #[.pointer (some ⟨db, 0, none⟩)] w fun e w' => ∃ b gs mb, e = .returned (.tuple #[.pointer (some ⟨b, 0, none⟩), .int .i64 0]) ∧ Pgr w' B b db (b :: gs :: mb :: own) (PS.fmt n) ∧ Below w.heap.size w w' := by
  refine (open_at h (DS.byt.fmt n)).mono ?_
  rintro e w' ⟨⟨pv, rfl, hp⟩, hb⟩
  have h0 := fmt_open n h4 hn
  rcases hp with ⟨h1, _⟩ | ⟨_, b, gs, mb, rfl, h1, h2, h3, hp⟩
  · exact absurd h0 h1
  · rw [fmt_at n h4 hn] at hp
    exact ⟨b, gs, mb, by rw [h0], ⟨gs, mb, own, hp, rfl⟩, hb⟩

set_option maxRecDepth 100000 in
set_option maxHeartbeats 4000000 in
theorem alive_any (w : World) : Calls Try.prog 12 #[] w fun e w' => e = .returned (.bool true) ∧ Below w.heap.size w w' := by
  go_enter Try.func12, Try.ntmps12
  go_wp2_with fail
  refine (new_yes 6 _ (by omega) (by omega)).mono ?_
  rintro e w1 ⟨db, own, rfl, hd1, hb1⟩
  have HD1 := hid hd1
  have HB1 := hid hb1
  clear hd1 hb1
  go_wp2_with (first | (go_at_call 11; refine (no_any' _ _).mono ?_; rintro e wa ⟨rfl, rfl⟩))
  have hF := format_all HD1.out (DS.byt.blank 6) (by simp [DS.blank]) (by simp [DS.blank])
  rw [format_blank 6 (by omega)] at hF
  refine hF.mono ?_
  rintro e w2 ⟨rfl, own2, hd2, hk2, hn2⟩
  have HD2 := hid hd2
  have HB2 := hid (HD1.out.below hk2 HB1.out (Nat.le_refl _))
  clear hd2 hk2 hn2 hF
  go_wp2_with (first | (go_at_call 11; refine (no_any' _ _).mono ?_; rintro e wb ⟨rfl, rfl⟩))
  refine (open_fmt HD2.out (by omega) (by omega)).mono ?_
  rintro e w3 ⟨b, gs, mb, rfl, hp3, hb3⟩
  have HP3 := hid hp3
  have HB3 := hid (HB2.out.trans (hb3.mono HB2.out.size))
  clear hp3 hb3 HD2 HB2 HD1 HB1
  have h3 := hid (gen_any HP3.out)
  go_wp2_with (first | (go_at_call 11; refine (no_any' _ _).mono ?_; rintro e wc ⟨rfl, rfl⟩) | (go_at_call 24; refine h3.out.mono ?_; rintro e wd ⟨rfl, rfl⟩))
  have hp := put_all HP3.out (by rw [show (PS.fmt 6).D = DS.fmt 6 from rfl, (fmt_facts 6 (by omega)).2.2.1]; omega) (by rw [show (PS.fmt 6).D = DS.fmt 6 from rfl, (fmt_facts 6 (by omega)).2.1]; decide) 7 ⟨#[97]⟩ (by unfold maxLen; decide)
  rw [aS1] at hp
  refine hp.mono ?_
  rintro e w4 ⟨rfl, all4, hp4, hk4, hn4⟩
  have HP4 := hid hp4
  have HB4 := hid (DidP.below HP3.out hk4 HB3.out (Nat.le_refl _))
  clear hp4 hk4 hn4 hp h3 HP3 HB3
  have h4 := hid (free_any HP4.out)
  rw [show cntFree aP1.st = 3 by decide] at h4
  go_wp2_with (first | (go_at_call 26; refine h4.out.mono ?_; rintro e we ⟨rfl, rfl⟩))
  have hp := commit_all HP4.out (by rw [aN1.1]; omega) ⟨#[114]⟩ (by unfold maxLen; decide)
  rw [aS2] at hp
  refine hp.mono ?_
  rintro e w5 ⟨rfl, all5, hp5, hk5, hn5⟩
  have HP5 := hid hp5
  have HB5 := hid (DidP.below HP4.out hk5 HB4.out (Nat.le_refl _))
  clear hp5 hk5 hn5 hp h4 HP4 HB4
  go_wp2_with fail
  have hp := drop_all HP5.out 2
  rw [aS3] at hp
  refine hp.mono ?_
  rintro e w6 ⟨rfl, all6, hp6, hk6, hn6⟩
  have HP6 := hid hp6
  have HB6 := hid (DidP.below HP5.out hk6 HB5.out (Nat.le_refl _))
  clear hp6 hk6 hn6 hp HP5 HB5
  have h6 := hid (free_any HP6.out)
  rw [show cntFree aP3.st = 3 by decide] at h6
  go_wp2_with (first | (go_at_call 26; refine h6.out.mono ?_; rintro e we ⟨rfl, rfl⟩))
  have hp := commit_all HP6.out (by rw [aN3]; omega) ⟨#[115]⟩ (by unfold maxLen; decide)
  rw [aS4] at hp
  refine hp.mono ?_
  rintro e w7 ⟨rfl, all7, hp7, hk7, hn7⟩
  have HP7 := hid hp7
  have HB7 := hid (DidP.below HP6.out hk7 HB6.out (Nat.le_refl _))
  clear hp7 hk7 hn7 hp h6 HP6 HB6
  have h7 := hid (free_any HP7.out)
  rw [show cntFree aP4.st = 4 by decide] at h7
  have h8 := hid (gen_any HP7.out)
  have h9 := hid (rootc_any HP7.out)
  rw [show aP4.gen = 3 from rfl] at h8
  rw [show aP4.root = ⟨#[115]⟩ from rfl] at h9
  go_wp2_with (first | (go_at_call 11; refine (no_any' _ _).mono ?_; rintro e wc ⟨rfl, rfl⟩) | (go_at_call 26; refine h7.out.mono ?_; rintro e we ⟨rfl, rfl⟩) | (go_at_call 24; refine h8.out.mono ?_; rintro e we ⟨rfl, rfl⟩) | (go_at_call 25; refine h9.out.mono ?_; rintro e we ⟨rfl, rfl⟩))
  go_ret
  exact ⟨rfl, HB7.out⟩
end Go.Proofs.Ytambgimfbdecpaa
