/- What this text holds: a call of both disks ('do'). -/
import Derived.Test.YtahhhpmpgkfkdaaPair
namespace Go.Proofs.Ytahhhpmpgkfkdaa
open Go.RowKit
set_option linter.unusedVariables false

def DoPost (w0 : World) (b r k : Nat) (e : Ending) (w' : World) : Prop := e = .returned (.bool true) ∧ BothEx w0 w' b r k
def ActV.agg (v : ActV) : Value := .agg #[.int .i64 v.kind, .int .i64 v.at_, .int .i64 v.n, .int .u8 v.by_, .slice v.ka v.klen v.kcap]

theorem box_is (wr : World) (v : ActV) : BoxS wr.heap.size v (wr.alloc (boxX v)).drew := ⟨by simp [boxX], by simp [boxX], by simp [boxX], by simp [boxX], by simp [boxX]⟩

set_option maxRecDepth 100000 in
set_option maxHeartbeats 4000000 in
theorem do_write {w0 w : World} {b r k : Nat} {own rown : List Nat} {D : DS} (v : ActV) (h : Both w0 w b r k own rown D) (hk : k ≤ 80) (n1 : -9223372036854775808 ≤ v.n) (n2 : v.n ≤ 9223372036854775807) (k0 : v.kind = 0) :
    Calls Try.prog 20 #[.pointer (some ⟨b, 0, none⟩), .pointer (some ⟨r, 0, none⟩), .agg #[.int .i64 v.kind, .int .i64 v.at_, .int .i64 v.n, .int .u8 v.by_, .slice v.ka v.klen v.kcap]] w (DoPost w0 b r (k + 1)) := by
  have hst : D.steps < 1000 := by have := h.s; omega
  have hwt : D.waits.length < 200 := by have := h.w; omega
  have e0 : (v.kind == 0) = true := by simp [k0]
  have HP3 := hid (h.p.alloc (boxX v)).drew
  have hS0 : BoxS w.heap.size v (w.alloc (boxX v)).drew := box_is w v
  have HQ := hid (show w.heap.size ∉ own from fun hm => by have := (h.p.d.lt _ hm).2; omega)
  have HQ2 := hid (show w.heap.size ∉ rown from fun hm => by have := (h.p.r.lt _ hm).2; omega)
  have HH := hid h
  have HX1 := hid True.intro
  clear h k0
  go_enter Try.func20, Try.ntmps20
  go_wp2_with fail
  go_region_held3 (fun w' => w'.cell? ⟨w.heap.size, 0, none⟩ = some (.int .i64 v.kind) ∧ w'.cell? ⟨w.heap.size, 1, none⟩ = some (.int .i64 v.at_) ∧ w'.cell? ⟨w.heap.size, 2, none⟩ = some (.int .i64 v.n) ∧ w'.cell? ⟨w.heap.size, 3, none⟩ = some (.int .u8 v.by_) ∧ w'.cell? ⟨w.heap.size, 4, none⟩ = some (.slice v.ka v.klen v.kcap)) (first | assumption | go_keep) (first | (go_at_call 11; refine (no_any _ _).mono ?_; rintro e w3 ⟨rfl, rfl⟩) | (go_at_call 36; refine HWS.out.mono ?_; intro e w5 hdid2; obtain ⟨rfl, hS5, HP6⟩ := pair_rdid HP7.out hS4.out hdid2 HQ2.out) | (go_at_call 17; refine HWR.out.mono ?_; intro e w3 hdid; obtain ⟨rfl, hS3, HP5⟩ := pair_did HP4.out hS2.out hdid HQ.out; clear HWR HP3) | (go_at_call 35; clear HX1; refine (bytes_any _ _ _ _ _ _ n1 n2).mono ?_; intro e w2 hmade; obtain ⟨g, rfl, hS2, HP4, HWR⟩ := pair_bytes HP3.out hst hwt (at_ := v.at_) hmade hS0) | (go_at_call 35; refine (bytes_any _ _ _ _ _ _ n1 n2).mono ?_; intro e w4 hmade2; obtain ⟨g2, rfl, hS4, HP7, HWS⟩ := pair_rbytes HP5.out hst hwt (at_ := v.at_) hmade2 hS3))
  clear hdid hdid2 hmade hmade2 hS5 hS3
  go_wp2_with fail
  go_ret
  obtain ⟨own', rown', hp⟩ := HP6.out
  have hg := write_grow D v.at_ (abytes v.n v.by_)
  exact ⟨by simp, own', rown', _, hp, by have := HH.out.s; have := hg.2.1; omega, by have := HH.out.w; have := hg.2.2; omega⟩

set_option maxRecDepth 100000 in
set_option maxHeartbeats 4000000 in
theorem do_rest {w0 w : World} {b r k : Nat} {own rown : List Nat} {D : DS} (v : ActV) (h : Both w0 w b r k own rown D) (hk : k ≤ 80) (n1 : -9223372036854775808 ≤ v.n) (n2 : v.n ≤ 9223372036854775807) (k0 : v.kind ≠ 0) :
    Calls Try.prog 20 #[.pointer (some ⟨b, 0, none⟩), .pointer (some ⟨r, 0, none⟩), .agg #[.int .i64 v.kind, .int .i64 v.at_, .int .i64 v.n, .int .u8 v.by_, .slice v.ka v.klen v.kcap]] w (DoPost w0 b r (k + 1)) := by
  have hst : D.steps < 1000 := by have := h.s; omega
  have hwt : D.waits.length < 200 := by have := h.w; omega
  have e0 : (v.kind == 0) = false := by simp [k0]
  have HPA := hid (h.p.alloc (boxX v))
  have HQ := hid (show w.heap.size ∉ own from fun hm => by have := (h.p.d.lt _ hm).2; omega)
  have HQ2 := hid (show w.heap.size ∉ rown from fun hm => by have := (h.p.r.lt _ hm).2; omega)
  have HH := hid h
  have HS0 := hid (box_is w v)
  clear h k0
  by_cases k1 : v.kind = 1
  · have e1 : (v.kind == 1) = true := by simp [k1]
    clear k1
    go_enter Try.func20, Try.ntmps20
    go_wp2_with fail
    refine (read_all HPA.out.d v.at_).mono ?_
    rintro e w1 ⟨a1, len1, cap1, rfl, hcv, hb1⟩
    have hp1 := HPA.out.later hb1
    have hS1 := box_later hb1 HS0.out.1 HS0.out.2.1 HS0.out.2.2.1 HS0.out.2.2.2.1 HS0.out.2.2.2.2
    obtain ⟨s0, s1, s2, s3, s4⟩ := hS1
    have HRR := hid (rread_all hp1.r v.at_)
    have HP1 := hid hp1
    clear hp1 hb1
    go_wp2_with (first | (go_at_call 11; refine (no_any _ _).mono ?_; rintro e w3 ⟨rfl, rfl⟩) | (go_at_call 37; refine HRR.out.mono ?_; rintro e w2 ⟨rfl, rfl⟩))
    go_ret
    exact ⟨by simp, own, rown, D, HP1.out, by have := HH.out.s; omega, by have := HH.out.w; omega⟩
  · have e1 : (v.kind == 1) = false := by simp [k1]
    by_cases k2 : v.kind = 2
    · have e2 : (v.kind == 2) = true := by simp [k2]
      clear k1 k2
      go_enter Try.func20, Try.ntmps20
      go_wp2_with fail
      refine (flush_all HPA.out.d hst).mono ?_
      rintro e w1 ⟨rfl, own1, hd1, hk1, hf1⟩
      have hp1 := HPA.out.setD hd1 hk1 hf1
      have HRF := hid (rflush_all hp1.r hst)
      have HP1 := hid hp1
      clear hp1 hd1 hk1 hf1
      go_wp2_with (first | (go_at_call 11; refine (no_any _ _).mono ?_; rintro e w3 ⟨rfl, rfl⟩))
      refine HRF.out.mono ?_
      rintro e w2 ⟨rfl, own2, hd2, hk2, hf2⟩
      have HP2 := hid (HP1.out.setR hd2 hk2 hf2)
      clear hd2 hk2 hf2
      go_wp2_with fail
      go_ret
      have hg := flush_grow D
      exact ⟨by simp, _, _, _, HP2.out, by have := HH.out.s; have := hg.2.1; omega, by have := HH.out.w; have := hg.2.2; omega⟩
    · have e2 : (v.kind == 2) = false := by simp [k2]
      by_cases k3 : v.kind = 3
      · have e3 : (v.kind == 3) = true := by simp [k3]
        clear k1 k2 k3
        go_enter Try.func20, Try.ntmps20
        go_wp2_with fail
        refine (fuse_all HPA.out.d v.n n2).mono ?_
        rintro e w1 ⟨rfl, hd1, hk1⟩
        have hp1 := HPA.out.setD hd1 hk1 (fun k h => .inl h)
        have hS1 := box_kept hk1 HQ.out HS0.out.1 HS0.out.2.1 HS0.out.2.2.1 HS0.out.2.2.2.1 HS0.out.2.2.2.2
        obtain ⟨s0, s1, s2, s3, s4⟩ := hS1
        have HRF := hid (rfuse_all hp1.r v.n n2)
        have HP1 := hid hp1
        clear hp1 hd1 hk1
        go_wp2_with fail
        refine HRF.out.mono ?_
        rintro e w2 ⟨rfl, hd2, hk2⟩
        have HP2 := hid (HP1.out.setR hd2 hk2 (fun k h => .inl h))
        clear hd2 hk2
        go_wp2_with fail
        go_ret
        exact ⟨rfl, _, _, _, HP2.out, by have := HH.out.s; simp [DS.fused]; omega, by have := HH.out.w; simp [DS.fused]; omega⟩
      · have e3 : (v.kind == 3) = false := by simp [k3]
        clear k1 k2 k3
        go_enter Try.func20, Try.ntmps20
        go_wp2_with fail
        go_ret
        exact ⟨rfl, own, rown, D, HPA.out, by have := HH.out.s; omega, by have := HH.out.w; omega⟩
end Go.Proofs.Ytahhhpmpgkfkdaa
