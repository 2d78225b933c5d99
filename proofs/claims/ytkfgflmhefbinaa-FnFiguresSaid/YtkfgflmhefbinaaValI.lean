/- Contract of the program's valueOf: the value of a node. Written by gen_vali.py. -/
import Derived.Test.YtkfgflmhefbinaaRows
import Derived.Test.YtkfgflmhefbinaaStepI
import Derived.Test.YtkfgflmhefbinaaCombI
import Derived.Test.YtkfgflmhefbinaaValS
import Derived.Deep.RegionHeld3
namespace Go.Proofs.Ytkfgflmhefbinaa.ValI
open Go.RowKit RowN TNode NodeMath FracMath FracMake StepI CombI ValS
theorem sign_i (x y : Int) (w : World) : Calls Try.prog 132 #[.agg #[.int .i64 x, .int .i64 y]] w (IsV (.int .i64 (if x < 0 then -1 else if 0 < x then 1 else 0)) w) := by
  by_cases h1 : x < 0
  · rw [if_pos h1]
    have d1 : decide (x < 0) = true := decide_eq_true h1
    clear h1
    go_enter Try.func132, Try.ntmps132
    go_wp2
    go_ret
    exact ⟨rfl, by (repeat (first | exact Below.refl _ _ | apply BelowKit.bl_alloc | apply BelowKit.bl_drewN | apply BelowKit.bl_drew | (refine BelowKit.bl_set ?_ _ ?_; rotate_left; (first | omega | (simp; omega) | simp)) | (refine BelowKit.bl_trans ?_ (‹Hid (Below _ _ _)›).out)))⟩
  · rw [if_neg h1]
    have d1 : decide (x < 0) = false := decide_eq_false h1
    by_cases h2 : 0 < x
    · rw [if_pos h2]
      have d2 : decide (0 < x) = true := decide_eq_true h2
      clear h1 h2
      go_enter Try.func132, Try.ntmps132
      go_wp2
      go_ret
      exact ⟨rfl, by (repeat (first | exact Below.refl _ _ | apply BelowKit.bl_alloc | apply BelowKit.bl_drewN | apply BelowKit.bl_drew | (refine BelowKit.bl_set ?_ _ ?_; rotate_left; (first | omega | (simp; omega) | simp)) | (refine BelowKit.bl_trans ?_ (‹Hid (Below _ _ _)›).out)))⟩
    · rw [if_neg h2]
      have d2 : decide (0 < x) = false := decide_eq_false h2
      clear h1 h2
      go_enter Try.func132, Try.ntmps132
      go_wp2
      go_ret
      exact ⟨rfl, by (repeat (first | exact Below.refl _ _ | apply BelowKit.bl_alloc | apply BelowKit.bl_drewN | apply BelowKit.bl_drew | (refine BelowKit.bl_set ?_ _ ?_; rotate_left; (first | omega | (simp; omega) | simp)) | (refine BelowKit.bl_trans ?_ (‹Hid (Below _ _ _)›).out)))⟩
theorem val_const (w : World) (u d : Int) (p q : Option Addr) (m cap m8 cap8 : Nat) : Calls Try.prog 115 #[vC u d, .slice p m cap, .slice q m8 cap8] w (IsFrac (u, d, true) w) := by
  have t1 := is_yes 147 (.agg #[.int .i64 u, .int .i64 d]) (by simp)
  go_enter Try.func115, Try.ntmps115
  go_wp2
  refine bodyPost_ret (v := .tuple #[.agg #[.int .i64 u, .int .i64 d], .bool true]) (by simp [results, Try.results115, go_sem]) rfl ?_
  exact ⟨rfl, by (repeat (first | exact Below.refl _ _ | apply BelowKit.bl_alloc | apply BelowKit.bl_drewN | apply BelowKit.bl_drew | (refine BelowKit.bl_set ?_ _ ?_; rotate_left; (first | omega | (simp; omega) | simp)) | (refine BelowKit.bl_trans ?_ (‹Hid (Below _ _ _)›).out)))⟩
theorem val_var (w : World) (ia : Nat) (p : Option Addr) (g o m cap cap8 : Nat) (x y : Int) (hia : ia < 8) (hg : g < w.heap.size) (q0 : w.cell? ⟨g, o + ia * 2, none⟩ = some (.int .i64 x)) (q1 : w.cell? ⟨g, o + ia * 2 + 1, none⟩ = some (.int .i64 y)) :
    Calls Try.prog 115 #[vV (ia : Int), .slice p m cap, .slice (some ⟨g, o, none⟩) 8 cap8] w (IsFrac (x, y, true) w) := by
  have t1 := noC 149 (.agg #[.int .i64 (ia : Int)]) (by decide)
  have t2 := is_yes 149 (.agg #[.int .i64 (ia : Int)]) (by simp)
  have b1 : (0 : Int) ≤ (ia : Int) := by omega
  have b2 : (ia : Int) < 8 := by omega
  have hg1 : g < w.heap.size + 1 := by omega
  have hg2 : g < w.heap.size + 1 + 1 := by omega
  clear hia
  go_enter Try.func115, Try.ntmps115
  go_wp2
  refine bodyPost_ret (v := .tuple #[.agg #[.int .i64 x, .int .i64 y], .bool true]) (by simp [results, Try.results115, go_sem]) rfl ?_
  exact ⟨rfl, by (repeat (first | exact Below.refl _ _ | apply BelowKit.bl_alloc | apply BelowKit.bl_drewN | apply BelowKit.bl_drew | (refine BelowKit.bl_set ?_ _ ?_; rotate_left; (first | omega | (simp; omega) | simp)) | (refine BelowKit.bl_trans ?_ (‹Hid (Below _ _ _)›).out)))⟩
set_option maxHeartbeats 8000000 in
theorem val_pair (w : World) (k : Int) (ia ib : Nat) (q : Option Addr) (g o m cap m8 cap8 : Nat) (a b c d : Int) (hk : 3 ≤ k ∧ k ≤ 8) (hia : ia < m) (hib : ib < m) (hg : g < w.heap.size)
    (q0 : w.cell? ⟨g, o + ia * 2, none⟩ = some (.int .i64 a)) (q1 : w.cell? ⟨g, o + ia * 2 + 1, none⟩ = some (.int .i64 b))
    (p0 : w.cell? ⟨g, o + ib * 2, none⟩ = some (.int .i64 c)) (p1 : w.cell? ⟨g, o + ib * 2 + 1, none⟩ = some (.int .i64 d)) :
    Calls Try.prog 115 #[vP k (ia : Int) (ib : Int), .slice (some ⟨g, o, none⟩) m cap, .slice q m8 cap8] w (IsFrac (combR k a b c d) w) := by
  have t1 := noC 154 (.agg #[.int .i64 k, .int .i64 (ia : Int), .int .i64 (ib : Int)]) (by decide)
  have t2 := noV 154 (.agg #[.int .i64 k, .int .i64 (ia : Int), .int .i64 (ib : Int)]) (by decide)
  have t3 := is_yes 154 (.agg #[.int .i64 k, .int .i64 (ia : Int), .int .i64 (ib : Int)]) (by simp)
  have HK := Lib.hid hk
  have b1 : (0 : Int) ≤ (ia : Int) := by omega
  have b2 : (ia : Int) < (m : Int) := by omega
  have b3 : (0 : Int) ≤ (ib : Int) := by omega
  have b4 : (ib : Int) < (m : Int) := by omega
  have hg1 : g < w.heap.size + 1 := by omega
  have hg2 : g < w.heap.size + 1 + 1 := by omega
  obtain ⟨⟨r1, r2, r3⟩, hr⟩ : ∃ r, combR k a b c d = r := ⟨_, rfl⟩
  rw [hr]
  have HRR := Lib.hid hr
  have HQ0 := Lib.hid q0
  have HQ1 := Lib.hid q1
  have HP0 := Lib.hid p0
  have HP1 := Lib.hid p1
  clear hk hia hib hr q0 q1 p0 p1
  go_enter Try.func115, Try.ntmps115
  go_wp2_with fail
  have k0 : ((w.alloc (.cells #[.int .i64 0, .int .i64 0] 44)).alloc (.cells #[.int .i64 k, .int .i64 (ia : Int), .int .i64 (ib : Int)] 154)).cell? ⟨w.heap.size + 1, 0, none⟩ = some (.int .i64 k) := by simp [go_sem]
  have k1 : ((w.alloc (.cells #[.int .i64 0, .int .i64 0] 44)).alloc (.cells #[.int .i64 k, .int .i64 (ia : Int), .int .i64 (ib : Int)] 154)).cell? ⟨w.heap.size + 1, 1, none⟩ = some (.int .i64 (ia : Int)) := by simp [go_sem]
  have k2 : ((w.alloc (.cells #[.int .i64 0, .int .i64 0] 44)).alloc (.cells #[.int .i64 k, .int .i64 (ia : Int), .int .i64 (ib : Int)] 154)).cell? ⟨w.heap.size + 1, 2, none⟩ = some (.int .i64 (ib : Int)) := by simp [go_sem]
  have s0 : ((w.alloc (.cells #[.int .i64 0, .int .i64 0] 44)).alloc (.cells #[.int .i64 k, .int .i64 (ia : Int), .int .i64 (ib : Int)] 154)).cell? ⟨w.heap.size, 0, none⟩ = some (.int .i64 0) := by simp [go_sem]
  have s1 : ((w.alloc (.cells #[.int .i64 0, .int .i64 0] 44)).alloc (.cells #[.int .i64 k, .int .i64 (ia : Int), .int .i64 (ib : Int)] 154)).cell? ⟨w.heap.size, 1, none⟩ = some (.int .i64 0) := by simp [go_sem]
  have f0 : ((w.alloc (.cells #[.int .i64 0, .int .i64 0] 44)).alloc (.cells #[.int .i64 k, .int .i64 (ia : Int), .int .i64 (ib : Int)] 154)).frozen? ⟨w.heap.size, 0, none⟩ = false := by simp [go_sem]
  have f1 : ((w.alloc (.cells #[.int .i64 0, .int .i64 0] 44)).alloc (.cells #[.int .i64 k, .int .i64 (ia : Int), .int .i64 (ib : Int)] 154)).frozen? ⟨w.heap.size, 1, none⟩ = false := by simp [go_sem]
  have HB0 : Hid (Below w.heap.size w ((w.alloc (.cells #[.int .i64 0, .int .i64 0] 44)).alloc (.cells #[.int .i64 k, .int .i64 (ia : Int), .int .i64 (ib : Int)] 154))) := Lib.hid (by (repeat (first | exact Below.refl _ _ | apply BelowKit.bl_alloc | apply BelowKit.bl_drewN | apply BelowKit.bl_drew | (refine BelowKit.bl_set ?_ _ ?_; rotate_left; (first | omega | (simp; omega) | simp)) | (refine BelowKit.bl_trans ?_ (‹Hid (Below _ _ _)›).out))))
  have zz : ((w.alloc (.cells #[.int .i64 0, .int .i64 0] 44)).alloc (.cells #[.int .i64 k, .int .i64 (ia : Int), .int .i64 (ib : Int)] 154)).heap.size = w.heap.size + 1 + 1 := by simp
  obtain ⟨w0, hw0⟩ : ∃ W, ((w.alloc (.cells #[.int .i64 0, .int .i64 0] 44)).alloc (.cells #[.int .i64 k, .int .i64 (ia : Int), .int .i64 (ib : Int)] 154)) = W := ⟨_, rfl⟩
  rw [hw0] at k0 k1 k2 s0 s1 f0 f1 HB0 zz ⊢
  have q0 := ((BelowKit.bcell HB0.out).1 _ _ hg).trans HQ0.out
  have q1 := ((BelowKit.bcell HB0.out).1 _ _ hg).trans HQ1.out
  have p0 := ((BelowKit.bcell HB0.out).1 _ _ hg).trans HP0.out
  have p1 := ((BelowKit.bcell HB0.out).1 _ _ hg).trans HP1.out
  clear hw0
  go_region_held3 (fun W => W.cell? ⟨w.heap.size + 1, 0, none⟩ = some (.int .i64 k) ∧ W.cell? ⟨w.heap.size + 1, 1, none⟩ = some (.int .i64 (ia : Int)) ∧ W.cell? ⟨w.heap.size + 1, 2, none⟩ = some (.int .i64 (ib : Int)) ∧ W.cell? ⟨g, o + ia * 2, none⟩ = some (.int .i64 a) ∧ W.cell? ⟨g, o + ia * 2 + 1, none⟩ = some (.int .i64 b) ∧ W.cell? ⟨g, o + ib * 2, none⟩ = some (.int .i64 c) ∧ W.cell? ⟨g, o + ib * 2 + 1, none⟩ = some (.int .i64 d))
    (first | exact ⟨k0, k1, k2, q0, q1, p0, p1⟩ | exact HS.out | (refine ⟨?_, ?_, ?_, ?_, ?_, ?_, ?_⟩ <;> (repeat (rw [World.cell?_setCell_far _ _ _ _ (by first | (simp; done) | (simp; omega))])) <;> first | exact HS.out.1 | exact HS.out.2.1 | exact HS.out.2.2.1 | exact HS.out.2.2.2.1 | exact HS.out.2.2.2.2.1 | exact HS.out.2.2.2.2.2.1 | exact HS.out.2.2.2.2.2.2))
    ((go_at_call 131; (with_reducible refine (comb_i k a b c d HK.out _).mono ?_); rintro e w3 ⟨rfl, hb3⟩; rw [HRR.out]; replace hb3 : Below w0.heap.size w0 w3 := BelowKit.bl_trans (BelowKit.bl_drew (Below.refl _ _)) hb3; have hc3 := (BelowKit.bcell hb3).1; have hf3 := (BelowKit.bcell hb3).2; rw [zz] at hc3 hf3;
      have HS := Lib.hid (show w3.cell? ⟨w.heap.size + 1, 0, none⟩ = some (.int .i64 k) ∧ w3.cell? ⟨w.heap.size + 1, 1, none⟩ = some (.int .i64 (ia : Int)) ∧ w3.cell? ⟨w.heap.size + 1, 2, none⟩ = some (.int .i64 (ib : Int)) ∧ w3.cell? ⟨g, o + ia * 2, none⟩ = some (.int .i64 a) ∧ w3.cell? ⟨g, o + ia * 2 + 1, none⟩ = some (.int .i64 b) ∧ w3.cell? ⟨g, o + ib * 2, none⟩ = some (.int .i64 c) ∧ w3.cell? ⟨g, o + ib * 2 + 1, none⟩ = some (.int .i64 d) from ⟨(hc3 _ _ (by omega)).trans k0, (hc3 _ _ (by omega)).trans k1, (hc3 _ _ (by omega)).trans k2, (hc3 _ _ hg2).trans q0, (hc3 _ _ hg2).trans q1, (hc3 _ _ hg2).trans p0, (hc3 _ _ hg2).trans p1⟩);
      have s0 : w3.cell? ⟨w.heap.size, 0, none⟩ = some (.int .i64 0) := (hc3 _ _ (by omega)).trans s0; have s1 : w3.cell? ⟨w.heap.size, 1, none⟩ = some (.int .i64 0) := (hc3 _ _ (by omega)).trans s1;
      have f0 : w3.frozen? ⟨w.heap.size, 0, none⟩ = false := (hf3 _ _ (by omega)).trans f0; have f1 : w3.frozen? ⟨w.heap.size, 1, none⟩ = false := (hf3 _ _ (by omega)).trans f1;
      have z3 : w.heap.size < w3.heap.size := (by have := hb3.size; omega);
      have HB := Lib.hid (BelowKit.bl_trans HB0.out hb3); clear hb3 hc3 hf3 k0 k1 k2 q0 q1 p0 p1))
  all_goals
    go_wp2
    refine bodyPost_ret (v := .tuple #[.agg #[.int .i64 r1, .int .i64 r2], .bool r3]) (by simp [results, Try.results115, go_sem, s0, s1]) rfl ?_
    exact ⟨rfl, BelowKit.bl_set (BelowKit.bl_set HB.out (a := ⟨w.heap.size, 0, none⟩) _ (by simp)) (a := ⟨w.heap.size, 1, none⟩) _ (by simp)⟩
set_option maxHeartbeats 4000000 in
theorem val_pick (w : World) (ia ib ic : Nat) (q : Option Addr) (g o m cap m8 cap8 : Nat) (a a' b b' c c' : Int) (hia : ia < m) (hib : ib < m) (hic : ic < m) (hg : g < w.heap.size)
    (q0 : w.cell? ⟨g, o + ia * 2, none⟩ = some (.int .i64 a)) (q1 : w.cell? ⟨g, o + ia * 2 + 1, none⟩ = some (.int .i64 a'))
    (p0 : w.cell? ⟨g, o + ib * 2, none⟩ = some (.int .i64 b)) (p1 : w.cell? ⟨g, o + ib * 2 + 1, none⟩ = some (.int .i64 b'))
    (r0 : w.cell? ⟨g, o + ic * 2, none⟩ = some (.int .i64 c)) (r1 : w.cell? ⟨g, o + ic * 2 + 1, none⟩ = some (.int .i64 c')) :
    Calls Try.prog 115 #[vK (ia : Int) (ib : Int) (ic : Int), .slice (some ⟨g, o, none⟩) m cap, .slice q m8 cap8] w (IsFrac (if 0 < a then (b, b', true) else (c, c', true)) w) := by
  have t1 := noC 157 (.agg #[.int .i64 (ia : Int), .int .i64 (ib : Int), .int .i64 (ic : Int)]) (by decide)
  have t2 := noV 157 (.agg #[.int .i64 (ia : Int), .int .i64 (ib : Int), .int .i64 (ic : Int)]) (by decide)
  have t3 := noP 157 (.agg #[.int .i64 (ia : Int), .int .i64 (ib : Int), .int .i64 (ic : Int)]) (by decide)
  have t4 := is_yes 157 (.agg #[.int .i64 (ia : Int), .int .i64 (ib : Int), .int .i64 (ic : Int)]) (by simp)
  have b1 : (0 : Int) ≤ (ia : Int) := by omega
  have b2 : (ia : Int) < (m : Int) := by omega
  have b3 : (0 : Int) ≤ (ib : Int) := by omega
  have b4 : (ib : Int) < (m : Int) := by omega
  have b5 : (0 : Int) ≤ (ic : Int) := by omega
  have b6 : (ic : Int) < (m : Int) := by omega
  have hg1 : g < w.heap.size + 1 := by omega
  have hg2 : g < w.heap.size + 1 + 1 := by omega
  obtain ⟨R, hR⟩ : ∃ R, (if 0 < a then (b, b', true) else (c, c', true)) = R := ⟨_, rfl⟩
  have EY : Hid (0 < a → R = (b, b', true)) := Lib.hid (fun e => by rw [← hR, if_pos e])
  have EN : Hid (¬ 0 < a → R = (c, c', true)) := Lib.hid (fun e => by rw [← hR, if_neg e])
  rw [hR]
  clear hia hib hic hR
  go_enter Try.func115, Try.ntmps115
  go_wp2_with fail
  refine (sign_i a a' _).mono ?_
  rintro e w1 ⟨rfl, hb⟩
  obtain ⟨hc, hf⟩ := BelowKit.bcell hb
  have s0 : w1.cell? ⟨w.heap.size, 0, none⟩ = some (.int .i64 0) := (hc _ _ (by first | omega | (simp; done) | (simp; omega))).trans (by simp [go_sem])
  have s1 : w1.cell? ⟨w.heap.size, 1, none⟩ = some (.int .i64 0) := (hc _ _ (by first | omega | (simp; done) | (simp; omega))).trans (by simp [go_sem])
  have f0 : w1.frozen? ⟨w.heap.size, 0, none⟩ = false := (hf _ _ (by first | omega | (simp; done) | (simp; omega))).trans (by simp [go_sem])
  have f1 : w1.frozen? ⟨w.heap.size, 1, none⟩ = false := (hf _ _ (by first | omega | (simp; done) | (simp; omega))).trans (by simp [go_sem])
  have k1 : w1.cell? ⟨w.heap.size + 1, 1, none⟩ = some (.int .i64 (ib : Int)) := (hc _ _ (by first | omega | (simp; done) | (simp; omega))).trans (by simp [go_sem])
  have k2 : w1.cell? ⟨w.heap.size + 1, 2, none⟩ = some (.int .i64 (ic : Int)) := (hc _ _ (by first | omega | (simp; done) | (simp; omega))).trans (by simp [go_sem])
  have HB := Lib.hid (show Below w.heap.size w w1 from BelowKit.bl_trans (by (repeat (first | exact Below.refl _ _ | apply BelowKit.bl_alloc | apply BelowKit.bl_drewN | apply BelowKit.bl_drew | (refine BelowKit.bl_set ?_ _ ?_; rotate_left; (first | omega | (simp; omega) | simp)) | (refine BelowKit.bl_trans ?_ (‹Hid (Below _ _ _)›).out)))) hb)
  have p0 := ((BelowKit.bcell HB.out).1 _ _ hg).trans p0
  have p1 := ((BelowKit.bcell HB.out).1 _ _ hg).trans p1
  have r0 := ((BelowKit.bcell HB.out).1 _ _ hg).trans r0
  have r1 := ((BelowKit.bcell HB.out).1 _ _ hg).trans r1
  have z1 : w.heap.size + 1 < w1.heap.size := by have := hb.size; simp at this; omega
  have z0 : w.heap.size < w1.heap.size := by omega
  have ne0 : g ≠ w.heap.size := by omega
  clear hc hf hb q0 q1
  by_cases ha : 0 < a
  case pos =>
    have hs : (if a < 0 then (-1 : Int) else if 0 < a then 1 else 0) = 1 := by rw [if_neg (by omega), if_pos ha]
    rw [hs]
    have E := Lib.hid (EY.out ha)
    clear EY EN ha hs
    go_wp2
    refine bodyPost_ret (v := .tuple #[.agg #[.int .i64 b, .int .i64 b'], .bool true]) (by simp [results, Try.results115, go_sem, s0, s1]) rfl ?_
    rw [E.out]
    exact ⟨rfl, BelowKit.bl_set (BelowKit.bl_set HB.out (a := ⟨w.heap.size, 0, none⟩) _ (by simp)) (a := ⟨w.heap.size, 1, none⟩) _ (by simp)⟩
  case neg =>
    obtain ⟨s, hs⟩ : ∃ s, (if a < 0 then (-1 : Int) else if 0 < a then 1 else 0) = s := ⟨_, rfl⟩
    have ds : decide (0 < s) = false := decide_eq_false (by rw [← hs]; split <;> (try split) <;> omega)
    rw [hs]
    have E := Lib.hid (EN.out (by omega))
    clear EY EN ha hs
    go_wp2
    refine bodyPost_ret (v := .tuple #[.agg #[.int .i64 c, .int .i64 c'], .bool true]) (by simp [results, Try.results115, go_sem, s0, s1]) rfl ?_
    rw [E.out]
    exact ⟨rfl, BelowKit.bl_set (BelowKit.bl_set HB.out (a := ⟨w.heap.size, 0, none⟩) _ (by simp)) (a := ⟨w.heap.size, 1, none⟩) _ (by simp)⟩
/-- The value of a node, given those ahead of it. -/
theorem val_i (n : El) (w : World) (p q : Option Addr) (m cap m8 cap8 : Nat) (v vs : List Fr) (hn : OkN n (m : Int)) (hm : v.length = m) (hm8 : vs.length = 8) (h8 : m8 = 8) (h : Reads TFrac.fc 2 w p v) (h2 : Reads TFrac.fc 2 w q vs) :
    Calls Try.prog 115 #[stepV n, .slice p m cap, .slice q m8 cap8] w (IsFrac (valN n v vs) w) := by
  subst h8
  obtain ⟨k, a, b, c, u, d⟩ := n
  rcases hn with h1 | ⟨_, _, h1 | h1 | h1⟩
  · obtain ⟨rfl, _⟩ := h1
    exact val_const w u d p q m cap 8 cap8
  · obtain ⟨hk, ha, _⟩ := h1
    simp only [] at hk ha
    subst hk
    obtain ⟨ia, rfl, hia⟩ := nat_of (a := a) (k := 8) (by omega)
    have hlt : ia < vs.length := by omega
    obtain ⟨g, o, rfl, hgl, q0, q1⟩ := TFrac.read h2 ia hlt
    have e : valN ⟨2, (ia : Int), b, c, u, d⟩ v vs = (vs[ia].Num, vs[ia].Den, true) := by unfold valN; simp [at0_get hlt]
    rw [e]
    exact val_var w ia p g o m cap cap8 _ _ (by omega) hgl q0 q1
  · obtain ⟨hk, ha, hb, _⟩ := h1
    simp only [] at hk ha hb
    obtain ⟨ia, rfl, hia⟩ := nat_of ha
    obtain ⟨ib, rfl, hib⟩ := nat_of hb
    have hla : ia < v.length := by omega
    have hlb : ib < v.length := by omega
    obtain ⟨g, o, rfl, hgl, q0, q1⟩ := TFrac.read h ia hla
    obtain ⟨g', o', e', _, p0, p1⟩ := TFrac.read h ib hlb
    cases e'
    have e : valN ⟨k, (ia : Int), (ib : Int), c, u, d⟩ v vs = combR k v[ia].Num v[ia].Den v[ib].Num v[ib].Den := by
      have hk6 : k = 3 ∨ k = 4 ∨ k = 5 ∨ k = 6 ∨ k = 7 ∨ k = 8 := by omega
      rcases hk6 with rfl | rfl | rfl | rfl | rfl | rfl <;> (unfold valN combR; simp [at0_get hla, at0_get hlb])
    have es : stepV ⟨k, (ia : Int), (ib : Int), c, u, d⟩ = vP k (ia : Int) (ib : Int) := by unfold stepV; simp only []; rw [if_neg (by omega), if_neg (by omega), if_pos hk]
    rw [e, es]
    exact val_pair w k ia ib q g o m cap 8 cap8 _ _ _ _ hk (by omega) (by omega) hgl q0 q1 p0 p1
  · obtain ⟨hk, ha, hb, hc⟩ := h1
    simp only [] at hk ha hb hc
    subst hk
    obtain ⟨ia, rfl, hia⟩ := nat_of ha
    obtain ⟨ib, rfl, hib⟩ := nat_of hb
    obtain ⟨ic, rfl, hic⟩ := nat_of hc
    have hla : ia < v.length := by omega
    have hlb : ib < v.length := by omega
    have hlc : ic < v.length := by omega
    obtain ⟨g, o, rfl, hgl, q0, q1⟩ := TFrac.read h ia hla
    obtain ⟨g', o', e', _, p0, p1⟩ := TFrac.read h ib hlb
    cases e'
    obtain ⟨g', o', e', _, r0, r1⟩ := TFrac.read h ic hlc
    cases e'
    have e : valN ⟨9, (ia : Int), (ib : Int), (ic : Int), u, d⟩ v vs = (if 0 < v[ia].Num then (v[ib].Num, v[ib].Den, true) else (v[ic].Num, v[ic].Den, true)) := by unfold valN; simp [at0_get hla, at0_get hlb, at0_get hlc]
    rw [e]
    exact val_pick w ia ib ic q g o m cap 8 cap8 _ _ _ _ _ _ (by omega) (by omega) (by omega) hgl q0 q1 p0 p1 r0 r1
end Go.Proofs.Ytkfgflmhefbinaa.ValI
