/- The contract of the model's function that brings a fraction to lowest terms: it answers red, in new memory. -/
import Derived.Test.YtkfgflmhefbinaaRows
import Derived.Test.YtkfgflmhefbinaaKit
import Derived.Test.YtkfgflmhefbinaaFracGcd
import Derived.Test.YtkfgflmhefbinaaFracValid
import Derived.Test.YtkfgflmhefbinaaFracMake
import Derived.WalkKit
import Derived.Below
import Derived.WalkSmall
import Derived.Lib.Hide
import Derived.BigQuiet
import Derived.RegionTactic
import Derived.BigRegion
namespace Go.Proofs.Ytkfgflmhefbinaa.FracMakeS
open Go.RowKit FracMath FracGcd FracValid FracMake

set_option maxHeartbeats 1000000 in
theorem make_pos (n d : Int) (w : World) (hs : 0 < d) (hn1 : -4000000000000000000 ≤ n) (hn2 : n ≤ 4000000000000000000) (hd2 : d ≤ 4000000000000000000) :
    Calls Try.prog 113 #[.int .i64 n, .int .i64 d] w (IsFrac (red n d) w) := by
  have h0 : d ≠ 0 := by omega
  have hg1 := gcd_pos (n := n) h0
  have hg2 := gcd_le (n := n) h0 4000000000000000000 (by omega) hd2
  have en := lowN_pos (n := n) hs
  have ed := lowD_pos' (n := n) hs
  have b1 := tdiv_bd n (Int.gcd n d : Int) 4000000000000000000 hn1 hn2
  have b2 := tdiv_bd d (Int.gcd n d : Int) 4000000000000000000 (by omega) hd2
  have hE : Int.gcd (n.natAbs : Int) d = Int.gcd n d := by simp [Int.gcd]
  rw [en] at b1
  rw [ed] at b2
  obtain ⟨g, hg⟩ : ∃ g : Int, (Int.gcd n d : Int) = g := ⟨_, rfl⟩
  rw [hg] at hg1 hg2 en ed
  rw [← hE] at hg
  have HG := Lib.hid hg
  have hok := fit_ok (n := n) h0
  have hp := lowD_pos (n := n) h0
  have hy := red_yes (n := n) h0
  have hno := red_no (n := n) (d := d)
  rw [← hok] at hy hno
  obtain ⟨N, hN⟩ : ∃ N : Int, lowN n d = N := ⟨_, rfl⟩
  obtain ⟨D, hD⟩ : ∃ D : Int, lowD n d = D := ⟨_, rfl⟩
  rw [hN] at b1 en hok hy hno
  rw [hD] at b2 ed hp hok hy hno
  obtain ⟨b3, b4⟩ := b1
  obtain ⟨b5, b6⟩ := b2
  clear hE hg hok hN hD h0
  cases hb : okB N D with
  | true =>
    rw [hy hb]
    have HB := Lib.hid hb
    clear hy hno hb
    go_enter Try.func113, Try.ntmps113
    go_wp2_with fail
    refine (abs_s n _ (by omega) (by omega)).mono ?_
    rintro e w' ⟨rfl, rfl⟩
    go_wp2_with fail
    refine (gcd_s _ _ _ (by omega) (by omega) (by omega) (by omega)).mono ?_
    rintro e w' ⟨rfl, rfl⟩
    rw [HG.out]
    go_wp2_with fail
    go_region
    go_wp2_with fail
    refine (ok_s N D _).mono ?_
    rintro e w1 ⟨rfl, hb1⟩
    rw [HB.out]
    obtain ⟨hc, hf⟩ := BelowKit.bcell hb1
    have HB1 := Lib.hid hb1
    clear hb1
    have q0 : w1.cell? ⟨w.heap.size, 0, none⟩ = some (.int .i64 0) := by rw [hc _ _ (by simp; omega)]; simp [go_sem]
    have q1 : w1.cell? ⟨w.heap.size, 1, none⟩ = some (.int .i64 0) := by rw [hc _ _ (by simp; omega)]; simp [go_sem]
    go_wp2
    refine bodyPost_ret (v := .tuple #[.agg #[.int .i64 N, .int .i64 D], .bool true]) (by simp [results, Try.results113, q0, q1, go_sem]) rfl ⟨rfl, ?_⟩
    (repeat (first | exact Below.refl _ _ | apply BelowKit.bl_alloc | apply BelowKit.bl_drewN | apply BelowKit.bl_drew | (refine BelowKit.bl_set ?_ _ ?_; rotate_left; (first | omega | (simp; omega) | simp)) | (refine BelowKit.bl_trans ?_ (‹Hid (Below _ _ _)›).out)))
  | false =>
    rw [hno hb]
    have HB := Lib.hid hb
    clear hy hno hb
    go_enter Try.func113, Try.ntmps113
    go_wp2_with fail
    refine (abs_s n _ (by omega) (by omega)).mono ?_
    rintro e w' ⟨rfl, rfl⟩
    go_wp2_with fail
    refine (gcd_s _ _ _ (by omega) (by omega) (by omega) (by omega)).mono ?_
    rintro e w' ⟨rfl, rfl⟩
    rw [HG.out]
    go_wp2_with fail
    go_region
    go_wp2_with fail
    refine (ok_s N D _).mono ?_
    rintro e w1 ⟨rfl, hb1⟩
    rw [HB.out]
    obtain ⟨hc, hf⟩ := BelowKit.bcell hb1
    have HB1 := Lib.hid hb1
    clear hb1
    have q0 : w1.cell? ⟨w.heap.size, 0, none⟩ = some (.int .i64 0) := by rw [hc _ _ (by simp; omega)]; simp [go_sem]
    have q1 : w1.cell? ⟨w.heap.size, 1, none⟩ = some (.int .i64 0) := by rw [hc _ _ (by simp; omega)]; simp [go_sem]
    go_wp2
    refine bodyPost_ret (v := .tuple #[.agg #[.int .i64 0, .int .i64 0], .bool false]) (by simp [results, Try.results113, q0, q1, go_sem]) rfl ⟨rfl, ?_⟩
    (repeat (first | exact Below.refl _ _ | apply BelowKit.bl_alloc | apply BelowKit.bl_drewN | apply BelowKit.bl_drew | (refine BelowKit.bl_set ?_ _ ?_; rotate_left; (first | omega | (simp; omega) | simp)) | (refine BelowKit.bl_trans ?_ (‹Hid (Below _ _ _)›).out)))

set_option maxHeartbeats 1000000 in
theorem make_neg (n d : Int) (w : World) (hs : 0 < d) (hn1 : -4000000000000000000 ≤ n) (hn2 : n ≤ 4000000000000000000) (hd2 : d ≤ 4000000000000000000) :
    Calls Try.prog 113 #[.int .i64 (-n), .int .i64 (-d)] w (IsFrac (red n d) w) := by
  have h0 : d ≠ 0 := by omega
  have hg1 := gcd_pos (n := n) h0
  have hg2 := gcd_le (n := n) h0 4000000000000000000 (by omega) hd2
  have en := lowN_pos (n := n) hs
  have ed := lowD_pos' (n := n) hs
  have b1 := tdiv_bd n (Int.gcd n d : Int) 4000000000000000000 hn1 hn2
  have b2 := tdiv_bd d (Int.gcd n d : Int) 4000000000000000000 (by omega) hd2
  have hE : Int.gcd (n.natAbs : Int) d = Int.gcd n d := by simp [Int.gcd]
  rw [en] at b1
  rw [ed] at b2
  obtain ⟨g, hg⟩ : ∃ g : Int, (Int.gcd n d : Int) = g := ⟨_, rfl⟩
  rw [hg] at hg1 hg2 en ed
  rw [← hE] at hg
  have HG := Lib.hid hg
  have hok := fit_ok (n := n) h0
  have hp := lowD_pos (n := n) h0
  have hy := red_yes (n := n) h0
  have hno := red_no (n := n) (d := d)
  rw [← hok] at hy hno
  obtain ⟨N, hN⟩ : ∃ N : Int, lowN n d = N := ⟨_, rfl⟩
  obtain ⟨D, hD⟩ : ∃ D : Int, lowD n d = D := ⟨_, rfl⟩
  rw [hN] at b1 en hok hy hno
  rw [hD] at b2 ed hp hok hy hno
  obtain ⟨b3, b4⟩ := b1
  obtain ⟨b5, b6⟩ := b2
  clear hE hg hok hN hD h0
  cases hb : okB N D with
  | true =>
    rw [hy hb]
    have HB := Lib.hid hb
    clear hy hno hb
    go_enter Try.func113, Try.ntmps113
    go_wp2_with fail
    refine (abs_s n _ (by omega) (by omega)).mono ?_
    rintro e w' ⟨rfl, rfl⟩
    go_wp2_with fail
    refine (gcd_s _ _ _ (by omega) (by omega) (by omega) (by omega)).mono ?_
    rintro e w' ⟨rfl, rfl⟩
    rw [HG.out]
    go_wp2_with fail
    go_region
    go_wp2_with fail
    refine (ok_s N D _).mono ?_
    rintro e w1 ⟨rfl, hb1⟩
    rw [HB.out]
    obtain ⟨hc, hf⟩ := BelowKit.bcell hb1
    have HB1 := Lib.hid hb1
    clear hb1
    have q0 : w1.cell? ⟨w.heap.size, 0, none⟩ = some (.int .i64 0) := by rw [hc _ _ (by simp; omega)]; simp [go_sem]
    have q1 : w1.cell? ⟨w.heap.size, 1, none⟩ = some (.int .i64 0) := by rw [hc _ _ (by simp; omega)]; simp [go_sem]
    go_wp2
    refine bodyPost_ret (v := .tuple #[.agg #[.int .i64 N, .int .i64 D], .bool true]) (by simp [results, Try.results113, q0, q1, go_sem]) rfl ⟨rfl, ?_⟩
    (repeat (first | exact Below.refl _ _ | apply BelowKit.bl_alloc | apply BelowKit.bl_drewN | apply BelowKit.bl_drew | (refine BelowKit.bl_set ?_ _ ?_; rotate_left; (first | omega | (simp; omega) | simp)) | (refine BelowKit.bl_trans ?_ (‹Hid (Below _ _ _)›).out)))
  | false =>
    rw [hno hb]
    have HB := Lib.hid hb
    clear hy hno hb
    go_enter Try.func113, Try.ntmps113
    go_wp2_with fail
    refine (abs_s n _ (by omega) (by omega)).mono ?_
    rintro e w' ⟨rfl, rfl⟩
    go_wp2_with fail
    refine (gcd_s _ _ _ (by omega) (by omega) (by omega) (by omega)).mono ?_
    rintro e w' ⟨rfl, rfl⟩
    rw [HG.out]
    go_wp2_with fail
    go_region
    go_wp2_with fail
    refine (ok_s N D _).mono ?_
    rintro e w1 ⟨rfl, hb1⟩
    rw [HB.out]
    obtain ⟨hc, hf⟩ := BelowKit.bcell hb1
    have HB1 := Lib.hid hb1
    clear hb1
    have q0 : w1.cell? ⟨w.heap.size, 0, none⟩ = some (.int .i64 0) := by rw [hc _ _ (by simp; omega)]; simp [go_sem]
    have q1 : w1.cell? ⟨w.heap.size, 1, none⟩ = some (.int .i64 0) := by rw [hc _ _ (by simp; omega)]; simp [go_sem]
    go_wp2
    refine bodyPost_ret (v := .tuple #[.agg #[.int .i64 0, .int .i64 0], .bool false]) (by simp [results, Try.results113, q0, q1, go_sem]) rfl ⟨rfl, ?_⟩
    (repeat (first | exact Below.refl _ _ | apply BelowKit.bl_alloc | apply BelowKit.bl_drewN | apply BelowKit.bl_drew | (refine BelowKit.bl_set ?_ _ ?_; rotate_left; (first | omega | (simp; omega) | simp)) | (refine BelowKit.bl_trans ?_ (‹Hid (Below _ _ _)›).out)))

theorem make_s (n d : Int) (w : World) (h0 : d ≠ 0) (hn1 : -4000000000000000000 ≤ n) (hn2 : n ≤ 4000000000000000000) (hd1 : -4000000000000000000 ≤ d) (hd2 : d ≤ 4000000000000000000) :
    Calls Try.prog 113 #[.int .i64 n, .int .i64 d] w (IsFrac (red n d) w) := by
  by_cases hs : 0 < d
  · exact make_pos n d w hs hn1 hn2 hd2
  · have h := make_neg (-n) (-d) w (by omega) (by omega) (by omega) (by omega)
    rw [Int.neg_neg, Int.neg_neg, red_neg] at h
    exact h
end Go.Proofs.Ytkfgflmhefbinaa.FracMakeS
