/- Contracts of the two functions that bring a fraction to lowest terms: both answer red, in new memory. -/
import Derived.Test.YtkfgflmhefbinaaRows
import Derived.Test.YtkfgflmhefbinaaKit
import Derived.Test.YtkfgflmhefbinaaFracGcd
import Derived.Test.YtkfgflmhefbinaaFracValid
import Derived.WalkKit
import Derived.Below
import Derived.WalkSmall
import Derived.Lib.Hide
import Derived.BigQuiet
import Derived.RegionTactic
import Derived.BigRegion
namespace Go.Proofs.Ytkfgflmhefbinaa.FracMake
open Go.RowKit FracMath FracGcd FracValid

/-- A fraction and a bool, in new memory. -/
def IsFrac (r : Int × Int × Bool) (w : World) (e : Ending) (w' : World) : Prop :=
  e = .returned (.tuple #[.agg #[.int .i64 r.1, .int .i64 r.2.1], .bool r.2.2]) ∧ Below w.heap.size w w'

set_option maxHeartbeats 1000000 in
theorem reduced_zero (n : Int) (w : World) :
    Calls Try.prog 144 #[.agg #[.int .i64 n, .int .i64 0]] w (IsFrac (0, 0, false) w) := by
  go_enter Try.func144, Try.ntmps144
  go_wp2
  refine bodyPost_ret (v := .tuple #[.agg #[.int .i64 0, .int .i64 0], .bool false]) (by simp [results, Try.results144, go_sem]) rfl ⟨rfl, ?_⟩
  (repeat (first | exact Below.refl _ _ | apply BelowKit.bl_alloc | apply BelowKit.bl_drewN | apply BelowKit.bl_drew | (refine BelowKit.bl_set ?_ _ ?_; rotate_left; (first | omega | (simp; omega) | simp)) | (refine BelowKit.bl_trans ?_ (‹Hid (Below _ _ _)›).out)))

set_option maxHeartbeats 1000000 in
theorem reduced_any (n d : Int) (w : World) (h0 : d ≠ 0) (hn1 : -4000000000000000000 ≤ n) (hn2 : n ≤ 4000000000000000000) (hd1 : -4000000000000000000 ≤ d) (hd2 : d ≤ 4000000000000000000) :
    Calls Try.prog 144 #[.agg #[.int .i64 n, .int .i64 d]] w (IsFrac (red n d) w) := by
  have hg1 := gcd_pos (n := n) h0
  have hg2 := gcd_le (n := n) h0 4000000000000000000 hd1 hd2
  by_cases hs : 0 < d
  · skip
    have en := lowN_pos (n := n) hs
    have ed := lowD_pos' (n := n) hs
    obtain ⟨g, hg⟩ : ∃ g : Int, (Int.gcd n d : Int) = g := ⟨_, rfl⟩
    rw [hg] at hg1 hg2 en ed
    have HG := Lib.hid hg
    clear hg
    have hb : (d == 0) = false := by simpa using h0
    have b1 := tdiv_bd n g 4000000000000000000 hn1 hn2
    have b2 := tdiv_bd d g 4000000000000000000 hd1 hd2
    rw [en] at b1
    rw [ed] at b2
    obtain ⟨N, hN⟩ : ∃ N : Int, lowN n d = N := ⟨_, rfl⟩
    obtain ⟨D, hD⟩ : ∃ D : Int, lowD n d = D := ⟨_, rfl⟩
    have hp := lowD_pos (n := n) h0
    obtain ⟨r1, r2⟩ := red_parts h0 hN hD
    rw [hN] at b1 en
    rw [hD] at b2 ed hp
    clear hN hD
    obtain ⟨b3, b4⟩ := b1
    obtain ⟨b5, b6⟩ := b2
    by_cases c1 : D ≤ 1000000
    · by_cases c2 : -1000000000000 ≤ N
      · by_cases c3 : N ≤ 1000000000000
        · rw [r1 c1 c2 c3]
          clear r1 r2
          go_enter Try.func144, Try.ntmps144
          go_wp2_with fail
          refine (gcd_i n d _ (by omega) (by omega) (by omega) (by omega)).mono ?_
          rintro e w' ⟨rfl, k, rfl⟩
          rw [HG.out]
          go_wp2
          go_region
          go_wp2
          refine bodyPost_ret (v := .tuple #[.agg #[.int .i64 N, .int .i64 D], .bool true]) (by simp [results, Try.results144, go_sem]) rfl ⟨rfl, ?_⟩
          (repeat (first | exact Below.refl _ _ | apply BelowKit.bl_alloc | apply BelowKit.bl_drewN | apply BelowKit.bl_drew | (refine BelowKit.bl_set ?_ _ ?_; rotate_left; (first | omega | (simp; omega) | simp)) | (refine BelowKit.bl_trans ?_ (‹Hid (Below _ _ _)›).out)))
        · rw [r2 (fun k => c3 k.2.2)]
          clear r1 r2
          have c4 : decide (N ≤ 1000000000000) = false := decide_eq_false c3
          go_enter Try.func144, Try.ntmps144
          go_wp2_with fail
          refine (gcd_i n d _ (by omega) (by omega) (by omega) (by omega)).mono ?_
          rintro e w' ⟨rfl, k, rfl⟩
          rw [HG.out]
          go_wp2
          go_region
          go_wp2
          refine bodyPost_ret (v := .tuple #[.agg #[.int .i64 0, .int .i64 0], .bool false]) (by simp [results, Try.results144, go_sem]) rfl ⟨rfl, ?_⟩
          (repeat (first | exact Below.refl _ _ | apply BelowKit.bl_alloc | apply BelowKit.bl_drewN | apply BelowKit.bl_drew | (refine BelowKit.bl_set ?_ _ ?_; rotate_left; (first | omega | (simp; omega) | simp)) | (refine BelowKit.bl_trans ?_ (‹Hid (Below _ _ _)›).out)))
      · rw [r2 (fun k => c2 k.2.1)]
        clear r1 r2
        go_enter Try.func144, Try.ntmps144
        go_wp2_with fail
        refine (gcd_i n d _ (by omega) (by omega) (by omega) (by omega)).mono ?_
        rintro e w' ⟨rfl, k, rfl⟩
        rw [HG.out]
        go_wp2
        go_region
        go_wp2
        refine bodyPost_ret (v := .tuple #[.agg #[.int .i64 0, .int .i64 0], .bool false]) (by simp [results, Try.results144, go_sem]) rfl ⟨rfl, ?_⟩
        (repeat (first | exact Below.refl _ _ | apply BelowKit.bl_alloc | apply BelowKit.bl_drewN | apply BelowKit.bl_drew | (refine BelowKit.bl_set ?_ _ ?_; rotate_left; (first | omega | (simp; omega) | simp)) | (refine BelowKit.bl_trans ?_ (‹Hid (Below _ _ _)›).out)))
    · rw [r2 (fun k => c1 k.1)]
      clear r1 r2
      go_enter Try.func144, Try.ntmps144
      go_wp2_with fail
      refine (gcd_i n d _ (by omega) (by omega) (by omega) (by omega)).mono ?_
      rintro e w' ⟨rfl, k, rfl⟩
      rw [HG.out]
      go_wp2
      go_region
      go_wp2
      refine bodyPost_ret (v := .tuple #[.agg #[.int .i64 0, .int .i64 0], .bool false]) (by simp [results, Try.results144, go_sem]) rfl ⟨rfl, ?_⟩
      (repeat (first | exact Below.refl _ _ | apply BelowKit.bl_alloc | apply BelowKit.bl_drewN | apply BelowKit.bl_drew | (refine BelowKit.bl_set ?_ _ ?_; rotate_left; (first | omega | (simp; omega) | simp)) | (refine BelowKit.bl_trans ?_ (‹Hid (Below _ _ _)›).out)))
  · have hs : d < 0 := by omega
    have en := lowN_neg (n := n) hs
    have ed := lowD_neg (n := n) hs
    obtain ⟨g, hg⟩ : ∃ g : Int, (Int.gcd n d : Int) = g := ⟨_, rfl⟩
    rw [hg] at hg1 hg2 en ed
    have HG := Lib.hid hg
    clear hg
    have hb : (d == 0) = false := by simpa using h0
    have b1 := tdiv_bd n (-g) 4000000000000000000 hn1 hn2
    have b2 := tdiv_bd d (-g) 4000000000000000000 hd1 hd2
    rw [en] at b1
    rw [ed] at b2
    obtain ⟨N, hN⟩ : ∃ N : Int, lowN n d = N := ⟨_, rfl⟩
    obtain ⟨D, hD⟩ : ∃ D : Int, lowD n d = D := ⟨_, rfl⟩
    have hp := lowD_pos (n := n) h0
    obtain ⟨r1, r2⟩ := red_parts h0 hN hD
    rw [hN] at b1 en
    rw [hD] at b2 ed hp
    clear hN hD
    obtain ⟨b3, b4⟩ := b1
    obtain ⟨b5, b6⟩ := b2
    by_cases c1 : D ≤ 1000000
    · by_cases c2 : -1000000000000 ≤ N
      · by_cases c3 : N ≤ 1000000000000
        · rw [r1 c1 c2 c3]
          clear r1 r2
          go_enter Try.func144, Try.ntmps144
          go_wp2_with fail
          refine (gcd_i n d _ (by omega) (by omega) (by omega) (by omega)).mono ?_
          rintro e w' ⟨rfl, k, rfl⟩
          rw [HG.out]
          go_wp2
          go_region
          go_wp2
          refine bodyPost_ret (v := .tuple #[.agg #[.int .i64 N, .int .i64 D], .bool true]) (by simp [results, Try.results144, go_sem]) rfl ⟨rfl, ?_⟩
          (repeat (first | exact Below.refl _ _ | apply BelowKit.bl_alloc | apply BelowKit.bl_drewN | apply BelowKit.bl_drew | (refine BelowKit.bl_set ?_ _ ?_; rotate_left; (first | omega | (simp; omega) | simp)) | (refine BelowKit.bl_trans ?_ (‹Hid (Below _ _ _)›).out)))
        · rw [r2 (fun k => c3 k.2.2)]
          clear r1 r2
          have c4 : decide (N ≤ 1000000000000) = false := decide_eq_false c3
          go_enter Try.func144, Try.ntmps144
          go_wp2_with fail
          refine (gcd_i n d _ (by omega) (by omega) (by omega) (by omega)).mono ?_
          rintro e w' ⟨rfl, k, rfl⟩
          rw [HG.out]
          go_wp2
          go_region
          go_wp2
          refine bodyPost_ret (v := .tuple #[.agg #[.int .i64 0, .int .i64 0], .bool false]) (by simp [results, Try.results144, go_sem]) rfl ⟨rfl, ?_⟩
          (repeat (first | exact Below.refl _ _ | apply BelowKit.bl_alloc | apply BelowKit.bl_drewN | apply BelowKit.bl_drew | (refine BelowKit.bl_set ?_ _ ?_; rotate_left; (first | omega | (simp; omega) | simp)) | (refine BelowKit.bl_trans ?_ (‹Hid (Below _ _ _)›).out)))
      · rw [r2 (fun k => c2 k.2.1)]
        clear r1 r2
        go_enter Try.func144, Try.ntmps144
        go_wp2_with fail
        refine (gcd_i n d _ (by omega) (by omega) (by omega) (by omega)).mono ?_
        rintro e w' ⟨rfl, k, rfl⟩
        rw [HG.out]
        go_wp2
        go_region
        go_wp2
        refine bodyPost_ret (v := .tuple #[.agg #[.int .i64 0, .int .i64 0], .bool false]) (by simp [results, Try.results144, go_sem]) rfl ⟨rfl, ?_⟩
        (repeat (first | exact Below.refl _ _ | apply BelowKit.bl_alloc | apply BelowKit.bl_drewN | apply BelowKit.bl_drew | (refine BelowKit.bl_set ?_ _ ?_; rotate_left; (first | omega | (simp; omega) | simp)) | (refine BelowKit.bl_trans ?_ (‹Hid (Below _ _ _)›).out)))
    · rw [r2 (fun k => c1 k.1)]
      clear r1 r2
      go_enter Try.func144, Try.ntmps144
      go_wp2_with fail
      refine (gcd_i n d _ (by omega) (by omega) (by omega) (by omega)).mono ?_
      rintro e w' ⟨rfl, k, rfl⟩
      rw [HG.out]
      go_wp2
      go_region
      go_wp2
      refine bodyPost_ret (v := .tuple #[.agg #[.int .i64 0, .int .i64 0], .bool false]) (by simp [results, Try.results144, go_sem]) rfl ⟨rfl, ?_⟩
      (repeat (first | exact Below.refl _ _ | apply BelowKit.bl_alloc | apply BelowKit.bl_drewN | apply BelowKit.bl_drew | (refine BelowKit.bl_set ?_ _ ?_; rotate_left; (first | omega | (simp; omega) | simp)) | (refine BelowKit.bl_trans ?_ (‹Hid (Below _ _ _)›).out)))

theorem reduced_i (n d : Int) (w : World) (hn1 : -4000000000000000000 ≤ n) (hn2 : n ≤ 4000000000000000000) (hd1 : -4000000000000000000 ≤ d) (hd2 : d ≤ 4000000000000000000) :
    Calls Try.prog 144 #[.agg #[.int .i64 n, .int .i64 d]] w (IsFrac (red n d) w) := by
  by_cases h0 : d = 0
  · subst h0
    rw [red_zero]
    exact reduced_zero n w
  · exact reduced_any n d w h0 hn1 hn2 hd1 hd2
end Go.Proofs.Ytkfgflmhefbinaa.FracMake
