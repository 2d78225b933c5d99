/- My kit: texts that lean on no dump, in one file. -/
import Derived.Test.YthhjnffbafmkpaaRows
import Derived.Test.YthhjnffbafmkpaaKit
import Derived.WalkKit
import Derived.Lib.Hide
import Derived.Deep.QuietTactic
import Derived.BigQuiet
import Derived.Below
import Derived.WalkSmall
import Derived.RegionTactic
import Derived.BigRegion
import Derived.Deep.RegionHeld3
/- Contracts of the two divisor functions and of the small tests of fractions: they compute and leave memory alone. -/
namespace Go.Proofs.Ythhjnffbafmkpaa.FracGcd
open Go.RowKit FracMath

/-- The number g, memory as it was but for drawn orders. -/
def IsNum (g : Int) (w : World) (e : Ending) (w' : World) : Prop := e = .returned (.int .i64 g) ∧ ∃ n, w' = w.drewN n
def Pair (g : Nat) (w : World) (p q : Int) (wr : World) : Prop := (Int.gcd p q = g ∧ ∃ n, wr = w.drewN n)

set_option maxHeartbeats 1000000 in
theorem gcd_i (a b : Int) (w : World) (ha1 : -4000000000000000000 ≤ a) (ha2 : a ≤ 4000000000000000000) (hb1 : -4000000000000000000 ≤ b) (hb2 : b ≤ 4000000000000000000) :
    Calls Try.prog 55 #[.int .i64 a, .int .i64 b] w (IsNum (Int.gcd a b) w) := by
  go_enter Try.func55, Try.ntmps55
  go_wp2
  go_loopw [0, 1] (fun x y wr => ∃ p q : Int, x = .int .i64 p ∧ y = .int .i64 q ∧ -4000000000000000000 ≤ p ∧ p ≤ 4000000000000000000 ∧ -4000000000000000000 ≤ q ∧ q ≤ 4000000000000000000 ∧ Pair (Int.gcd a b) w p q wr)
    (fun _ y _ => (intOf y).natAbs)
  case atStart => exact ⟨a, b, rfl, rfl, ha1, ha2, hb1, hb2, rfl, 0, rfl⟩
  case round =>
    obtain ⟨p, q, rfl, rfl, hp1, hp2, hq1, hq2, hg⟩ := hrel
    clear ha1 ha2 hb1 hb2
    have HG := Lib.hid hg
    clear hg
    by_cases h0 : q = 0
    · subst h0
      have ew : IntKind.i64.wrap (-p) = -p := IntWalk.i64_in _ (by omega)
      by_cases h1 : -p ≤ p
      all_goals
        go_wp2
        go_ret
        obtain ⟨g0, hw⟩ := HG.out
        rw [Int.gcd_zero] at g0
        exact ⟨congrArg (fun z => Ending.returned (.int .i64 z)) (by omega), hw⟩
    · have hb : (q != 0) = true := by simp [h0]
      have hb2 : (q == 0) = false := by simp [h0]
      go_wp2
      go_quiet (fail)
      go_wp2
      have hm : (p.tmod q).natAbs < q.natAbs := by rw [Int.natAbs_tmod]; exact Nat.mod_lt _ (by omega)
      go_roundw
      case rel =>
        obtain ⟨g0, n, hw⟩ := HG.out
        exact ⟨q, _, rfl, rfl, hq1, hq2, by omega, by omega, by rw [gcd_step]; exact g0, n + nq, by rw [hw, World.drewN_drewN]⟩
      case measure => simpa [intOf] using hm

set_option maxHeartbeats 1000000 in
theorem gcd_s (a b : Int) (w : World) (ha1 : 0 ≤ a) (ha2 : a ≤ 4000000000000000000) (hb1 : 0 ≤ b) (hb2 : b ≤ 4000000000000000000) :
    Calls Try.prog 46 #[.int .i64 a, .int .i64 b] w fun e w' => e = .returned (.int .i64 (Int.gcd a b)) ∧ w = w' := by
  go_enter Try.func46, Try.ntmps46
  go_wp2
  go_loop [0, 1] (fun x y => ∃ p q : Int, x = .int .i64 p ∧ y = .int .i64 q ∧ 0 ≤ p ∧ p ≤ 4000000000000000000 ∧ 0 ≤ q ∧ q ≤ 4000000000000000000 ∧ Hid (Int.gcd p q = Int.gcd a b))
    (fun _ y => (intOf y).natAbs)
  case atStart => exact ⟨a, b, rfl, rfl, ha1, ha2, hb1, hb2, Lib.hid rfl⟩
  case round =>
    obtain ⟨p, q, rfl, rfl, hp1, hp2, hq1, hq2, HG⟩ := hrel
    clear ha1 ha2 hb1 hb2
    by_cases h0 : q = 0
    · subst h0
      have g0 := HG.out
      rw [Int.gcd_zero] at g0
      have e : p = (Int.gcd a b : Int) := by omega
      have HE := Lib.hid e
      clear e g0
      go_wp2
      go_ret
      exact ⟨congrArg (fun z => Ending.returned (.int .i64 z)) HE.out, rfl⟩
    · have hb : (q != 0) = true := by simp [h0]
      have hb2 : (q == 0) = false := by simp [h0]
      have hq3 : 0 < q := by omega
      have m1 : 0 ≤ p % q := Int.emod_nonneg _ h0
      have m2 : p % q < q := Int.emod_lt_of_pos _ hq3
      have HM := Lib.hid (show p.tmod q = p % q from Int.tmod_eq_emod_of_nonneg hp1)
      go_wp2
      go_round
      case rel => exact ⟨q, _, rfl, rfl, hq1, hq2, by omega, by omega, Lib.hid (by rw [← HM.out, gcd_step]; exact HG.out)⟩
      case measure => simp [intOf]; omega

set_option maxHeartbeats 400000 in
theorem within_i (x m : Int) (w : World) (h1 : 0 ≤ m) (h2 : m ≤ 4000000000000000000) :
    Calls Try.prog 34 #[.int .i64 x, .int .i64 m] w fun e w' => e = .returned (.bool (inB x (-m) m)) ∧ w = w' := by
  by_cases k1 : -m ≤ x
  · by_cases k2 : x ≤ m
    · rw [inB_yes k1 k2]
      go_enter Try.func34, Try.ntmps34
      go_wp2
      go_ret
      exact ⟨rfl, rfl⟩
    · rw [inB_no2 k2]
      go_enter Try.func34, Try.ntmps34
      go_wp2
      go_ret
      exact ⟨rfl, rfl⟩
  · rw [inB_no1 k1]
    go_enter Try.func34, Try.ntmps34
    go_wp2
    go_ret
    exact ⟨rfl, rfl⟩

set_option maxHeartbeats 400000 in
theorem in_s (x lo hi : Int) (w : World) :
    Calls Try.prog 38 #[.int .i64 x, .int .i64 lo, .int .i64 hi] w fun e w' => e = .returned (.bool (inB x lo hi)) ∧ w = w' := by
  by_cases k1 : lo ≤ x
  · by_cases k2 : x ≤ hi
    · rw [inB_yes k1 k2]
      go_enter Try.func38, Try.ntmps38
      go_wp2
      go_ret
      exact ⟨rfl, rfl⟩
    · rw [inB_no2 k2]
      go_enter Try.func38, Try.ntmps38
      go_wp2
      go_ret
      exact ⟨rfl, rfl⟩
  · rw [inB_no1 k1]
    go_enter Try.func38, Try.ntmps38
    go_wp2
    go_ret
    exact ⟨rfl, rfl⟩
theorem in_s' (x lo hi : Int) (w : World) (b : Bool) (h : inB x lo hi = b) :
    Calls Try.prog 38 #[.int .i64 x, .int .i64 lo, .int .i64 hi] w fun e w' => e = .returned (.bool b) ∧ w = w' := by
  subst h; exact in_s x lo hi w

set_option maxHeartbeats 400000 in
theorem abs_s (x : Int) (w : World) (h1 : -4000000000000000000 ≤ x) (h2 : x ≤ 4000000000000000000) :
    Calls Try.prog 50 #[.int .i64 x] w fun e w' => e = .returned (.int .i64 (x.natAbs : Int)) ∧ w = w' := by
  by_cases k : x < 0
  · have e : ((x.natAbs : Nat) : Int) = -x := by omega
    rw [e]
    clear e
    go_enter Try.func50, Try.ntmps50
    go_wp2
    go_ret
    exact ⟨rfl, rfl⟩
  · have e : ((x.natAbs : Nat) : Int) = x := by omega
    rw [e]
    clear e
    go_enter Try.func50, Try.ntmps50
    go_wp2
    go_ret
    exact ⟨rfl, rfl⟩
theorem gcd_s' (a b g : Int) (w : World) (h : (Int.gcd a b : Int) = g) (ha1 : 0 ≤ a) (ha2 : a ≤ 4000000000000000000) (hb1 : 0 ≤ b) (hb2 : b ≤ 4000000000000000000) :
    Calls Try.prog 46 #[.int .i64 a, .int .i64 b] w fun e w' => e = .returned (.int .i64 g) ∧ w = w' := by
  subst h; exact gcd_s a b w ha1 ha2 hb1 hb2
end Go.Proofs.Ythhjnffbafmkpaa.FracGcd

/- Contracts of the two validity tests of fractions: both answer okB; memory grows and nothing else. -/
namespace Go.Proofs.Ythhjnffbafmkpaa.FracValid
open Go.RowKit FracMath FracGcd

/-- The bool x, in new memory. -/
def IsBool (x : Bool) (w : World) (e : Ending) (w' : World) : Prop := e = .returned (.bool x) ∧ Below w.heap.size w w'

set_option maxHeartbeats 1000000 in
theorem valid_i (n d : Int) (w : World) :
    Calls Try.prog 56 #[.agg #[.int .i64 n, .int .i64 d]] w (IsBool (okB n d) w) := by
  by_cases h1 : 1 ≤ d
  · by_cases h2 : d ≤ 1000000
    · by_cases h3 : -1000000000000 ≤ n ∧ n ≤ 1000000000000
      · obtain ⟨h3, h4⟩ := h3
        have EI := Lib.hid (inB_yes h3 h4)
        by_cases h5 : (Int.gcd n d : Int) = 1
        · rw [okB_yes h1 h2 h3 h4 h5]
          have HG := Lib.hid h5
          clear h5
          go_enter Try.func56, Try.ntmps56
          go_wp2_with fail
          refine (within_i _ _ _ (by omega) (by omega)).mono ?_
          rintro e w' ⟨rfl, rfl⟩
          rw [EI.out]
          go_wp2_with fail
          refine (gcd_i n d _ (by omega) (by omega) (by omega) (by omega)).mono ?_
          rintro e w' ⟨rfl, k, rfl⟩
          rw [HG.out]
          go_wp2
          go_ret
          exact ⟨rfl, below_drewN ((Below.refl _ _).alloc (Nat.le_refl _) _) _⟩
        · rw [okB_no (fun h => h5 h.2.2)]
          obtain ⟨g, hg⟩ : ∃ g : Int, (Int.gcd n d : Int) = g := ⟨_, rfl⟩
          rw [hg] at h5
          have hb : (g == 1) = false := by simpa using h5
          have HG := Lib.hid hg
          clear h5 hg
          go_enter Try.func56, Try.ntmps56
          go_wp2_with fail
          refine (within_i _ _ _ (by omega) (by omega)).mono ?_
          rintro e w' ⟨rfl, rfl⟩
          rw [EI.out]
          go_wp2_with fail
          refine (gcd_i n d _ (by omega) (by omega) (by omega) (by omega)).mono ?_
          rintro e w' ⟨rfl, k, rfl⟩
          rw [HG.out]
          go_wp2
          go_ret
          exact ⟨rfl, below_drewN ((Below.refl _ _).alloc (Nat.le_refl _) _) _⟩
      · rw [okB_no (fun h => h3 h.2.1)]
        have EI := Lib.hid (show inB n (-1000000000000) 1000000000000 = false by simp only [inB, decide_eq_false_iff_not]; exact h3)
        clear h3
        go_enter Try.func56, Try.ntmps56
        go_wp2_with fail
        refine (within_i _ _ _ (by omega) (by omega)).mono ?_
        rintro e w' ⟨rfl, rfl⟩
        rw [EI.out]
        go_wp2
        go_ret
        exact ⟨rfl, (Below.refl _ _).alloc (Nat.le_refl _) _⟩
    · rw [okB_no (fun h => h2 h.1.2)]
      go_enter Try.func56, Try.ntmps56
      go_wp2
      go_ret
      exact ⟨rfl, (Below.refl _ _).alloc (Nat.le_refl _) _⟩
  · rw [okB_no (fun h => h1 h.1.1)]
    go_enter Try.func56, Try.ntmps56
    go_wp2
    go_ret
    exact ⟨rfl, (Below.refl _ _).alloc (Nat.le_refl _) _⟩


set_option maxHeartbeats 1000000 in
theorem ok_s (n d : Int) (w : World) :
    Calls Try.prog 39 #[.agg #[.int .i64 n, .int .i64 d]] w (IsBool (okB n d) w) := by
  by_cases h1 : 1 ≤ d ∧ d ≤ 1000000
  · have ED := Lib.hid (inB_yes h1.1 h1.2)
    obtain ⟨h1, h2⟩ := h1
    by_cases h3 : -1000000000000 ≤ n ∧ n ≤ 1000000000000
    · obtain ⟨h3, h4⟩ := h3
      have EI := Lib.hid (inB_yes h3 h4)
      have hE : Int.gcd (n.natAbs : Int) d = Int.gcd n d := by simp [Int.gcd]
      obtain ⟨g, hg⟩ : ∃ g : Int, (Int.gcd n d : Int) = g := ⟨_, rfl⟩
      rw [← hE] at hg
      have HG := Lib.hid hg
      have E : okB n d = decide (g = 1) := by
        by_cases h5 : g = 1
        · rw [okB_yes h1 h2 h3 h4 (by rw [← hE, hg, h5])]; simp [h5]
        · rw [okB_no (fun h => h5 (by rw [← hg, hE]; exact h.2.2))]; simp [h5]
      rw [E]
      clear hE hg E
      have hb : ∃ b, decide (g = 1) = b ∧ (g == 1) = b := ⟨_, rfl, by rw [Bool.eq_iff_iff]; simp⟩
      obtain ⟨b, hb1, hb2⟩ := hb
      rw [hb1]
      clear hb1
      go_enter Try.func39, Try.ntmps39
      go_wp2
      go_quiet ((first
        | (go_at_call 38; with_reducible exact Quiet.left (in_s' d _ _ _ _ ED.out))
        | (go_at_call 38; with_reducible exact Quiet.left (in_s' n _ _ _ _ EI.out))
        | (go_at_call 50; with_reducible exact Quiet.left (abs_s n _ (by omega) (by omega)))
        | (go_at_call 46; with_reducible exact Quiet.left (gcd_s' _ _ g _ HG.out (by omega) (by omega) (by omega) (by omega)))))
      go_wp2
      go_ret
      exact ⟨rfl, below_drewN ((Below.refl _ _).alloc (Nat.le_refl _) _) _⟩
    · rw [okB_no (fun h => h3 h.2.1)]
      have EI := Lib.hid (show inB n (-1000000000000) 1000000000000 = false by simp only [inB, decide_eq_false_iff_not]; exact h3)
      clear h3
      go_enter Try.func39, Try.ntmps39
      go_wp2
      go_quiet ((first
        | (go_at_call 38; with_reducible exact Quiet.left (in_s' d _ _ _ _ ED.out))
        | (go_at_call 38; with_reducible exact Quiet.left (in_s' n _ _ _ _ EI.out))))
      go_wp2
      go_ret
      exact ⟨rfl, below_drewN ((Below.refl _ _).alloc (Nat.le_refl _) _) _⟩
  · rw [okB_no (fun h => h1 h.1)]
    have ED := Lib.hid (show inB d 1 1000000 = false by simp only [inB, decide_eq_false_iff_not]; exact h1)
    clear h1
    go_enter Try.func39, Try.ntmps39
    go_wp2
    go_quiet ((go_at_call 38; with_reducible exact Quiet.left (in_s' d _ _ _ _ ED.out)))
    go_wp2
    go_ret
    exact ⟨rfl, below_drewN ((Below.refl _ _).alloc (Nat.le_refl _) _) _⟩
end Go.Proofs.Ythhjnffbafmkpaa.FracValid

/- Contracts of the two functions that bring a fraction to lowest terms: both answer red, in new memory. -/
namespace Go.Proofs.Ythhjnffbafmkpaa.FracMake
open Go.RowKit FracMath FracGcd FracValid

/-- A fraction and a bool, in new memory. -/
def IsFrac (r : Int × Int × Bool) (w : World) (e : Ending) (w' : World) : Prop :=
  e = .returned (.tuple #[.agg #[.int .i64 r.1, .int .i64 r.2.1], .bool r.2.2]) ∧ Below w.heap.size w w'

set_option maxHeartbeats 1000000 in
theorem reduced_zero (n : Int) (w : World) :
    Calls Try.prog 48 #[.agg #[.int .i64 n, .int .i64 0]] w (IsFrac (0, 0, false) w) := by
  go_enter Try.func48, Try.ntmps48
  go_wp2
  refine bodyPost_ret (v := .tuple #[.agg #[.int .i64 0, .int .i64 0], .bool false]) (by simp [results, Try.results48, go_sem]) rfl ⟨rfl, ?_⟩
  (repeat (first | exact Below.refl _ _ | apply BelowKit.bl_alloc | apply BelowKit.bl_drewN | apply BelowKit.bl_drew | (refine BelowKit.bl_set ?_ _ ?_; rotate_left; (first | omega | (simp; omega) | simp)) | (refine BelowKit.bl_trans ?_ (‹Hid (Below _ _ _)›).out)))

set_option maxHeartbeats 1000000 in
theorem reduced_any (n d : Int) (w : World) (h0 : d ≠ 0) (hn1 : -4000000000000000000 ≤ n) (hn2 : n ≤ 4000000000000000000) (hd1 : -4000000000000000000 ≤ d) (hd2 : d ≤ 4000000000000000000) :
    Calls Try.prog 48 #[.agg #[.int .i64 n, .int .i64 d]] w (IsFrac (red n d) w) := by
  have hg1 := gcd_pos (n := n) h0
  have hg2 := gcd_le (n := n) h0 4000000000000000000 hd1 hd2
  by_cases hs : 0 < d
  · skip
    have en := lowN_pos (n := n) hs
    have ed := lowD_pos' (n := n) hs
    obtain ⟨g, hg⟩ : ∃ g : Int, (Int.gcd n d : Int) = g := ⟨_, rfl⟩
    rw [hg] at hg1 hg2 en ed
    have HG := Lib.hid hg
    clear hg
    have hb : (d == 0) = false := by simpa using h0
    have b1 := tdiv_bd n g 4000000000000000000 hn1 hn2
    have b2 := tdiv_bd d g 4000000000000000000 hd1 hd2
    rw [en] at b1
    rw [ed] at b2
    obtain ⟨N, hN⟩ : ∃ N : Int, lowN n d = N := ⟨_, rfl⟩
    obtain ⟨D, hD⟩ : ∃ D : Int, lowD n d = D := ⟨_, rfl⟩
    have hp := lowD_pos (n := n) h0
    obtain ⟨r1, r2⟩ := red_parts h0 hN hD
    rw [hN] at b1 en
    rw [hD] at b2 ed hp
    clear hN hD
    obtain ⟨b3, b4⟩ := b1
    obtain ⟨b5, b6⟩ := b2
    by_cases c1 : D ≤ 1000000
    · by_cases c2 : -1000000000000 ≤ N
      · by_cases c3 : N ≤ 1000000000000
        · rw [r1 c1 c2 c3]
          clear r1 r2
          go_enter Try.func48, Try.ntmps48
          go_wp2_with fail
          refine (gcd_i n d _ (by omega) (by omega) (by omega) (by omega)).mono ?_
          rintro e w' ⟨rfl, k, rfl⟩
          rw [HG.out]
          go_wp2
          go_region
          go_wp2
          refine bodyPost_ret (v := .tuple #[.agg #[.int .i64 N, .int .i64 D], .bool true]) (by simp [results, Try.results48, go_sem]) rfl ⟨rfl, ?_⟩
          (repeat (first | exact Below.refl _ _ | apply BelowKit.bl_alloc | apply BelowKit.bl_drewN | apply BelowKit.bl_drew | (refine BelowKit.bl_set ?_ _ ?_; rotate_left; (first | omega | (simp; omega) | simp)) | (refine BelowKit.bl_trans ?_ (‹Hid (Below _ _ _)›).out)))
        · rw [r2 (fun k => c3 k.2.2)]
          clear r1 r2
          have c4 : decide (N ≤ 1000000000000) = false := decide_eq_false c3
          go_enter Try.func48, Try.ntmps48
          go_wp2_with fail
          refine (gcd_i n d _ (by omega) (by omega) (by omega) (by omega)).mono ?_
          rintro e w' ⟨rfl, k, rfl⟩
          rw [HG.out]
          go_wp2
          go_region
          go_wp2
          refine bodyPost_ret (v := .tuple #[.agg #[.int .i64 0, .int .i64 0], .bool false]) (by simp [results, Try.results48, go_sem]) rfl ⟨rfl, ?_⟩
          (repeat (first | exact Below.refl _ _ | apply BelowKit.bl_alloc | apply BelowKit.bl_drewN | apply BelowKit.bl_drew | (refine BelowKit.bl_set ?_ _ ?_; rotate_left; (first | omega | (simp; omega) | simp)) | (refine BelowKit.bl_trans ?_ (‹Hid (Below _ _ _)›).out)))
      · rw [r2 (fun k => c2 k.2.1)]
        clear r1 r2
        go_enter Try.func48, Try.ntmps48
        go_wp2_with fail
        refine (gcd_i n d _ (by omega) (by omega) (by omega) (by omega)).mono ?_
        rintro e w' ⟨rfl, k, rfl⟩
        rw [HG.out]
        go_wp2
        go_region
        go_wp2
        refine bodyPost_ret (v := .tuple #[.agg #[.int .i64 0, .int .i64 0], .bool false]) (by simp [results, Try.results48, go_sem]) rfl ⟨rfl, ?_⟩
        (repeat (first | exact Below.refl _ _ | apply BelowKit.bl_alloc | apply BelowKit.bl_drewN | apply BelowKit.bl_drew | (refine BelowKit.bl_set ?_ _ ?_; rotate_left; (first | omega | (simp; omega) | simp)) | (refine BelowKit.bl_trans ?_ (‹Hid (Below _ _ _)›).out)))
    · rw [r2 (fun k => c1 k.1)]
      clear r1 r2
      go_enter Try.func48, Try.ntmps48
      go_wp2_with fail
      refine (gcd_i n d _ (by omega) (by omega) (by omega) (by omega)).mono ?_
      rintro e w' ⟨rfl, k, rfl⟩
      rw [HG.out]
      go_wp2
      go_region
      go_wp2
      refine bodyPost_ret (v := .tuple #[.agg #[.int .i64 0, .int .i64 0], .bool false]) (by simp [results, Try.results48, go_sem]) rfl ⟨rfl, ?_⟩
      (repeat (first | exact Below.refl _ _ | apply BelowKit.bl_alloc | apply BelowKit.bl_drewN | apply BelowKit.bl_drew | (refine BelowKit.bl_set ?_ _ ?_; rotate_left; (first | omega | (simp; omega) | simp)) | (refine BelowKit.bl_trans ?_ (‹Hid (Below _ _ _)›).out)))
  · have hs : d < 0 := by omega
    have en := lowN_neg (n := n) hs
    have ed := lowD_neg (n := n) hs
    obtain ⟨g, hg⟩ : ∃ g : Int, (Int.gcd n d : Int) = g := ⟨_, rfl⟩
    rw [hg] at hg1 hg2 en ed
    have HG := Lib.hid hg
    clear hg
    have hb : (d == 0) = false := by simpa using h0
    have b1 := tdiv_bd n (-g) 4000000000000000000 hn1 hn2
    have b2 := tdiv_bd d (-g) 4000000000000000000 hd1 hd2
    rw [en] at b1
    rw [ed] at b2
    obtain ⟨N, hN⟩ : ∃ N : Int, lowN n d = N := ⟨_, rfl⟩
    obtain ⟨D, hD⟩ : ∃ D : Int, lowD n d = D := ⟨_, rfl⟩
    have hp := lowD_pos (n := n) h0
    obtain ⟨r1, r2⟩ := red_parts h0 hN hD
    rw [hN] at b1 en
    rw [hD] at b2 ed hp
    clear hN hD
    obtain ⟨b3, b4⟩ := b1
    obtain ⟨b5, b6⟩ := b2
    by_cases c1 : D ≤ 1000000
    · by_cases c2 : -1000000000000 ≤ N
      · by_cases c3 : N ≤ 1000000000000
        · rw [r1 c1 c2 c3]
          clear r1 r2
          go_enter Try.func48, Try.ntmps48
          go_wp2_with fail
          refine (gcd_i n d _ (by omega) (by omega) (by omega) (by omega)).mono ?_
          rintro e w' ⟨rfl, k, rfl⟩
          rw [HG.out]
          go_wp2
          go_region
          go_wp2
          refine bodyPost_ret (v := .tuple #[.agg #[.int .i64 N, .int .i64 D], .bool true]) (by simp [results, Try.results48, go_sem]) rfl ⟨rfl, ?_⟩
          (repeat (first | exact Below.refl _ _ | apply BelowKit.bl_alloc | apply BelowKit.bl_drewN | apply BelowKit.bl_drew | (refine BelowKit.bl_set ?_ _ ?_; rotate_left; (first | omega | (simp; omega) | simp)) | (refine BelowKit.bl_trans ?_ (‹Hid (Below _ _ _)›).out)))
        · rw [r2 (fun k => c3 k.2.2)]
          clear r1 r2
          have c4 : decide (N ≤ 1000000000000) = false := decide_eq_false c3
          go_enter Try.func48, Try.ntmps48
          go_wp2_with fail
          refine (gcd_i n d _ (by omega) (by omega) (by omega) (by omega)).mono ?_
          rintro e w' ⟨rfl, k, rfl⟩
          rw [HG.out]
          go_wp2
          go_region
          go_wp2
          refine bodyPost_ret (v := .tuple #[.agg #[.int .i64 0, .int .i64 0], .bool false]) (by simp [results, Try.results48, go_sem]) rfl ⟨rfl, ?_⟩
          (repeat (first | exact Below.refl _ _ | apply BelowKit.bl_alloc | apply BelowKit.bl_drewN | apply BelowKit.bl_drew | (refine BelowKit.bl_set ?_ _ ?_; rotate_left; (first | omega | (simp; omega) | simp)) | (refine BelowKit.bl_trans ?_ (‹Hid (Below _ _ _)›).out)))
      · rw [r2 (fun k => c2 k.2.1)]
        clear r1 r2
        go_enter Try.func48, Try.ntmps48
        go_wp2_with fail
        refine (gcd_i n d _ (by omega) (by omega) (by omega) (by omega)).mono ?_
        rintro e w' ⟨rfl, k, rfl⟩
        rw [HG.out]
        go_wp2
        go_region
        go_wp2
        refine bodyPost_ret (v := .tuple #[.agg #[.int .i64 0, .int .i64 0], .bool false]) (by simp [results, Try.results48, go_sem]) rfl ⟨rfl, ?_⟩
        (repeat (first | exact Below.refl _ _ | apply BelowKit.bl_alloc | apply BelowKit.bl_drewN | apply BelowKit.bl_drew | (refine BelowKit.bl_set ?_ _ ?_; rotate_left; (first | omega | (simp; omega) | simp)) | (refine BelowKit.bl_trans ?_ (‹Hid (Below _ _ _)›).out)))
    · rw [r2 (fun k => c1 k.1)]
      clear r1 r2
      go_enter Try.func48, Try.ntmps48
      go_wp2_with fail
      refine (gcd_i n d _ (by omega) (by omega) (by omega) (by omega)).mono ?_
      rintro e w' ⟨rfl, k, rfl⟩
      rw [HG.out]
      go_wp2
      go_region
      go_wp2
      refine bodyPost_ret (v := .tuple #[.agg #[.int .i64 0, .int .i64 0], .bool false]) (by simp [results, Try.results48, go_sem]) rfl ⟨rfl, ?_⟩
      (repeat (first | exact Below.refl _ _ | apply BelowKit.bl_alloc | apply BelowKit.bl_drewN | apply BelowKit.bl_drew | (refine BelowKit.bl_set ?_ _ ?_; rotate_left; (first | omega | (simp; omega) | simp)) | (refine BelowKit.bl_trans ?_ (‹Hid (Below _ _ _)›).out)))

theorem reduced_i (n d : Int) (w : World) (hn1 : -4000000000000000000 ≤ n) (hn2 : n ≤ 4000000000000000000) (hd1 : -4000000000000000000 ≤ d) (hd2 : d ≤ 4000000000000000000) :
    Calls Try.prog 48 #[.agg #[.int .i64 n, .int .i64 d]] w (IsFrac (red n d) w) := by
  by_cases h0 : d = 0
  · subst h0
    rw [red_zero]
    exact reduced_zero n w
  · exact reduced_any n d w h0 hn1 hn2 hd1 hd2
end Go.Proofs.Ythhjnffbafmkpaa.FracMake

/- Contracts of the program's small methods on fractions: sums, products, negatives, inverses and signs as they come out, in new memory. -/
namespace Go.Proofs.Ythhjnffbafmkpaa.FracOps
open Go.RowKit FracMath FracGcd FracValid

def IsPair (x y : Int) (w : World) (e : Ending) (w' : World) : Prop := e = .returned (.agg #[.int .i64 x, .int .i64 y]) ∧ Below w.heap.size w w'
def IsInt (x : Int) (w : World) (e : Ending) (w' : World) : Prop := e = .returned (.int .i64 x) ∧ Below w.heap.size w w'

set_option maxHeartbeats 1000000 in
theorem plus_i (a b c d x y : Int) (w : World) (hx : IntKind.i64.wrap (a * d + c * b) = x) (h1 : IntKind.i64.wrap (a * d) = a * d) (h2 : IntKind.i64.wrap (c * b) = c * b) (hy : IntKind.i64.wrap (b * d) = y) :
    Calls Try.prog 61 #[.agg #[.int .i64 a, .int .i64 b], .agg #[.int .i64 c, .int .i64 d]] w (IsPair x y w) := by
  go_enter Try.func61, Try.ntmps61
  go_wp2
  refine bodyPost_ret (v := .agg #[.int .i64 x, .int .i64 y]) (by simp [results, Try.results61, go_sem]) rfl ⟨rfl, ?_⟩
  (repeat (first | exact Below.refl _ _ | apply BelowKit.bl_alloc | apply BelowKit.bl_drewN | apply BelowKit.bl_drew | (refine BelowKit.bl_set ?_ _ ?_; rotate_left; (first | omega | (simp; omega) | simp)) | (refine BelowKit.bl_trans ?_ (‹Hid (Below _ _ _)›).out)))

set_option maxHeartbeats 1000000 in
theorem times_i (a b c d x y : Int) (w : World) (hx : IntKind.i64.wrap (a * c) = x) (hy : IntKind.i64.wrap (b * d) = y) :
    Calls Try.prog 54 #[.agg #[.int .i64 a, .int .i64 b], .agg #[.int .i64 c, .int .i64 d]] w (IsPair x y w) := by
  go_enter Try.func54, Try.ntmps54
  go_wp2
  refine bodyPost_ret (v := .agg #[.int .i64 x, .int .i64 y]) (by simp [results, Try.results54, go_sem]) rfl ⟨rfl, ?_⟩
  (repeat (first | exact Below.refl _ _ | apply BelowKit.bl_alloc | apply BelowKit.bl_drewN | apply BelowKit.bl_drew | (refine BelowKit.bl_set ?_ _ ?_; rotate_left; (first | omega | (simp; omega) | simp)) | (refine BelowKit.bl_trans ?_ (‹Hid (Below _ _ _)›).out)))
set_option maxHeartbeats 1000000 in
theorem neg_i (a b : Int) (w : World) (h1 : -4000000000000000000 ≤ a) (h2 : a ≤ 4000000000000000000) :
    Calls Try.prog 58 #[.agg #[.int .i64 a, .int .i64 b]] w (IsPair (-a) b w) := by
  go_enter Try.func58, Try.ntmps58
  go_wp2
  refine bodyPost_ret (v := .agg #[.int .i64 (-a), .int .i64 b]) (by simp [results, Try.results58, go_sem]) rfl ⟨rfl, ?_⟩
  (repeat (first | exact Below.refl _ _ | apply BelowKit.bl_alloc | apply BelowKit.bl_drewN | apply BelowKit.bl_drew | (refine BelowKit.bl_set ?_ _ ?_; rotate_left; (first | omega | (simp; omega) | simp)) | (refine BelowKit.bl_trans ?_ (‹Hid (Below _ _ _)›).out)))
set_option maxHeartbeats 1000000 in
theorem sign_i (a b : Int) (w : World) :
    Calls Try.prog 31 #[.agg #[.int .i64 a, .int .i64 b]] w (IsInt (sgnI a) w) := by
  by_cases h1 : a < 0
  · rw [show sgnI a = -1 by simp [sgnI, h1]]
    go_enter Try.func31, Try.ntmps31
    go_wp2
    go_ret
    exact ⟨rfl, by (repeat (first | exact Below.refl _ _ | apply BelowKit.bl_alloc | apply BelowKit.bl_drewN | apply BelowKit.bl_drew | (refine BelowKit.bl_set ?_ _ ?_; rotate_left; (first | omega | (simp; omega) | simp)) | (refine BelowKit.bl_trans ?_ (‹Hid (Below _ _ _)›).out)))⟩
  · by_cases h2 : 0 < a
    · rw [show sgnI a = 1 by simp [sgnI, h1, h2]]
      go_enter Try.func31, Try.ntmps31
      go_wp2
      go_ret
      exact ⟨rfl, by (repeat (first | exact Below.refl _ _ | apply BelowKit.bl_alloc | apply BelowKit.bl_drewN | apply BelowKit.bl_drew | (refine BelowKit.bl_set ?_ _ ?_; rotate_left; (first | omega | (simp; omega) | simp)) | (refine BelowKit.bl_trans ?_ (‹Hid (Below _ _ _)›).out)))⟩
    · rw [show sgnI a = 0 by simp [sgnI, h1, h2]]
      go_enter Try.func31, Try.ntmps31
      go_wp2
      go_ret
      exact ⟨rfl, by (repeat (first | exact Below.refl _ _ | apply BelowKit.bl_alloc | apply BelowKit.bl_drewN | apply BelowKit.bl_drew | (refine BelowKit.bl_set ?_ _ ?_; rotate_left; (first | omega | (simp; omega) | simp)) | (refine BelowKit.bl_trans ?_ (‹Hid (Below _ _ _)›).out)))⟩
set_option maxHeartbeats 1000000 in
theorem fac_i (a b : Int) (w : World) :
    Calls Try.prog 53 #[.agg #[.int .i64 a, .int .i64 b]] w (IsBool (facB a b) w) := by
  cases h1 : okB a b with
  | false =>
    rw [show facB a b = false by simp [facB, h1]]
    have H1 := Lib.hid h1
    clear h1
    go_enter Try.func53, Try.ntmps53
    go_wp2_with fail
    refine (valid_i a b _).mono ?_
    rintro e w1 ⟨rfl, hb1⟩
    rw [H1.out]
    obtain ⟨hc, hf⟩ := BelowKit.bcell hb1
    have HB1 := Lib.hid hb1
    clear hb1
    go_wp2
    go_ret
    exact ⟨rfl, by (repeat (first | exact Below.refl _ _ | apply BelowKit.bl_alloc | apply BelowKit.bl_drewN | apply BelowKit.bl_drew | (refine BelowKit.bl_set ?_ _ ?_; rotate_left; (first | omega | (simp; omega) | simp)) | (refine BelowKit.bl_trans ?_ (‹Hid (Below _ _ _)›).out)))⟩
  | true =>
    obtain ⟨x, hx⟩ : ∃ x, inB a (-1000000) 1000000 = x := ⟨_, rfl⟩
    rw [show facB a b = x by simp [facB, h1, hx]]
    have H1 := Lib.hid h1
    have HX := Lib.hid hx
    clear h1 hx
    go_enter Try.func53, Try.ntmps53
    go_wp2_with fail
    refine (valid_i a b _).mono ?_
    rintro e w1 ⟨rfl, hb1⟩
    rw [H1.out]
    obtain ⟨hc, hf⟩ := BelowKit.bcell hb1
    have HB1 := Lib.hid hb1
    clear hb1
    go_wp2_with fail
    refine (within_i _ _ _ (by omega) (by omega)).mono ?_
    rintro e w' ⟨rfl, rfl⟩
    rw [HX.out]
    go_wp2
    go_ret
    exact ⟨rfl, by (repeat (first | exact Below.refl _ _ | apply BelowKit.bl_alloc | apply BelowKit.bl_drewN | apply BelowKit.bl_drew | (refine BelowKit.bl_set ?_ _ ?_; rotate_left; (first | omega | (simp; omega) | simp)) | (refine BelowKit.bl_trans ?_ (‹Hid (Below _ _ _)›).out)))⟩
end Go.Proofs.Ythhjnffbafmkpaa.FracOps

/- The contract of the model's function that brings a fraction to lowest terms: it answers red, in new memory. -/
namespace Go.Proofs.Ythhjnffbafmkpaa.FracMakeS
open Go.RowKit FracMath FracGcd FracValid FracMake

set_option maxHeartbeats 1000000 in
theorem make_pos (n d : Int) (w : World) (hs : 0 < d) (hn1 : -4000000000000000000 ≤ n) (hn2 : n ≤ 4000000000000000000) (hd2 : d ≤ 4000000000000000000) :
    Calls Try.prog 47 #[.int .i64 n, .int .i64 d] w (IsFrac (red n d) w) := by
  have h0 : d ≠ 0 := by omega
  have hg1 := gcd_pos (n := n) h0
  have hg2 := gcd_le (n := n) h0 4000000000000000000 (by omega) hd2
  have en := lowN_pos (n := n) hs
  have ed := lowD_pos' (n := n) hs
  have b1 := tdiv_bd n (Int.gcd n d : Int) 4000000000000000000 hn1 hn2
  have b2 := tdiv_bd d (Int.gcd n d : Int) 4000000000000000000 (by omega) hd2
  have hE : Int.gcd (n.natAbs : Int) d = Int.gcd n d := by simp [Int.gcd]
  rw [en] at b1
  rw [ed] at b2
  obtain ⟨g, hg⟩ : ∃ g : Int, (Int.gcd n d : Int) = g := ⟨_, rfl⟩
  rw [hg] at hg1 hg2 en ed
  rw [← hE] at hg
  have HG := Lib.hid hg
  have hok := fit_ok (n := n) h0
  have hp := lowD_pos (n := n) h0
  have hy := red_yes (n := n) h0
  have hno := red_no (n := n) (d := d)
  rw [← hok] at hy hno
  obtain ⟨N, hN⟩ : ∃ N : Int, lowN n d = N := ⟨_, rfl⟩
  obtain ⟨D, hD⟩ : ∃ D : Int, lowD n d = D := ⟨_, rfl⟩
  rw [hN] at b1 en hok hy hno
  rw [hD] at b2 ed hp hok hy hno
  obtain ⟨b3, b4⟩ := b1
  obtain ⟨b5, b6⟩ := b2
  clear hE hg hok hN hD h0
  cases hb : okB N D with
  | true =>
    rw [hy hb]
    have HB := Lib.hid hb
    clear hy hno hb
    go_enter Try.func47, Try.ntmps47
    go_wp2_with fail
    refine (abs_s n _ (by omega) (by omega)).mono ?_
    rintro e w' ⟨rfl, rfl⟩
    go_wp2_with fail
    refine (gcd_s _ _ _ (by omega) (by omega) (by omega) (by omega)).mono ?_
    rintro e w' ⟨rfl, rfl⟩
    rw [HG.out]
    go_wp2_with fail
    go_region
    go_wp2_with fail
    refine (ok_s N D _).mono ?_
    rintro e w1 ⟨rfl, hb1⟩
    rw [HB.out]
    obtain ⟨hc, hf⟩ := BelowKit.bcell hb1
    have HB1 := Lib.hid hb1
    clear hb1
    have q0 : w1.cell? ⟨w.heap.size, 0, none⟩ = some (.int .i64 0) := by rw [hc _ _ (by simp; omega)]; simp [go_sem]
    have q1 : w1.cell? ⟨w.heap.size, 1, none⟩ = some (.int .i64 0) := by rw [hc _ _ (by simp; omega)]; simp [go_sem]
    go_wp2
    refine bodyPost_ret (v := .tuple #[.agg #[.int .i64 N, .int .i64 D], .bool true]) (by simp [results, Try.results47, q0, q1, go_sem]) rfl ⟨rfl, ?_⟩
    (repeat (first | exact Below.refl _ _ | apply BelowKit.bl_alloc | apply BelowKit.bl_drewN | apply BelowKit.bl_drew | (refine BelowKit.bl_set ?_ _ ?_; rotate_left; (first | omega | (simp; omega) | simp)) | (refine BelowKit.bl_trans ?_ (‹Hid (Below _ _ _)›).out)))
  | false =>
    rw [hno hb]
    have HB := Lib.hid hb
    clear hy hno hb
    go_enter Try.func47, Try.ntmps47
    go_wp2_with fail
    refine (abs_s n _ (by omega) (by omega)).mono ?_
    rintro e w' ⟨rfl, rfl⟩
    go_wp2_with fail
    refine (gcd_s _ _ _ (by omega) (by omega) (by omega) (by omega)).mono ?_
    rintro e w' ⟨rfl, rfl⟩
    rw [HG.out]
    go_wp2_with fail
    go_region
    go_wp2_with fail
    refine (ok_s N D _).mono ?_
    rintro e w1 ⟨rfl, hb1⟩
    rw [HB.out]
    obtain ⟨hc, hf⟩ := BelowKit.bcell hb1
    have HB1 := Lib.hid hb1
    clear hb1
    have q0 : w1.cell? ⟨w.heap.size, 0, none⟩ = some (.int .i64 0) := by rw [hc _ _ (by simp; omega)]; simp [go_sem]
    have q1 : w1.cell? ⟨w.heap.size, 1, none⟩ = some (.int .i64 0) := by rw [hc _ _ (by simp; omega)]; simp [go_sem]
    go_wp2
    refine bodyPost_ret (v := .tuple #[.agg #[.int .i64 0, .int .i64 0], .bool false]) (by simp [results, Try.results47, q0, q1, go_sem]) rfl ⟨rfl, ?_⟩
    (repeat (first | exact Below.refl _ _ | apply BelowKit.bl_alloc | apply BelowKit.bl_drewN | apply BelowKit.bl_drew | (refine BelowKit.bl_set ?_ _ ?_; rotate_left; (first | omega | (simp; omega) | simp)) | (refine BelowKit.bl_trans ?_ (‹Hid (Below _ _ _)›).out)))

set_option maxHeartbeats 1000000 in
theorem make_neg (n d : Int) (w : World) (hs : 0 < d) (hn1 : -4000000000000000000 ≤ n) (hn2 : n ≤ 4000000000000000000) (hd2 : d ≤ 4000000000000000000) :
    Calls Try.prog 47 #[.int .i64 (-n), .int .i64 (-d)] w (IsFrac (red n d) w) := by
  have h0 : d ≠ 0 := by omega
  have hg1 := gcd_pos (n := n) h0
  have hg2 := gcd_le (n := n) h0 4000000000000000000 (by omega) hd2
  have en := lowN_pos (n := n) hs
  have ed := lowD_pos' (n := n) hs
  have b1 := tdiv_bd n (Int.gcd n d : Int) 4000000000000000000 hn1 hn2
  have b2 := tdiv_bd d (Int.gcd n d : Int) 4000000000000000000 (by omega) hd2
  have hE : Int.gcd (n.natAbs : Int) d = Int.gcd n d := by simp [Int.gcd]
  rw [en] at b1
  rw [ed] at b2
  obtain ⟨g, hg⟩ : ∃ g : Int, (Int.gcd n d : Int) = g := ⟨_, rfl⟩
  rw [hg] at hg1 hg2 en ed
  rw [← hE] at hg
  have HG := Lib.hid hg
  have hok := fit_ok (n := n) h0
  have hp := lowD_pos (n := n) h0
  have hy := red_yes (n := n) h0
  have hno := red_no (n := n) (d := d)
  rw [← hok] at hy hno
  obtain ⟨N, hN⟩ : ∃ N : Int, lowN n d = N := ⟨_, rfl⟩
  obtain ⟨D, hD⟩ : ∃ D : Int, lowD n d = D := ⟨_, rfl⟩
  rw [hN] at b1 en hok hy hno
  rw [hD] at b2 ed hp hok hy hno
  obtain ⟨b3, b4⟩ := b1
  obtain ⟨b5, b6⟩ := b2
  clear hE hg hok hN hD h0
  cases hb : okB N D with
  | true =>
    rw [hy hb]
    have HB := Lib.hid hb
    clear hy hno hb
    go_enter Try.func47, Try.ntmps47
    go_wp2_with fail
    refine (abs_s n _ (by omega) (by omega)).mono ?_
    rintro e w' ⟨rfl, rfl⟩
    go_wp2_with fail
    refine (gcd_s _ _ _ (by omega) (by omega) (by omega) (by omega)).mono ?_
    rintro e w' ⟨rfl, rfl⟩
    rw [HG.out]
    go_wp2_with fail
    go_region
    go_wp2_with fail
    refine (ok_s N D _).mono ?_
    rintro e w1 ⟨rfl, hb1⟩
    rw [HB.out]
    obtain ⟨hc, hf⟩ := BelowKit.bcell hb1
    have HB1 := Lib.hid hb1
    clear hb1
    have q0 : w1.cell? ⟨w.heap.size, 0, none⟩ = some (.int .i64 0) := by rw [hc _ _ (by simp; omega)]; simp [go_sem]
    have q1 : w1.cell? ⟨w.heap.size, 1, none⟩ = some (.int .i64 0) := by rw [hc _ _ (by simp; omega)]; simp [go_sem]
    go_wp2
    refine bodyPost_ret (v := .tuple #[.agg #[.int .i64 N, .int .i64 D], .bool true]) (by simp [results, Try.results47, q0, q1, go_sem]) rfl ⟨rfl, ?_⟩
    (repeat (first | exact Below.refl _ _ | apply BelowKit.bl_alloc | apply BelowKit.bl_drewN | apply BelowKit.bl_drew | (refine BelowKit.bl_set ?_ _ ?_; rotate_left; (first | omega | (simp; omega) | simp)) | (refine BelowKit.bl_trans ?_ (‹Hid (Below _ _ _)›).out)))
  | false =>
    rw [hno hb]
    have HB := Lib.hid hb
    clear hy hno hb
    go_enter Try.func47, Try.ntmps47
    go_wp2_with fail
    refine (abs_s n _ (by omega) (by omega)).mono ?_
    rintro e w' ⟨rfl, rfl⟩
    go_wp2_with fail
    refine (gcd_s _ _ _ (by omega) (by omega) (by omega) (by omega)).mono ?_
    rintro e w' ⟨rfl, rfl⟩
    rw [HG.out]
    go_wp2_with fail
    go_region
    go_wp2_with fail
    refine (ok_s N D _).mono ?_
    rintro e w1 ⟨rfl, hb1⟩
    rw [HB.out]
    obtain ⟨hc, hf⟩ := BelowKit.bcell hb1
    have HB1 := Lib.hid hb1
    clear hb1
    have q0 : w1.cell? ⟨w.heap.size, 0, none⟩ = some (.int .i64 0) := by rw [hc _ _ (by simp; omega)]; simp [go_sem]
    have q1 : w1.cell? ⟨w.heap.size, 1, none⟩ = some (.int .i64 0) := by rw [hc _ _ (by simp; omega)]; simp [go_sem]
    go_wp2
    refine bodyPost_ret (v := .tuple #[.agg #[.int .i64 0, .int .i64 0], .bool false]) (by simp [results, Try.results47, q0, q1, go_sem]) rfl ⟨rfl, ?_⟩
    (repeat (first | exact Below.refl _ _ | apply BelowKit.bl_alloc | apply BelowKit.bl_drewN | apply BelowKit.bl_drew | (refine BelowKit.bl_set ?_ _ ?_; rotate_left; (first | omega | (simp; omega) | simp)) | (refine BelowKit.bl_trans ?_ (‹Hid (Below _ _ _)›).out)))

theorem make_s (n d : Int) (w : World) (h0 : d ≠ 0) (hn1 : -4000000000000000000 ≤ n) (hn2 : n ≤ 4000000000000000000) (hd1 : -4000000000000000000 ≤ d) (hd2 : d ≤ 4000000000000000000) :
    Calls Try.prog 47 #[.int .i64 n, .int .i64 d] w (IsFrac (red n d) w) := by
  by_cases hs : 0 < d
  · exact make_pos n d w hs hn1 hn2 hd2
  · have h := make_neg (-n) (-d) w (by omega) (by omega) (by omega) (by omega)
    rw [Int.neg_neg, Int.neg_neg, red_neg] at h
    exact h
end Go.Proofs.Ythhjnffbafmkpaa.FracMakeS

/- Contracts of the model's operations on fractions: the same numbers as the plain functions of FracMath, in new memory. -/
namespace Go.Proofs.Ythhjnffbafmkpaa.FracS
open Go.RowKit FracMath FracGcd FracValid FracMake FracMakeS FracOps

theorem wr {x : Int} (h1 : -4000000000000000000 ≤ x) (h2 : x ≤ 4000000000000000000) : IntKind.i64.wrap x = x := IntWalk.i64_in _ (by omega)

set_option maxHeartbeats 1000000 in
theorem new_s (n d : Int) (w : World) :
    Calls Try.prog 40 #[.int .i64 n, .int .i64 d] w (IsFrac (newR n d) w) := by
  by_cases h0 : d = 0
  · subst h0
    have hr : newR n 0 = (0, 0, false) := by unfold newR; rw [red_zero]; split <;> rfl
    rw [hr]
    clear hr
    go_enter Try.func40, Try.ntmps40
    go_wp2
    refine bodyPost_ret (v := .tuple #[.agg #[.int .i64 0, .int .i64 0], .bool false]) (by simp [results, Try.results40, go_sem]) rfl ⟨rfl, ?_⟩
    (repeat (first | exact Below.refl _ _ | apply BelowKit.bl_alloc | apply BelowKit.bl_drewN | apply BelowKit.bl_drew | (refine BelowKit.bl_set ?_ _ ?_; rotate_left; (first | omega | (simp; omega) | simp)) | (refine BelowKit.bl_trans ?_ (‹Hid (Below _ _ _)›).out)))
  · have hb : (d == 0) = false := by simpa using h0
    by_cases h1 : -1000000000000 ≤ n ∧ n ≤ 1000000000000
    · have EN := Lib.hid (inB_yes h1.1 h1.2)
      by_cases h2 : -1000000000000 ≤ d ∧ d ≤ 1000000000000
      · have ED := Lib.hid (inB_yes h2.1 h2.2)
        rw [show newR n d = red n d by simp [newR, h1, h2]]
        obtain ⟨h1, h3⟩ := h1
        obtain ⟨h2, h4⟩ := h2
        obtain ⟨⟨x, y, z⟩, hr⟩ : ∃ r, red n d = r := ⟨_, rfl⟩
        rw [hr]
        have HR := Lib.hid hr
        clear hr
        go_enter Try.func40, Try.ntmps40
        go_wp2_with fail
        refine (in_s _ _ _ _).mono ?_
        rintro e w' ⟨rfl, rfl⟩
        rw [EN.out]
        go_wp2_with fail
        refine (in_s _ _ _ _).mono ?_
        rintro e w' ⟨rfl, rfl⟩
        rw [ED.out]
        go_wp2_with fail
        refine (make_s n d _ h0 (by omega) (by omega) (by omega) (by omega)).mono ?_
        rintro e w1 ⟨rfl, hb1⟩
        rw [HR.out]
        obtain ⟨hc1, hf1⟩ := BelowKit.bcell hb1
        have hz1 := hb1.size
        try simp at hz1
        have HB1 := Lib.hid hb1
        clear hb1
        have q0 : w1.cell? ⟨w.heap.size, 0, none⟩ = some (.int .i64 0) := by rw [hc1 _ _ (by first | omega | (simp; done) | (simp; omega))]; simp [go_sem]
        have q1 : w1.cell? ⟨w.heap.size, 1, none⟩ = some (.int .i64 0) := by rw [hc1 _ _ (by first | omega | (simp; done) | (simp; omega))]; simp [go_sem]
        go_wp2
        refine bodyPost_ret (v := .tuple #[.agg #[.int .i64 x, .int .i64 y], .bool z]) (by simp [results, Try.results40, q0, q1, go_sem]) rfl ⟨rfl, ?_⟩
        (repeat (first | exact Below.refl _ _ | apply BelowKit.bl_alloc | apply BelowKit.bl_drewN | apply BelowKit.bl_drew | (refine BelowKit.bl_set ?_ _ ?_; rotate_left; (first | omega | (simp; omega) | simp)) | (refine BelowKit.bl_trans ?_ (‹Hid (Below _ _ _)›).out)))
      · have ED := Lib.hid (show inB d (-1000000000000) 1000000000000 = false by simp only [inB, decide_eq_false_iff_not]; exact h2)
        rw [show newR n d = (0, 0, false) by simp only [newR, h2, and_false, if_false]]
        clear h2
        go_enter Try.func40, Try.ntmps40
        go_wp2_with fail
        refine (in_s _ _ _ _).mono ?_
        rintro e w' ⟨rfl, rfl⟩
        rw [EN.out]
        go_wp2_with fail
        refine (in_s _ _ _ _).mono ?_
        rintro e w' ⟨rfl, rfl⟩
        rw [ED.out]
        go_wp2
        refine bodyPost_ret (v := .tuple #[.agg #[.int .i64 0, .int .i64 0], .bool false]) (by simp [results, Try.results40, go_sem]) rfl ⟨rfl, ?_⟩
        (repeat (first | exact Below.refl _ _ | apply BelowKit.bl_alloc | apply BelowKit.bl_drewN | apply BelowKit.bl_drew | (refine BelowKit.bl_set ?_ _ ?_; rotate_left; (first | omega | (simp; omega) | simp)) | (refine BelowKit.bl_trans ?_ (‹Hid (Below _ _ _)›).out)))
    · have EN := Lib.hid (show inB n (-1000000000000) 1000000000000 = false by simp only [inB, decide_eq_false_iff_not]; exact h1)
      rw [show newR n d = (0, 0, false) by simp only [newR, h1, false_and, if_false]]
      clear h1
      go_enter Try.func40, Try.ntmps40
      go_wp2_with fail
      refine (in_s _ _ _ _).mono ?_
      rintro e w' ⟨rfl, rfl⟩
      rw [EN.out]
      go_wp2
      refine bodyPost_ret (v := .tuple #[.agg #[.int .i64 0, .int .i64 0], .bool false]) (by simp [results, Try.results40, go_sem]) rfl ⟨rfl, ?_⟩
      (repeat (first | exact Below.refl _ _ | apply BelowKit.bl_alloc | apply BelowKit.bl_drewN | apply BelowKit.bl_drew | (refine BelowKit.bl_set ?_ _ ?_; rotate_left; (first | omega | (simp; omega) | simp)) | (refine BelowKit.bl_trans ?_ (‹Hid (Below _ _ _)›).out)))

def sumG (s a b c d : Int) : Int × Int × Bool := if okB a b = true ∧ okB c d = true then red (a * d + s * c * b) (b * d) else (0, 0, false)
theorem sumG_one (a b c d : Int) : sumG 1 a b c d = sumR a b c d := by unfold sumG sumR; rw [Int.one_mul]
theorem sumG_neg (a b c d : Int) : sumG (-1) a b c d = subR a b c d := by unfold sumG subR; rw [Int.neg_one_mul]

set_option maxHeartbeats 2000000 in
theorem sum_s (s a b c d : Int) (w : World) (hs1 : -1 ≤ s) (hs2 : s ≤ 1) :
    Calls Try.prog 33 #[.agg #[.int .i64 a, .int .i64 b], .agg #[.int .i64 c, .int .i64 d], .int .i64 s] w (IsFrac (sumG s a b c d) w) := by
  cases h1 : okB a b with
  | false =>
    rw [show sumG s a b c d = (0, 0, false) by simp [sumG, h1]]
    have H1 := Lib.hid h1
    clear h1
    go_enter Try.func33, Try.ntmps33
    go_wp2_with fail
    refine (ok_s a b _).mono ?_
    rintro e w1 ⟨rfl, hb1⟩
    rw [H1.out]
    obtain ⟨hc1, hf1⟩ := BelowKit.bcell hb1
    have hz1 := hb1.size
    try simp at hz1
    have HB1 := Lib.hid hb1
    clear hb1
    have q0 : w1.cell? ⟨w.heap.size + 1 + 1, 0, none⟩ = some (.int .i64 0) := by rw [hc1 _ _ (by first | omega | (simp; done) | (simp; omega))]; simp [go_sem]
    have q1 : w1.cell? ⟨w.heap.size + 1 + 1, 1, none⟩ = some (.int .i64 0) := by rw [hc1 _ _ (by first | omega | (simp; done) | (simp; omega))]; simp [go_sem]
    go_wp2
    refine bodyPost_ret (v := .tuple #[.agg #[.int .i64 0, .int .i64 0], .bool false]) (by simp [results, Try.results33, q0, q1, go_sem]) rfl ⟨rfl, ?_⟩
    (repeat (first | exact Below.refl _ _ | apply BelowKit.bl_alloc | apply BelowKit.bl_drewN | apply BelowKit.bl_drew | (refine BelowKit.bl_set ?_ _ ?_; rotate_left; (first | omega | (simp; omega) | simp)) | (refine BelowKit.bl_trans ?_ (‹Hid (Below _ _ _)›).out)))
  | true =>
    cases h2 : okB c d with
    | false =>
      rw [show sumG s a b c d = (0, 0, false) by simp [sumG, h2]]
      have H1 := Lib.hid h1
      have H2 := Lib.hid h2
      clear h1 h2
      go_enter Try.func33, Try.ntmps33
      go_wp2_with fail
      refine (ok_s a b _).mono ?_
      rintro e w1 ⟨rfl, hb1⟩
      rw [H1.out]
      obtain ⟨hc1, hf1⟩ := BelowKit.bcell hb1
      have hz1 := hb1.size
      try simp at hz1
      have HB1 := Lib.hid hb1
      clear hb1
      go_wp2_with fail
      refine (ok_s c d _).mono ?_
      rintro e w2 ⟨rfl, hb2⟩
      rw [H2.out]
      replace hb2 := BelowKit.bl_trans HB1.out hb2
      clear hc1 hf1 hz1 HB1
      obtain ⟨hc2, hf2⟩ := BelowKit.bcell hb2
      have hz2 := hb2.size
      try simp at hz2
      have HB2 := Lib.hid hb2
      clear hb2
      have q0 : w2.cell? ⟨w.heap.size + 1 + 1, 0, none⟩ = some (.int .i64 0) := by rw [hc2 _ _ (by first | omega | (simp; done) | (simp; omega))]; simp [go_sem]
      have q1 : w2.cell? ⟨w.heap.size + 1 + 1, 1, none⟩ = some (.int .i64 0) := by rw [hc2 _ _ (by first | omega | (simp; done) | (simp; omega))]; simp [go_sem]
      go_wp2
      refine bodyPost_ret (v := .tuple #[.agg #[.int .i64 0, .int .i64 0], .bool false]) (by simp [results, Try.results33, q0, q1, go_sem]) rfl ⟨rfl, ?_⟩
      (repeat (first | exact Below.refl _ _ | apply BelowKit.bl_alloc | apply BelowKit.bl_drewN | apply BelowKit.bl_drew | (refine BelowKit.bl_set ?_ _ ?_; rotate_left; (first | omega | (simp; omega) | simp)) | (refine BelowKit.bl_trans ?_ (‹Hid (Below _ _ _)›).out)))
    | true =>
      obtain ⟨k1, k2, k3, k4⟩ := ok_bd h1
      obtain ⟨l1, l2, l3, l4⟩ := ok_bd h2
      have hg1 := gcd_pos (n := b) (d := d) (by omega)
      have hg2 := gcd_le (n := b) (d := d) (by omega) 1000000 (by omega) (by omega)
      have hq := sum_spec (a := a) (c := s * c) (b := b) (d := d) (by omega) (by omega)
      have tb := tdiv_bd b (Int.gcd b d : Int) 1000000 (by omega) (by omega)
      have td := tdiv_bd d (Int.gcd b d : Int) 1000000 (by omega) (by omega)
      have eb := tdiv_exact (Int.gcd_dvd_left b d)
      have ed := tdiv_exact (Int.gcd_dvd_right b d)
      have pb := Int.ediv_nonneg (a := b) (b := (Int.gcd b d : Int)) (by omega) (by omega)
      have pd := Int.ediv_nonneg (a := d) (b := (Int.gcd b d : Int)) (by omega) (by omega)
      have hp : 0 < b / (Int.gcd b d : Int) * d := by
        have : 1 ≤ b / (Int.gcd b d : Int) := Int.le_ediv_of_mul_le hg1 (by have := Int.le_of_dvd (by omega) (Int.gcd_dvd_left b d); omega)
        exact Int.mul_pos (by omega) (by omega)
      rw [eb] at tb
      rw [ed] at td
      obtain ⟨g, hg⟩ : ∃ g : Int, (Int.gcd b d : Int) = g := ⟨_, rfl⟩
      rw [hg] at hg1 hg2 hq tb td eb ed pb pd hp
      obtain ⟨P, hP⟩ : ∃ P : Int, d / g = P := ⟨_, rfl⟩
      obtain ⟨Q, hQ⟩ : ∃ Q : Int, b / g = Q := ⟨_, rfl⟩
      rw [hP] at hq ed td pd
      rw [hQ] at hq eb tb pb hp
      have HG := Lib.hid hg
      obtain ⟨b1, b2⟩ := tb
      obtain ⟨b3, b4⟩ := td
      have m1 := mul_bd k3 k4 pd b4 (by omega)
      have m0 := mul_bd' (x := s) (y := c) (A := 1) (by omega) (by omega) l3 l4 (by omega)
      obtain ⟨m01, m02⟩ := m0
      have m2 := mul_bd (x := s * c) (y := Q) (A := 1000000000000) (by omega) (by omega) pb b2 (by omega)
      have m3 := mul_bd (x := Q) (y := d) (A := 1000000) (by omega) b2 (by omega : 0 ≤ d) l2 (by omega)
      have W1 : IntKind.i64.wrap (a * P) = a * P := wr (by omega) (by omega)
      have W2 : IntKind.i64.wrap (s * c) = s * c := wr (by omega) (by omega)
      have W3 : IntKind.i64.wrap (s * c * Q) = s * c * Q := wr (by omega) (by omega)
      have W4 : IntKind.i64.wrap (a * P + s * c * Q) = a * P + s * c * Q := wr (by omega) (by omega)
      have W5 : IntKind.i64.wrap (Q * d) = Q * d := wr (by omega) (by omega)
      have W6 : IntKind.i64.wrap Q = Q := wr (by omega) (by omega)
      have W7 : IntKind.i64.wrap P = P := wr (by omega) (by omega)
      obtain ⟨⟨x, y, z⟩, hr⟩ : ∃ r, red (a * P + s * c * Q) (Q * d) = r := ⟨_, rfl⟩
      rw [show sumG s a b c d = (x, y, z) by rw [← hr, hq]; simp [sumG, h1, h2]]
      have HR := Lib.hid hr
      have H1 := Lib.hid h1
      have H2 := Lib.hid h2
      have hgb : (g == 0) = false := by rw [beq_eq_false_iff_ne]; omega
      have hg0 : ¬ g = 0 := by omega
      have HM := Lib.hid (show (Q * d ≠ 0) ∧ (-4000000000000000000 ≤ a * P + s * c * Q ∧ a * P + s * c * Q ≤ 4000000000000000000) ∧ (-4000000000000000000 ≤ Q * d ∧ Q * d ≤ 4000000000000000000) by omega)
      clear h1 h2 hr hq hg m1 m2 m3 hp
      go_enter Try.func33, Try.ntmps33
      go_wp2_with fail
      refine (ok_s a b _).mono ?_
      rintro e w1 ⟨rfl, hb1⟩
      rw [H1.out]
      obtain ⟨hc1, hf1⟩ := BelowKit.bcell hb1
      have hz1 := hb1.size
      try simp at hz1
      have HB1 := Lib.hid hb1
      clear hb1
      go_wp2_with fail
      refine (ok_s c d _).mono ?_
      rintro e w2 ⟨rfl, hb2⟩
      rw [H2.out]
      replace hb2 := BelowKit.bl_trans HB1.out hb2
      clear hc1 hf1 hz1 HB1
      obtain ⟨hc2, hf2⟩ := BelowKit.bcell hb2
      have hz2 := hb2.size
      try simp at hz2
      have HB2 := Lib.hid hb2
      clear hb2
      go_wp2_with fail
      refine (gcd_s _ _ _ (by omega) (by omega) (by omega) (by omega)).mono ?_
      rintro e w' ⟨rfl, rfl⟩
      rw [HG.out]
      go_wp2_with fail
      have fa : w2.cell? ⟨w.heap.size, 0, none⟩ = some (.int .i64 a) := by rw [hc2 _ _ (by first | omega | (simp; done) | (simp; omega))]; simp [go_sem]
      have fb : w2.cell? ⟨w.heap.size, 1, none⟩ = some (.int .i64 b) := by rw [hc2 _ _ (by first | omega | (simp; done) | (simp; omega))]; simp [go_sem]
      have fc : w2.cell? ⟨w.heap.size + 1, 0, none⟩ = some (.int .i64 c) := by rw [hc2 _ _ (by first | omega | (simp; done) | (simp; omega))]; simp [go_sem]
      have fd : w2.cell? ⟨w.heap.size + 1, 1, none⟩ = some (.int .i64 d) := by rw [hc2 _ _ (by first | omega | (simp; done) | (simp; omega))]; simp [go_sem]
      go_region_held3 (fun W => W.cell? ⟨w.heap.size, 0, none⟩ = some (.int .i64 a) ∧ W.cell? ⟨w.heap.size, 1, none⟩ = some (.int .i64 b) ∧ W.cell? ⟨w.heap.size + 1, 0, none⟩ = some (.int .i64 c) ∧ W.cell? ⟨w.heap.size + 1, 1, none⟩ = some (.int .i64 d))
        (first | exact ⟨fa, fb, fc, fd⟩ | exact ⟨ga, gb, gc, gd⟩ | (refine ⟨?_, ?_, ?_, ?_⟩ <;> (repeat (rw [World.cell?_setCell_far _ _ _ _ (by first | (simp; done) | (simp; omega))])) <;> first | exact ga | exact gb | exact gc | exact gd))
        ((first
          | (go_at_call 47; (with_reducible refine (make_s _ _ _ HM.out.1 HM.out.2.1.1 HM.out.2.1.2 HM.out.2.2.1 HM.out.2.2.2).mono ?_); rintro e w3 ⟨rfl, hb3⟩; rw [HR.out]; replace hb3 := BelowKit.bl_trans (BelowKit.bl_drew HB2.out) hb3; clear hc2 hf2 hz2 HB2; obtain ⟨hc3, hf3⟩ := BelowKit.bcell hb3; have hz3 := hb3.size; simp at hz3; have HB3 := Lib.hid hb3; clear hb3; have ga : w3.cell? ⟨w.heap.size, 0, none⟩ = some (.int .i64 a) := (by rw [hc3 _ _ (by first | omega | (simp; done) | (simp; omega))]; simp [go_sem]); have gb : w3.cell? ⟨w.heap.size, 1, none⟩ = some (.int .i64 b) := (by rw [hc3 _ _ (by first | omega | (simp; done) | (simp; omega))]; simp [go_sem]); have gc : w3.cell? ⟨w.heap.size + 1, 0, none⟩ = some (.int .i64 c) := (by rw [hc3 _ _ (by first | omega | (simp; done) | (simp; omega))]; simp [go_sem]); have gd : w3.cell? ⟨w.heap.size + 1, 1, none⟩ = some (.int .i64 d) := (by rw [hc3 _ _ (by first | omega | (simp; done) | (simp; omega))]; simp [go_sem]))))
      have q0 : w3.cell? ⟨w.heap.size + 1 + 1, 0, none⟩ = some (.int .i64 0) := by rw [hc3 _ _ (by first | omega | (simp; done) | (simp; omega))]; simp [go_sem]
      have q1 : w3.cell? ⟨w.heap.size + 1 + 1, 1, none⟩ = some (.int .i64 0) := by rw [hc3 _ _ (by first | omega | (simp; done) | (simp; omega))]; simp [go_sem]
      go_wp2
      refine bodyPost_ret (v := .tuple #[.agg #[.int .i64 x, .int .i64 y], .bool z]) (by simp [results, Try.results33, q0, q1, go_sem]) rfl ⟨rfl, ?_⟩
      (repeat (first | exact Below.refl _ _ | apply BelowKit.bl_alloc | apply BelowKit.bl_drewN | apply BelowKit.bl_drew | (refine BelowKit.bl_set ?_ _ ?_; rotate_left; (first | omega | (simp; omega) | simp)) | (refine BelowKit.bl_trans ?_ (‹Hid (Below _ _ _)›).out)))

set_option maxHeartbeats 1000000 in
theorem add_s (a b c d : Int) (w : World) :
    Calls Try.prog 14 #[.agg #[.int .i64 a, .int .i64 b], .agg #[.int .i64 c, .int .i64 d]] w (IsFrac (sumR a b c d) w) := by
      obtain ⟨⟨x, y, z⟩, hr⟩ : ∃ r, sumG (1) a b c d = r := ⟨_, rfl⟩
      rw [← sumG_one, hr]
      have HR := Lib.hid hr
      clear hr
      go_enter Try.func14, Try.ntmps14
      go_wp2_with fail
      refine (sum_s _ a b c d _ (by omega) (by omega)).mono ?_
      rintro e w1 ⟨rfl, hb1⟩
      rw [HR.out]
      obtain ⟨hc1, hf1⟩ := BelowKit.bcell hb1
      have hz1 := hb1.size
      try simp at hz1
      have HB1 := Lib.hid hb1
      clear hb1
      have q0 : w1.cell? ⟨w.heap.size + 1 + 1, 0, none⟩ = some (.int .i64 0) := by rw [hc1 _ _ (by first | omega | (simp; done) | (simp; omega))]; simp [go_sem]
      have q1 : w1.cell? ⟨w.heap.size + 1 + 1, 1, none⟩ = some (.int .i64 0) := by rw [hc1 _ _ (by first | omega | (simp; done) | (simp; omega))]; simp [go_sem]
      go_wp2
      refine bodyPost_ret (v := .tuple #[.agg #[.int .i64 x, .int .i64 y], .bool z]) (by simp [results, Try.results14, q0, q1, go_sem]) rfl ⟨rfl, ?_⟩
      (repeat (first | exact Below.refl _ _ | apply BelowKit.bl_alloc | apply BelowKit.bl_drewN | apply BelowKit.bl_drew | (refine BelowKit.bl_set ?_ _ ?_; rotate_left; (first | omega | (simp; omega) | simp)) | (refine BelowKit.bl_trans ?_ (‹Hid (Below _ _ _)›).out)))


set_option maxHeartbeats 1000000 in
theorem small_s (a b : Int) (w : World) :
    Calls Try.prog 51 #[.agg #[.int .i64 a, .int .i64 b]] w (IsBool (facB a b) w) := by
  cases h1 : okB a b with
  | false =>
      rw [show facB a b = false by simp [facB, h1]]
      have H1 := Lib.hid h1
      clear h1
      go_enter Try.func51, Try.ntmps51
      go_wp2_with fail
      refine (ok_s a b _).mono ?_
      rintro e w1 ⟨rfl, hb1⟩
      rw [H1.out]
      obtain ⟨hc1, hf1⟩ := BelowKit.bcell hb1
      have hz1 := hb1.size
      try simp at hz1
      have HB1 := Lib.hid hb1
      clear hb1
      go_wp2
      go_ret
      exact ⟨rfl, by (repeat (first | exact Below.refl _ _ | apply BelowKit.bl_alloc | apply BelowKit.bl_drewN | apply BelowKit.bl_drew | (refine BelowKit.bl_set ?_ _ ?_; rotate_left; (first | omega | (simp; omega) | simp)) | (refine BelowKit.bl_trans ?_ (‹Hid (Below _ _ _)›).out)))⟩
  | true =>
      obtain ⟨x, hx⟩ : ∃ x, inB a (-1000000) 1000000 = x := ⟨_, rfl⟩
      rw [show facB a b = x by simp [facB, h1, hx]]
      have H1 := Lib.hid h1
      have HX := Lib.hid hx
      clear h1 hx
      go_enter Try.func51, Try.ntmps51
      go_wp2_with fail
      refine (ok_s a b _).mono ?_
      rintro e w1 ⟨rfl, hb1⟩
      rw [H1.out]
      obtain ⟨hc1, hf1⟩ := BelowKit.bcell hb1
      have hz1 := hb1.size
      try simp at hz1
      have HB1 := Lib.hid hb1
      clear hb1
      go_wp2_with fail
      refine (in_s _ _ _ _).mono ?_
      rintro e w' ⟨rfl, rfl⟩
      rw [HX.out]
      go_wp2
      go_ret
      exact ⟨rfl, by (repeat (first | exact Below.refl _ _ | apply BelowKit.bl_alloc | apply BelowKit.bl_drewN | apply BelowKit.bl_drew | (refine BelowKit.bl_set ?_ _ ?_; rotate_left; (first | omega | (simp; omega) | simp)) | (refine BelowKit.bl_trans ?_ (‹Hid (Below _ _ _)›).out)))⟩
end Go.Proofs.Ythhjnffbafmkpaa.FracS
