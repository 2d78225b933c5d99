/- Contracts of the two divisor functions and of the small tests of fractions: they compute and leave memory alone. -/
import Derived.Test.YtkfgflmhefbinaaRows
import Derived.Test.YtkfgflmhefbinaaKit
import Derived.WalkKit
import Derived.Lib.Hide
import Derived.Deep.QuietTactic
import Derived.BigQuiet
namespace Go.Proofs.Ytkfgflmhefbinaa.FracGcd
open Go.RowKit FracMath

/-- The number g, memory as it was but for drawn orders. -/
def IsNum (g : Int) (w : World) (e : Ending) (w' : World) : Prop := e = .returned (.int .i64 g) ∧ ∃ n, w' = w.drewN n
def Pair (g : Nat) (w : World) (p q : Int) (wr : World) : Prop := (Int.gcd p q = g ∧ ∃ n, wr = w.drewN n)

set_option maxHeartbeats 1000000 in
theorem gcd_i (a b : Int) (w : World) (ha1 : -4000000000000000000 ≤ a) (ha2 : a ≤ 4000000000000000000) (hb1 : -4000000000000000000 ≤ b) (hb2 : b ≤ 4000000000000000000) :
    Calls Try.prog 118 #[.int .i64 a, .int .i64 b] w (IsNum (Int.gcd a b) w) := by
  go_enter Try.func118, Try.ntmps118
  go_wp2
  go_loopw [0, 1] (fun x y wr => ∃ p q : Int, x = .int .i64 p ∧ y = .int .i64 q ∧ -4000000000000000000 ≤ p ∧ p ≤ 4000000000000000000 ∧ -4000000000000000000 ≤ q ∧ q ≤ 4000000000000000000 ∧ Pair (Int.gcd a b) w p q wr)
    (fun _ y _ => (intOf y).natAbs)
  case atStart => exact ⟨a, b, rfl, rfl, ha1, ha2, hb1, hb2, rfl, 0, rfl⟩
  case round =>
    obtain ⟨p, q, rfl, rfl, hp1, hp2, hq1, hq2, hg⟩ := hrel
    clear ha1 ha2 hb1 hb2
    have HG := Lib.hid hg
    clear hg
    by_cases h0 : q = 0
    · subst h0
      have ew : IntKind.i64.wrap (-p) = -p := IntWalk.i64_in _ (by omega)
      by_cases h1 : -p ≤ p
      all_goals
        go_wp2
        go_ret
        obtain ⟨g0, hw⟩ := HG.out
        rw [Int.gcd_zero] at g0
        exact ⟨congrArg (fun z => Ending.returned (.int .i64 z)) (by omega), hw⟩
    · have hb : (q != 0) = true := by simp [h0]
      have hb2 : (q == 0) = false := by simp [h0]
      go_wp2
      go_quiet (fail)
      go_wp2
      have hm : (p.tmod q).natAbs < q.natAbs := by rw [Int.natAbs_tmod]; exact Nat.mod_lt _ (by omega)
      go_roundw
      case rel =>
        obtain ⟨g0, n, hw⟩ := HG.out
        exact ⟨q, _, rfl, rfl, hq1, hq2, by omega, by omega, by rw [gcd_step]; exact g0, n + nq, by rw [hw, World.drewN_drewN]⟩
      case measure => simpa [intOf] using hm

set_option maxHeartbeats 1000000 in
theorem gcd_s (a b : Int) (w : World) (ha1 : 0 ≤ a) (ha2 : a ≤ 4000000000000000000) (hb1 : 0 ≤ b) (hb2 : b ≤ 4000000000000000000) :
    Calls Try.prog 102 #[.int .i64 a, .int .i64 b] w fun e w' => e = .returned (.int .i64 (Int.gcd a b)) ∧ w = w' := by
  go_enter Try.func102, Try.ntmps102
  go_wp2
  go_loop [0, 1] (fun x y => ∃ p q : Int, x = .int .i64 p ∧ y = .int .i64 q ∧ 0 ≤ p ∧ p ≤ 4000000000000000000 ∧ 0 ≤ q ∧ q ≤ 4000000000000000000 ∧ Hid (Int.gcd p q = Int.gcd a b))
    (fun _ y => (intOf y).natAbs)
  case atStart => exact ⟨a, b, rfl, rfl, ha1, ha2, hb1, hb2, Lib.hid rfl⟩
  case round =>
    obtain ⟨p, q, rfl, rfl, hp1, hp2, hq1, hq2, HG⟩ := hrel
    clear ha1 ha2 hb1 hb2
    by_cases h0 : q = 0
    · subst h0
      have g0 := HG.out
      rw [Int.gcd_zero] at g0
      have e : p = (Int.gcd a b : Int) := by omega
      have HE := Lib.hid e
      clear e g0
      go_wp2
      go_ret
      exact ⟨congrArg (fun z => Ending.returned (.int .i64 z)) HE.out, rfl⟩
    · have hb : (q != 0) = true := by simp [h0]
      have hb2 : (q == 0) = false := by simp [h0]
      have hq3 : 0 < q := by omega
      have m1 : 0 ≤ p % q := Int.emod_nonneg _ h0
      have m2 : p % q < q := Int.emod_lt_of_pos _ hq3
      have HM := Lib.hid (show p.tmod q = p % q from Int.tmod_eq_emod_of_nonneg hp1)
      go_wp2
      go_round
      case rel => exact ⟨q, _, rfl, rfl, hq1, hq2, by omega, by omega, Lib.hid (by rw [← HM.out, gcd_step]; exact HG.out)⟩
      case measure => simp [intOf]; omega

set_option maxHeartbeats 400000 in
theorem within_i (x m : Int) (w : World) (h1 : 0 ≤ m) (h2 : m ≤ 4000000000000000000) :
    Calls Try.prog 117 #[.int .i64 x, .int .i64 m] w fun e w' => e = .returned (.bool (inB x (-m) m)) ∧ w = w' := by
  by_cases k1 : -m ≤ x
  · by_cases k2 : x ≤ m
    · rw [inB_yes k1 k2]
      go_enter Try.func117, Try.ntmps117
      go_wp2
      go_ret
      exact ⟨rfl, rfl⟩
    · rw [inB_no2 k2]
      go_enter Try.func117, Try.ntmps117
      go_wp2
      go_ret
      exact ⟨rfl, rfl⟩
  · rw [inB_no1 k1]
    go_enter Try.func117, Try.ntmps117
    go_wp2
    go_ret
    exact ⟨rfl, rfl⟩

set_option maxHeartbeats 400000 in
theorem in_s (x lo hi : Int) (w : World) :
    Calls Try.prog 64 #[.int .i64 x, .int .i64 lo, .int .i64 hi] w fun e w' => e = .returned (.bool (inB x lo hi)) ∧ w = w' := by
  by_cases k1 : lo ≤ x
  · by_cases k2 : x ≤ hi
    · rw [inB_yes k1 k2]
      go_enter Try.func64, Try.ntmps64
      go_wp2
      go_ret
      exact ⟨rfl, rfl⟩
    · rw [inB_no2 k2]
      go_enter Try.func64, Try.ntmps64
      go_wp2
      go_ret
      exact ⟨rfl, rfl⟩
  · rw [inB_no1 k1]
    go_enter Try.func64, Try.ntmps64
    go_wp2
    go_ret
    exact ⟨rfl, rfl⟩
theorem in_s' (x lo hi : Int) (w : World) (b : Bool) (h : inB x lo hi = b) :
    Calls Try.prog 64 #[.int .i64 x, .int .i64 lo, .int .i64 hi] w fun e w' => e = .returned (.bool b) ∧ w = w' := by
  subst h; exact in_s x lo hi w

set_option maxHeartbeats 400000 in
theorem abs_s (x : Int) (w : World) (h1 : -4000000000000000000 ≤ x) (h2 : x ≤ 4000000000000000000) :
    Calls Try.prog 103 #[.int .i64 x] w fun e w' => e = .returned (.int .i64 (x.natAbs : Int)) ∧ w = w' := by
  by_cases k : x < 0
  · have e : ((x.natAbs : Nat) : Int) = -x := by omega
    rw [e]
    clear e
    go_enter Try.func103, Try.ntmps103
    go_wp2
    go_ret
    exact ⟨rfl, rfl⟩
  · have e : ((x.natAbs : Nat) : Int) = x := by omega
    rw [e]
    clear e
    go_enter Try.func103, Try.ntmps103
    go_wp2
    go_ret
    exact ⟨rfl, rfl⟩
theorem gcd_s' (a b g : Int) (w : World) (h : (Int.gcd a b : Int) = g) (ha1 : 0 ≤ a) (ha2 : a ≤ 4000000000000000000) (hb1 : 0 ≤ b) (hb2 : b ≤ 4000000000000000000) :
    Calls Try.prog 102 #[.int .i64 a, .int .i64 b] w fun e w' => e = .returned (.int .i64 g) ∧ w = w' := by
  subst h; exact gcd_s a b w ha1 ha2 hb1 hb2
end Go.Proofs.Ytkfgflmhefbinaa.FracGcd
