/- How near a rounded number is. Imports nothing of the dump. -/
import Derived.Test.YtdmnagpnhphifaaRoundMath
import Derived.Test.YtdmnagpnhphifaaRoundF
namespace Go.Proofs.Ytdmnagpnhphifaa.RoundNear
open FracMath RoundMath RoundF
theorem rnd_near {n d m : Int} (hd : 0 < d) :
    -d < rnd n d m * d - n ∧ rnd n d m * d - n < d ∧ (m = 1 → rnd n d m * d - n ≤ 0) ∧ (m = 2 → 0 ≤ rnd n d m * d - n) ∧ (3 ≤ m → 2 * (rnd n d m * d - n) ≤ d ∧ -d ≤ 2 * (rnd n d m * d - n)) := by
  have hr := rst_bd n hd
  have he := rst_eq n d
  unfold rnd
  generalize n / d = q at *
  generalize rst n d = r at *
  repeat' split
  all_goals (try rw [Int.add_mul])
  all_goals omega
/-- The test of the law, its sum under one name. -/
theorem near_one {n d m : Int} (hs : SmallF n d) (h1 : 1 ≤ m) (h2 : m ≤ 4) :
    ∃ x y D : Int, rndR n d m = (x, true) ∧ IntKind.i64.wrap (x * d) = y ∧ IntKind.i64.wrap (y - n) = y - n ∧ IntKind.i64.wrap (2 * (y - n)) = D ∧ -2 * d < D ∧ D < 2 * d ∧ (m = 1 → D ≤ 0) ∧ (m = 2 → 0 ≤ D) ∧ (3 ≤ m → D ≤ d ∧ -d ≤ D) := by
  obtain ⟨a1, a2, a3, a4, a5⟩ := rnd_near (n := n) (d := d) (m := m) (by have := hs.d1; omega)
  have := hs.n1
  have := hs.n2
  have := hs.d1
  have := hs.d2
  generalize hx : rnd n d m = x at *
  refine ⟨x, x * d, 2 * (x * d - n), by rw [rndR_yes hs.ok h1 h2, hx], IntWalk.i64_in _ (by omega), IntWalk.i64_in _ (by omega), IntWalk.i64_in _ (by omega), by omega, by omega, fun h => by have := a3 h; omega, fun h => by have := a4 h; omega, fun h => a5 h⟩
end Go.Proofs.Ytdmnagpnhphifaa.RoundNear
