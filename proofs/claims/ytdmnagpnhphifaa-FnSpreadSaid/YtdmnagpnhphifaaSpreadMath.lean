/- Plain mathematics of the spread year: the parts differ by at most one and add up. Imports nothing of the dump but Spread. -/
import Derived.Test.YtdmnagpnhphifaaSpread
import Derived.Test.YtdmnagpnhphifaaRoundMath
namespace Go.Proofs.Ytdmnagpnhphifaa.SpreadMath
open Spread RoundMath
theorem part_near {t m : Int} (i : Nat) (h1 : 1 ≤ m) : t / m ≤ Spread.part t m i ∧ Spread.part t m i ≤ t / m + 1 := by
  unfold Spread.part
  have e : ((i : Int) + 1) * t = (i : Int) * t + t := by rw [Int.add_mul, Int.one_mul]
  rw [e]
  generalize (i : Int) * t = a
  have ha := rst_eq a m
  have ht := rst_eq t m
  have ba := rst_bd a (d := m) (by omega)
  have bt := rst_bd t (d := m) (by omega)
  generalize a / m = x at *
  generalize t / m = y at *
  generalize rst a m = r at *
  generalize rst t m = s at *
  have e2 : (x + y) * m = x * m + y * m := Int.add_mul x y m
  have e3 : (x + y + 1) * m = x * m + y * m + m := by rw [Int.add_mul, e2, Int.one_mul]
  have e4 : (x + y + 1 + 1) * m = x * m + y * m + m + m := by rw [Int.add_mul, e3, Int.one_mul]
  by_cases c : r + s < m
  · have : (a + t) / m = x + y := div_is (by omega) (by omega) (by omega)
    omega
  · have : (a + t) / m = x + y + 1 := div_is (by omega) (by omega) (by omega)
    omega
theorem part_zero {t m : Int} : Spread.part t m 0 = t / m := by
  unfold Spread.part
  show ((0 : Int) + 1) * t / m - 0 * t / m = t / m
  rw [Int.zero_add, Int.one_mul, Int.zero_mul, Int.zero_ediv, Int.sub_zero]
theorem spr_get (t m : Int) (n j : Nat) (h : j < (spr t m n).length) : (spr t m n)[j] = Spread.part t m j := by simp [spr]
end Go.Proofs.Ytdmnagpnhphifaa.SpreadMath
