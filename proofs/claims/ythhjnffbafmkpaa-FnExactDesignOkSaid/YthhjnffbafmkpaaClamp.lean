/- Contracts of the two clamp functions: both return the same number, for every three integers. -/
import Derived.Test.YthhjnffbafmkpaaRows
import Derived.WalkKit
namespace Go.Proofs.Ythhjnffbafmkpaa.Clamp
open Go.RowKit
def clampN (n lo hi : Int) : Int := if hi < lo ∨ n < lo then lo else if hi < n then hi else n

set_option maxHeartbeats 400000 in
theorem implClamp (n lo hi : Int) (w : World) :
    Calls Try.prog 52 #[.int .i64 n, .int .i64 lo, .int .i64 hi] w fun e w' => e = .returned (.int .i64 (clampN n lo hi)) ∧ w = w' := by
  by_cases h1 : hi < lo <;> by_cases h2 : n < lo <;> by_cases h3 : hi < n
  all_goals
    have E : clampN n lo hi = clampN n lo hi := rfl
    conv at E => rhs; simp only [clampN]; simp [h1, h2, h3]
    rw [E]; clear E
    go_enter Try.func52, Try.ntmps52
    go_wp2
    go_ret
    exact ⟨by first | rfl | (congr 2; omega), rfl⟩
end Go.Proofs.Ythhjnffbafmkpaa.Clamp
