/- Contracts of both sides' plain functions of months: whether a number is a month, the number of a month, ages, common months. They compute and leave memory alone. -/
import Derived.Test.YthhjnffbafmkpaaRows
import Derived.WalkKit
import Derived.Lib.Hide
import Derived.WalkSmall
namespace Go.Proofs.Ythhjnffbafmkpaa.Mon
open Go.RowKit

def inB (x lo hi : Int) : Bool := decide (lo ≤ x) && decide (x ≤ hi)
theorem inB_yes {x lo hi : Int} (h1 : lo ≤ x) (h2 : x ≤ hi) : inB x lo hi = true := by simp [inB, h1, h2]
theorem inB_lo {x lo hi : Int} (h1 : ¬ lo ≤ x) : inB x lo hi = false := by simp [inB]; omega
theorem inB_hi {x lo hi : Int} (h2 : ¬ x ≤ hi) : inB x lo hi = false := by simp [inB]; omega
theorem inB_of {x lo hi : Int} (h : inB x lo hi = true) : lo ≤ x ∧ x ≤ hi := by simpa [inB] using h
theorem inB_not {x lo hi : Int} (h : inB x lo hi = false) : ¬ (lo ≤ x ∧ x ≤ hi) := by simp [inB] at h; omega
def IsB (b : Bool) (w : World) (e : Ending) (w' : World) : Prop := e = .returned (.bool b) ∧ w = w'
def IsI (n : Int) (w : World) (e : Ending) (w' : World) : Prop := e = .returned (.int .i64 n) ∧ w = w'

theorem in_c (x lo hi : Int) (w : World) : Calls Try.prog 38 #[.int .i64 x, .int .i64 lo, .int .i64 hi] w (IsB (inB x lo hi) w) := by
  by_cases h1 : lo ≤ x
  · by_cases h2 : x ≤ hi
    · rw [inB_yes h1 h2]
      go_enter Try.func38, Try.ntmps38
      go_wp2
      go_ret
      exact ⟨rfl, rfl⟩
    · rw [inB_hi h2]
      go_enter Try.func38, Try.ntmps38
      go_wp2
      go_ret
      exact ⟨rfl, rfl⟩
  · rw [inB_lo h1]
    go_enter Try.func38, Try.ntmps38
    go_wp2
    go_ret
    exact ⟨rfl, rfl⟩
/-- The number of a month, or -1. -/
def mof (y m : Int) : Int := if inB y 1900 2199 = true ∧ inB m 1 12 = true then (y - 1900) * 12 + m - 1 else -1
theorem mof_yes {y m : Int} (h1 : 1900 ≤ y) (h2 : y ≤ 2199) (h3 : 1 ≤ m) (h4 : m ≤ 12) : mof y m = (y - 1900) * 12 + m - 1 := if_pos ⟨inB_yes h1 h2, inB_yes h3 h4⟩
theorem mof_y {y m : Int} (h : ¬ (1900 ≤ y ∧ y ≤ 2199)) : mof y m = -1 := if_neg fun e => h (inB_of e.1)
theorem mof_m {y m : Int} (h : ¬ (1 ≤ m ∧ m ≤ 12)) : mof y m = -1 := if_neg fun e => h (inB_of e.2)
/-- An age in years in one of three modes, or -1. -/
def ageD (d k : Int) : Int := if k = 1 then d / 12 else if k = 2 then (d + 6) / 12 else if k = 3 then d / 12 + 1 else -1
def age (b m k : Int) : Int := if inB b 0 3599 = true ∧ inB m 0 3599 = true ∧ b ≤ m then ageD (m - b) k else -1
theorem age_b {b m k : Int} (h : inB b 0 3599 = false) : age b m k = -1 := if_neg fun e => by rw [h] at e; cases e.1
theorem age_m {b m k : Int} (h : inB m 0 3599 = false) : age b m k = -1 := if_neg fun e => by rw [h] at e; cases e.2.1
theorem age_lt {b m k : Int} (h : m < b) : age b m k = -1 := if_neg fun e => by have := e.2.2; omega
theorem age_yes {b m k : Int} (h1 : inB b 0 3599 = true) (h2 : inB m 0 3599 = true) (h3 : ¬ m < b) : age b m k = ageD (m - b) k := if_pos ⟨h1, h2, by omega⟩
def common (f t l h : Int) : Int := if inB f 0 3600 = true ∧ inB t 0 3600 = true ∧ inB l 0 3600 = true ∧ inB h 0 3600 = true then max 0 (min t h - max f l) else 0
theorem int_eq {a b : Int} (h : a = b) : Ending.returned (.int .i64 a) = .returned (.int .i64 b) := by rw [h]
end Go.Proofs.Ythhjnffbafmkpaa.Mon
