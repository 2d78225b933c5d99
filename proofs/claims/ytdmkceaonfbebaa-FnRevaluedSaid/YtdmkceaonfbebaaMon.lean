/- Contracts of both sides' plain functions of months: whether a number is a month, the number of a month, ages, common months. They compute and leave memory alone. -/
import Derived.Test.YtdmkceaonfbebaaRows
import Derived.WalkKit
import Derived.Lib.Hide
import Derived.WalkSmall
namespace Go.Proofs.Ytdmkceaonfbebaa.Mon
open Go.RowKit

def inB (x lo hi : Int) : Bool := decide (lo ≤ x) && decide (x ≤ hi)
theorem inB_yes {x lo hi : Int} (h1 : lo ≤ x) (h2 : x ≤ hi) : inB x lo hi = true := by simp [inB, h1, h2]
theorem inB_lo {x lo hi : Int} (h1 : ¬ lo ≤ x) : inB x lo hi = false := by simp [inB]; omega
theorem inB_hi {x lo hi : Int} (h2 : ¬ x ≤ hi) : inB x lo hi = false := by simp [inB]; omega
theorem inB_of {x lo hi : Int} (h : inB x lo hi = true) : lo ≤ x ∧ x ≤ hi := by simpa [inB] using h
theorem inB_not {x lo hi : Int} (h : inB x lo hi = false) : ¬ (lo ≤ x ∧ x ≤ hi) := by simp [inB] at h; omega
def IsB (b : Bool) (w : World) (e : Ending) (w' : World) : Prop := e = .returned (.bool b) ∧ w = w'
def IsI (n : Int) (w : World) (e : Ending) (w' : World) : Prop := e = .returned (.int .i64 n) ∧ w = w'

theorem in_c (x lo hi : Int) (w : World) : Calls Try.prog 47 #[.int .i64 x, .int .i64 lo, .int .i64 hi] w (IsB (inB x lo hi) w) := by
  by_cases h1 : lo ≤ x
  · by_cases h2 : x ≤ hi
    · rw [inB_yes h1 h2]
      go_enter Try.func47, Try.ntmps47
      go_wp2
      go_ret
      exact ⟨rfl, rfl⟩
    · rw [inB_hi h2]
      go_enter Try.func47, Try.ntmps47
      go_wp2
      go_ret
      exact ⟨rfl, rfl⟩
  · rw [inB_lo h1]
    go_enter Try.func47, Try.ntmps47
    go_wp2
    go_ret
    exact ⟨rfl, rfl⟩
theorem ok_s (m : Int) (w : World) : Calls Try.prog 66 #[.int .i64 m] w (IsB (inB m 0 3599) w) := by
  go_enter Try.func66, Try.ntmps66
  go_wp2_with fail
  refine (in_c _ _ _ _).mono ?_
  rintro e w' ⟨rfl, rfl⟩
  go_wp2
  go_ret
  exact ⟨rfl, rfl⟩
theorem ok_i (m : Int) (w : World) : Calls Try.prog 78 #[.int .i64 m] w (IsB (inB m 0 3599) w) := by
  by_cases h1 : 0 ≤ m
  · by_cases h2 : m ≤ 3599
    · rw [inB_yes h1 h2]
      go_enter Try.func78, Try.ntmps78
      go_wp2
      go_ret
      exact ⟨rfl, rfl⟩
    · rw [inB_hi h2]
      go_enter Try.func78, Try.ntmps78
      go_wp2
      go_ret
      exact ⟨rfl, rfl⟩
  · rw [inB_lo h1]
    go_enter Try.func78, Try.ntmps78
    go_wp2
    go_ret
    exact ⟨rfl, rfl⟩
/-- The number of a month, or -1. -/
def mof (y m : Int) : Int := if inB y 1900 2199 = true ∧ inB m 1 12 = true then (y - 1900) * 12 + m - 1 else -1
theorem mof_yes {y m : Int} (h1 : 1900 ≤ y) (h2 : y ≤ 2199) (h3 : 1 ≤ m) (h4 : m ≤ 12) : mof y m = (y - 1900) * 12 + m - 1 := if_pos ⟨inB_yes h1 h2, inB_yes h3 h4⟩
theorem mof_y {y m : Int} (h : ¬ (1900 ≤ y ∧ y ≤ 2199)) : mof y m = -1 := if_neg fun e => h (inB_of e.1)
theorem mof_m {y m : Int} (h : ¬ (1 ≤ m ∧ m ≤ 12)) : mof y m = -1 := if_neg fun e => h (inB_of e.2)
/-- An age in years in one of three modes, or -1. -/
def ageD (d k : Int) : Int := if k = 1 then d / 12 else if k = 2 then (d + 6) / 12 else if k = 3 then d / 12 + 1 else -1
def age (b m k : Int) : Int := if inB b 0 3599 = true ∧ inB m 0 3599 = true ∧ b ≤ m then ageD (m - b) k else -1
theorem age_b {b m k : Int} (h : inB b 0 3599 = false) : age b m k = -1 := if_neg fun e => by rw [h] at e; cases e.1
theorem age_m {b m k : Int} (h : inB m 0 3599 = false) : age b m k = -1 := if_neg fun e => by rw [h] at e; cases e.2.1
theorem age_lt {b m k : Int} (h : m < b) : age b m k = -1 := if_neg fun e => by have := e.2.2; omega
theorem age_yes {b m k : Int} (h1 : inB b 0 3599 = true) (h2 : inB m 0 3599 = true) (h3 : ¬ m < b) : age b m k = ageD (m - b) k := if_pos ⟨h1, h2, by omega⟩
def common (f t l h : Int) : Int := if inB f 0 3600 = true ∧ inB t 0 3600 = true ∧ inB l 0 3600 = true ∧ inB h 0 3600 = true then max 0 (min t h - max f l) else 0
theorem int_eq {a b : Int} (h : a = b) : Ending.returned (.int .i64 a) = .returned (.int .i64 b) := by rw [h]
theorem end_s (m : Int) (w : World) : Calls Try.prog 42 #[.int .i64 m] w (IsB (inB m 0 3600) w) := by
  go_enter Try.func42, Try.ntmps42
  go_wp2_with fail
  refine (in_c _ _ _ _).mono ?_
  rintro e w' ⟨rfl, rfl⟩
  go_wp2
  go_ret
  exact ⟨rfl, rfl⟩
theorem end_i (m : Int) (w : World) : Calls Try.prog 57 #[.int .i64 m] w (IsB (inB m 0 3600) w) := by
  by_cases h1 : 0 ≤ m
  · by_cases h2 : m ≤ 3600
    · rw [inB_yes h1 h2]
      go_enter Try.func57, Try.ntmps57
      go_wp2
      go_ret
      exact ⟨rfl, rfl⟩
    · rw [inB_hi h2]
      go_enter Try.func57, Try.ntmps57
      go_wp2
      go_ret
      exact ⟨rfl, rfl⟩
  · rw [inB_lo h1]
    go_enter Try.func57, Try.ntmps57
    go_wp2
    go_ret
    exact ⟨rfl, rfl⟩
set_option maxHeartbeats 400000 in
theorem common_i (f t l h : Int) (w : World) : Calls Try.prog 79 #[.int .i64 f, .int .i64 t, .int .i64 l, .int .i64 h] w (IsI (common f t l h) w) := by
  cases hf : inB f 0 3600 with
  | false =>
    rw [show common f t l h = 0 from if_neg fun e => by rw [hf] at e; cases e.1]
    have Hf := Lib.hid hf
    clear hf
    go_enter Try.func79, Try.ntmps79
    go_wp2_with fail
    refine (end_i _ _).mono ?_
    rintro e w' ⟨rfl, rfl⟩
    rw [Hf.out]
    go_wp2
    go_ret
    exact ⟨rfl, rfl⟩
  | true =>
  cases ht : inB t 0 3600 with
  | false =>
    rw [show common f t l h = 0 from if_neg fun e => by rw [ht] at e; cases e.2.1]
    have Hf := Lib.hid hf
    have Ht := Lib.hid ht
    clear hf ht
    go_enter Try.func79, Try.ntmps79
    go_wp2_with fail
    refine (end_i _ _).mono ?_
    rintro e w' ⟨rfl, rfl⟩
    rw [Hf.out]
    go_wp2_with fail
    refine (end_i _ _).mono ?_
    rintro e w' ⟨rfl, rfl⟩
    rw [Ht.out]
    go_wp2
    go_ret
    exact ⟨rfl, rfl⟩
  | true =>
  cases hl : inB l 0 3600 with
  | false =>
    rw [show common f t l h = 0 from if_neg fun e => by rw [hl] at e; cases e.2.2.1]
    have Hf := Lib.hid hf
    have Ht := Lib.hid ht
    have Hl := Lib.hid hl
    clear hf ht hl
    go_enter Try.func79, Try.ntmps79
    go_wp2_with fail
    refine (end_i _ _).mono ?_
    rintro e w' ⟨rfl, rfl⟩
    rw [Hf.out]
    go_wp2_with fail
    refine (end_i _ _).mono ?_
    rintro e w' ⟨rfl, rfl⟩
    rw [Ht.out]
    go_wp2_with fail
    refine (end_i _ _).mono ?_
    rintro e w' ⟨rfl, rfl⟩
    rw [Hl.out]
    go_wp2
    go_ret
    exact ⟨rfl, rfl⟩
  | true =>
  cases hh : inB h 0 3600 with
  | false =>
    rw [show common f t l h = 0 from if_neg fun e => by rw [hh] at e; cases e.2.2.2]
    have Hf := Lib.hid hf
    have Ht := Lib.hid ht
    have Hl := Lib.hid hl
    have Hh := Lib.hid hh
    clear hf ht hl hh
    go_enter Try.func79, Try.ntmps79
    go_wp2_with fail
    refine (end_i _ _).mono ?_
    rintro e w' ⟨rfl, rfl⟩
    rw [Hf.out]
    go_wp2_with fail
    refine (end_i _ _).mono ?_
    rintro e w' ⟨rfl, rfl⟩
    rw [Ht.out]
    go_wp2_with fail
    refine (end_i _ _).mono ?_
    rintro e w' ⟨rfl, rfl⟩
    rw [Hl.out]
    go_wp2_with fail
    refine (end_i _ _).mono ?_
    rintro e w' ⟨rfl, rfl⟩
    rw [Hh.out]
    go_wp2
    go_ret
    exact ⟨rfl, rfl⟩
  | true =>
  obtain ⟨f1, f2⟩ := inB_of hf
  obtain ⟨t1, t2⟩ := inB_of ht
  obtain ⟨l1, l2⟩ := inB_of hl
  obtain ⟨h1, h2⟩ := inB_of hh
  rw [show common f t l h = max 0 (min t h - max f l) from if_pos ⟨hf, ht, hl, hh⟩]
  have Hf := Lib.hid hf
  have Ht := Lib.hid ht
  have Hl := Lib.hid hl
  have Hh := Lib.hid hh
  clear hf ht hl hh
  go_enter Try.func79, Try.ntmps79
  go_wp2_with fail
  refine (end_i _ _).mono ?_
  rintro e w' ⟨rfl, rfl⟩
  rw [Hf.out]
  go_wp2_with fail
  refine (end_i _ _).mono ?_
  rintro e w' ⟨rfl, rfl⟩
  rw [Ht.out]
  go_wp2_with fail
  refine (end_i _ _).mono ?_
  rintro e w' ⟨rfl, rfl⟩
  rw [Hl.out]
  go_wp2_with fail
  refine (end_i _ _).mono ?_
  rintro e w' ⟨rfl, rfl⟩
  rw [Hh.out]
  by_cases c1 : h < t <;> by_cases c2 : f < l
  · by_cases c3 : l < h <;> (go_wp2; go_ret; exact ⟨int_eq (by omega), rfl⟩)
  · by_cases c3 : f < h <;> (go_wp2; go_ret; exact ⟨int_eq (by omega), rfl⟩)
  · by_cases c3 : l < t <;> (go_wp2; go_ret; exact ⟨int_eq (by omega), rfl⟩)
  · by_cases c3 : f < t <;> (go_wp2; go_ret; exact ⟨int_eq (by omega), rfl⟩)
end Go.Proofs.Ytdmkceaonfbebaa.Mon
