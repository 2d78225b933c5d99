/- The texts of months as plain functions on bytes: the text of a month, and the month of a text. Imports nothing of the dump. -/
import Derived.WalkKit
import Derived.Test.YtggnkjnpiagdpaaDoorHexMath
import Derived.Test.YtggnkjnpiagdpaaDoorNumMath
import Derived.Test.YtggnkjnpiagdpaaDoorNumParse
import Derived.Test.YtggnkjnpiagdpaaDoorNumBack
namespace Go.Proofs.YtggnkjnpiagdpaaDoor.MonMath
open HexMath NumMath NumParse NumBack

def two (n : Nat) : List UInt8 := [fig (n / 10), fig (n % 10)]
def four (y : Nat) : List UInt8 := [fig (y / 1000), fig (y / 100 % 10), fig (y / 10 % 10), fig (y % 10)]
/-- The text of month m, below 3600. -/
def mt (m : Nat) : List UInt8 := four (1900 + m / 12) ++ 45 :: two (m % 12 + 1)
theorem mt_len (m : Nat) : (mt m).length = 7 := rfl
theorem mt_take (m : Nat) : (mt m).take 4 = four (1900 + m / 12) := rfl
theorem mt_drop (m : Nat) : (mt m).drop 4 = 45 :: two (m % 12 + 1) := rfl
theorem dg_one (n : Nat) (h1 : 0 < n) (h2 : n < 10) : dg n = [fig n] := by
  rw [dg_pos n h1, show n / 10 = 0 by omega, dg_zero, show n % 10 = n by omega]; rfl
theorem fmt_four (y : Nat) (h1 : 1000 ≤ y) (h2 : y < 10000) : fmt (y : Int) = four y := by
  unfold fmt
  rw [if_neg (by omega), if_neg (by omega), Int.natAbs_natCast, dg_pos y (by omega), dg_pos (y / 10) (by omega), dg_pos (y / 10 / 10) (by omega), dg_one (y / 10 / 10 / 10) (by omega) (by omega)]
  rw [show y / 10 / 10 / 10 = y / 1000 by omega, show y / 10 / 10 % 10 = y / 100 % 10 by omega]
  rfl
theorem fmt_lo (n : Nat) (h1 : 0 < n) (h2 : n < 10) : fmt (n : Int) = [fig n] := by
  unfold fmt
  rw [if_neg (by omega), if_neg (by omega), Int.natAbs_natCast, dg_one n h1 h2]
theorem two_lo (n : Nat) (h2 : n < 10) : two n = [48, fig n] := by
  unfold two
  rw [show n / 10 = 0 by omega, show n % 10 = n by omega]; rfl
theorem fmt_hi (n : Nat) (h1 : 10 ≤ n) (h2 : n < 100) : fmt (n : Int) = two n := by
  unfold fmt
  rw [if_neg (by omega), if_neg (by omega), Int.natAbs_natCast, dg_pos n (by omega), dg_one (n / 10) (by omega) (by omega)]
  rfl
theorem vd_two (n : Nat) (h : n < 100) : vd (two n) = n := by
  simp only [vd, two, List.foldl_cons, List.foldl_nil]
  rw [fig_small _ (by omega), fig_small _ (by omega)]; omega
theorem vd_four (y : Nat) (h : y < 10000) : vd (four y) = y := by
  simp only [vd, four, List.foldl_cons, List.foldl_nil]
  rw [fig_small _ (by omega), fig_small _ (by omega), fig_small _ (by omega), fig_small _ (by omega)]; omega
/-- The parsed year of such a text. -/
theorem pU_four (y : Nat) (h1 : 1000 ≤ y) (h2 : y < 10000) : pU (four y) = some y := by
  rw [← fmt_four y h1 h2, pU_fmt, if_pos (by omega)]; rfl
/-- A number below the greatest is parsed from no other text than its own. -/
theorem pU_some {l : List UInt8} {n : Nat} (h : pU l = some n) : l = fmt (n : Int) ∧ n ≤ 1000000000 := by
  unfold pU at h
  split at h
  · rename_i hh
    obtain ⟨h1, h2, h3⟩ := hh
    obtain rfl : vd l = n := Option.some.inj h
    exact ⟨(fmt_vd l h1 h2).symm, h3⟩
  · cases h
/-- The month of a text: the one whose text it is, if there is one. -/
def pm (l : List UInt8) : Option Nat :=
  if (vd (l.take 4) - 1900) * 12 + (vd (l.drop 5) - 1) < 3600 ∧ mt ((vd (l.take 4) - 1900) * 12 + (vd (l.drop 5) - 1)) = l then some ((vd (l.take 4) - 1900) * 12 + (vd (l.drop 5) - 1)) else none
theorem pm_some {l : List UInt8} {m : Nat} (h : m < 3600) (e : mt m = l) : pm l = some m := by
  have e1 : vd (l.take 4) = 1900 + m / 12 := by rw [← e, mt_take, vd_four _ (by omega)]
  have e2 : vd (l.drop 5) = m % 12 + 1 := by rw [← e]; exact vd_two _ (by omega)
  have e3 : (vd (l.take 4) - 1900) * 12 + (vd (l.drop 5) - 1) = m := by omega
  unfold pm
  rw [e3, if_pos ⟨h, e⟩]
theorem pm_none {l : List UInt8} (h : ∀ m, m < 3600 → mt m ≠ l) : pm l = none := by
  unfold pm
  rw [if_neg]
  rintro ⟨h1, h2⟩
  exact h _ h1 h2
theorem pm_mt (m : Nat) (h : m < 3600) : pm (mt m) = some m := pm_some h rfl
theorem pm_lt {l : List UInt8} {m : Nat} (h : pm l = some m) : m < 3600 ∧ mt m = l := by
  unfold pm at h
  split at h
  · rename_i hh
    obtain rfl := Option.some.inj h
    exact hh
  · cases h
theorem pm_len {l : List UInt8} (h : l.length ≠ 7) : pm l = none := pm_none fun m _ e => h (by rw [← e]; rfl)
/-- A text whose first four bytes are no year, or the year of another month. -/
theorem pm_year {l : List UInt8} (h : pU (l.take 4) = none) : pm l = none := pm_none fun m hm e => by
  rw [← e, mt_take, pU_four _ (by omega) (by omega)] at h; cases h
/-- The text that the year and the month behind the hyphen make up. -/
theorem mt_parts {l : List UInt8} {y k : Nat} (h : pU (l.take 4) = some y) (h1 : 1900 ≤ y) (h2 : y ≤ 2199) (hk : k < 12) (hd : l.drop 4 = 45 :: two (k + 1)) : pm l = some ((y - 1900) * 12 + k) := by
  refine pm_some (by omega) ?_
  have e1 := (pU_some h).1
  rw [fmt_four y (by omega) (by omega)] at e1
  rw [← List.take_append_drop 4 l, e1, hd]
  unfold mt
  rw [show 1900 + ((y - 1900) * 12 + k) / 12 = y by omega, show ((y - 1900) * 12 + k) % 12 = k by omega]
/-- A month's text read back: its year, and its month. -/
theorem pm_back {l : List UInt8} {m : Nat} (hm : m < 3600) (e : mt m = l) : pU (l.take 4) = some (1900 + m / 12) ∧ l.drop 4 = 45 :: two (m % 12 + 1) := by
  subst e
  exact ⟨by rw [mt_take, pU_four _ (by omega) (by omega)], mt_drop m⟩
/-- The texts rise with the months. -/
theorem mt_less (m : Nat) (h : m + 1 < 3600) : Op.bytesLess (mt m) (mt (m + 1)) = true := by
  have H : (List.range 3599).all (fun m => Op.bytesLess (mt m) (mt (m + 1))) = true := by decide +kernel
  rw [List.all_eq_true] at H
  exact H m (List.mem_range.2 (by omega))
end Go.Proofs.YtggnkjnpiagdpaaDoor.MonMath
