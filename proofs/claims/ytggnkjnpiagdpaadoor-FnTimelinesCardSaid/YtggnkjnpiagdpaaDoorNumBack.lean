/- A number's decimal text is parsed back as the number just where it lies from 0 to the greatest that is read. Imports nothing of the dump. -/
import Derived.WalkKit
import Derived.Test.YtggnkjnpiagdpaaDoorHexMath
import Derived.Test.YtggnkjnpiagdpaaDoorNumMath
import Derived.Test.YtggnkjnpiagdpaaDoorNumParse
namespace Go.Proofs.YtggnkjnpiagdpaaDoor.NumBack
open HexMath NumMath NumParse

theorem fig_small (r : Nat) (h : r < 10) : (fig r).toNat = 48 + r := by
  have := figI r (by omega)
  rw [if_pos h] at this
  omega
theorem dg_back : ∀ (k n : Nat), n ≤ k → vd (dg n) = n ∧ (dg n).all isD = true := by
  intro k
  induction k with
  | zero => intro n h; have : n = 0 := by omega
            subst this; rw [dg_zero]; exact ⟨rfl, rfl⟩
  | succ k ih =>
    intro n h
    by_cases h0 : n = 0
    · subst h0; rw [dg_zero]; exact ⟨rfl, rfl⟩
    · obtain ⟨i1, i2⟩ := ih (n / 10) (by omega)
      have hf := fig_small (n % 10) (by omega)
      rw [dg_pos n (by omega), vd_snoc, i1, hf, List.all_append, i2]
      refine ⟨by omega, ?_⟩
      simp only [List.all_cons, List.all_nil, Bool.and_true, Bool.true_and, isD, decide_eq_true_eq]
      omega
theorem pU_fmt (n : Int) : pU (fmt n) = if 0 ≤ n ∧ n ≤ 1000000000 then some n.toNat else none := by
  by_cases hneg : n < 0
  · rw [if_neg (by omega)]
    unfold pU
    rw [if_neg]
    rintro ⟨_, h, _⟩
    unfold fmt at h
    rw [if_neg (by omega), if_pos hneg, List.all_cons] at h
    have : isD 45 = false := by decide
    rw [this] at h
    cases h
  · obtain ⟨m, rfl⟩ := Int.eq_ofNat_of_zero_le (show 0 ≤ n by omega)
    have hb : vd (fmt (m : Int)) = m ∧ (fmt (m : Int)).all isD = true := by
      unfold fmt
      by_cases h0 : m = 0
      · subst h0; exact ⟨rfl, rfl⟩
      · rw [if_neg (by omega), if_neg (by omega), Int.natAbs_natCast]
        exact dg_back m m (Nat.le_refl _)
    unfold pU
    rw [hb.1]
    by_cases h : m ≤ 1000000000
    · rw [if_pos ⟨canon_fmt m, hb.2, h⟩, if_pos (by omega)]
      simp
    · rw [if_neg (by rintro ⟨_, _, h2⟩; omega), if_neg (by omega)]
theorem fmt_len (n : Int) (h1 : -9223372036854775808 ≤ n) (h2 : n ≤ 9223372036854775807) : (fmt n).length ≤ 20 ∧ 0 < (fmt n).length := by
  unfold fmt
  by_cases h0 : n = 0
  · rw [if_pos h0]; simp
  · have hd := dg_len 19 n.natAbs (by omega)
    have hp : 0 < (dg n.natAbs).length := by rw [dg_pos _ (by omega), List.length_append]; simp
    rw [if_neg h0]
    split
    · rw [List.length_cons]; omega
    · omega
end Go.Proofs.YtggnkjnpiagdpaaDoor.NumBack
