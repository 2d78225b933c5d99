/- Decimal digits as plain functions on numbers and bytes. Imports nothing of the dump. -/
import Derived.WalkKit
import Derived.Test.YtggnkjnpiagdpaaDoorHexMath
namespace Go.Proofs.YtggnkjnpiagdpaaDoor.NumMath
open HexMath

/-- The decimal digits of a number, none for 0. -/
def dg (n : Nat) : List UInt8 := if n = 0 then [] else dg (n / 10) ++ [fig (n % 10)]
termination_by n
decreasing_by omega
theorem dg_zero : dg 0 = [] := by rw [dg, if_pos rfl]
theorem dg_pos (n : Nat) (h : 0 < n) : dg n = dg (n / 10) ++ [fig (n % 10)] := by rw [dg, if_neg (by omega)]
/-- The decimal text of an integer. -/
def fmt (n : Int) : List UInt8 := if n = 0 then [48] else if n < 0 then 45 :: dg n.natAbs else dg n.natAbs
/-- One more round: the digit is laid in front. -/
theorem dg_round (a : Nat) (acc : List UInt8) (h : 0 < a) : dg (a / 10) ++ (fig (a % 10) :: acc) = dg a ++ acc := by
  rw [dg_pos a h, List.append_assoc]; rfl
theorem dg_len : ∀ (k n : Nat), n < 10 ^ k → (dg n).length ≤ k := by
  intro k
  induction k with
  | zero => intro n h; have : n = 0 := by simpa using h
            subst this; simp [dg_zero]
  | succ k ih =>
    intro n h
    by_cases h0 : n = 0
    · subst h0; simp [dg_zero]
    · rw [dg_pos n (by omega), List.length_append]
      have := ih (n / 10) (by rw [Nat.pow_succ] at h; omega)
      simp; omega
theorem app_cons (b : UInt8) (acc : ByteArray) : ((⟨#[b]⟩ : ByteArray) ++ acc).data.toList = b :: acc.data.toList := by simp
theorem round_acc (N a : Nat) (acc : ByteArray) (h : 0 < a) (e : dg a ++ acc.data.toList = dg N) : dg (a / 10) ++ ((⟨#[fig (a % 10)]⟩ : ByteArray) ++ acc).data.toList = dg N := by
  rw [app_cons, dg_round a _ h, e]
theorem acc_small (N a : Nat) (acc : ByteArray) (e : dg a ++ acc.data.toList = dg N) (hN : N ≤ 9223372036854775808) : acc.size ≤ 19 := by
  have h1 := dg_len 19 N (by omega)
  rw [← e, List.length_append] at h1
  have h2 : acc.data.toList.length = acc.size := by simp
  omega
theorem acc_done (N : Nat) (acc : ByteArray) (e : dg 0 ++ acc.data.toList = dg N) : acc = ⟨(dg N).toArray⟩ := by
  rw [← e, dg_zero]; simp
theorem neg_tmod (a : Nat) : (-(a : Int)).tmod 10 = -((a % 10 : Nat) : Int) := by
  rw [Int.neg_tmod, Int.tmod_eq_emod_of_nonneg (by omega)]; omega
theorem neg_tdiv (a : Nat) : (-(a : Int)).tdiv 10 = -((a / 10 : Nat) : Int) := by
  rw [Int.neg_tdiv, Int.tdiv_eq_ediv_of_nonneg (by omega)]; omega
end Go.Proofs.YtggnkjnpiagdpaaDoor.NumMath
