/- Plain mathematics of rounding: floors, halves, and the bit test of odd numbers. Imports nothing of the dump. -/
import Derived.WalkKit
import Derived.Test.YtkfgflmhefbinaaKit
namespace Go.Proofs.Ytkfgflmhefbinaa.RoundMath
open FracMath

theorem flr_yes {n d : Int} (hd : 0 < d) (h : n.tmod d < 0) : n.tdiv d - 1 = n / d := by
  have e1 := Int.tdiv_mul_add_tmod n d
  have e2 := Int.ediv_mul_add_emod n d
  have e3 := Int.emod_lt_of_pos n hd
  have e4 := Int.emod_nonneg n (by omega : d ≠ 0)
  have e5 : -d < n.tmod d := by have := Int.lt_tmod_of_pos n hd; omega
  have k : (n.tdiv d - 1 - n / d) * d = n % d - (n.tmod d + d) := by rw [Int.sub_mul, Int.sub_mul]; omega
  by_cases c : n.tdiv d - 1 - n / d = 0
  · omega
  · exfalso
    rcases Int.lt_or_gt_of_ne c with c | c
    · have := Int.mul_le_mul_of_nonneg_right (show n.tdiv d - 1 - n / d ≤ -1 by omega) (Int.le_of_lt hd)
      omega
    · have := Int.mul_le_mul_of_nonneg_right (show 1 ≤ n.tdiv d - 1 - n / d by omega) (Int.le_of_lt hd)
      omega
theorem flr_no {n d : Int} (hd : 0 < d) (h : ¬ n.tmod d < 0) : n.tdiv d = n / d := by
  have e1 := Int.tdiv_mul_add_tmod n d
  have e2 := Int.ediv_mul_add_emod n d
  have e3 := Int.emod_lt_of_pos n hd
  have e4 := Int.emod_nonneg n (by omega : d ≠ 0)
  have e5 : n.tmod d < d := Int.tmod_lt_of_pos n hd
  have k : (n.tdiv d - n / d) * d = n % d - n.tmod d := by rw [Int.sub_mul]; omega
  by_cases c : n.tdiv d - n / d = 0
  · omega
  · exfalso
    rcases Int.lt_or_gt_of_ne c with c | c
    · have := Int.mul_le_mul_of_nonneg_right (show n.tdiv d - n / d ≤ -1 by omega) (Int.le_of_lt hd)
      omega
    · have := Int.mul_le_mul_of_nonneg_right (show 1 ≤ n.tdiv d - n / d by omega) (Int.le_of_lt hd)
      omega
/-- The quotient by a positive number is fixed by its bounds. -/
theorem div_is {n d q : Int} (hd : 0 < d) (h1 : q * d ≤ n) (h2 : n < (q + 1) * d) : n / d = q := by
  have a := Int.le_ediv_of_mul_le hd h1
  have b : n / d < q + 1 := Int.ediv_lt_of_lt_mul hd h2
  omega
/-- The remainder over the floor. -/
def rst (n d : Int) : Int := n - n / d * d
theorem rst_bd (n : Int) {d : Int} (hd : 0 < d) : 0 ≤ rst n d ∧ rst n d < d := by
  have e2 := Int.ediv_mul_add_emod n d
  have e3 := Int.emod_lt_of_pos n hd
  have e4 := Int.emod_nonneg n (by omega : d ≠ 0)
  unfold rst; omega
theorem rst_eq (n d : Int) : n = n / d * d + rst n d := by unfold rst; omega
theorem up_eq {n d : Int} (hd : 0 < d) : -((-n) / d) = if 0 < rst n d then n / d + 1 else n / d := by
  have hb := rst_bd n hd
  have he := rst_eq n d
  generalize n / d = q at *
  generalize rst n d = r at *
  split
  · have : (-n) / d = -(q + 1) := div_is hd (by rw [Int.neg_mul, Int.add_mul]; omega) (by rw [show -(q + 1) + 1 = -q by omega, Int.neg_mul]; omega)
    omega
  · have : (-n) / d = -q := div_is hd (by rw [Int.neg_mul]; omega) (by rw [Int.add_mul, Int.neg_mul]; omega)
    omega
theorem half_eq {n d : Int} (hd : 0 < d) : (n * 2 + d) / (d * 2) = if d ≤ 2 * rst n d then n / d + 1 else n / d := by
  have hb := rst_bd n hd
  have he := rst_eq n d
  generalize n / d = q at *
  generalize rst n d = r at *
  have e1 : q * (d * 2) = q * d * 2 := by rw [Int.mul_assoc]
  split
  · exact div_is (by omega) (by rw [Int.add_mul, e1]; omega) (by rw [Int.add_mul, Int.add_mul, e1]; omega)
  · exact div_is (by omega) (by rw [e1]; omega) (by rw [Int.add_mul, e1]; omega)
/-- In lowest terms, the half lies at the denominator 2 alone. -/
theorem half_two {n d : Int} (hd : 0 < d) (hg : (Int.gcd n d : Int) = 1) : 2 * rst n d = d ↔ d = 2 := by
  have hb := rst_bd n hd
  have he := rst_eq n d
  constructor
  · intro h
    have h1 : d ∣ 2 * n := ⟨2 * (n / d) + 1, by
      have : d * (2 * (n / d) + 1) = 2 * (n / d * d) + d := by rw [Int.mul_add, Int.mul_one, Int.mul_left_comm, Int.mul_comm d]
      omega⟩
    have h2 : d ∣ 2 := by
      have hc : Nat.Coprime d.natAbs n.natAbs := by
        have e : Int.gcd n d = Nat.gcd n.natAbs d.natAbs := rfl
        unfold Nat.Coprime
        rw [Nat.gcd_comm]
        omega
      have h3 := Int.natAbs_dvd_natAbs.2 h1
      rw [Int.natAbs_mul] at h3
      exact Int.natAbs_dvd_natAbs.1 (hc.dvd_of_dvd_mul_right h3)
    have h3 := Int.le_of_dvd (by omega) h2
    omega
  · rintro rfl
    have h0 : rst n 2 ≠ 0 := by
      intro h0
      rw [h0] at he
      have : (2 : Int) ∣ (Int.gcd n 2 : Int) := Int.dvd_coe_gcd ⟨n / 2, by omega⟩ ⟨1, rfl⟩
      rw [hg] at this
      omega
    omega
/-- The four ways of rounding: down, up, halves up, halves to the even number. -/
def rnd (n d m : Int) : Int :=
  if m = 1 then n / d else if m = 2 then (if 0 < rst n d then n / d + 1 else n / d)
  else if m = 3 then (if d ≤ 2 * rst n d then n / d + 1 else n / d)
  else (if d < 2 * rst n d ∨ (2 * rst n d = d ∧ n / d % 2 = 1) then n / d + 1 else n / d)
theorem rnd1 (n d : Int) : rnd n d 1 = n / d := rfl
theorem rnd2 {n d : Int} (hd : 0 < d) : rnd n d 2 = -((-n) / d) := by rw [up_eq hd]; rfl
theorem rnd3 {n d : Int} (hd : 0 < d) : rnd n d 3 = (n * 2 + d) / (d * 2) := by rw [half_eq hd]; rfl
/-- Halves to the even number, as the program has it. -/
theorem rnd4 {n d : Int} (hd : 0 < d) (hg : (Int.gcd n d : Int) = 1) :
    rnd n d 4 = if d = 2 ∧ ¬ ((n * 2 + d) / (d * 2)).tmod 2 = 0 then (n * 2 + d) / (d * 2) - 1 else (n * 2 + d) / (d * 2) := by
  have h2 := half_two hd hg
  have hm : ∀ x : Int, x.tmod 2 = 0 ↔ x % 2 = 0 := fun x => by rw [← Int.dvd_iff_tmod_eq_zero, Int.dvd_iff_emod_eq_zero]
  rw [half_eq hd]
  unfold rnd
  rw [if_neg (by omega), if_neg (by omega), if_neg (by omega)]
  simp only [hm]
  generalize n / d = q at *
  generalize rst n d = r at *
  by_cases c : 2 * r = d
  · have hd2 := h2.1 c
    rw [if_pos (show d ≤ 2 * r by omega)]
    by_cases o : q % 2 = 1
    · rw [if_pos (Or.inr ⟨c, o⟩), if_neg (by omega)]
    · rw [if_neg (by omega), if_pos (by omega)]; omega
  · have hd2 : d ≠ 2 := fun h => c (h2.2 h)
    rw [if_neg (show ¬ (d = 2 ∧ _) from fun h => hd2 h.1)]
    by_cases o : d < 2 * r
    · rw [if_pos (Or.inl o), if_pos (by omega)]
    · rw [if_neg (by omega), if_neg (by omega)]
theorem div_bd {n d B : Int} (hd : 0 < d) (hB : 0 ≤ B) (h1 : -B ≤ n) (h2 : n ≤ B) : -B ≤ n / d ∧ n / d ≤ B := by
  constructor
  · refine Int.le_ediv_of_mul_le hd ?_
    have : B * 1 ≤ B * d := Int.mul_le_mul_of_nonneg_left (by omega) hB
    rw [Int.neg_mul]; omega
  · have h : n / d < B + 1 := by
      refine Int.ediv_lt_of_lt_mul hd ?_
      have : (B + 1) * 1 ≤ (B + 1) * d := Int.mul_le_mul_of_nonneg_left (by omega) (by omega)
      omega
    omega
theorem rnd_bd {n d m : Int} (h : okB n d = true) : -1000000000001 ≤ rnd n d m ∧ rnd n d m ≤ 1000000000001 := by
  obtain ⟨h1, h2, h3, h4⟩ := ok_bd h
  have b := div_bd (n := n) (d := d) (by omega) (by omega : (0 : Int) ≤ 1000000000000) h3 h4
  unfold rnd
  repeat' split
  all_goals omega
/-- The last bit. -/
theorem and_one (x : Int) : bits .and .i64 x 1 = x % 2 := by
  have e : (((BitVec.ofInt IntKind.i64.bits x) &&& (BitVec.ofInt IntKind.i64.bits 1)).toNat : Int) = x % 2 := by
    rw [BitVec.toNat_and]
    have : (BitVec.ofInt IntKind.i64.bits 1).toNat = 1 := by decide
    rw [this, Nat.and_one_is_mod, BitVec.toNat_ofInt]
    have : ((2 ^ IntKind.i64.bits : Nat) : Int) = 18446744073709551616 := by decide
    rw [this]
    omega
  show IntKind.i64.wrap (((BitVec.ofInt IntKind.i64.bits x) &&& (BitVec.ofInt IntKind.i64.bits (1 : Int))).toNat : Int) = x % 2
  rw [e, IntWalk.i64_in _ (by omega)]
end Go.Proofs.Ytkfgflmhefbinaa.RoundMath
