/- What the drawn laws of pay want: plain mathematics. -/
import Derived.Test.YtdmkceaonfbebaaPayLaws
import Derived.Test.YtdmkceaonfbebaaKit
namespace Go.Proofs.Ytdmkceaonfbebaa.PayFacts
open Fact FactMath PayMath PayLaws Mon
open FracMath (red okB cmpI sgnI sumR)
section
variable {l : List Fa} {kn : Int}
theorem fin_paid (h : Paid l) (h3 : 0 ≤ kn) {m : Int} (h1 : 1 ≤ m) (h2 : m ≤ 60) : fin l m kn = pv l kn (m - 1) := by
  obtain ⟨k, hk⟩ : ∃ k : Nat, m = (k : Int) + 1 := ⟨(m - 1).toNat, by omega⟩
  subst hk
  obtain ⟨v, e, _⟩ := h.pv (m := (k : Int)) (by omega) (by omega) h3
  rw [fin_yes (okS_yes h.ok) (inB_yes (by omega) (by omega)), show ((k : Int) + 1).toNat = k + 1 by omega, finTo, e, if_pos rfl, Int.add_sub_cancel, e]
theorem far_to (h : Paid l) (h3 : 0 ≤ kn) : ∀ d : Nat, finTo l kn (60 + d) = pv l kn 59
  | 0 => by
    obtain ⟨v, e, _⟩ := h.pv (m := ((59 : Nat) : Int)) (by omega) (by omega) h3
    rw [show 60 + 0 = 59 + 1 from rfl, finTo, e, if_pos rfl]
    exact e.symm
  | d + 1 => by
    rw [show 60 + (d + 1) = (60 + d) + 1 from rfl, finTo, h.far (by omega), if_neg (by simp)]
    exact far_to h h3 d
theorem fin_far (h : Paid l) (h3 : 0 ≤ kn) {m : Int} (h1 : 60 ≤ m) (h2 : m ≤ 3600) : fin l m kn = pv l kn 59 := by
  obtain ⟨d, hd⟩ : ∃ d : Nat, m = ((60 + d : Nat) : Int) := ⟨(m - 60).toNat, by omega⟩
  subst hd
  rw [fin_yes (okS_yes h.ok) (inB_yes (by omega) (by omega)), Int.toNat_natCast]
  exact far_to h h3 d
theorem fin_none (l : List Fa) (kn : Int) : fin l 0 kn = (0, false) := by
  unfold fin
  split
  · rfl
  · rfl
/-- The mean of n months that all have pay. -/
theorem avg_paid (h : Paid l) (h3 : 0 ≤ kn) {f : Int} {n : Nat} (hf : 0 ≤ f) (hn : f + (n : Int) ≤ 60) (h1 : 1 ≤ n) :
    avg l f (f + (n : Int)) kn = red (sumTo l kn f n) (n : Int) ∧ ∃ x y, avg l f (f + (n : Int)) kn = (x, y, true) ∧ okB x y = true ∧ x * (n : Int) = sumTo l kn f n * y ∧ 1 ≤ y := by
  have e : (f + (n : Int) - f).toNat = n := by omega
  have hc := h.cnt h3 hf n hn
  have hs := h.sum_bd h3 hf n hn
  have e1 : avg l f (f + (n : Int)) kn = red (sumTo l kn f n) (n : Int) := by
    rw [avg_some (by rw [e, hc]; omega), e, hc]
  refine ⟨e1, ?_⟩
  obtain ⟨x, y, hr, ho, hx, hy, _⟩ := FracOrder.red_fit (n := sumTo l kn f n) (d := (n : Int)) (by omega) 20000000 (by omega) (by omega) (by omega) (by omega)
  exact ⟨x, y, e1.trans hr, ho, hx, hy⟩
theorem aver_paid (h : Paid l) {f t : Int} (hf : 0 ≤ f) (hf2 : f ≤ 3600) (ht : 0 ≤ t) (ht2 : t ≤ 3600) : aver l f t kn = avg l f t kn :=
  aver_yes (by rw [rangeB, okS_yes h.ok, inB_yes hf hf2, inB_yes ht ht2]; rfl)
theorem cmp_is {a b c d : Int} (h1 : okB a b = true) (h2 : okB c d = true) : cmpI a b c d = sgnI (a * d + -c * b) := if_pos ⟨h1, h2⟩
theorem sgn_ge {x : Int} : 0 ≤ sgnI x ↔ 0 ≤ x := by
  unfold sgnI
  split
  · omega
  · split <;> omega
theorem sgn_le {x : Int} : sgnI x ≤ 0 ↔ x ≤ 0 := by
  unfold sgnI
  split
  · omega
  · split <;> omega
theorem sgn_gt {x : Int} : 0 < sgnI x ↔ 0 < x := by
  unfold sgnI
  split
  · omega
  · split <;> omega
theorem ok_whole {n : Int} (h1 : -1000000000000 ≤ n) (h2 : n ≤ 1000000000000) : okB n 1 = true := FracMath.okB_yes (by omega) (by omega) h1 h2 (by simp)
/-- The best of the first k windows, all of which have pay. -/
structure Lead (l : List Fa) (kn f len : Int) (k : Nat) (B : Bst) : Prop where
  yes : B.ok = true
  okf : okB B.n B.d = true
  low : f ≤ B.p
  high : B.p < f + (k : Int)
  most : ∀ i : Nat, i < k → (avg l (f + (i : Int)) (f + (i : Int) + len) kn).1 * B.d ≤ B.n * (avg l (f + (i : Int)) (f + (i : Int) + len) kn).2.1
theorem lead (h : Paid l) (h3 : 0 ≤ kn) {f : Int} {n : Nat} (hf : 0 ≤ f) (h1 : 1 ≤ n) : ∀ k : Nat, f + (k : Int) + (n : Int) ≤ 60 → Lead l kn f (n : Int) (k + 1) (bestTo l kn f (n : Int) (k + 1))
  | 0, hk => by
    obtain ⟨_, x, y, e, ho, _, hy⟩ := avg_paid h h3 (f := f + ((0 : Nat) : Int)) (n := n) (by omega) (by omega) h1
    have hb : bestTo l kn f (n : Int) 1 = ⟨x, y, f + ((0 : Nat) : Int), true⟩ := by
      rw [best_succ, best_zero, e]
      exact better_yes (by simp [taken, bst0])
    rw [hb]
    refine ⟨rfl, ho, by simp, by simp; omega, fun i hi => ?_⟩
    obtain rfl : i = 0 := by omega
    rw [e]
    exact Int.le_refl _
  | k + 1, hk => by
    have ih := lead h h3 hf h1 k (by omega)
    obtain ⟨_, x, y, e, ho, _, hy⟩ := avg_paid h h3 (f := f + ((k + 1 : Nat) : Int)) (n := n) (by omega) (by omega) h1
    rw [best_succ, e]
    obtain ⟨B, hB⟩ : ∃ B, bestTo l kn f (n : Int) (k + 1) = B := ⟨_, rfl⟩
    rw [hB] at ih ⊢
    obtain ⟨yes, okf, low, high, most⟩ := ih
    have hc := cmp_is (a := x) (b := y) ho okf
    have hd := (FracMath.ok_bd okf).1
    by_cases ht : 0 < cmpI x y B.n B.d
    · rw [better_yes (by simp [taken, yes, ht])]
      rw [hc, sgn_gt, Int.neg_mul] at ht
      refine ⟨rfl, ho, by simp only []; omega, by simp only []; omega, fun i hi => ?_⟩
      by_cases hi2 : i = k + 1
      · subst hi2; rw [e]; exact Int.le_refl _
      · have hm := most i (by omega)
        obtain ⟨_, x', y', e', _, _, hy'⟩ := avg_paid h h3 (f := f + (i : Int)) (n := n) (by omega) (by omega) h1
        rw [e'] at hm ⊢
        simp only [] at hm ⊢
        have s1 : x' * B.d * y ≤ B.n * y' * y := Int.mul_le_mul_of_nonneg_right hm (by omega)
        have s2 : B.n * y * y' ≤ x * B.d * y' := Int.mul_le_mul_of_nonneg_right (by omega) (by omega)
        have s3 : B.d * (x' * y) ≤ B.d * (x * y') := by
          rw [show B.d * (x' * y) = x' * B.d * y by rw [Int.mul_comm B.d, Int.mul_assoc, Int.mul_assoc, Int.mul_comm y], show B.d * (x * y') = x * B.d * y' by rw [Int.mul_comm B.d, Int.mul_assoc, Int.mul_assoc, Int.mul_comm y']]
          have s4 : B.n * y' * y = B.n * y * y' := by rw [Int.mul_assoc, Int.mul_comm y', Int.mul_assoc]
          omega
        exact Int.le_of_mul_le_mul_left s3 (by omega)
    · rw [better_no (by simp [taken, yes, ht])]
      rw [hc, sgn_gt, Int.neg_mul] at ht
      refine ⟨yes, okf, low, by omega, fun i hi => ?_⟩
      by_cases hi2 : i = k + 1
      · subst hi2; rw [e]; simp only []; omega
      · exact most i (by omega)
theorem best_paid (h : Paid l) (h3 : 0 ≤ kn) {f : Int} {n k : Nat} (hf : 0 ≤ f) (h1 : 1 ≤ n) (h2 : n ≤ 60) (hk : f + (k : Int) + (n : Int) ≤ 60) :
    Lead l kn f (n : Int) (k + 1) (best l f (f + (k : Int) + (n : Int)) (n : Int) kn) := by
  rw [best_yes (by rw [rangeB, okS_yes h.ok, inB_yes hf (by omega), inB_yes (by omega) (by omega)]; rfl) (inB_yes (by omega) (by omega)), show (f + (k : Int) + (n : Int) - (n : Int) - f + 1).toNat = k + 1 by omega]
  exact lead h h3 hf h1 k hk
end
/-- The least and the greatest pay of the first n months from f on, as the law collects them. -/
def lowTo (l : List Fa) (kn f : Int) : Nat → Int
  | 0 => 1000000000
  | n + 1 => min (lowTo l kn f n) (pv l kn (f + (n : Int))).1
def highTo (l : List Fa) (kn f : Int) : Nat → Int
  | 0 => 0
  | n + 1 => max (highTo l kn f n) (pv l kn (f + (n : Int))).1
section
variable {l : List Fa} {kn f : Int}
theorem low_bd (h : Paid l) (h3 : 0 ≤ kn) (hf : 0 ≤ f) : ∀ n : Nat, f + (n : Int) ≤ 60 → 100000 ≤ lowTo l kn f n ∧ lowTo l kn f n ≤ 1000000000 ∧ lowTo l kn f n * (n : Int) ≤ sumTo l kn f n
  | 0, _ => by simp [lowTo, sum_zero]
  | n + 1, hn => by
    have ih := low_bd h h3 hf n (by omega)
    obtain ⟨v, e, h1, h2⟩ := h.pv (m := f + (n : Int)) (by omega) (by omega) h3
    rw [sum_succ, lowTo, e]
    simp only [amt, if_true]
    have hm : min (lowTo l kn f n) v ≤ lowTo l kn f n := Int.min_le_left _ _
    have hm2 : min (lowTo l kn f n) v ≤ v := Int.min_le_right _ _
    have h4 : min (lowTo l kn f n) v * (n : Int) ≤ lowTo l kn f n * (n : Int) := Int.mul_le_mul_of_nonneg_right hm (by omega)
    refine ⟨by omega, by omega, ?_⟩
    rw [show ((n + 1 : Nat) : Int) = (n : Int) + 1 by omega, Int.mul_add, Int.mul_one]
    omega
theorem high_bd (h : Paid l) (h3 : 0 ≤ kn) (hf : 0 ≤ f) : ∀ n : Nat, f + (n : Int) ≤ 60 → 0 ≤ highTo l kn f n ∧ highTo l kn f n ≤ 199900 ∧ sumTo l kn f n ≤ highTo l kn f n * (n : Int)
  | 0, _ => by simp [highTo, sum_zero]
  | n + 1, hn => by
    have ih := high_bd h h3 hf n (by omega)
    obtain ⟨v, e, h1, h2⟩ := h.pv (m := f + (n : Int)) (by omega) (by omega) h3
    rw [sum_succ, highTo, e]
    simp only [amt, if_true]
    have hm : highTo l kn f n ≤ max (highTo l kn f n) v := Int.le_max_left _ _
    have hm2 : v ≤ max (highTo l kn f n) v := Int.le_max_right _ _
    have h4 : highTo l kn f n * (n : Int) ≤ max (highTo l kn f n) v * (n : Int) := Int.mul_le_mul_of_nonneg_right hm (by omega)
    refine ⟨by omega, by omega, ?_⟩
    rw [show ((n + 1 : Nat) : Int) = (n : Int) + 1 by omega, Int.mul_add, Int.mul_one]
    omega
end
/-- The mean is no less than the least, and no greater than the greatest. -/
theorem cmp_low {x y S n a : Int} (ho : okB x y = true) (hn : 1 ≤ n) (hx : x * n = S * y) (ha : a * n ≤ S) (h1 : -1000000000000 ≤ a) (h2 : a ≤ 1000000000000) : 0 ≤ cmpI x y a 1 := by
  have hy := (FracMath.ok_bd ho).1
  rw [cmp_is ho (ok_whole h1 h2), sgn_ge]
  have e1 : a * n * y ≤ S * y := Int.mul_le_mul_of_nonneg_right ha (by omega)
  have e2 : n * (a * y) ≤ n * x := by
    rw [show n * (a * y) = a * n * y by rw [Int.mul_comm n, Int.mul_assoc, Int.mul_assoc, Int.mul_comm y], Int.mul_comm n x, hx]
    exact e1
  have := Int.le_of_mul_le_mul_left e2 (by omega)
  rw [Int.neg_mul]
  omega
theorem cmp_high {x y S n a : Int} (ho : okB x y = true) (hn : 1 ≤ n) (hx : x * n = S * y) (ha : S ≤ a * n) (h1 : -1000000000000 ≤ a) (h2 : a ≤ 1000000000000) : cmpI x y a 1 ≤ 0 := by
  have hy := (FracMath.ok_bd ho).1
  rw [cmp_is ho (ok_whole h1 h2), sgn_le]
  have e1 : S * y ≤ a * n * y := Int.mul_le_mul_of_nonneg_right ha (by omega)
  have e2 : n * x ≤ n * (a * y) := by
    rw [show n * (a * y) = a * n * y by rw [Int.mul_comm n, Int.mul_assoc, Int.mul_assoc, Int.mul_comm y], Int.mul_comm n x, hx]
    exact e1
  have := Int.le_of_mul_le_mul_left e2 (by omega)
  rw [Int.neg_mul]
  omega
/-- A series with one point. -/
theorem idx_one {v M kn : Int} (h1 : 0 ≤ M) (h2 : 0 ≤ kn) : PointMath.idx M kn [⟨0, 0, v⟩] = (v, true) := by
  have e : PointMath.bestOf M kn [⟨0, 0, v⟩] = some ⟨0, 0, v⟩ := PointMath.better_yes (b := none) h1 h2 (fun y hy => by cases hy)
  unfold PointMath.idx
  rw [e]
  rfl
theorem ser_one {v : Int} (h1 : 1 ≤ v) (h2 : v ≤ 1000000) : PointMath.okS [⟨0, 0, v⟩] = true :=
  PointMath.okS_yes ⟨by simp, fun i hi => by
    obtain rfl : i = 0 := by simp at hi; omega
    exact PointMath.okP_yes ⟨by simp, by simp, by simp, by simp; omega, by simp; omega⟩, fun i hi => by simp at hi⟩
theorem rev_const {l : List Fa} (h : Paid l) {kn f c : Int} (h3 : 0 ≤ kn) (hf : 0 ≤ f) (hc : 1 ≤ c) : ∀ n : Nat, f + (n : Int) ≤ 60 → revTo l [⟨0, 0, c⟩] kn f c n = sumTo l kn f n
  | 0, _ => rfl
  | n + 1, hn => by
    obtain ⟨v, e, h1, h2⟩ := h.pv (m := f + (n : Int)) (by omega) (by omega) h3
    rw [rev_succ, sum_succ, rev_const h h3 hf hc n (by omega), e, idx_one (by omega) h3]
    unfold rev1 amt
    rw [if_pos ⟨rfl, rfl, by simp only []; omega⟩, if_pos rfl, Int.mul_tdiv_cancel _ (by omega)]
theorem rev_same {l : List Fa} (h : Paid l) {kn c : Int} {n : Nat} (h3 : 0 ≤ kn) (hc : 1 ≤ c) (hc2 : c ≤ 1000000) (h1 : 1 ≤ n) (hn : n ≤ 60) : rev l [⟨0, 0, c⟩] 0 (n : Int) kn = sumTo l kn 0 n := by
  have e := idx_one (v := c) (M := (n : Int) - 1) (kn := kn) (by omega) h3
  rw [rev_yes (by rw [rangeB, okS_yes h.ok, inB_yes (by omega) (by omega), inB_yes (by omega) (by omega)]; rfl) (ser_one hc hc2) (by rw [e]), e]
  simp only [Int.sub_zero, Int.toNat_natCast]
  exact rev_const h h3 (by omega) hc n (by omega)
theorem rev_none (l : List Fa) (f t kn : Int) : rev l [] f t kn = 0 := rev_no3 rfl
/-- Sums of means. -/
theorem sum_two {a b c d S T n : Int} (h1 : okB a b = true) (h2 : okB c d = true) (hn : 0 < n) (ha : a * n = S * b) (hc : c * n = T * d) : sumR a b c d = red (S + T) n := by
  have hb := (FracMath.ok_bd h1).1
  have hd := (FracMath.ok_bd h2).1
  rw [sumR, if_pos ⟨h1, h2⟩]
  refine FracOrder.red_eq (Int.mul_pos (by omega) (by omega)) hn ?_
  rw [Int.add_mul, Int.add_mul]
  have e1 : a * d * n = S * (b * d) := by rw [Int.mul_assoc, Int.mul_comm d n, ← Int.mul_assoc, ha, Int.mul_assoc]
  have e2 : c * b * n = T * (b * d) := by rw [Int.mul_assoc, Int.mul_comm b n, ← Int.mul_assoc, hc, Int.mul_assoc, Int.mul_comm d b]
  omega
theorem sum_same {x y S n : Int} (h1 : okB x y = true) (hn : 0 < n) (hx : x * (2 * n) = S * y) : sumR x y x y = red S n := by
  have hy := (FracMath.ok_bd h1).1
  rw [sumR, if_pos ⟨h1, h1⟩]
  refine FracOrder.red_eq (Int.mul_pos (by omega) (by omega)) hn ?_
  rw [← Int.mul_assoc, ← hx, ← Int.add_mul, ← Int.two_mul]
  rw [Int.mul_assoc, Int.mul_assoc, Int.mul_comm 2, Int.mul_assoc, Int.mul_comm 2, Int.mul_assoc, Int.mul_assoc]
  congr 1
  rw [Int.mul_comm n 2, Int.mul_comm (2 * n) y, Int.mul_comm 2 n]
theorem sum_split (l : List Fa) (kn f : Int) (n : Nat) : ∀ m : Nat, sumTo l kn f (n + m) = sumTo l kn f n + sumTo l kn (f + (n : Int)) m
  | 0 => by rw [sum_zero, Int.add_zero]; rfl
  | m + 1 => by
    rw [← Nat.add_assoc, sum_succ, sum_succ, sum_split l kn f n m, Int.add_assoc, show f + ((n + m : Nat) : Int) = f + (n : Int) + (m : Int) by omega]
end Go.Proofs.Ytdmkceaonfbebaa.PayFacts
