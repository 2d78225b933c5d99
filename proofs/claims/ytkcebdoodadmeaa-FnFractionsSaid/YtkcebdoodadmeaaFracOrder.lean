/- Plain mathematics of small fractions: sums and differences undo each other, so do products and quotients; the order is that of the differences. Imports nothing of the dump. -/
import Derived.Test.YtkcebdoodadmeaaFracMath
namespace Go.Proofs.Ytkcebdoodadmeaa.FracOrder
open FracMath

theorem red_eq {N D a b : Int} (hD : 0 < D) (hb : 0 < b) (h : N * b = a * D) : red N D = red a b := by
  rw [← red_mul (k := b) hb, Int.mul_comm b N, h, Int.mul_comm a D, Int.mul_comm b D, red_mul hD]
/-- What comes out of small terms fits. -/
theorem red_fit {n d : Int} (hd : 0 < d) (N : Int) (hN : N ≤ 1000000000000) (h1 : -N ≤ n) (h2 : n ≤ N) (h3 : d ≤ 1000000) :
    ∃ x y, red n d = (x, y, true) ∧ okB x y = true ∧ x * d = n * y ∧ 1 ≤ y ∧ y ≤ d ∧ -N ≤ x ∧ x ≤ N := by
  obtain ⟨⟨b1, b2⟩, b3⟩ := low_le (n := n) (d := d) hd N h1 h2
  have hf : fitB n d = true := by unfold fitB; simp; omega
  have hr := red_yes (n := n) (d := d) (by omega) hf
  have hc := red_cross (n := n) (d := d) (by rw [hr])
  have ho := red_okB (n := n) (d := d) (by rw [hr])
  rw [hr] at hc ho
  exact ⟨_, _, hr, ho, hc, lowD_pos (by omega), b3, b1, b2⟩

theorem ok_small {n d : Int} (h : SmallF n d) : okB n d = true := h.ok
theorem prod_bd {a d : Int} (h1 : -1000 ≤ a) (h2 : a ≤ 1000) (h3 : 1 ≤ d) (h4 : d ≤ 60) : -60000 ≤ a * d ∧ a * d ≤ 60000 := by
  have := mul_bd (x := a) (y := d) (A := 1000) (B := 60) h1 h2 (by omega) h4 (by omega)
  omega
theorem den_bd {b d : Int} (h1 : 1 ≤ b) (h2 : b ≤ 60) (h3 : 1 ≤ d) (h4 : d ≤ 60) : 0 < b * d ∧ b * d ≤ 3600 := by
  have := mul_bd (x := b) (y := d) (A := 60) (B := 60) (by omega) h2 (by omega) h4 (by omega)
  exact ⟨Int.mul_pos (by omega) (by omega), by omega⟩

theorem sum_small {a b c d : Int} (h : SmallF a b) (k : SmallF c d) : ∃ x y, sumR a b c d = (x, y, true) ∧ okB x y = true ∧ subR x y c d = (a, b, true) := by
  obtain ⟨m1, m2⟩ := prod_bd h.n1 h.n2 k.d1 k.d2
  obtain ⟨m3, m4⟩ := prod_bd k.n1 k.n2 h.d1 h.d2
  obtain ⟨m5, m6⟩ := den_bd h.d1 h.d2 k.d1 k.d2
  obtain ⟨x, y, hr, ho, hx, hy, _⟩ := red_fit (n := a * d + c * b) (d := b * d) m5 120000 (by omega) (by omega) (by omega) (by omega)
  have hd := k.d1
  have hb := h.d1
  refine ⟨x, y, by simp only [sumR, h.ok, k.ok, and_self, if_true, hr], ho, ?_⟩
  simp only [subR, ho, k.ok, and_self, if_true]
  rw [red_eq (a := a) (b := b) (Int.mul_pos (by omega) (by omega)) (by omega), red_ok h.ok]
  have e : x * (b * d) = (a * d + c * b) * y := hx
  have e1 : (x * d + -c * y) * b = x * (b * d) + -(c * b * y) := by
    rw [Int.add_mul, Int.neg_mul, Int.neg_mul, Int.mul_assoc x d b, Int.mul_comm d b, Int.mul_assoc c y b, Int.mul_comm y b, Int.mul_assoc c b y]
  rw [e1, e, Int.add_mul, Int.mul_assoc a d y, Int.mul_comm d y]
  omega

theorem mul_small {a b c d : Int} (h : SmallF a b) (k : SmallF c d) :
    ∃ x y, mulR a b c d = (x, y, true) ∧ (c = 0 → x = 0) ∧ (c ≠ 0 → divR x y c d = (a, b, true)) := by
  have hd := k.d1
  have hb := h.d1
  have m1 := mul_bd' (x := a) (y := c) (A := 1000) (B := 1000) h.n1 h.n2 k.n1 k.n2 (by omega)
  obtain ⟨m5, m6⟩ := den_bd h.d1 h.d2 k.d1 k.d2
  obtain ⟨x, y, hr, ho, hx, hy1, hy2, hx1, hx2⟩ := red_fit (n := a * c) (d := b * d) m5 1000000 (by omega) (by omega) (by omega) (by omega)
  have f1 : facB a b = true := by simp only [facB, h.ok, Bool.true_and]; exact inB_yes (by have := h.n1; omega) (by have := h.n2; omega)
  have f2 : facB c d = true := by simp only [facB, k.ok, Bool.true_and]; exact inB_yes (by have := k.n1; omega) (by have := k.n2; omega)
  have f3 : facB x y = true := by simp only [facB, ho, Bool.true_and]; exact inB_yes (by omega) (by omega)
  refine ⟨x, y, by simp only [mulR, f1, f2, and_self, if_true, hr], fun h0 => ?_, fun h0 => ?_⟩
  · subst h0
    rw [Int.mul_zero, Int.zero_mul] at hx
    rcases Int.mul_eq_zero.1 hx with e | e
    · exact e
    · omega
  · simp only [divR, f3, f2, and_self, if_true]
    have e : x * d * b = a * (y * c) := by
      rw [Int.mul_assoc, Int.mul_comm d b, hx, Int.mul_assoc, Int.mul_comm c y]
    by_cases hc : 0 < c
    · rw [red_eq (a := a) (b := b) (Int.mul_pos (by omega) hc) (by omega) e, red_ok h.ok]
    · rw [← red_neg, red_eq (a := a) (b := b) (D := -(y * c)) (by have := Int.mul_pos (show 0 < y by omega) (show 0 < -c by omega); rw [Int.mul_neg] at this; omega) (by omega) (by rw [Int.neg_mul, e, Int.mul_neg]), red_ok h.ok]

theorem div_zero (a b d : Int) : divR a b 0 d = (0, 0, false) := by
  unfold divR
  rw [Int.mul_zero, red_zero]
  split <;> rfl
theorem cmp_same {a b : Int} (h : okB a b = true) : cmpI a b a b = 0 := by
  simp only [cmpI, h, and_self, if_true]
  have : a * b + -a * b = 0 := by rw [Int.neg_mul]; omega
  rw [this]; rfl

theorem new_three {a b : Int} (h : SmallF a b) : newR (-3 * a) (-3 * b) = (a, b, true) := by
  have h1 := h.n1
  have h2 := h.n2
  have h3 := h.d1
  have h4 := h.d2
  have e1 : -3 * a = -(3 * a) := by omega
  have e2 : -3 * b = -(3 * b) := by omega
  simp only [newR]
  rw [if_pos (by omega), e1, e2, red_neg, red_mul (by omega), red_ok h.ok]

/-- The order of two fractions, and the sign of their difference. -/
theorem order_small {a b c d : Int} (h : SmallF a b) (k : SmallF c d) : ∃ x y, subR a b c d = (x, y, true) ∧
    ((cmpI a b c d = -1 ∧ cmpI c d a b = 1 ∧ x < 0) ∨ (cmpI a b c d = 0 ∧ cmpI c d a b = 0 ∧ x = 0) ∨ (cmpI a b c d = 1 ∧ cmpI c d a b = -1 ∧ 0 < x)) := by
  obtain ⟨m1, m2⟩ := prod_bd h.n1 h.n2 k.d1 k.d2
  obtain ⟨m3, m4⟩ := prod_bd k.n1 k.n2 h.d1 h.d2
  obtain ⟨m5, m6⟩ := den_bd h.d1 h.d2 k.d1 k.d2
  have en : -c * b = -(c * b) := Int.neg_mul c b
  have en2 : -a * d = -(a * d) := Int.neg_mul a d
  obtain ⟨x, y, hr, ho, hx, hy, _⟩ := red_fit (n := a * d + -c * b) (d := b * d) m5 120000 (by omega) (by omega) (by omega) (by omega)
  refine ⟨x, y, by simp only [subR, h.ok, k.ok, and_self, if_true, hr], ?_⟩
  simp only [cmpI, h.ok, k.ok, and_self, if_true]
  rw [en, en2] at *
  unfold sgnI
  rcases Int.lt_trichotomy (a * d) (c * b) with g | g | g
  · left
    refine ⟨by rw [if_pos (by omega)], by rw [if_neg (by omega), if_pos (by omega)], ?_⟩
    have : (a * d + -(c * b)) * y < 0 := Int.mul_neg_of_neg_of_pos (by omega) (by omega)
    rcases Int.lt_trichotomy x 0 with q | q | q
    · exact q
    · subst q; rw [Int.zero_mul] at hx; omega
    · have := Int.mul_pos q m5; omega
  · right; left
    refine ⟨by rw [if_neg (by omega), if_neg (by omega)], by rw [if_neg (by omega), if_neg (by omega)], ?_⟩
    have e : a * d + -(c * b) = 0 := by omega
    rw [e, Int.zero_mul] at hx
    rcases Int.mul_eq_zero.1 hx with q | q
    · exact q
    · omega
  · right; right
    refine ⟨by rw [if_neg (by omega), if_pos (by omega)], by rw [if_pos (by omega)], ?_⟩
    have : 0 < (a * d + -(c * b)) * y := Int.mul_pos (by omega) (by omega)
    rcases Int.lt_trichotomy x 0 with q | q | q
    · have := Int.mul_neg_of_neg_of_pos q m5; omega
    · subst q; rw [Int.zero_mul] at hx; omega
    · exact q
end Go.Proofs.Ytkcebdoodadmeaa.FracOrder
