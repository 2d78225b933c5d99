/- What designs say of drawn numbers: plain mathematics. -/
import Derived.Test.YthhjnffbafmkpaaAccruMath
import Derived.Test.YthhjnffbafmkpaaRoundC
namespace Go.Proofs.Ythhjnffbafmkpaa.AccruLaws
open Mon AccruMath
open FracMath (red okB mulR newR facB fitB lowN lowD)
theorem grow_is {R b c e : Int} (h1 : 1 ≤ R) (h2 : R ≤ 1000) (b1 : 0 ≤ b) (b2 : b ≤ 1000000000) (c1 : 0 ≤ c) (c2 : c ≤ 1000000000) (e1 : -10000 ≤ e) (e2 : e ≤ 10000) : grow 4 R 0 b c e = b + b * max e R / 10000 + c := by
  have hp : 0 ≤ b * max e R := Int.mul_nonneg b1 (by omega)
  rw [grow_yes (by simp [askG, okD_high (show (3 : Int) ≤ 4 by omega) (show (4 : Int) ≤ 4 by omega) h1 h2, inB_yes b1 b2, inB_yes c1 c2, inB_yes e1 e2]), Int.tdiv_eq_ediv_of_nonneg hp]
/-- How a larger credit, a larger balance and the account's own growth show. -/
theorem growing {R b c e A : Int} (h1 : 1 ≤ R) (h2 : R ≤ 1000) (b1 : 0 ≤ b) (b2 : b ≤ 9999) (c1 : 0 ≤ c) (c2 : c ≤ 9999) (e1 : 0 ≤ e) (e2 : e ≤ 500) (h : grow 4 R 0 b c e = A) :
    grow 4 R 0 b (c + 1) e = A + 1 ∧ A + 100 ≤ grow 4 R 0 (b + 100) c e ∧ b + c ≤ A ∧ A ≤ 100000 ∧ grow 4 R 0 (b + 100) c e ≤ 100000 := by
  have g1 := grow_is h1 h2 b1 (show b ≤ 1000000000 by omega) c1 (show c ≤ 1000000000 by omega) (show -10000 ≤ e by omega) (show e ≤ 10000 by omega)
  have g2 := grow_is h1 h2 b1 (show b ≤ 1000000000 by omega) (show 0 ≤ c + 1 by omega) (show c + 1 ≤ 1000000000 by omega) (show -10000 ≤ e by omega) (show e ≤ 10000 by omega)
  have g3 := grow_is h1 h2 (show 0 ≤ b + 100 by omega) (show b + 100 ≤ 1000000000 by omega) c1 (show c ≤ 1000000000 by omega) (show -10000 ≤ e by omega) (show e ≤ 10000 by omega)
  obtain ⟨M, hM⟩ : ∃ M, max e R = M := ⟨_, rfl⟩
  have m1 : 1 ≤ M := by omega
  have m2 : M ≤ 1000 := by omega
  rw [hM] at g1 g2 g3
  have p0 : 0 ≤ b * M := Int.mul_nonneg b1 (by omega)
  have p1 : b * M ≤ 9999 * 1000 := Int.mul_le_mul b2 m2 (by omega) (by omega)
  have p2 : (b + 100) * M = b * M + 100 * M := Int.add_mul ..
  rw [p2] at g3
  generalize b * M = X at *
  omega
/-- The whole part of a reduced fraction. -/
theorem flo_red {n d : Int} (hd : 0 < d) (h : (red n d).2.2 = true) : RoundI.flo (red n d).1 (red n d).2.1 = n / d := by
  have hk := FracMath.red_okB h
  have hc := FracMath.red_cross h
  have hb := FracMath.ok_bd hk
  rw [RoundI.flo, if_pos hk]
  generalize (red n d).1 = x at *
  generalize (red n d).2.1 = y at *
  have e1 := Int.mul_ediv_add_emod x y
  have e2 := Int.emod_nonneg x (show y ≠ 0 by omega)
  have e3 := Int.emod_lt_of_pos x (show 0 < y by omega)
  generalize x / y = q at *
  refine (RoundMath.div_is hd ?_ ?_).symm
  · refine Int.le_of_mul_le_mul_right ?_ (show 0 < y by omega)
    have : q * d * y = y * q * d := by simp only [Int.mul_left_comm, Int.mul_comm]
    rw [this, ← hc]
    exact Int.mul_le_mul_of_nonneg_right (by omega) (by omega)
  · refine Int.lt_of_mul_lt_mul_right (a := y) ?_ (by omega)
    have : (q + 1) * d * y = (y * q + y) * d := by rw [Int.add_mul, Int.add_mul, Int.add_mul, Int.one_mul]; simp only [Int.mul_left_comm, Int.mul_comm]
    rw [this, ← hc]
    exact Int.mul_lt_mul_of_pos_right (by omega) hd
theorem red_ok' {n d N : Int} (hd : 0 < d) (hd2 : d ≤ 1000000) (h1 : -N ≤ n) (h2 : n ≤ N) (hN : N ≤ 1000000000000) : (red n d).2.2 = true := by
  obtain ⟨b1, b2⟩ := FracMath.low_le (n := n) hd N h1 h2
  rw [FracMath.red_yes (by omega) (by unfold FracMath.fitB; simp; omega)]
theorem facB_one {R : Int} (h1 : 0 ≤ R) (h2 : R ≤ 1000000) : facB R 1 = true := by
  have : okB R 1 = true := FracMath.okB_yes (by omega) (by omega) (by omega) (by omega) (by simp)
  rw [facB, this]
  simp [FracMath.inB]
  omega
/-- A fraction in lowest terms times another number over the same terms. -/
theorem mul_red {c p R S : Int} (hp : 0 < p) (hp2 : p ≤ 1000000) (h1 : 0 ≤ c) (h2 : c ≤ 1000000) (hf : facB R S = true) : mulR (red c p).1 (red c p).2.1 R S = red (c * R) (p * S) := by
  have hr := red_ok' hp hp2 (show -1000000 ≤ c by omega) h2 (by omega)
  have hk := FracMath.red_okB hr
  have hc := FracMath.red_cross hr
  have hb := FracMath.ok_bd hk
  have hl := (FracMath.low_le (n := c) hp 1000000 (by omega) h2).1
  have hx : (red c p).1 ≤ 1000000 ∧ -1000000 ≤ (red c p).1 := by
    unfold red at hr ⊢
    split at hr
    next h => rw [if_pos h]; exact ⟨hl.2, hl.1⟩
    next => simp at hr
  generalize (red c p).1 = a at *
  generalize (red c p).2.1 = b at *
  have hfa : facB a b = true := by rw [facB, hk]; simp [FracMath.inB]; omega
  rw [mulR, if_pos ⟨hfa, hf⟩, ← FracMath.red_mul (k := p) hp, ← FracMath.red_mul (k := b) (n := c * R) (d := p * S) (by omega)]
  have e1 : p * (a * R) = b * (c * R) := by
    rw [show p * (a * R) = (a * p) * R by simp only [Int.mul_left_comm, Int.mul_comm], hc]
    simp only [Int.mul_left_comm, Int.mul_comm]
  have e2 : p * (b * S) = b * (p * S) := by simp only [Int.mul_left_comm]
  rw [e1, e2]
theorem units_pen {c p R : Int} (c1 : 0 ≤ c) (c2 : c ≤ 9999) (p1 : 1 ≤ p) (p2 : p ≤ 500) (R1 : 1 ≤ R) (R2 : R ≤ 900) : upen 3 R 0 (units c p).1 (units c p).2 = (c * R / p, true) := by
  have hu : units c p = ((red c p).1, (red c p).2.1) := by
    rw [units_yes (inB_yes c1 (by omega)) (inB_yes p1 (by omega)), newR, if_pos (by omega)]
  rw [hu]
  have hr := red_ok' (n := c) (d := p) (N := 9999) (by omega) (by omega) (by omega) c2 (by omega)
  have hk := FracMath.red_okB hr
  have hm := mul_red (c := c) (p := p) (R := R) (S := 1) (by omega) (by omega) c1 (by omega) (facB_one (by omega) (by omega))
  rw [Int.mul_one] at hm
  have h0 : 0 ≤ c * R := Int.mul_nonneg c1 (by omega)
  have h1 : c * R ≤ 9999 * 900 := Int.mul_le_mul c2 R2 (by omega) (by omega)
  have hq := red_ok' (n := c * R) (d := p) (N := 8999100) (by omega) (by omega) (by omega) (by omega) (by omega)
  have hn : 0 ≤ (red c p).1 := by
    have hc := FracMath.red_cross hr
    have hb := FracMath.ok_bd hk
    by_cases hx : 0 ≤ (red c p).1
    · exact hx
    · have hneg : (red c p).1 * p < 0 := Int.mul_neg_of_neg_of_pos (by omega) (by omega)
      have : 0 ≤ c * (red c p).2.1 := Int.mul_nonneg c1 (by omega)
      omega
  rw [upen_yes (by simp [askU, okD_high (show (3 : Int) ≤ 3 by omega) (show (3 : Int) ≤ 4 by omega) R1 (by omega : R ≤ 1000), hk, hn]), hm, flo_red (by omega) hq, hq]
theorem units_72 : units 7 2 = (7, 2) := by decide +kernel
theorem mul_comm' (a b c d : Int) : mulR a b c d = mulR c d a b := by
  unfold mulR
  rw [Int.mul_comm a c, Int.mul_comm b d]
  by_cases h : facB a b = true ∧ facB c d = true
  · rw [if_pos h, if_pos ⟨h.2, h.1⟩]
  · rw [if_neg h, if_neg (fun k => h ⟨k.2, k.1⟩)]
theorem red_whole {y : Int} (h1 : 0 ≤ y) (h2 : y ≤ 1000000) : red (1200 * y) 1200 = (y, 1, true) := by
  have e := FracMath.red_mul (k := 1200) (n := y) (d := 1) (by omega)
  rw [Int.mul_one] at e
  rw [e]
  exact FracMath.red_ok (FracMath.okB_yes (by omega) (by omega) (by omega) (by omega) (by simp))
/-- What a design of the first two kinds accrues in y whole years, for a pay of 100 k. -/
theorem accr_at {K R C k s y : Int} (K1 : 1 ≤ K) (K2 : K ≤ 2) (R1 : 1 ≤ R) (R2 : R ≤ 200) (C1 : 1 ≤ C) (C2 : C ≤ 60) (k1 : 1 ≤ k) (k2 : k ≤ 209) (s1 : 0 ≤ s) (s2 : s ≤ 72000) (hs : min s (C * 1200) = 1200 * y) (y1 : 0 ≤ y) (y2 : y ≤ 60) :
    accr K R C s (100 * k) 1 = red (R * k * y) 100 ∧ (red (R * k * y) 100).2.2 = true := by
  have hN : facB (100 * k) 1 = true := facB_one (by omega) (by omega)
  have hokN : okB (100 * k) 1 = true := FracMath.okB_yes (by omega) (by omega) (by omega) (by omega) (by simp)
  have p0 : 0 ≤ R * k := Int.mul_nonneg (by omega) (by omega)
  have p1 : R * k ≤ 200 * 209 := Int.mul_le_mul R2 k2 (by omega) (by omega)
  have p2 : 0 ≤ R * k * y := Int.mul_nonneg p0 y1
  have p3 : R * k * y ≤ 41800 * 60 := Int.mul_le_mul (by omega) y2 y1 (by omega)
  have hx : mulR (100 * k) 1 (rte R).1 (rte R).2.1 = red (R * k) 100 := by
    rw [rte, newR, if_pos (by omega), mul_comm', mul_red (by omega) (by omega) (by omega) (by omega) hN, Int.mul_one, show R * (100 * k) = 100 * (R * k) by simp only [Int.mul_left_comm], show (10000 : Int) = 100 * 100 by decide]
    exact FracMath.red_mul (by omega)
  have hy : yrs C s = (y, 1, true) := by
    rw [yrs, newR, if_pos (by omega), hs, red_whole y1 (by omega)]
  have h1 := red_ok' (n := R * k) (d := 100) (N := 41800) (by omega) (by omega) (by omega) (by omega) (by omega)
  have h2 := red_ok' (n := R * k * y) (d := 100) (N := 2508000) (by omega) (by omega) (by omega) (by omega) (by omega)
  refine ⟨?_, h2⟩
  rw [accr_yes (by simp [askA, okD_low K1 K2 R1 (show R ≤ 1000 by omega) C1 C2, K2, inB_yes s1 s2, hokN]; omega), prods, hx, hy, if_pos h1]
  show mulR (red (R * k) 100).1 (red (R * k) 100).2.1 y 1 = _
  rw [mul_red (by omega) (by omega) p0 (by omega) (facB_one y1 (by omega))]
  rfl
/-- Twice what a year accrues is what two years accrue. -/
theorem twice {R k : Int} (R1 : 1 ≤ R) (R2 : R ≤ 200) (k1 : 1 ≤ k) (k2 : k ≤ 209) : FracMath.sumR (red (R * k * 1) 100).1 (red (R * k * 1) 100).2.1 (red (R * k * 1) 100).1 (red (R * k * 1) 100).2.1 = red (R * k * 2) 100 := by
  have p0 : 0 ≤ R * k := Int.mul_nonneg (by omega) (by omega)
  have p1 : R * k ≤ 200 * 209 := Int.mul_le_mul R2 k2 (by omega) (by omega)
  rw [Int.mul_one]
  have h1 := red_ok' (n := R * k) (d := 100) (N := 41800) (by omega) (by omega) (by omega) (by omega) (by omega)
  have hk := FracMath.red_okB h1
  have hb := FracMath.ok_bd hk
  have hm := mul_red (c := R * k) (p := 100) (R := 2) (S := 1) (by omega) (by omega) p0 (by omega) (facB_one (by omega) (by omega))
  rw [Int.mul_one] at hm
  rw [← hm]
  have hl := (FracMath.low_le (n := R * k) (d := 100) (by omega) 41800 (by omega) (by omega)).1
  have hx : (red (R * k) 100).1 ≤ 1000000 ∧ -1000000 ≤ (red (R * k) 100).1 := by
    unfold red at h1 ⊢
    split at h1
    next h => rw [if_pos h]; simp only []; omega
    next => simp at h1
  generalize (red (R * k) 100).1 = a at *
  generalize (red (R * k) 100).2.1 = b at *
  have hfa : facB a b = true := by rw [facB, hk]; simp [FracMath.inB]; omega
  rw [FracMath.sumR, if_pos ⟨hk, hk⟩, mulR, if_pos ⟨hfa, facB_one (by omega) (by omega)⟩, ← FracMath.red_mul (k := b) (n := a * 2) (d := b * 1) (by omega)]
  rw [show b * (a * 2) = a * b + a * b by rw [← Int.mul_assoc, Int.mul_comm b a]; omega, Int.mul_one]
/-- A guarantee holds whatever was earned. -/
theorem low_is {R b c e : Int} (h1 : 1 ≤ R) (h2 : R ≤ 300) (b1 : 0 ≤ b) (b2 : b ≤ 9999) (c1 : 0 ≤ c) (c2 : c ≤ 9999) (e1 : 0 ≤ e) (e2 : e ≤ 9999) : grow 4 R 0 (b * 100) c (-e) = b * 100 + b * R / 100 + c := by
  have g1 := grow_is h1 (show R ≤ 1000 by omega) (show 0 ≤ b * 100 by omega) (show b * 100 ≤ 1000000000 by omega) c1 (show c ≤ 1000000000 by omega) (show -10000 ≤ -e by omega) (show -e ≤ 10000 by omega)
  rw [g1, Int.max_eq_right (by omega)]
  have : b * 100 * R / 10000 = b * R / 100 := by
    rw [show b * 100 * R = 100 * (b * R) by rw [Int.mul_comm b 100, Int.mul_assoc], show (10000 : Int) = 100 * 100 by decide]
    exact Int.mul_ediv_mul_of_pos _ _ (by omega)
  rw [this]
end Go.Proofs.Ythhjnffbafmkpaa.AccruLaws
