/- Plain mathematics of fractions: validity, lowest terms, the valid fraction of a quotient; numbers alone. Imports nothing of the dump. -/
import Derived.WalkKit
namespace Go.Proofs.Ytlljhcfiojfimaa.FracMath

/-- lo ≤ x ≤ hi, as a Bool. -/
def inB (x lo hi : Int) : Bool := decide (lo ≤ x ∧ x ≤ hi)
theorem inB_yes {x lo hi : Int} (h1 : lo ≤ x) (h2 : x ≤ hi) : inB x lo hi = true := by simp [inB, h1, h2]
theorem inB_no1 {x lo hi : Int} (h1 : ¬ lo ≤ x) : inB x lo hi = false := by simp [inB, h1]
theorem inB_no2 {x lo hi : Int} (h1 : ¬ x ≤ hi) : inB x lo hi = false := by simp [inB, h1]
/-- Is n/d a valid fraction? -/
def okB (n d : Int) : Bool := decide ((1 ≤ d ∧ d ≤ 1000000) ∧ (-1000000000000 ≤ n ∧ n ≤ 1000000000000) ∧ (Int.gcd n d : Int) = 1)
theorem okB_iff {n d : Int} : okB n d = true ↔ (1 ≤ d ∧ d ≤ 1000000) ∧ (-1000000000000 ≤ n ∧ n ≤ 1000000000000) ∧ (Int.gcd n d : Int) = 1 := by simp [okB]
theorem okB_yes {n d : Int} (h1 : 1 ≤ d) (h2 : d ≤ 1000000) (h3 : -1000000000000 ≤ n) (h4 : n ≤ 1000000000000) (h5 : (Int.gcd n d : Int) = 1) : okB n d = true := okB_iff.2 ⟨⟨h1, h2⟩, ⟨h3, h4⟩, h5⟩
theorem okB_no {n d : Int} (h : ¬ ((1 ≤ d ∧ d ≤ 1000000) ∧ (-1000000000000 ≤ n ∧ n ≤ 1000000000000) ∧ (Int.gcd n d : Int) = 1)) : okB n d = false := by simp only [okB, decide_eq_false_iff_not]; exact h
/-- n with the sign of d. -/
def sg (d n : Int) : Int := if d < 0 then -n else n
def lowN (n d : Int) : Int := sg d n / (Int.gcd n d : Int)
def lowD (n d : Int) : Int := sg d d / (Int.gcd n d : Int)
def fitB (n d : Int) : Bool := decide (lowD n d ≤ 1000000 ∧ (-1000000000000 ≤ lowN n d ∧ lowN n d ≤ 1000000000000))
/-- The valid fraction with the value n/d, and true; or zeros and false. -/
def red (n d : Int) : Int × Int × Bool := if d ≠ 0 ∧ fitB n d = true then (lowN n d, lowD n d, true) else (0, 0, false)
def none3 : Int × Int × Bool := (0, 0, false)

theorem gcd_step (a b : Int) : Int.gcd b (a.tmod b) = Int.gcd a b := by
  have e : a.tmod b = a - a.tdiv b * b := by have := Int.tdiv_mul_add_tmod a b; omega
  rw [e, Int.gcd_comm a b, Int.gcd_sub_mul_right_right]
theorem gcd_pos {n d : Int} (h : d ≠ 0) : 0 < (Int.gcd n d : Int) := by
  have : Int.gcd n d ≠ 0 := fun e => h (Int.gcd_eq_zero_iff.1 e).2
  omega
theorem gcd_le {n d : Int} (h : d ≠ 0) (B : Int) (h1 : -B ≤ d) (h2 : d ≤ B) : (Int.gcd n d : Int) ≤ B := by
  have := Int.gcd_le_natAbs_right n h
  omega
theorem sg_pos {d : Int} (h : 0 < d) (n : Int) : sg d n = n := by simp [sg]; omega
theorem sg_neg {d : Int} (h : d < 0) (n : Int) : sg d n = -n := by simp [sg, h]
theorem dvd_sgN (n d : Int) : (Int.gcd n d : Int) ∣ sg d n := by
  unfold sg; split
  · exact (Int.dvd_neg).2 (Int.gcd_dvd_left n d)
  · exact Int.gcd_dvd_left n d
theorem dvd_sgD (n d : Int) : (Int.gcd n d : Int) ∣ sg d d := by
  unfold sg; split
  · exact (Int.dvd_neg).2 (Int.gcd_dvd_right n d)
  · exact Int.gcd_dvd_right n d
theorem sgD_pos {d : Int} (h : d ≠ 0) : 0 < sg d d := by unfold sg; split <;> omega
theorem lowD_pos {n d : Int} (h : d ≠ 0) : 1 ≤ lowD n d := by
  have h1 := gcd_pos (n := n) h
  have h2 := Int.le_of_dvd (sgD_pos h) (dvd_sgD n d)
  unfold lowD
  exact Int.le_ediv_of_mul_le h1 (by omega)
theorem gcd_sg (n d : Int) : Int.gcd (sg d n) (sg d d) = Int.gcd n d := by unfold sg; split <;> simp
theorem low_gcd {n d : Int} (h : d ≠ 0) : Int.gcd (lowN n d) (lowD n d) = 1 := by
  have h1 : 0 < Int.gcd n d := by have := gcd_pos (n := n) h; omega
  unfold lowN lowD
  have := Int.gcd_ediv_gcd_ediv_gcd (i := sg d n) (j := sg d d) (by rw [gcd_sg]; exact h1)
  rwa [gcd_sg] at this
/-- The two tests after the division agree with 'valid'. -/
theorem fit_ok {n d : Int} (h : d ≠ 0) : okB (lowN n d) (lowD n d) = fitB n d := by
  have h1 := lowD_pos (n := n) h
  have h2 := low_gcd (n := n) h
  unfold okB fitB
  rw [h2]
  simp [h1]
theorem red_yes {n d : Int} (h : d ≠ 0) (hf : fitB n d = true) : red n d = (lowN n d, lowD n d, true) := by simp [red, h, hf]
theorem red_no {n d : Int} (hf : fitB n d = false) : red n d = (0, 0, false) := by simp [red, hf]
theorem red_zero (n : Int) : red n 0 = (0, 0, false) := by simp [red]
theorem tdiv_exact {a b : Int} (h : b ∣ a) : a.tdiv b = a / b := by
  obtain ⟨c, rfl⟩ := h
  by_cases hb : b = 0
  · subst hb; simp
  · rw [Int.mul_tdiv_cancel_left _ hb, Int.mul_ediv_cancel_left _ hb]
/-- What the two programs divide. -/
theorem lowN_pos {n d : Int} (h : 0 < d) : n.tdiv (Int.gcd n d : Int) = lowN n d := by
  rw [tdiv_exact (Int.gcd_dvd_left n d)]; unfold lowN; rw [sg_pos h]
theorem lowD_pos' {n d : Int} (h : 0 < d) : d.tdiv (Int.gcd n d : Int) = lowD n d := by
  rw [tdiv_exact (Int.gcd_dvd_right n d)]; unfold lowD; rw [sg_pos h]
theorem lowN_neg {n d : Int} (h : d < 0) : n.tdiv (-(Int.gcd n d : Int)) = lowN n d := by
  rw [Int.tdiv_neg, ← Int.neg_tdiv, tdiv_exact ((Int.dvd_neg).2 (Int.gcd_dvd_left n d))]; unfold lowN; rw [sg_neg h]
theorem lowD_neg {n d : Int} (h : d < 0) : d.tdiv (-(Int.gcd n d : Int)) = lowD n d := by
  rw [Int.tdiv_neg, ← Int.neg_tdiv, tdiv_exact ((Int.dvd_neg).2 (Int.gcd_dvd_right n d))]; unfold lowD; rw [sg_neg h]
/-- A common factor changes nothing. -/
theorem low_mul {k n d : Int} (hk : 0 < k) : lowN (k * n) (k * d) = lowN n d ∧ lowD (k * n) (k * d) = lowD n d := by
  have hs : ∀ x, sg (k * d) (k * x) = k * sg d x := fun x => by
    unfold sg
    by_cases h : d < 0
    · rw [if_pos h, if_pos (Int.mul_neg_of_pos_of_neg hk h), Int.mul_neg]
    · rw [if_neg h, if_neg (by have := Int.mul_nonneg (Int.le_of_lt hk) (show 0 ≤ d by omega); omega)]
  have hg : ((Int.gcd (k * n) (k * d) : Nat) : Int) = k * (Int.gcd n d : Int) := by
    rw [Int.gcd_mul_left, Int.natCast_mul]; congr 1; omega
  unfold lowN lowD
  rw [hs, hs, hg, Int.mul_ediv_mul_of_pos _ _ hk, Int.mul_ediv_mul_of_pos _ _ hk]
  exact ⟨rfl, rfl⟩
theorem red_mul {k n d : Int} (hk : 0 < k) : red (k * n) (k * d) = red n d := by
  obtain ⟨h1, h2⟩ := low_mul (n := n) (d := d) hk
  have h3 : k * d ≠ 0 ↔ d ≠ 0 := by
    refine ⟨fun h e => h (by rw [e, Int.mul_zero]), fun h e => ?_⟩
    rcases Int.mul_eq_zero.1 e with e | e
    · omega
    · exact h e
  unfold red fitB
  rw [h1, h2]
  simp only [h3]
theorem red_neg (n d : Int) : red (-n) (-d) = red n d := by
  have hs : ∀ x, d ≠ 0 → sg (-d) (-x) = sg d x := fun x h0 => by
    unfold sg
    by_cases h : d < 0
    · rw [if_pos h, if_neg (by omega)]
    · rw [if_neg h, if_pos (by omega)]; omega
  by_cases h0 : d = 0
  · subst h0; simp [red]
  · have h1 : lowN (-n) (-d) = lowN n d := by unfold lowN; rw [hs _ h0]; simp
    have h2 : lowD (-n) (-d) = lowD n d := by unfold lowD; rw [hs _ h0]; simp
    unfold red fitB
    rw [h1, h2]
    simp [h0]
/-- A valid fraction is its own. -/
theorem red_ok {n d : Int} (h : okB n d = true) : red n d = (n, d, true) := by
  obtain ⟨⟨h1, h2⟩, ⟨h3, h4⟩, h5⟩ := okB_iff.1 h
  have e1 : lowN n d = n := by unfold lowN; rw [sg_pos (by omega), h5]; simp
  have e2 : lowD n d = d := by unfold lowD; rw [sg_pos (by omega), h5]; simp
  have hf : fitB n d = true := by unfold fitB; rw [e1, e2]; simp [h2, h3, h4]
  rw [red_yes (by omega) hf, e1, e2]
/-- What comes out is valid or nothing. -/
theorem red_okB {n d : Int} (h : (red n d).2.2 = true) : okB (red n d).1 (red n d).2.1 = true := by
  unfold red at h ⊢
  split at h
  · rename_i hh
    rw [if_pos hh]
    show okB (lowN n d) (lowD n d) = true
    rw [fit_ok hh.1]; exact hh.2
  · simp at h
/-- The cross product tells the value. -/
theorem red_cross {n d : Int} (h : (red n d).2.2 = true) : (red n d).1 * d = n * (red n d).2.1 := by
  unfold red at h ⊢
  split at h
  · rename_i hh
    rw [if_pos hh]
    show lowN n d * d = n * lowD n d
    have hg := gcd_pos (n := n) hh.1
    obtain ⟨x, hx⟩ := dvd_sgN n d
    obtain ⟨y, hy⟩ := dvd_sgD n d
    have e1 : lowN n d = x := by unfold lowN; rw [hx, Int.mul_ediv_cancel_left _ (by omega)]
    have e2 : lowD n d = y := by unfold lowD; rw [hy, Int.mul_ediv_cancel_left _ (by omega)]
    rw [e1, e2]
    unfold sg at hx hy
    split at hx
    · rw [if_pos (by assumption)] at hy
      have a1 : n = -((Int.gcd n d : Int) * x) := by omega
      have a2 : d = -((Int.gcd n d : Int) * y) := by omega
      have : x * -((Int.gcd n d : Int) * y) = -((Int.gcd n d : Int) * x) * y := by
        rw [Int.mul_neg, Int.neg_mul, ← Int.mul_assoc, Int.mul_comm x]
      rw [← a1, ← a2] at this
      exact this
    · rw [if_neg (by assumption)] at hy
      have : x * ((Int.gcd n d : Int) * y) = ((Int.gcd n d : Int) * x) * y := by
        rw [← Int.mul_assoc, Int.mul_comm x]
      rw [← hx, ← hy] at this
      exact this
  · simp at h
theorem red_parts {n d N D : Int} (h : d ≠ 0) (hN : lowN n d = N) (hD : lowD n d = D) :
    (D ≤ 1000000 → -1000000000000 ≤ N → N ≤ 1000000000000 → red n d = (N, D, true)) ∧ (¬ (D ≤ 1000000 ∧ (-1000000000000 ≤ N ∧ N ≤ 1000000000000)) → red n d = (0, 0, false)) := by
  subst hN hD
  refine ⟨fun a b c => red_yes h (by simp [fitB, a, b, c]), fun k => red_no ?_⟩
  unfold fitB; exact decide_eq_false k
theorem tdiv_bd (n g B : Int) (h1 : -B ≤ n) (h2 : n ≤ B) : -B ≤ n.tdiv g ∧ n.tdiv g ≤ B := by
  have e : (n.tdiv g).natAbs ≤ n.natAbs := by rw [Int.natAbs_tdiv]; exact Nat.div_le_self _ _
  omega
theorem mul_bd {x y A B : Int} (h1 : -A ≤ x) (h2 : x ≤ A) (h3 : 0 ≤ y) (h4 : y ≤ B) (hA : 0 ≤ A) : -(A * B) ≤ x * y ∧ x * y ≤ A * B := by
  have k1 : x * y ≤ A * y := Int.mul_le_mul_of_nonneg_right h2 h3
  have k2 : (-A) * y ≤ x * y := Int.mul_le_mul_of_nonneg_right h1 h3
  have k3 : A * y ≤ A * B := Int.mul_le_mul_of_nonneg_left h4 hA
  rw [Int.neg_mul] at k2
  omega
theorem mul_bd' {x y A B : Int} (h1 : -A ≤ x) (h2 : x ≤ A) (h3 : -B ≤ y) (h4 : y ≤ B) (hA : 0 ≤ A) : -(A * B) ≤ x * y ∧ x * y ≤ A * B := by
  by_cases h : 0 ≤ y
  · exact mul_bd h1 h2 h h4 hA
  · have k := mul_bd (y := -y) h1 h2 (by omega) (by omega : -y ≤ B) hA
    rw [Int.mul_neg] at k
    omega
/-- The two are fractions fit for a product. -/
def facB (n d : Int) : Bool := okB n d && inB n (-1000000) 1000000
theorem fac_bd {n d : Int} (h : facB n d = true) : 1 ≤ d ∧ d ≤ 1000000 ∧ -1000000 ≤ n ∧ n ≤ 1000000 := by
  simp only [facB, inB, Bool.and_eq_true, decide_eq_true_eq] at h
  have := okB_iff.1 h.1; omega
def sumR (a b c d : Int) : Int × Int × Bool := if okB a b = true ∧ okB c d = true then red (a * d + c * b) (b * d) else (0, 0, false)
def subR (a b c d : Int) : Int × Int × Bool := if okB a b = true ∧ okB c d = true then red (a * d + -c * b) (b * d) else (0, 0, false)
def mulR (a b c d : Int) : Int × Int × Bool := if facB a b = true ∧ facB c d = true then red (a * c) (b * d) else (0, 0, false)
def divR (a b c d : Int) : Int × Int × Bool := if facB a b = true ∧ facB c d = true then red (a * d) (b * c) else (0, 0, false)
def newR (n d : Int) : Int × Int × Bool := if (-1000000000000 ≤ n ∧ n ≤ 1000000000000) ∧ (-1000000000000 ≤ d ∧ d ≤ 1000000000000) then red n d else (0, 0, false)
def sgnI (x : Int) : Int := if x < 0 then -1 else if 0 < x then 1 else 0
def cmpI (a b c d : Int) : Int := if okB a b = true ∧ okB c d = true then sgnI (a * d + -c * b) else 2
theorem ok_bd {n d : Int} (h : okB n d = true) : 1 ≤ d ∧ d ≤ 1000000 ∧ -1000000000000 ≤ n ∧ n ≤ 1000000000000 := by
  have := okB_iff.1 h; omega
/-- The terms of a sum of two valid fractions fit. -/
theorem sum_bd {a b c d : Int} (h : okB a b = true) (k : okB c d = true) :
    (-1000000000000000000 ≤ a * d ∧ a * d ≤ 1000000000000000000) ∧ (-1000000000000000000 ≤ c * b ∧ c * b ≤ 1000000000000000000) ∧ (1 ≤ b * d ∧ b * d ≤ 1000000000000) := by
  obtain ⟨h1, h2, h3, h4⟩ := ok_bd h
  obtain ⟨k1, k2, k3, k4⟩ := ok_bd k
  have e1 := mul_bd h3 h4 (by omega : 0 ≤ d) k2 (by omega)
  have e2 := mul_bd k3 k4 (by omega : 0 ≤ b) h2 (by omega)
  have e3 := mul_bd (x := b) (y := d) (A := 1000000) (by omega) h2 (by omega : 0 ≤ d) k2 (by omega)
  have e4 : 0 < b * d := Int.mul_pos (by omega) (by omega)
  omega
theorem sum_spec {a b c d : Int} (hb : 0 < b) (hd : 0 < d) :
    red (a * (d / (Int.gcd b d : Int)) + c * (b / (Int.gcd b d : Int))) (b / (Int.gcd b d : Int) * d) = red (a * d + c * b) (b * d) := by
  have hg := gcd_pos (n := b) (d := d) (by omega)
  obtain ⟨x, hx⟩ := Int.gcd_dvd_left b d
  obtain ⟨y, hy⟩ := Int.gcd_dvd_right b d
  obtain ⟨g, hG⟩ : ∃ g : Int, (Int.gcd b d : Int) = g := ⟨_, rfl⟩
  rw [hG] at hx hy hg ⊢
  rw [← red_mul (k := g) hg]
  clear hG
  subst hx hy
  rw [Int.mul_ediv_cancel_left _ (by omega), Int.mul_ediv_cancel_left _ (by omega)]
  have e1 : g * (a * y + c * x) = a * (g * y) + c * (g * x) := by
    rw [Int.mul_add, ← Int.mul_assoc g, ← Int.mul_assoc g, Int.mul_comm g a, Int.mul_comm g c, Int.mul_assoc, Int.mul_assoc]
  have e2 : g * (x * (g * y)) = g * x * (g * y) := by rw [Int.mul_assoc]
  rw [e1, e2]
/-- A fraction as it is drawn. -/
structure SmallF (n d : Int) : Prop where
  ok : okB n d = true
  n1 : -1000 ≤ n
  n2 : n ≤ 1000
  d1 : 1 ≤ d
  d2 : d ≤ 60
theorem low_le {n d : Int} (h : 0 < d) (N : Int) (h1 : -N ≤ n) (h2 : n ≤ N) : (-N ≤ lowN n d ∧ lowN n d ≤ N) ∧ lowD n d ≤ d := by
  have e1 := lowN_pos (n := n) h
  have e2 := lowD_pos' (n := n) h
  have b1 := tdiv_bd n (Int.gcd n d : Int) N h1 h2
  have b2 := tdiv_bd d (Int.gcd n d : Int) d (by omega) (by omega)
  rw [e1] at b1
  rw [e2] at b2
  exact ⟨b1, b2.2⟩
theorem new_small {n d : Int} (h1 : -1000 ≤ n) (h2 : n ≤ 1000) (h3 : 1 ≤ d) (h4 : d ≤ 60) : ∃ x y, newR n d = (x, y, true) ∧ SmallF x y := by
  obtain ⟨b1, b2⟩ := low_le (n := n) (d := d) (by omega) 1000 h1 h2
  have hf : fitB n d = true := by unfold fitB; simp; omega
  refine ⟨lowN n d, lowD n d, ?_, ?_, b1.1, b1.2, lowD_pos (by omega), by omega⟩
  · unfold newR
    rw [if_pos (by omega), red_yes (by omega) hf]
  · rw [fit_ok (by omega), hf]
end Go.Proofs.Ytlljhcfiojfimaa.FracMath
