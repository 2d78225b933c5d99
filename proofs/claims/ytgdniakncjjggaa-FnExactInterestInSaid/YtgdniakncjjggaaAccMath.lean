/- Accounts: dues, payments, interest, balances: plain mathematics. -/
import Derived.Test.YtgdniakncjjggaaMon
namespace Go.Proofs.Ytgdniakncjjggaa.AccMath
open Mon
/-- The contribution for a month. -/
def dueF (pay rate : Int) : Int := if inB pay 0 1000000000 = true ∧ inB rate 0 1000 = true then (pay * rate).tdiv 1000 else 0
theorem due_yes {pay rate : Int} (h1 : inB pay 0 1000000000 = true) (h2 : inB rate 0 1000 = true) : dueF pay rate = (pay * rate).tdiv 1000 := if_pos ⟨h1, h2⟩
theorem due_no1 {pay rate : Int} (h : inB pay 0 1000000000 = false) : dueF pay rate = 0 := if_neg fun e => by rw [h] at e; cases e.1
theorem due_no2 {pay rate : Int} (h : inB rate 0 1000 = false) : dueF pay rate = 0 := if_neg fun e => by rw [h] at e; cases e.2
/-- The interest for a month. -/
def intr (r b : Int) : Int := if 0 < b then (b * r).tdiv 12000 else 0
theorem intr_pos {r b : Int} (h : 0 < b) : intr r b = (b * r).tdiv 12000 := if_pos h
theorem intr_neg {r b : Int} (h : ¬ 0 < b) : intr r b = 0 := if_neg h
theorem intr_ge {r b : Int} (h : 0 ≤ r) : 0 ≤ intr r b := by
  unfold intr
  split
  next hb =>
    have e : 0 ≤ b * r := Int.mul_nonneg (by omega) h
    rw [Int.tdiv_eq_ediv_of_nonneg e]
    exact Int.ediv_nonneg e (by omega)
  next => omega
theorem intr_le {r b B : Int} (h0 : 0 ≤ r) (h1 : r ≤ 500) (hB : b ≤ B) (hp : 0 ≤ B) : intr r b ≤ B / 24 := by
  unfold intr
  split
  next hb =>
    have e : 0 ≤ b * r := Int.mul_nonneg (by omega) h0
    rw [Int.tdiv_eq_ediv_of_nonneg e]
    have e2 : b * r ≤ B * 500 := Int.mul_le_mul hB h1 h0 hp
    have e3 : b * r / 12000 ≤ B * 500 / 12000 := Int.ediv_le_ediv (by omega) e2
    omega
  next => omega
theorem intr_mono {r b c : Int} (h : 0 ≤ r) (hbc : b ≤ c) : intr r b ≤ intr r c := by
  by_cases hb : 0 < b
  · rw [intr_pos hb, intr_pos (by omega)]
    have e : 0 ≤ b * r := Int.mul_nonneg (by omega) h
    have e' : 0 ≤ c * r := Int.mul_nonneg (by omega) h
    rw [Int.tdiv_eq_ediv_of_nonneg e, Int.tdiv_eq_ediv_of_nonneg e']
    exact Int.ediv_le_ediv (by omega) (Int.mul_le_mul_of_nonneg_right hbc h)
  · rw [intr_neg hb]
    exact intr_ge h
theorem intr_zero (b : Int) : intr 0 b = 0 := by unfold intr; split <;> simp
/-- The balance after the next month. -/
def nxt (r b d p : Int) : Int := b + intr r b + d - p
def at0 (l : List Int) (j : Nat) : Int := l.getD j 0
theorem at0_in {l : List Int} {j : Nat} (h : j < l.length) : at0 l j = l[j] := by simp [at0, List.getD, h]
/-- The balance after j months, and the interest until then. -/
def bal (D P : List Int) (r : Int) : Nat → Int
  | 0 => 0
  | j + 1 => nxt r (bal D P r j) (at0 D j) (at0 P j)
theorem bal_zero (D P : List Int) (r : Int) : bal D P r 0 = 0 := rfl
theorem bal_succ (D P : List Int) (r : Int) (j : Nat) : bal D P r (j + 1) = bal D P r j + intr r (bal D P r j) + at0 D j - at0 P j := rfl
def sumI (D P : List Int) (r : Int) : Nat → Int
  | 0 => 0
  | j + 1 => sumI D P r j + intr r (bal D P r j)
theorem sumI_succ (D P : List Int) (r : Int) (j : Nat) : sumI D P r (j + 1) = sumI D P r j + intr r (bal D P r j) := rfl
def bals (D P : List Int) (r : Int) : Nat → List Int
  | 0 => []
  | j + 1 => bals D P r j ++ [bal D P r (j + 1)]
theorem bals_succ (D P : List Int) (r : Int) (j : Nat) : bals D P r (j + 1) = bals D P r j ++ [bal D P r (j + 1)] := rfl
theorem bals_len (D P : List Int) (r : Int) : ∀ n, (bals D P r n).length = n
  | 0 => rfl
  | n + 1 => by rw [bals_succ, List.length_append, bals_len D P r n]; rfl
theorem bals_at (D P : List Int) (r : Int) : ∀ (n i : Nat) (h : i < (bals D P r n).length), (bals D P r n)[i] = bal D P r (i + 1)
  | 0, i, h => by simp [bals] at h
  | n + 1, i, h => by
    rw [bals_len] at h
    by_cases e : i = n
    · subst e
      simp only [bals_succ]
      rw [List.getElem_append_right (by rw [bals_len]; omega)]
      simp [bals_len]
    · simp only [bals_succ]
      rw [List.getElem_append_left (by rw [bals_len]; omega)]
      exact bals_at D P r n i (by rw [bals_len]; omega)
/-- Valid lists and a valid rate. -/
def OkA (D P : List Int) (r : Int) : Prop := D.length = P.length ∧ D.length ≤ 300 ∧ (0 ≤ r ∧ r ≤ 500) ∧ (∀ i (h : i < D.length), 0 ≤ D[i] ∧ D[i] ≤ 10000000) ∧ ∀ i (h : i < P.length), 0 ≤ P[i] ∧ P[i] ≤ 10000000
open Classical in
noncomputable def askB (D P : List Int) (r : Int) : Bool := decide (OkA D P r)
theorem ask_yes {D P : List Int} {r : Int} (h : OkA D P r) : askB D P r = true := by simp [askB, h]
theorem ask_no {D P : List Int} {r : Int} (h : ¬ OkA D P r) : askB D P r = false := by simp [askB, h]
theorem ask_of {D P : List Int} {r : Int} (h : askB D P r = true) : OkA D P r := by simpa [askB] using h
noncomputable def runA (D P : List Int) (r : Int) : List Int := if askB D P r = true then bals D P r D.length else []
theorem run_yes {D P : List Int} {r : Int} (h : askB D P r = true) : runA D P r = bals D P r D.length := if_pos h
theorem run_no {D P : List Int} {r : Int} (h : askB D P r = false) : runA D P r = [] := if_neg (by rw [h]; simp)
theorem run_len (D P : List Int) (r : Int) : (runA D P r).length ≤ 300 := by
  cases h : askB D P r with
  | true => rw [run_yes h, bals_len]; exact (ask_of h).2.1
  | false => rw [run_no h]; exact Nat.zero_le _
noncomputable def intIn (D P : List Int) (r : Int) : Int := if askB D P r = true then sumI D P r D.length else 0
theorem int_yes {D P : List Int} {r : Int} (h : askB D P r = true) : intIn D P r = sumI D P r D.length := if_pos h
theorem int_no {D P : List Int} {r : Int} (h : askB D P r = false) : intIn D P r = 0 := if_neg (by rw [h]; simp)
/-- The place of the first positive element. -/
def firstP : List Int → Int → Int
  | [], _ => -1
  | x :: t, k => if 0 < x then k else firstP t (k + 1)
theorem first_end (l : List Int) (j : Nat) (k : Int) (h : l.length ≤ j) : firstP (l.drop j) k = -1 := by rw [List.drop_eq_nil_of_le h]; rfl
theorem first_yes {l : List Int} {j : Nat} (k : Int) (h : j < l.length) (e : 0 < l[j]) : firstP (l.drop j) k = k := by rw [List.drop_eq_getElem_cons h, firstP, if_pos e]
theorem first_no {l : List Int} {j : Nat} (k : Int) (h : j < l.length) (e : ¬ 0 < l[j]) : firstP (l.drop j) k = firstP (l.drop (j + 1)) (k + 1) := by rw [List.drop_eq_getElem_cons h, firstP, if_neg e]
theorem first_is : ∀ (l : List Int) (k : Int), (firstP l k = -1 ∧ ∀ x ∈ l, x ≤ 0) ∨ ∃ i : Nat, ∃ h : i < l.length, firstP l k = k + (i : Int) ∧ 0 < l[i] ∧ ∀ j (hj : j < i), l[j]'(by omega) ≤ 0
  | [], k => .inl ⟨rfl, fun x hx => by cases hx⟩
  | x :: t, k => by
    by_cases hx : 0 < x
    · exact .inr ⟨0, by simp, by rw [firstP, if_pos hx]; simp, hx, fun j hj => by omega⟩
    · rw [firstP, if_neg hx]
      rcases first_is t (k + 1) with ⟨h1, h2⟩ | ⟨i, h, h1, h2, h3⟩
      · refine .inl ⟨h1, fun y hy => ?_⟩
        rcases List.mem_cons.1 hy with rfl | hy
        · omega
        · exact h2 y hy
      · refine .inr ⟨i + 1, by simp; omega, by rw [h1]; omega, by simpa using h2, fun j hj => ?_⟩
        cases j with
        | zero => show x ≤ 0; omega
        | succ j => simpa using h3 j (by omega)
noncomputable def firstA (D P : List Int) (r : Int) : Int := firstP (runA D P r) 0
/-! Bounds. -/
def ub : Nat → Int
  | 0 => 0
  | j + 1 => ub j + ub j / 24 + 10000000
theorem ub_pos : ∀ j, 0 ≤ ub j
  | 0 => Int.le_refl _
  | j + 1 => by have := ub_pos j; show 0 ≤ ub j + ub j / 24 + 10000000; omega
theorem ub_succ (j : Nat) : ub j ≤ ub (j + 1) := by have := ub_pos j; show ub j ≤ ub j + ub j / 24 + 10000000; omega
theorem ub_mono : ∀ {i j : Nat}, i ≤ j → ub i ≤ ub j
  | i, 0, h => by obtain rfl : i = 0 := by omega
                  exact Int.le_refl _
  | i, j + 1, h => by
    by_cases e : i = j + 1
    · subst e; exact Int.le_refl _
    · exact Int.le_trans (ub_mono (i := i) (j := j) (by omega)) (ub_succ j)
theorem ub_top : ub 300 ≤ 100000000000000 := by decide +kernel
theorem ask_at {D P : List Int} {r : Int} (h : OkA D P r) (j : Nat) : (0 ≤ at0 D j ∧ at0 D j ≤ 10000000) ∧ 0 ≤ at0 P j ∧ at0 P j ≤ 10000000 := by
  have e : ∀ l : List Int, (∀ i (h : i < l.length), 0 ≤ l[i] ∧ l[i] ≤ 10000000) → 0 ≤ at0 l j ∧ at0 l j ≤ 10000000 := fun l hl => by
    by_cases hj : j < l.length
    · rw [at0_in hj]; exact hl j hj
    · have : at0 l j = 0 := by simp [at0, List.getD, hj]
      rw [this]; omega
  exact ⟨e D h.2.2.2.1, e P h.2.2.2.2⟩
theorem bal_ub {D P : List Int} {r : Int} (h : OkA D P r) : ∀ j, bal D P r j ≤ ub j ∧ -10000000 * (j : Int) ≤ bal D P r j
  | 0 => by rw [bal_zero]; exact ⟨Int.le_refl _, by omega⟩
  | j + 1 => by
    obtain ⟨i1, i2⟩ := bal_ub h j
    have h1 := intr_le h.2.2.1.1 h.2.2.1.2 i1 (ub_pos j)
    have h2 := intr_ge (r := r) (b := bal D P r j) h.2.2.1.1
    have h3 := ask_at h j
    rw [bal_succ]
    constructor
    · show _ ≤ ub j + ub j / 24 + 10000000; omega
    · omega
theorem bal_bd {D P : List Int} {r : Int} (h : OkA D P r) {j : Nat} (hj : j ≤ 300) : -3000000000 ≤ bal D P r j ∧ bal D P r j ≤ 100000000000000 := by
  have h1 := bal_ub h j
  have h2 := ub_mono hj
  have h3 := ub_top
  omega
theorem intr_bd {r b : Int} (h0 : 0 ≤ r) (h1 : r ≤ 500) (hb : b ≤ 100000000000000) : 0 ≤ intr r b ∧ intr r b ≤ 5000000000000 :=
  ⟨intr_ge h0, Int.le_trans (intr_le h0 h1 hb (by omega)) (by omega)⟩
theorem sumI_bd {D P : List Int} {r : Int} (h : OkA D P r) : ∀ j, j ≤ 300 → 0 ≤ sumI D P r j ∧ sumI D P r j ≤ 5000000000000 * (j : Int)
  | 0, _ => by exact ⟨Int.le_refl _, by show (0 : Int) ≤ _; omega⟩
  | j + 1, hj => by
    have ih := sumI_bd h j (by omega)
    have := intr_bd h.2.2.1.1 h.2.2.1.2 (bal_bd h (j := j) (by omega)).2
    rw [sumI_succ]
    omega
/-- What a balance, its interest and its product with the rate may be. -/
theorem prod_bd {r b : Int} (h0 : 0 ≤ r) (h1 : r ≤ 500) (hb0 : 0 < b) (hb : b ≤ 100000000000000) : 0 ≤ b * r ∧ b * r ≤ 50000000000000000 :=
  ⟨Int.mul_nonneg (by omega) h0, by have := Int.mul_le_mul hb h1 h0 (by omega); omega⟩
/-! Settling a balance by equal payments. -/
def owe (b r x : Int) : Nat → Int
  | 0 => b
  | k + 1 => owe b r x k + intr r (owe b r x k) - x
theorem owe_succ (b r x : Int) (k : Nat) : owe b r x (k + 1) = owe b r x k + intr r (owe b r x k) - x := rfl
theorem owe_anti {b r x y : Int} (h0 : 0 ≤ r) (h : x ≤ y) : ∀ k, owe b r y k ≤ owe b r x k
  | 0 => Int.le_refl _
  | k + 1 => by
    have ih := owe_anti (b := b) h0 h k
    have := intr_mono h0 ih
    rw [owe_succ, owe_succ]
    omega
theorem owe_down {b r x : Int} (hx : 0 ≤ x) {k : Nat} (h : owe b r x k ≤ 0) : owe b r x (k + 1) ≤ 0 := by
  rw [owe_succ, intr_neg (by omega)]; omega
theorem owe_high {b r x : Int} (h0 : 0 ≤ r) (h1 : r ≤ 500) (hb : 0 ≤ b) (hx : 2 * b ≤ x) : ∀ k, owe b r x (k + 1) ≤ 0
  | 0 => by
    have := intr_le h0 h1 (Int.le_refl b) hb
    show b + intr r b - x ≤ 0
    omega
  | k + 1 => owe_down (by omega) (owe_high h0 h1 hb hx k)
def ul : Nat → Int
  | 0 => 1000000
  | j + 1 => ul j + ul j / 24
theorem ul_pos : ∀ j, 0 ≤ ul j
  | 0 => by decide
  | j + 1 => by have := ul_pos j; show 0 ≤ ul j + ul j / 24; omega
theorem ul_mono : ∀ {i j : Nat}, i ≤ j → ul i ≤ ul j
  | i, 0, h => by obtain rfl : i = 0 := by omega
                  exact Int.le_refl _
  | i, j + 1, h => by
    by_cases e : i = j + 1
    · subst e; exact Int.le_refl _
    · have := ul_pos j
      exact Int.le_trans (ul_mono (i := i) (j := j) (by omega)) (by show ul j ≤ ul j + ul j / 24; omega)
theorem ul_top : ul 120 ≤ 1000000000 := by decide +kernel
theorem owe_ul {b r x : Int} (h0 : 0 ≤ r) (h1 : r ≤ 500) (hb0 : 0 ≤ b) (hb : b ≤ 1000000) (hx : 0 ≤ x) : ∀ k, owe b r x k ≤ ul k ∧ -x * (k : Int) ≤ owe b r x k
  | 0 => by show b ≤ 1000000 ∧ -x * ((0 : Nat) : Int) ≤ b; exact ⟨hb, by simp; exact hb0⟩
  | k + 1 => by
    obtain ⟨i1, i2⟩ := owe_ul h0 h1 hb0 hb hx k
    have q1 := intr_le h0 h1 i1 (ul_pos k)
    have q2 := intr_ge (r := r) (b := owe b r x k) h0
    rw [owe_succ]
    constructor
    · show _ ≤ ul k + ul k / 24; omega
    · have : -x * ((k + 1 : Nat) : Int) = -x * (k : Int) + -x := by push_cast; rw [Int.mul_add, Int.mul_one]
      omega
theorem owe_bd {b r x : Int} (h0 : 0 ≤ r) (h1 : r ≤ 500) (hb0 : 0 ≤ b) (hb : b ≤ 1000000) (hx : 0 ≤ x) (hx2 : x ≤ 10000000) {k : Nat} (hk : k ≤ 120) : -1200000000 ≤ owe b r x k ∧ owe b r x k ≤ 1000000000 := by
  obtain ⟨a1, a2⟩ := owe_ul h0 h1 hb0 hb hx k
  have := ul_mono hk
  have := ul_top
  have q : x * (k : Int) ≤ 10000000 * 120 := Int.mul_le_mul hx2 (by omega) (by omega) (by omega)
  rw [Int.neg_mul] at a2
  omega
/-- The least payment that settles the balance, looked for from x on. -/
def least (b r : Int) (m : Nat) : Nat → Int → Int
  | 0, x => x
  | k + 1, x => if owe b r x m ≤ 0 then x else least b r m k (x + 1)
theorem least_is {b r : Int} {m : Nat} : ∀ (k : Nat) (x : Int), owe b r (x + (k : Int)) m ≤ 0 → x ≤ least b r m k x ∧ least b r m k x ≤ x + (k : Int) ∧ owe b r (least b r m k x) m ≤ 0 ∧ ∀ y, x ≤ y → y < least b r m k x → 0 < owe b r y m
  | 0, x, h => ⟨Int.le_refl _, by show x ≤ _; omega, by simpa [least] using h, fun y h1 h2 => by have h2 : y < x := h2; omega⟩
  | k + 1, x, h => by
    by_cases hx : owe b r x m ≤ 0
    · rw [least, if_pos hx]
      exact ⟨Int.le_refl _, by omega, hx, fun y h1 h2 => by omega⟩
    · rw [least, if_neg hx]
      obtain ⟨a, c, d, e⟩ := least_is k (x + 1) (by rw [show x + 1 + (k : Int) = x + ((k + 1 : Nat) : Int) by omega]; exact h)
      refine ⟨by omega, by omega, d, fun y h1 h2 => ?_⟩
      by_cases hy : y = x
      · subst hy; omega
      · exact e y (by omega) h2
/-- The payment is the least one. -/
structure Least (b r : Int) (m : Nat) (x : Int) : Prop where
  pos : 0 ≤ x
  top : x ≤ 2 * b
  ok : owe b r x m ≤ 0
  not : ∀ y, 0 ≤ y → y < x → 0 < owe b r y m
theorem Least.one {b r : Int} {m : Nat} {x y : Int} (h : Least b r m x) (k : Least b r m y) : x = y := by
  have h1 := h.ok; have h2 := k.ok; have h3 := h.pos; have h4 := k.pos
  by_cases e : x < y
  · have := k.not x h3 e; omega
  · by_cases e' : y < x
    · have := h.not y h4 e'; omega
    · omega
def settleF (b r m : Int) : Int := if inB b 0 1000000 = true ∧ inB r 0 500 = true ∧ inB m 1 120 = true then least b r m.toNat (2 * b).toNat 0 else -1
theorem settle_yes {b r m : Int} (h1 : inB b 0 1000000 = true) (h2 : inB r 0 500 = true) (h3 : inB m 1 120 = true) : Least b r m.toNat (settleF b r m) := by
  have b1 := inB_of h1; have b2 := inB_of h2; have b3 := inB_of h3
  rw [settleF, if_pos ⟨h1, h2, h3⟩]
  obtain ⟨k, hk⟩ : ∃ k, m.toNat = k + 1 := ⟨m.toNat - 1, by omega⟩
  rw [hk]
  obtain ⟨a, c, d, e⟩ := least_is (b := b) (r := r) (m := k + 1) (2 * b).toNat 0 (by rw [show 0 + (((2 * b).toNat : Nat) : Int) = 2 * b by omega]; exact owe_high b2.1 b2.2 b1.1 (Int.le_refl _) k)
  exact ⟨a, by omega, d, fun y h1 h2 => e y h1 h2⟩
theorem settle_is {b r m x : Int} (h1 : inB b 0 1000000 = true) (h2 : inB r 0 500 = true) (h3 : inB m 1 120 = true) (h : Least b r m.toNat x) : settleF b r m = x := (settle_yes h1 h2 h3).one h
theorem settle_no {b r m : Int} (h : ¬ (inB b 0 1000000 = true ∧ inB r 0 500 = true ∧ inB m 1 120 = true)) : settleF b r m = -1 := if_neg h
/-- The account of a balance and equal payments. -/
theorem bal_owe (b r x : Int) (n : Nat) : ∀ k, k ≤ n → bal (b :: List.replicate n 0) (0 :: List.replicate n x) r (k + 1) = owe b r x k
  | 0, _ => by
    rw [bal_succ, bal_zero, intr_neg (by omega)]
    show 0 + 0 + b - 0 = b
    omega
  | k + 1, hk => by
    rw [bal_succ, bal_owe b r x n k (by omega), owe_succ]
    have e1 : at0 (b :: List.replicate n 0) (k + 1) = 0 := by rw [at0_in (by simp; omega)]; simp
    have e2 : at0 (0 :: List.replicate n x) (k + 1) = x := by rw [at0_in (by simp; omega)]; simp
    rw [e1, e2]
    omega
end Go.Proofs.Ytgdniakncjjggaa.AccMath
