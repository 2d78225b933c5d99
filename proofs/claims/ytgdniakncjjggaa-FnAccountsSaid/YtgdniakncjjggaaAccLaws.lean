/- What drawn accounts say: plain mathematics. -/
import Derived.Test.YtgdniakncjjggaaAccMath
import Derived.Test.YtgdniakncjjggaaDrawAcc
namespace Go.Proofs.Ytgdniakncjjggaa.AccLaws
open AccMath DrawAcc DrawRow
/-- All dues minus all payments of the first months. -/
def net (D P : List Int) : Nat → Int
  | 0 => 0
  | j + 1 => net D P j + at0 D j - at0 P j
theorem net_succ (D P : List Int) (j : Nat) : net D P (j + 1) = net D P j + at0 D j - at0 P j := rfl
theorem bal_net (D P : List Int) (r : Int) : ∀ j, bal D P r j = sumI D P r j + net D P j
  | 0 => rfl
  | j + 1 => by rw [bal_succ, sumI_succ, net_succ]; have := bal_net D P r j; omega
theorem sumI_zero (D P : List Int) : ∀ j, sumI D P 0 j = 0
  | 0 => rfl
  | j + 1 => by rw [sumI_succ, sumI_zero D P j, intr_zero]; rfl
theorem ok_of {n : Nat} {D P : List Int} {r : Int} (h : DAcc n D P) (hn : n ≤ 13) (hr : 0 ≤ r ∧ r ≤ 500) : OkA D P r :=
  ⟨by rw [h.d, h.p], by rw [h.d]; omega, hr, fun i hi => by have := h.inD.get i hi; omega, fun i hi => by have := h.inP.get i hi; omega⟩
theorem net_bd {D P : List Int} {r : Int} (h : OkA D P r) : ∀ j : Nat, -10000000 * (j : Int) ≤ net D P j ∧ net D P j ≤ 10000000 * (j : Int)
  | 0 => ⟨Int.le_refl _, Int.le_refl _⟩
  | j + 1 => by
    have ih := net_bd h j
    have := ask_at h j
    rw [net_succ]
    omega
theorem run_is {n : Nat} {D P : List Int} {r : Int} (h : OkA D P r) (hn : D.length = n) : runA D P r = bals D P r n := by rw [run_yes (ask_yes h), hn]
theorem int_is {n : Nat} {D P : List Int} {r : Int} (h : OkA D P r) (hn : D.length = n) : intIn D P r = sumI D P r n := by rw [int_yes (ask_yes h), hn]
/-- Before the first month in arrears no balance is positive. -/
structure Fst (D P : List Int) (r : Int) (n : Nat) (F : Int) : Prop where
  lt : F < (n : Int)
  ge : -1 ≤ F
  no : ∀ i : Nat, i < n → (i : Int) < F → bal D P r (i + 1) ≤ 0
theorem first_of {n : Nat} {D P : List Int} {r : Int} (h : OkA D P r) (hn : D.length = n) : Fst D P r n (firstA D P r) := by
  rw [firstA, run_is h hn]
  rcases first_is (bals D P r n) 0 with ⟨h1, h2⟩ | ⟨i, hi, h1, h2, h3⟩
  · rw [h1]
    exact ⟨by omega, by omega, fun i _ h => by omega⟩
  · rw [h1]
    rw [bals_len] at hi
    refine ⟨by omega, by omega, fun k hk hki => ?_⟩
    have := h3 k (by omega)
    rwa [bals_at] at this
/-! Settling. -/
theorem owe_low {b r : Int} (hb : 0 ≤ b) (h0 : 0 ≤ r) : ∀ k, b ≤ owe b r 0 k
  | 0 => Int.le_refl _
  | k + 1 => by
    have ih := owe_low hb h0 k
    have := intr_ge (r := r) (b := owe b r 0 k) h0
    rw [owe_succ]
    omega
/-- The payment settles, one cent less does not. -/
structure Sx (b r : Int) (m : Nat) (x : Int) : Prop where
  lo : 1 ≤ x
  hi : x ≤ 2 * b
  ok : owe b r x m ≤ 0
  no : 0 < owe b r (x - 1) m
theorem settles {b r : Int} {m : Nat} (b1 : 1 ≤ b) (b2 : b ≤ 1000000) (r1 : 0 ≤ r) (r2 : r ≤ 500) (m1 : 1 ≤ m) (m2 : m ≤ 120) : Sx b r m (settleF b r (m : Int)) := by
  have h := settle_yes (b := b) (r := r) (m := (m : Int)) (Mon.inB_yes (by omega) b2) (Mon.inB_yes r1 r2) (Mon.inB_yes (by omega) (by omega))
  rw [show ((m : Int)).toNat = m from rfl] at h
  have h0 := h.pos
  have h1 : 1 ≤ settleF b r (m : Int) := by
    by_cases e : settleF b r (m : Int) = 0
    · have := h.ok
      rw [e] at this
      have := owe_low (b := b) (r := r) (by omega) r1 m
      omega
    · omega
  exact ⟨h1, h.top, h.ok, h.not _ (by omega) (by omega)⟩
/-- The payments, filled in up to the month i. -/
def fill (V : Int) (m i : Nat) : List Int := 0 :: (List.replicate (i - 1) V ++ List.replicate (m + 1 - i) 0)
theorem fill_len {V : Int} {m i : Nat} (h1 : 1 ≤ i) (h2 : i ≤ m + 1) : (fill V m i).length = m + 1 := by simp [fill]; omega
theorem fill_one (V : Int) (m : Nat) : fill V m 1 = List.replicate (m + 1) 0 := by simp [fill, List.replicate_succ]
theorem fill_all (V : Int) (m : Nat) : fill V m (m + 1) = 0 :: List.replicate m V := by simp [fill]
theorem fill_set {V : Int} {m i : Nat} (h1 : 1 ≤ i) (h2 : i ≤ m) : (fill V m i).set i V = fill V m (i + 1) := by
  obtain ⟨k, rfl⟩ : ∃ k, i = k + 1 := ⟨i - 1, by omega⟩
  obtain ⟨q, hq⟩ : ∃ q, m + 1 - (k + 1) = q + 1 := ⟨m + 1 - (k + 1) - 1, by omega⟩
  have hq2 : m + 1 - (k + 1 + 1) = q := by omega
  unfold fill
  rw [hq, hq2, List.set_cons_succ, Nat.add_sub_cancel, Nat.add_sub_cancel, List.set_append_right _ _ (by simp)]
  congr 1
  rw [List.length_replicate, Nat.sub_self, List.replicate_succ, List.set_cons_zero, List.replicate_succ' (n := k), List.append_assoc]
  rfl
theorem first_set (b : Int) (m : Nat) : (List.replicate (m + 1) (0 : Int)).set 0 b = b :: List.replicate m 0 := by rw [List.replicate_succ]; rfl
theorem ok_pay {b r V : Int} {m : Nat} (b1 : 0 ≤ b) (b2 : b ≤ 1000000) (r1 : 0 ≤ r) (r2 : r ≤ 500) (m2 : m ≤ 120) (v1 : 0 ≤ V) (v2 : V ≤ 10000000) : OkA (b :: List.replicate m 0) (0 :: List.replicate m V) r := by
  refine ⟨by simp, by simp; omega, ⟨r1, r2⟩, fun i hi => ?_, fun i hi => ?_⟩
  · have := List.getElem_mem hi
    rcases List.mem_cons.1 this with e | e
    · rw [e]; omega
    · rw [(List.mem_replicate.1 e).2]; omega
  · have := List.getElem_mem hi
    rcases List.mem_cons.1 this with e | e
    · rw [e]; omega
    · rw [(List.mem_replicate.1 e).2]; omega
theorem pay_len (b r V : Int) (m : Nat) (h : OkA (b :: List.replicate m 0) (0 :: List.replicate m V) r) : (runA (b :: List.replicate m 0) (0 :: List.replicate m V) r).length = m + 1 := by
  rw [run_is h (n := m + 1) (by simp), bals_len]
theorem pay_last {b r V : Int} {m : Nat} (h : OkA (b :: List.replicate m 0) (0 :: List.replicate m V) r) (hm : m < (runA (b :: List.replicate m 0) (0 :: List.replicate m V) r).length) : (runA (b :: List.replicate m 0) (0 :: List.replicate m V) r)[m] = owe b r V m := by
  have e := run_is h (n := m + 1) (by simp)
  simp only [e]
  rw [bals_at, bal_owe b r V m m (Nat.le_refl _)]
end Go.Proofs.Ytgdniakncjjggaa.AccLaws
