/- The text of a fraction, and the fraction of a text: plain mathematics. -/
import Derived.Test.YtiogpiopgcbdbaaDoorKit
namespace Go.Proofs.YtiogpiopgcbdbaaDoor.FracTxM
open FracMath HexMath NumMath NumParse NumBack
/-- The text of a fraction, none where it is not valid. -/
def fracT (n d : Int) : List UInt8 := if okB n d = true then (if d = 1 then fmt n else fmt n ++ [47] ++ fmt d) else []
theorem fracT_no {n d : Int} (h : okB n d = false) : fracT n d = [] := by simp [fracT, h]
theorem fracT_one {n : Int} (h : okB n 1 = true) : fracT n 1 = fmt n := by simp [fracT, h]
theorem fracT_two {n d : Int} (h : okB n d = true) (hd : ¬ d = 1) : fracT n d = fmt n ++ [47] ++ fmt d := by unfold fracT; rw [if_pos h, if_neg hd]
/-- The number of at most 13 digits, or -1. -/
def dgt (s : List UInt8) : Int := if s.length ≤ 13 ∧ s.all isD = true then (vd s : Int) else -1
def sgnT (s : List UInt8) : Int := if s.head? = some 45 then -1 else 1
def bodyT (s : List UInt8) : List UInt8 := if s.head? = some 45 then s.tail else s
def cutT (s : List UInt8) : Nat := s.findIdx (fun b => b == 47)
def numT (s : List UInt8) : Int := dgt ((bodyT s).take (cutT (bodyT s)))
def denT (s : List UInt8) : Int := if cutT (bodyT s) < (bodyT s).length then dgt ((bodyT s).drop (cutT (bodyT s) + 1)) else 1
/-- The fraction of a text. -/
def parseT (s : List UInt8) : Int × Int × Bool :=
  if s.length = 0 ∨ 25 < s.length then (0, 0, false)
  else if numT s < 0 ∨ denT s < 0 then (0, 0, false)
  else if fracT (sgnT s * numT s) (denT s) = s then (sgnT s * numT s, denT s, true) else (0, 0, false)
theorem dgt_bd (s : List UInt8) : -1 ≤ dgt s ∧ dgt s ≤ 9999999999999 := by
  unfold dgt
  split
  next h =>
    have := vd_lt s h.2
    have h2 : 10 ^ s.length ≤ 10 ^ 13 := Nat.pow_le_pow_right (by omega) h.1
    omega
  next => omega
/-- Digits of a natural number. -/
theorem fmt_nat (n : Nat) : vd (fmt (n : Int)) = n ∧ (fmt (n : Int)).all isD = true := by
  unfold fmt
  by_cases h0 : n = 0
  · subst h0; exact ⟨rfl, rfl⟩
  · rw [if_neg (by omega), if_neg (by omega), Int.natAbs_natCast]
    exact dg_back n n (Nat.le_refl _)
theorem fmt_lenN {n k : Nat} (h : n < 10 ^ k) (hk : 1 ≤ k) : (fmt (n : Int)).length ≤ k := by
  unfold fmt
  by_cases h0 : n = 0
  · subst h0; simpa using hk
  · rw [if_neg (by omega), if_neg (by omega), Int.natAbs_natCast]
    exact dg_len k n h
theorem dgt_fmt {n : Nat} (h : n < 10 ^ 13) : dgt (fmt (n : Int)) = (n : Int) := by
  obtain ⟨h1, h2⟩ := fmt_nat n
  unfold dgt
  rw [if_pos ⟨fmt_lenN h (by omega), h2⟩, h1]
theorem fmt_neg {n : Nat} (h : 0 < n) : fmt (-(n : Int)) = 45 :: fmt (n : Int) := by
  unfold fmt
  rw [if_neg (by omega), if_pos (by omega), if_neg (by omega), if_neg (by omega)]
  simp
theorem fmt_head (n : Nat) : (fmt (n : Int)).head? ≠ some 45 := by
  obtain ⟨_, h2⟩ := fmt_nat n
  intro e
  cases hf : fmt (n : Int) with
  | nil => rw [hf] at e; cases e
  | cons a r =>
    rw [hf] at e h2
    simp only [List.head?_cons, Option.some.injEq] at e
    subst e
    rw [List.all_cons, Bool.and_eq_true] at h2
    exact absurd h2.1 (by decide)
theorem no_slash {l : List UInt8} (h : l.all isD = true) : l.findIdx (fun b => b == 47) = l.length := by
  rw [List.findIdx_eq_length]
  intro b hb
  have := List.all_eq_true.1 h b hb
  simp only [isD, decide_eq_true_eq] at this
  simp only [beq_eq_false_iff_ne, ne_eq]
  intro e
  subst e
  simp at this
theorem cut_app {l r : List UInt8} (h : l.all isD = true) : (l ++ 47 :: r).findIdx (fun b => b == 47) = l.length := by
  rw [List.findIdx_append, no_slash h]
  simp [List.findIdx_cons]
theorem fmt_ne (n : Int) : fmt n ≠ [] := by
  intro e
  unfold fmt at e
  split at e
  · cases e
  · split at e
    · cases e
    · rw [dg_pos _ (by omega)] at e; simp at e
/-- The parts of a valid fraction's text. -/
theorem parts {n d : Int} (h : okB n d = true) : sgnT (fracT n d) * numT (fracT n d) = n ∧ denT (fracT n d) = d ∧ 0 ≤ numT (fracT n d) ∧ 0 < (fracT n d).length ∧ (fracT n d).length ≤ 25 := by
  obtain ⟨d1, d2, n1, n2⟩ := ok_bd h
  obtain ⟨k, hk⟩ : ∃ k : Nat, d = (k : Int) := ⟨d.toNat, by omega⟩
  -- the text without its sign
  have key : ∀ (m : Nat), m < 10 ^ 13 → ∀ (t : List UInt8), t = (if d = 1 then fmt (m : Int) else fmt (m : Int) ++ [47] ++ fmt d) →
      dgt (t.take (cutT t)) = (m : Int) ∧ (if cutT t < t.length then dgt (t.drop (cutT t + 1)) else 1) = d ∧ t.head? ≠ some 45 ∧ 0 < t.length ∧ t.length ≤ 24 := by
    intro m hm t ht
    obtain ⟨_, hm2⟩ := fmt_nat m
    have hl := fmt_lenN hm (by omega)
    have hp : 0 < (fmt (m : Int)).length := List.length_pos_iff.2 (fmt_ne _)
    by_cases h1 : d = 1
    · rw [if_pos h1] at ht
      subst ht
      have hc : cutT (fmt (m : Int)) = (fmt (m : Int)).length := no_slash hm2
      rw [hc, List.take_of_length_le (Nat.le_refl _), if_neg (Nat.lt_irrefl _)]
      exact ⟨dgt_fmt hm, h1.symm, fmt_head m, hp, by omega⟩
    · rw [if_neg h1] at ht
      have ht' : t = fmt (m : Int) ++ 47 :: fmt d := by rw [ht]; simp
      subst ht'
      have hc : cutT (fmt (m : Int) ++ 47 :: fmt d) = (fmt (m : Int)).length := cut_app hm2
      have hl7 : (fmt d).length ≤ 7 := by rw [hk]; exact fmt_lenN (by omega) (by omega)
      rw [hc, List.take_left', if_pos (by simp)]
      · refine ⟨dgt_fmt hm, ?_, ?_, by simp; omega, by simp; omega⟩
        · rw [show fmt (m : Int) ++ 47 :: fmt d = (fmt (m : Int) ++ [47]) ++ fmt d by simp, List.drop_left' (by simp), hk]
          exact dgt_fmt (by omega)
        · intro e
          cases hf : fmt (m : Int) with
          | nil => exact fmt_ne _ hf
          | cons a r => rw [hf] at e; exact fmt_head m (by rw [hf]; exact e)
      · rfl
  have hT : fracT n d = (if d = 1 then fmt n else fmt n ++ [47] ++ fmt d) := by unfold fracT; rw [if_pos h]
  by_cases hn : n < 0
  · obtain ⟨m, hm⟩ : ∃ m : Nat, n = -(m : Int) := ⟨n.natAbs, by omega⟩
    have hs : fracT n d = 45 :: (if d = 1 then fmt (m : Int) else fmt (m : Int) ++ [47] ++ fmt d) := by
      rw [hT, hm, fmt_neg (by omega)]
      split <;> rfl
    obtain ⟨k1, k2, k3, k4, k5⟩ := key m (by omega) _ rfl
    rw [hs]
    unfold numT denT sgnT bodyT
    simp only [List.head?_cons, if_true, List.tail_cons, List.length_cons]
    rw [k1]
    exact ⟨by omega, k2, by omega, by omega, by omega⟩
  · obtain ⟨m, hm⟩ : ∃ m : Nat, n = (m : Int) := ⟨n.toNat, by omega⟩
    have hs : fracT n d = (if d = 1 then fmt (m : Int) else fmt (m : Int) ++ [47] ++ fmt d) := by rw [hT, hm]
    obtain ⟨k1, k2, k3, k4, k5⟩ := key m (by omega) _ rfl
    rw [hs]
    unfold numT denT sgnT bodyT
    simp only [if_neg k3]
    rw [k1]
    exact ⟨by omega, k2, by omega, k4, by omega⟩
/-- A valid fraction is parsed from its text. -/
theorem parse_frac {n d : Int} (h : okB n d = true) : parseT (fracT n d) = (n, d, true) := by
  obtain ⟨h1, h2, h3, h4, h5⟩ := parts h
  have hd := (ok_bd h).1
  unfold parseT
  rw [if_neg (by omega), if_neg (by omega), h1, h2, if_pos rfl]
/-- What is parsed is valid and has the text. -/
theorem parse_yes {s : List UInt8} {n d : Int} (h : parseT s = (n, d, true)) : okB n d = true ∧ fracT n d = s := by
  unfold parseT at h
  split at h
  · cases h
  next h0 =>
    split at h
    · cases h
    · split at h
      next e =>
        obtain ⟨rfl, rfl⟩ : sgnT s * numT s = n ∧ denT s = d := by
          simp only [Prod.mk.injEq, and_true] at h
          exact h
        refine ⟨?_, e⟩
        cases ho : okB (sgnT s * numT s) (denT s) with
        | true => rfl
        | false =>
          rw [fracT_no ho] at e
          rw [← e] at h0
          simp at h0
      · cases h
theorem parse_no {s : List UInt8} (h : ∀ n d, okB n d = true → fracT n d ≠ s) : parseT s = (0, 0, false) := by
  cases e : parseT s with
  | mk n r =>
    obtain ⟨d, b⟩ := r
    cases b with
    | true => obtain ⟨h1, h2⟩ := parse_yes e; exact absurd h2 (h n d h1)
    | false =>
      rw [← e]
      unfold parseT at e ⊢
      split
      · rfl
      · split
        · rfl
        · split
          next h1 h2 h3 => rw [if_neg h1, if_neg h2, if_pos h3] at e; simp at e
          · rfl
end Go.Proofs.YtiogpiopgcbdbaaDoor.FracTxM
