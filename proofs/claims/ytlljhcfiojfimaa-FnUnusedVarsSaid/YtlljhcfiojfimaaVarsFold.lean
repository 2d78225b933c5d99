/- Which variables a formula uses, as a fold over the nodes from the last one down: plain mathematics. -/
import Derived.Test.YtlljhcfiojfimaaVarsMath
namespace Go.Proofs.Ytlljhcfiojfimaa.VarsFold
open TNode NodeMath VarsMath
def opsOf (n : El) : List Int := if 3 ≤ n.Kind ∧ n.Kind ≤ 8 then [n.A, n.B] else if n.Kind = 9 then [n.A, n.B, n.C] else []
theorem step_eq {n : El} {i : Nat} {at_ : Int} {s : List Bool × List Bool} (h : OkN n at_) :
    stepV n i s = if s.2.getD i false = false then s else (if n.Kind = 2 then setB s.1 n.A else s.1, (opsOf n).foldl setB s.2) := by
  unfold stepV
  by_cases h0 : s.2.getD i false = false
  · rw [if_pos (.inl h0), if_pos h0]
  · rw [if_neg h0]
    rcases h with h1 | ⟨_, _, h1 | h1 | h1⟩
    · rw [if_pos (.inr h1.1), if_neg (by omega)]
      simp [opsOf, h1.1]
    · rw [if_neg (by have := h1.1; rintro (e | e); exact h0 e; omega), if_pos h1.1, if_pos h1.1]
      simp [opsOf, h1.1]
    · have := h1.1
      rw [if_neg (by rintro (e | e); exact h0 e; omega), if_neg (by omega), if_neg (by omega), if_neg (by omega)]
      simp [opsOf, h1.1]
    · have := h1.1
      rw [if_neg (by rintro (e | e); exact h0 e; omega), if_neg (by omega), if_pos h1.1, if_neg (by omega)]
      simp [opsOf, h1.1]
/-- The first j indexes, from the last one down. -/
def down (l : List El) : Nat → List (Fin l.length)
  | 0 => []
  | j + 1 => if h : l.length - 1 - j < l.length then down l j ++ [⟨l.length - 1 - j, h⟩] else down l j
theorem down_len (l : List El) : ∀ j, j ≤ l.length → (down l j).length = j
  | 0, _ => rfl
  | j + 1, h => by
    rw [down, dif_pos (by omega), List.length_append, down_len l j (by omega)]
    rfl
theorem down_succ {l : List El} {j k : Nat} (h : k < l.length) (hk : l.length - 1 - j = k) : down l (j + 1) = down l j ++ [⟨k, h⟩] := by
  subst hk
  rw [down, dif_pos h]
def fold (l : List El) (pre : List (Fin l.length)) : List Bool × List Bool := pre.foldl (fun s k => stepV l[k.1] k.1 s) (runV l 0)
theorem fold_snoc (l : List El) (pre : List (Fin l.length)) (k : Fin l.length) : fold l (pre ++ [k]) = stepV l[k.1] k.1 (fold l pre) := by
  simp [fold]
theorem fold_down (l : List El) : ∀ j, fold l (down l j) = runV l j
  | 0 => rfl
  | j + 1 => by
    rw [down, runV]
    by_cases h : l.length - 1 - j < l.length
    · rw [dif_pos h, dif_pos h, fold_snoc, fold_down l j]
    · rw [dif_neg h, dif_neg h]
      exact fold_down l j
theorem fold_len (l : List El) (pre : List (Fin l.length)) : (fold l pre).1.length = 8 ∧ (fold l pre).2.length = l.length := by
  have : ∀ (pre : List (Fin l.length)) (s : List Bool × List Bool), (s.1.length = 8 ∧ s.2.length = l.length) → (pre.foldl (fun s k => stepV l[k.1] k.1 s) s).1.length = 8 ∧ (pre.foldl (fun s k => stepV l[k.1] k.1 s) s).2.length = l.length := by
    intro pre
    induction pre with
    | nil => intro s h; exact h
    | cons k ks ih => intro s h; rw [List.foldl_cons]; exact ih _ (by obtain ⟨a, b⟩ := stepV_len l[k.1] k.1 s; rw [a, b]; exact h)
  exact this pre _ (runV_len l 0)
theorem foldB_len (ops : List Int) : ∀ (s : List Bool), (ops.foldl setB s).length = s.length := by
  induction ops with
  | nil => intro s; rfl
  | cons a xs ih => intro s; rw [List.foldl_cons, ih, setB_len]
theorem foldB_take (ops : List Int) (s : List Bool) (t : Nat) (h : t < ops.length) : (ops.take (t + 1)).foldl setB s = setB ((ops.take t).foldl setB s) ops[t] := by
  rw [List.take_succ_eq_append_getElem h, List.foldl_append]
  rfl
end Go.Proofs.Ytlljhcfiojfimaa.VarsFold
