/- What formulas say: plain mathematics on lists of nodes and fractions. -/
import Derived.Test.YtkfgflmhefbinaaTNode
import Derived.Test.YtkfgflmhefbinaaKit
namespace Go.Proofs.Ytkfgflmhefbinaa.NodeMath
open TNode FracMath

abbrev Fr := TFrac.El
def okV (x : Fr) : Bool := okB x.Num x.Den
/-- A node is valid at an index. -/
def OkN (n : El) (at_ : Int) : Prop :=
  (n.Kind = 1 ∧ n.A = 0 ∧ n.B = 0 ∧ n.C = 0 ∧ okB n.Value_Num n.Value_Den = true) ∨
  (n.Value_Num = 0 ∧ n.Value_Den = 0 ∧
    ((n.Kind = 2 ∧ (0 ≤ n.A ∧ n.A ≤ 7) ∧ n.B = 0 ∧ n.C = 0) ∨
     ((3 ≤ n.Kind ∧ n.Kind ≤ 8) ∧ (0 ≤ n.A ∧ n.A < at_) ∧ (0 ≤ n.B ∧ n.B < at_) ∧ n.C = 0) ∨
     (n.Kind = 9 ∧ (0 ≤ n.A ∧ n.A < at_) ∧ (0 ≤ n.B ∧ n.B < at_) ∧ (0 ≤ n.C ∧ n.C < at_))))
open Classical in
noncomputable def okN (n : El) (at_ : Int) : Bool := decide (OkN n at_)
theorem okN_yes {n : El} {at_ : Int} (h : OkN n at_) : okN n at_ = true := by simp [okN, h]
theorem okN_no {n : El} {at_ : Int} (h : ¬ OkN n at_) : okN n at_ = false := by simp [okN, h]
theorem okN_of {n : El} {at_ : Int} (h : okN n at_ = true) : OkN n at_ := by simpa [okN] using h
def OkF (l : List El) : Prop := (1 ≤ l.length ∧ l.length ≤ 30) ∧ ∀ i (h : i < l.length), okN l[i] (i : Int) = true
open Classical in
noncomputable def okF (l : List El) : Bool := decide (OkF l)
theorem okF_yes {l : List El} (h : OkF l) : okF l = true := by simp [okF, h]
theorem okF_no {l : List El} (h : ¬ OkF l) : okF l = false := by simp [okF, h]
theorem okF_of {l : List El} (h : okF l = true) : OkF l := by simpa [okF] using h
def OkVs (vs : List Fr) : Prop := vs.length = 8 ∧ ∀ i (h : i < vs.length), okV vs[i] = true
open Classical in
noncomputable def okVs (vs : List Fr) : Bool := decide (OkVs vs)
theorem okVs_yes {l : List Fr} (h : OkVs l) : okVs l = true := by simp [okVs, h]
theorem okVs_no {l : List Fr} (h : ¬ OkVs l) : okVs l = false := by simp [okVs, h]
theorem okVs_of {l : List Fr} (h : okVs l = true) : OkVs l := by simpa [okVs] using h

def zF : Fr := ⟨0, 0⟩
def at0 (v : List Fr) (i : Int) : Fr := v.getD i.toNat zF
/-- The value of a node, given those of the nodes ahead of it. -/
def valN (n : El) (v vs : List Fr) : Int × Int × Bool :=
  if n.Kind = 1 then (n.Value_Num, n.Value_Den, true)
  else if n.Kind = 2 then ((at0 vs n.A).Num, (at0 vs n.A).Den, true)
  else
    let a := at0 v n.A
    let b := at0 v n.B
    if n.Kind = 3 then sumR a.Num a.Den b.Num b.Den
    else if n.Kind = 4 then subR a.Num a.Den b.Num b.Den
    else if n.Kind = 5 then mulR a.Num a.Den b.Num b.Den
    else if n.Kind = 6 then divR a.Num a.Den b.Num b.Den
    else if n.Kind = 7 then (if cmpI b.Num b.Den a.Num a.Den < 0 then (b.Num, b.Den, true) else (a.Num, a.Den, true))
    else if n.Kind = 8 then (if 0 < cmpI b.Num b.Den a.Num a.Den then (b.Num, b.Den, true) else (a.Num, a.Den, true))
    else if 0 < a.Num then (b.Num, b.Den, true) else ((at0 v n.C).Num, (at0 v n.C).Den, true)
/-- The values of the first k nodes, where no operation fails. -/
def evalTo (l : List El) (vs : List Fr) : Nat → Option (List Fr)
  | 0 => some []
  | k + 1 => match evalTo l vs k with
    | none => none
    | some v => if h : k < l.length then (if (valN l[k] v vs).2.2 = true then some (v ++ [⟨(valN l[k] v vs).1, (valN l[k] v vs).2.1⟩]) else none) else some v
theorem evalTo_none {l : List El} {vs : List Fr} {k : Nat} (h : evalTo l vs k = none) : ∀ j, k ≤ j → evalTo l vs j = none := by
  intro j hj
  induction j with
  | zero => have : k = 0 := by omega
            subst this; exact h
  | succ i ih =>
    by_cases e : k = i + 1
    · subst e; exact h
    · rw [evalTo, ih (by omega)]
theorem evalTo_len {l : List El} {vs : List Fr} : ∀ {k : Nat} {v : List Fr}, k ≤ l.length → evalTo l vs k = some v → v.length = k
  | 0, v, _, h => by rw [evalTo] at h; cases h; rfl
  | k + 1, v, hk, h => by
    rw [evalTo] at h
    cases e : evalTo l vs k with
    | none => rw [e] at h; cases h
    | some u =>
      rw [e] at h
      simp only [dif_pos (show k < l.length by omega)] at h
      split at h
      · cases h
        rw [List.length_append, evalTo_len (by omega) e]
        rfl
      · cases h
theorem evalTo_yes {l : List El} {vs v : List Fr} {k : Nat} (h : evalTo l vs k = some v) (hk : k < l.length) {x y : Int} (hv : valN l[k] v vs = (x, y, true)) : evalTo l vs (k + 1) = some (v ++ [⟨x, y⟩]) := by
  rw [evalTo, h]
  simp only [dif_pos hk, hv, if_true]
theorem evalTo_no {l : List El} {vs v : List Fr} {k : Nat} (h : evalTo l vs k = some v) (hk : k < l.length) {x y : Int} (hv : valN l[k] v vs = (x, y, false)) : evalTo l vs (k + 1) = none := by
  rw [evalTo, h]
  simp only [dif_pos hk, hv]
  rw [if_neg Bool.false_ne_true]
noncomputable def evalAll (l : List El) (vs : List Fr) : List Fr × Bool :=
  if okF l = true ∧ okVs vs = true then (match evalTo l vs l.length with | some v => (v, true) | none => ([], false)) else ([], false)
theorem evalAll_no {l : List El} {vs : List Fr} (h : ¬ (okF l = true ∧ okVs vs = true)) : evalAll l vs = ([], false) := if_neg h
theorem evalAll_some {l : List El} {vs v : List Fr} (h : okF l = true ∧ okVs vs = true) (hv : evalTo l vs l.length = some v) : evalAll l vs = (v, true) := by rw [evalAll, if_pos h, hv]
theorem evalAll_none {l : List El} {vs : List Fr} (h : okF l = true ∧ okVs vs = true) {k : Nat} (hk : k ≤ l.length) (hv : evalTo l vs k = none) : evalAll l vs = ([], false) := by rw [evalAll, if_pos h, evalTo_none hv _ hk]
theorem evalAll_len (l : List El) (vs : List Fr) (h : l.length ≤ 1048576) : (evalAll l vs).1.length ≤ 1048576 := by
  unfold evalAll
  split
  · split
    next v hv => rw [evalTo_len (Nat.le_refl _) hv]; exact h
    next => simp
  · simp
/-- The value of the last node. -/
noncomputable def evalL (l : List El) (vs : List Fr) : Int × Int × Bool :=
  if (evalAll l vs).2 = true then ((at0 (evalAll l vs).1 ((evalAll l vs).1.length - 1 : Int)).Num, (at0 (evalAll l vs).1 ((evalAll l vs).1.length - 1 : Int)).Den, true) else (0, 0, false)
end Go.Proofs.Ytkfgflmhefbinaa.NodeMath
