/- Which variables a formula uses: plain mathematics. -/
import Derived.Test.YtlljhcfiojfimaaNodeMath
namespace Go.Proofs.Ytlljhcfiojfimaa.VarsMath
open TNode NodeMath FracMath
def setB (s : List Bool) (i : Int) : List Bool := s.set i.toNat true
theorem setB_len (s : List Bool) (i : Int) : (setB s i).length = s.length := by simp [setB]
/-- One node, met from the last one down: the variables found so far, the nodes that are needed. -/
def stepV (n : El) (i : Nat) (s : List Bool × List Bool) : List Bool × List Bool :=
  if s.2.getD i false = false ∨ n.Kind = 1 then s
  else if n.Kind = 2 then (setB s.1 n.A, s.2)
  else if n.Kind = 9 then (s.1, setB (setB (setB s.2 n.A) n.B) n.C)
  else (s.1, setB (setB s.2 n.A) n.B)
/-- Behind j nodes. -/
def runV (l : List El) : Nat → List Bool × List Bool
  | 0 => (List.replicate 8 false, (List.replicate l.length false).set (l.length - 1) true)
  | j + 1 => if h : l.length - 1 - j < l.length then stepV l[l.length - 1 - j] (l.length - 1 - j) (runV l j) else runV l j
noncomputable def varsOf (l : List El) : List Bool := if okF l = true then (runV l l.length).1 else []
theorem stepV_len (n : El) (i : Nat) (s : List Bool × List Bool) : (stepV n i s).1.length = s.1.length ∧ (stepV n i s).2.length = s.2.length := by
  unfold stepV
  split
  · exact ⟨rfl, rfl⟩
  · split
    · exact ⟨setB_len _ _, rfl⟩
    · split
      · simp [setB_len]
      · simp [setB_len]
theorem runV_len (l : List El) : ∀ j, (runV l j).1.length = 8 ∧ (runV l j).2.length = l.length
  | 0 => by simp [runV]
  | j + 1 => by
    rw [runV]
    split
    · obtain ⟨h1, h2⟩ := runV_len l j
      obtain ⟨h3, h4⟩ := stepV_len l[l.length - 1 - j] (l.length - 1 - j) (runV l j)
      exact ⟨by rw [h3, h1], by rw [h4, h2]⟩
    · exact runV_len l j
theorem varsOf_len (l : List El) : (varsOf l).length ≤ 8 := by
  unfold varsOf
  split
  · exact Nat.le_of_eq (runV_len l _).1
  · simp
end Go.Proofs.Ytlljhcfiojfimaa.VarsMath
