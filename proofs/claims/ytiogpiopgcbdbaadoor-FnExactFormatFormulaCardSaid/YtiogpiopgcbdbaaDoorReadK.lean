/- Reading one node by its operands, one behind the other: plain mathematics. -/
import Derived.Test.YtiogpiopgcbdbaaDoorReadM
namespace Go.Proofs.YtiogpiopgcbdbaaDoor.ReadK
open TNode NodeMath FracMath FracTxM NumMath NumParse NumBack HexMath SizeM ReadM
/-- As many nodes more as words less. -/
theorem read_len : ∀ (f : Nat) (ws : List SizeM.W) (out o : List El) (r : List SizeM.W), readT f ws out = some (o, r) → o.length + r.length = out.length + ws.length
  | 0, _, _, _, _, h => by rw [readT] at h; cases h
  | _ + 1, [], _, _, _, h => by rw [readT] at h; cases h
  | f + 1, w :: ws, out, o, r, h => by
    rw [readT] at h
    split at h
    · cases h; simp; omega
    · split at h
      · cases h; simp; omega
      · split at h
        · cases h
        · cases e1 : readT f ws out with
          | none => rw [e1] at h; cases h
          | some p1 =>
            obtain ⟨o1, r1⟩ := p1
            rw [e1] at h
            simp only [] at h
            have l1 := read_len f ws out o1 r1 e1
            cases e2 : readT f r1 o1 with
            | none => rw [e2] at h; cases h
            | some p2 =>
              obtain ⟨o2, r2⟩ := p2
              rw [e2] at h
              simp only [] at h
              have l2 := read_len f r1 o1 o2 r2 e2
              split at h
              · cases e3 : readT f r2 o2 with
                | none => rw [e3] at h; cases h
                | some p3 =>
                  obtain ⟨o3, r3⟩ := p3
                  rw [e3] at h
                  simp only [] at h
                  have l3 := read_len f r2 o2 o3 r3 e3
                  cases h
                  simp
                  omega
              · cases h
                simp
                omega
theorem drop_suffix {α : Type} {l r : List α} {p : Nat} (h : r <:+ l.drop p) : r = l.drop (l.length - r.length) := List.suffix_iff_eq_drop.1 (h.trans (List.drop_suffix p l))
/-- The kind that the search has found ahead of k. -/
def kindTo (w : SizeM.W) (k : Int) : Int := if kindOf w < k then kindOf w else 0
theorem kind_or (w : SizeM.W) : kindOf w = 0 ∨ 3 ≤ kindOf w ∧ kindOf w ≤ 9 := by
  unfold kindOf
  repeat' split
  all_goals omega
theorem kindTo_3 (w : SizeM.W) : kindTo w 3 = 0 := by
  unfold kindTo
  have := kind_or w
  split <;> omega
theorem kindTo_10 (w : SizeM.W) : kindTo w 10 = kindOf w := by
  unfold kindTo
  have := kind_or w
  split <;> omega
theorem name_kind (w : SizeM.W) (h : kindOf w ≠ 0) : nameW (kindOf w) = w := by
  unfold kindOf at h ⊢
  repeat' split
  all_goals first
    | (subst_vars; rfl)
    | (simp_all; done)
theorem kindTo_yes {w : SizeM.W} {k : Int} (h : 3 ≤ k ∧ k ≤ 9) (e : nameW k = w) : kindTo w (k + 1) = k := by
  have : kindOf w = k := by rw [← e]; exact kind_name h
  unfold kindTo
  rw [this, if_pos (by omega)]
theorem kindTo_no {w : SizeM.W} {k : Int} (h : 3 ≤ k ∧ k ≤ 9) (e : nameW k ≠ w) : kindTo w (k + 1) = kindTo w k := by
  have : kindOf w ≠ k := fun h2 => e (by rw [← h2]; exact name_kind w (by omega))
  unfold kindTo
  by_cases h2 : kindOf w < k
  · rw [if_pos (by omega), if_pos h2]
  · rw [if_neg (by omega), if_neg h2]
/-- The operands from the j-th on. -/
def after (k : Int) (f : Nat) (j : Nat) (A B C : Int) (o : List El) (r : List SizeM.W) : Option (List El × List SizeM.W) :=
  if h : j < 2 ∨ (j < 3 ∧ k = 9) then match readT f r o with
    | none => none
    | some (o', r') => after k f (j + 1) (if j = 0 then (o'.length : Int) - 1 else A) (if j = 1 then (o'.length : Int) - 1 else B) (if 2 ≤ j then (o'.length : Int) - 1 else C) o' r'
  else some (o ++ [⟨k, A, B, C, 0, 0⟩], r)
termination_by 3 - j
decreasing_by omega
theorem after_none {k : Int} {f j : Nat} {A B C : Int} {o : List El} {r : List SizeM.W} (h : j < 2 ∨ (j < 3 ∧ k = 9)) (e : readT f r o = none) : after k f j A B C o r = none := by rw [after, dif_pos h, e]
theorem after_some {k : Int} {f j : Nat} {A B C : Int} {o o' : List El} {r r' : List SizeM.W} (h : j < 2 ∨ (j < 3 ∧ k = 9)) (e : readT f r o = some (o', r')) : after k f j A B C o r = after k f (j + 1) (if j = 0 then (o'.length : Int) - 1 else A) (if j = 1 then (o'.length : Int) - 1 else B) (if 2 ≤ j then (o'.length : Int) - 1 else C) o' r' := by rw [after, dif_pos h, e]
theorem after_end {k : Int} {f j : Nat} {A B C : Int} {o : List El} {r : List SizeM.W} (h : ¬ (j < 2 ∨ (j < 3 ∧ k = 9))) : after k f j A B C o r = some (o ++ [⟨k, A, B, C, 0, 0⟩], r) := by rw [after, dif_neg h]
theorem read_after {f : Nat} {w : SizeM.W} {r : List SizeM.W} {out : List El} (h1 : (parseT w).2.2 = false) (h2 : varOf w < 0) (h3 : kindOf w ≠ 0) : readT (f + 1) (w :: r) out = after (kindOf w) f 0 0 0 0 out r := by
  rw [readT, if_neg (by rw [h1]; simp), if_neg (by omega), if_neg h3]
  cases e1 : readT f r out with
  | none => rw [after_none (by omega) e1]
  | some p1 =>
    obtain ⟨o1, r1⟩ := p1
    rw [after_some (by omega) e1]
    simp only []
    cases e2 : readT f r1 o1 with
    | none => rw [after_none (by omega) e2]
    | some p2 =>
      obtain ⟨o2, r2⟩ := p2
      rw [after_some (by omega) e2]
      simp only []
      by_cases h9 : kindOf w = 9
      · rw [if_pos h9]
        cases e3 : readT f r2 o2 with
        | none => rw [after_none (by omega) e3]
        | some p3 =>
          obtain ⟨o3, r3⟩ := p3
          rw [after_some (by omega) e3, after_end (by omega), h9]
          rfl
      · rw [if_neg h9, after_end (by omega)]
        rfl
theorem var_no {l : SizeM.W} (h : ¬ ∃ c : Nat, l = [118, UInt8.ofNat c] ∧ 48 ≤ c ∧ c ≤ 55) : varOf l < 0 := by
  unfold varOf
  split
  · rename_i a c
    rw [if_neg]
    · omega
    · rintro ⟨rfl, h2, h3⟩
      exact h ⟨c.toNat, by simp, h2, h3⟩
  · omega
theorem two {s : ByteArray} (h : s.size = 2) : ∃ a b, s.data.toList = [a, b] ∧ (s[0]'(by omega)).toNat = a.toNat ∧ (s[1]'(by omega)).toNat = b.toNat := by
  have hl : s.data.toList.length = 2 := by simpa using h
  obtain ⟨a, b, e⟩ : ∃ a b, s.data.toList = [a, b] := by
    match e : s.data.toList, hl with
    | [a, b], _ => exact ⟨a, b, rfl⟩
  refine ⟨a, b, e, ?_, ?_⟩
  · have : s[0]'(by omega) = s.data.toList[0]'(by simp; omega) := rfl
    rw [this]; simp only [e]; rfl
  · have : s[1]'(by omega) = s.data.toList[1]'(by simp; omega) := rfl
    rw [this]; simp only [e]; rfl
end Go.Proofs.YtiogpiopgcbdbaaDoor.ReadK
