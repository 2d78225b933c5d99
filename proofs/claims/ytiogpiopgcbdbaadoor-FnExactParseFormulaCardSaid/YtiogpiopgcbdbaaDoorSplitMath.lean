/- The fields of a line as plain functions on bytes: both texts go through the bytes with the same state. Imports nothing of the dump. -/
import Derived.WalkKit
namespace Go.Proofs.YtiogpiopgcbdbaaDoor.SplitMath

/-- Byte k of the line. -/
def at_ (s : ByteArray) (k : Nat) : Nat := (s.data.toList.getD k 0).toNat
theorem at_get (s : ByteArray) (k : Nat) (h : k < s.size) : s[k].toNat = at_ s k := by
  unfold at_
  have h' : k < s.data.toList.length := by simpa using h
  rw [List.getD_eq_getElem?_getD, List.getElem?_eq_getElem h']
  rfl
/-- Behind the first k bytes: where the open field begins; the fields that are closed. -/
def st (s : ByteArray) : Nat → Nat × List ByteArray
  | 0 => (0, [])
  | k + 1 => if at_ s k = 32 then (k + 1, if (st s k).1 < k then (st s k).2 ++ [s.extract (st s k).1 k] else (st s k).2) else st s k
/-- All fields. -/
def fin (s : ByteArray) : List ByteArray := if (st s s.size).1 < s.size then (st s s.size).2 ++ [s.extract (st s s.size).1 s.size] else (st s s.size).2
theorem st_le (s : ByteArray) (k : Nat) : (st s k).1 ≤ k ∧ (st s k).2.length ≤ k := by
  induction k with
  | zero => exact ⟨Nat.le_refl _, Nat.le_refl _⟩
  | succ k ih =>
    unfold st
    split
    · refine ⟨Nat.le_refl _, ?_⟩
      show (if (st s k).1 < k then _ else _ : List ByteArray).length ≤ k + 1
      split
      · rw [List.length_append, List.length_singleton]; omega
      · omega
    · omega
def okB (n : Nat) : Prop := 32 ≤ n ∧ n ≤ 126
open Classical in
/-- What the function answers: the fields, or none. -/
noncomputable def split (s : ByteArray) : Option (List ByteArray) := if 600 < s.size ∨ (∃ k, k < s.size ∧ ¬ okB (at_ s k)) ∨ 24 < (fin s).length then none else some (fin s)
theorem split_long (s : ByteArray) (h : 600 < s.size) : split s = none := by unfold split; rw [if_pos (.inl h)]
theorem split_bad (s : ByteArray) (k : Nat) (h : k < s.size) (hb : ¬ okB (at_ s k)) : split s = none := by unfold split; rw [if_pos (.inr (.inl ⟨k, h, hb⟩))]
theorem split_many (s : ByteArray) (h : 24 < (fin s).length) : split s = none := by unfold split; rw [if_pos (.inr (.inr h))]
theorem split_some (s : ByteArray) (h1 : s.size ≤ 600) (h2 : ∀ k, k < s.size → okB (at_ s k)) (h3 : (fin s).length ≤ 24) : split s = some (fin s) := by
  unfold split
  rw [if_neg]
  rintro (h | ⟨k, hk, hb⟩ | h)
  · omega
  · exact hb (h2 k hk)
  · omega
end Go.Proofs.YtiogpiopgcbdbaaDoor.SplitMath
