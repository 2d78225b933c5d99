/- Decoding hexadecimal text as a plain function on bytes. Imports nothing of the dump. -/
import Derived.WalkKit
import Derived.Test.YtnbmfdlmgdhocaaDoorHexMath
namespace Go.Proofs.YtnbmfdlmgdhocaaDoor.HexDecMath
open HexMath

/-- The value of a digit, or -1. -/
def valI (n : Int) : Int := if 48 ≤ n ∧ n ≤ 57 then n - 48 else if 97 ≤ n ∧ n ≤ 102 then n - 87 else -1
theorem valI_lt (n : Int) : valI n < 16 ∧ -1 ≤ valI n := by unfold valI; split <;> (try split) <;> omega
def val (b : UInt8) : Int := valI (b.toNat : Int)
/-- An integer as a byte. -/
def b8 (x : Int) : UInt8 := UInt8.ofNat x.toNat
/-- The decoding of a list of digits, two at a time (a last single one is left out), or none. -/
def dec : List UInt8 → Option (List UInt8)
  | a :: b :: r => if 0 ≤ val a ∧ 0 ≤ val b then (dec r).map (b8 (16 * val a + val b) :: ·) else none
  | _ => some []
theorem dec_app : ∀ (l1 l2 : List UInt8), l1.length % 2 = 0 → dec (l1 ++ l2) = (dec l1).bind fun o => (dec l2).map (o ++ ·)
  | [], l2, _ => by simp [dec]
  | [a], l2, h => by simp at h
  | a :: b :: r, l2, h => by
    have ih := dec_app r l2 (by simp at h; omega)
    simp only [List.cons_append, dec]
    by_cases hv : 0 ≤ val a ∧ 0 ≤ val b
    · rw [if_pos hv, if_pos hv, ih]
      cases dec r <;> cases dec l2 <;> simp
    · rw [if_neg hv, if_neg hv]
      simp
/-- What the function answers. -/
def res (r : Option (List UInt8)) : Value := match r with | some l => .tuple #[.string ⟨l.toArray⟩, .bool true] | none => .tuple #[.string ⟨#[]⟩, .bool false]
def decS (s : ByteArray) : Option (List UInt8) := if 40000 < s.size ∨ s.size % 2 ≠ 0 then none else dec s.data.toList

theorem split2 (s : ByteArray) (k : Nat) (h : k + 1 < s.size) : s.data.toList = s.data.toList.take k ++ (s[k] :: s[k + 1] :: s.data.toList.drop (k + 2)) := by
  have h1 := List.take_append_drop k s.data.toList
  have h2 : s.data.toList.drop k = s[k] :: s.data.toList.drop (k + 1) := by rw [List.drop_eq_getElem_cons (by simp; omega)]; rfl
  have h3 : s.data.toList.drop (k + 1) = s[k + 1] :: s.data.toList.drop (k + 2) := by rw [List.drop_eq_getElem_cons (by simp; omega)]; rfl
  rw [h2, h3] at h1
  exact h1.symm
theorem dec_fail (s : ByteArray) (k c d : Nat) (h : k + 1 < s.size) (hk : k % 2 = 0) (hc : s[k].toNat = c) (hd : s[k + 1].toNat = d) (hv : valI (c : Int) < 0 ∨ valI (d : Int) < 0) : dec s.data.toList = none := by
  rw [split2 s k h, dec_app _ _ (by simp; omega)]
  have : dec (s[k] :: s[k + 1] :: s.data.toList.drop (k + 2)) = none := by
    simp only [dec]
    rw [if_neg (by unfold val; rw [hc, hd]; omega)]
  rw [this]
  cases dec (s.data.toList.take k) <;> simp
theorem dec_step (s : ByteArray) (k c d : Nat) (o : List UInt8) (h : k + 1 < s.size) (hk : k % 2 = 0) (hc : s[k].toNat = c) (hd : s[k + 1].toNat = d) (h1 : 0 ≤ valI (c : Int)) (h2 : 0 ≤ valI (d : Int))
    (ho : dec (s.data.toList.take k) = some o) : dec (s.data.toList.take (k + 2)) = some (o ++ [b8 (16 * valI (c : Int) + valI (d : Int))]) := by
  have e : s.data.toList.take (k + 2) = s.data.toList.take k ++ [s[k], s[k + 1]] := by
    rw [take_snoc s (k + 1) h, take_snoc s k (by omega), List.append_assoc]; rfl
  rw [e, dec_app _ _ (by simp; omega), ho]
  have : dec [s[k], s[k + 1]] = some [b8 (16 * valI (c : Int) + valI (d : Int))] := by
    simp only [dec]
    rw [if_pos (by unfold val; rw [hc, hd]; omega)]
    simp [val, hc, hd]
  rw [this]
  simp
theorem byte_val (x : Int) (h0 : 0 ≤ x) (h1 : x < 256) : ((b8 x).toNat : Int) = x := by simp [b8, UInt8.toNat_ofNat']; omega
theorem or_low (c d : Int) (h0 : 0 ≤ c) (h1 : c < 16) (h2 : 0 ≤ d) (h3 : d < 16) : bits BinOp.or .u8 (c * 16) d = 16 * c + d := by
  have H : ∀ a : Fin 16, ∀ b : Fin 16, bits BinOp.or .u8 (((a.val : Nat) : Int) * 16) ((b.val : Nat) : Int) = 16 * ((a.val : Nat) : Int) + ((b.val : Nat) : Int) := by decide +kernel
  have := H ⟨c.toNat, by omega⟩ ⟨d.toNat, by omega⟩
  simp only [Int.toNat_of_nonneg h0, Int.toNat_of_nonneg h2] at this
  exact this
end Go.Proofs.YtnbmfdlmgdhocaaDoor.HexDecMath
