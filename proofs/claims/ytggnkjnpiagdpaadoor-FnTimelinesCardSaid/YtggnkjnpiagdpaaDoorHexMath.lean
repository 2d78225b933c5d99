/- Hexadecimal digits as plain functions on bytes. Imports nothing of the dump. -/
import Derived.WalkKit
namespace Go.Proofs.YtggnkjnpiagdpaaDoor.HexMath

/-- The digit of n (below 16). -/
def fig (n : Nat) : UInt8 := if n < 10 then UInt8.ofNat (48 + n) else UInt8.ofNat (87 + n)
/-- The encoding of a list of bytes. -/
def enc (l : List UInt8) : List UInt8 := l.flatMap fun b => [fig (b.toNat / 16), fig (b.toNat % 16)]
theorem enc_len (l : List UInt8) : (enc l).length = 2 * l.length := by
  induction l with
  | nil => rfl
  | cons a l ih => simp only [enc, List.flatMap_cons, List.length_append, List.length_cons, List.length_nil] at *; omega
theorem enc_snoc (l : List UInt8) (b : UInt8) : enc (l ++ [b]) = enc l ++ [fig (b.toNat / 16), fig (b.toNat % 16)] := by simp [enc]
theorem take_snoc (s : ByteArray) (k : Nat) (h : k < s.size) : s.data.toList.take (k + 1) = s.data.toList.take k ++ [s[k]] := by
  rw [List.take_succ_eq_append_getElem (by simpa using h)]; rfl
theorem figI (n : Nat) (h : n < 16) : ((fig n).toNat : Int) = if n < 10 then 48 + (n : Int) else 87 + n := by
  unfold fig
  split
  · simp [UInt8.toNat_ofNat']; omega
  · simp [UInt8.toNat_ofNat']; omega
theorem tdiv_byte (c : Nat) (h : c < 256) : IntKind.i64.wrap ((c : Int).tdiv 16) = ((c / 16 : Nat) : Int) := by
  rw [Int.tdiv_eq_ediv_of_nonneg (by omega)]
  exact IntWalk.i64_in _ (by omega)
theorem tmod_byte (c : Nat) (h : c < 256) : IntKind.i64.wrap ((c : Int).tmod 16) = ((c % 16 : Nat) : Int) := by
  rw [Int.tmod_eq_emod_of_nonneg (by omega)]
  exact IntWalk.i64_in _ (by omega)
theorem enc_step (s : ByteArray) (k c : Nat) (h : k < s.size) (hc : s[k].toNat = c) : enc (s.data.toList.take (k + 1)) = enc (s.data.toList.take k) ++ [fig ((c : Int) / 16).toNat, fig ((c : Int) % 16).toNat] := by
  rw [take_snoc s k h, enc_snoc, hc]
  have h1 : ((c : Int) / 16).toNat = c / 16 := by omega
  have h2 : ((c : Int) % 16).toNat = c % 16 := by omega
  rw [h1, h2]
theorem take_all (s : ByteArray) (k : Nat) (h : s.size ≤ k) : s.data.toList.take k = s.data.toList := List.take_of_length_le (by simpa using h)
/-- The program's table of digits, as a string. -/
abbrev digits : ByteArray := ⟨#[48, 49, 50, 51, 52, 53, 54, 55, 56, 57, 97, 98, 99, 100, 101, 102]⟩
theorem digits_size : digits.size = 16 := rfl
theorem digits_at (x : Int) (h0 : 0 ≤ x) (h1 : x < 16) (p : x.toNat < digits.size) : digits[x.toNat]'p = fig x.toNat := by
  have H : ∀ n : Fin 16, digits[n.val]'(by rw [digits_size]; exact n.isLt) = fig n.val := by decide
  exact H ⟨x.toNat, by omega⟩
theorem and15 (c : Nat) (h : c < 256) : bits BinOp.and .u8 (c : Int) 15 = (c : Int) % 16 := by
  have H : ∀ n : Fin 256, bits BinOp.and .u8 ((n.val : Nat) : Int) 15 = ((n.val : Nat) : Int) % 16 := by decide +kernel
  exact H ⟨c, h⟩
end Go.Proofs.YtggnkjnpiagdpaaDoor.HexMath
