/- The encoding of bytes is decoded as the bytes again; the text of ten. Imports nothing of the dump. -/
import Derived.WalkKit
import Derived.Test.YtnbmfdlmgdhocaaDoorHexMath
import Derived.Test.YtnbmfdlmgdhocaaDoorHexDecMath
import Derived.Test.YtnbmfdlmgdhocaaDoorNumMath
namespace Go.Proofs.YtnbmfdlmgdhocaaDoor.HexBack
open HexMath HexDecMath NumMath

theorem val_fig (n : Nat) (h : n < 16) : val (fig n) = n := by
  unfold val valI
  rw [figI n h]
  split <;> split <;> (try split) <;> omega
theorem byte_back (b : UInt8) : b8 (16 * (b.toNat / 16 : Nat) + (b.toNat % 16 : Nat)) = b := by
  unfold b8
  rw [show (16 * ((b.toNat / 16 : Nat) : Int) + ((b.toNat % 16 : Nat) : Int)).toNat = b.toNat by omega]
  simp
theorem dec_enc (l : List UInt8) : dec (enc l) = some l := by
  induction l with
  | nil => rfl
  | cons b l ih =>
    have hb := UInt8.toNat_lt b
    have e : enc (b :: l) = fig (b.toNat / 16) :: fig (b.toNat % 16) :: enc l := rfl
    have h1 := val_fig (b.toNat / 16) (by omega)
    have h2 := val_fig (b.toNat % 16) (by omega)
    rw [e, dec, h1, h2, if_pos (by omega), ih, byte_back]
    rfl
theorem decS_enc (s : ByteArray) (h : s.size ≤ 20000) : decS ⟨(enc s.data.toList).toArray⟩ = some s.data.toList := by
  have hl : (⟨(enc s.data.toList).toArray⟩ : ByteArray).size = 2 * s.size := by
    show (enc s.data.toList).length = 2 * s.size
    rw [enc_len]; simp
  unfold decS
  rw [hl, if_neg (by omega)]
  exact dec_enc _
theorem enc_size (s : ByteArray) : (⟨(enc s.data.toList).toArray⟩ : ByteArray).size = 2 * s.size := by
  show (enc s.data.toList).length = 2 * s.size
  rw [enc_len]; simp
theorem fmt_ten : fmt 10 = [49, 48] := by
  unfold fmt
  rw [if_neg (by omega), if_neg (by omega), show Int.natAbs 10 = 10 from rfl, dg_pos 10 (by omega), dg_pos (10 / 10) (by omega), show 10 / 10 / 10 = 0 from rfl, dg_zero]
  decide
theorem res_back (s : ByteArray) : res (some s.data.toList) = .tuple #[.string s, .bool true] := by
  show Value.tuple #[.string ⟨s.data.toList.toArray⟩, .bool true] = _
  rw [show (⟨s.data.toList.toArray⟩ : ByteArray) = s by simp]
theorem fmt_neg3 : fmt (-3) = [45, 51] := by
  unfold fmt
  rw [if_neg (by omega), if_pos (by omega), show Int.natAbs (-3) = 3 from rfl, dg_pos 3 (by omega), show 3 / 10 = 0 from rfl, dg_zero]
  decide
end Go.Proofs.YtnbmfdlmgdhocaaDoor.HexBack
