/- Contracts of the two encoders of bytes as hexadecimal text: both return the same text and the same answer, at every string. -/
import Derived.Test.YtiogpiopgcbdbaaDoorRows
import Derived.Test.YtiogpiopgcbdbaaDoorKit
import Derived.StillTailTactics
import Derived.Lib.Hide
import Derived.Deep.RegionHeld3
namespace Go.Proofs.YtiogpiopgcbdbaaDoor.HexEnc
open Go.RowKit BytesKit HexMath

theorem bt : ByteTypes Tryd.prog 22 5 9 := ⟨Tryd.underlying22, Tryd.underlying5, Tryd.underlying9, by kernel_rfl⟩

set_option maxHeartbeats 400000 in
theorem fig_c (x : Int) (w : World) (h0 : 0 ≤ x) (h1 : x < 16) :
    Calls Tryd.prog 67 #[.int .i64 x] w fun e w' => e = .returned (.int .u8 ((fig x.toNat).toNat : Int)) ∧ w = w' := by
  obtain ⟨n, rfl⟩ := Int.eq_ofNat_of_zero_le h0
  rw [Int.toNat_natCast, figI n (by omega)]
  by_cases h : n < 10
  · rw [if_pos h]
    go_enter Tryd.func67, Tryd.ntmps67
    go_wp2
    go_ret
    exact ⟨rfl, rfl⟩
  · rw [if_neg h]
    go_enter Tryd.func67, Tryd.ntmps67
    go_wp2
    go_ret
    exact ⟨ret_int (by omega), rfl⟩

end Go.Proofs.YtiogpiopgcbdbaaDoor.HexEnc
