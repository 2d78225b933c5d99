/- Contracts of the two decoders of hexadecimal text: both return the same bytes and the same answer, at every string. -/
import Derived.Test.YtnbmfdlmgdhocaaDoorRows
import Derived.Test.YtnbmfdlmgdhocaaDoorBytesKit
import Derived.Test.YtnbmfdlmgdhocaaDoorHexMath
import Derived.Test.YtnbmfdlmgdhocaaDoorHexDecMath
import Derived.Test.YtnbmfdlmgdhocaaDoorHexEnc
import Derived.Lib.Hide
namespace Go.Proofs.YtnbmfdlmgdhocaaDoor.HexDec
open Go.RowKit BytesKit HexMath HexDecMath HexEnc

set_option maxHeartbeats 400000 in
theorem hex_yes (n : Int) (w : World) (h0 : 0 ≤ n) (h1 : n < 256) (hv : 0 ≤ valI n) :
    Calls Tryd.prog 25 #[.int .u8 n] w fun e w' => e = .returned (.tuple #[.int .u8 (valI n), .bool true]) ∧ w = w' := by
  unfold valI at *
  by_cases a : 48 ≤ n ∧ n ≤ 57
  · rw [if_pos a]
    obtain ⟨a, b⟩ := a
    clear hv
    go_enter Tryd.func25, Tryd.ntmps25
    go_wp2
    go_ret2
    exact ⟨rfl, rfl⟩
  · rw [if_neg a] at *
    by_cases c : 97 ≤ n ∧ n ≤ 102
    · rw [if_pos c]
      clear hv
      obtain ⟨c, d⟩ := c
      have b : ¬ n ≤ 57 := by omega
      clear a
      go_enter Tryd.func25, Tryd.ntmps25
      go_wp2
      go_ret2
      exact ⟨by rw [show n - 97 + 10 = n - 87 by omega]; rfl, rfl⟩
    · rw [if_neg c] at hv
      omega

set_option maxHeartbeats 400000 in
theorem hex_no (n : Int) (w : World) (h0 : 0 ≤ n) (h1 : n < 256) (hv : valI n < 0) :
    Calls Tryd.prog 25 #[.int .u8 n] w fun e w' => e = .returned (.tuple #[.int .u8 0, .bool false]) ∧ w = w' := by
  have H : ¬ (48 ≤ n ∧ n ≤ 57) ∧ ¬ (97 ≤ n ∧ n ≤ 102) := by
    unfold valI at hv
    split at hv
    · omega
    · split at hv <;> omega
  obtain ⟨H1, H2⟩ := H
  clear hv
  by_cases a : 48 ≤ n <;> by_cases b : n ≤ 57 <;> by_cases c : 97 ≤ n <;> by_cases d : n ≤ 102
  all_goals first | omega | skip
  all_goals
    clear H1 H2
    go_enter Tryd.func25, Tryd.ntmps25
    go_wp2
    go_ret2
    exact ⟨rfl, rfl⟩

end Go.Proofs.YtnbmfdlmgdhocaaDoor.HexDec
