/- The contract of the law's helper that compares two slices of strings: equal lists compare equal. -/
import Derived.Test.YtnbmfdlmgdhocaaDoorRows
import Derived.Test.YtnbmfdlmgdhocaaDoorStrKit
import Derived.Test.YtnbmfdlmgdhocaaDoorSplitI
import Derived.Lib.Hide
import Derived.BigQuiet
namespace Go.Proofs.YtnbmfdlmgdhocaaDoor.Same
open Go.RowKit StrKit

def YesDrawn (w : World) (e : Ending) (w' : World) : Prop := e = .returned (.bool true) ∧ ∃ n, w' = w.drewN n

set_option maxHeartbeats 400000 in
theorem same_c (w : World) (B1 B2 : Nat) (v1 v2 : Value) (ss : List ByteArray) (hs : ss.length ≤ 1048576) (h1 : OwnsS w B1 9 v1 ss) (h2 : OwnsS w B2 9 v2 ss) :
    Calls Tryd.prog 17 #[v1, v2] w (YesDrawn w) := by
  obtain ⟨a1, c1, rfl, k1⟩ := h1.form
  obtain ⟨a2, c2, rfl, k2⟩ := h2.form
  obtain ⟨m, hm⟩ : ∃ m, ss.length = m := ⟨_, rfl⟩
  have K1 := Lib.hid k1
  have K2 := Lib.hid k2
  clear k1 k2 h1 h2
  rw [hm] at hs ⊢
  have HM := Lib.hid hm
  clear hm
  go_enter Tryd.func17, Tryd.ntmps17
  go_wp2
  go_loopw [5] (fun i wr => ∃ k n : Nat, k ≤ m ∧ i = .int .i64 k ∧ wr = w.drewN n) (fun i _ => m - (intOf i).toNat)
  case atStart => exact ⟨0, 0, Nat.zero_le _, rfl, rfl⟩
  case round =>
    obtain ⟨k, n, hk, rfl, rfl⟩ := hrel
    by_cases hlt : k < m
    · obtain ⟨g1, rfl, _, _, q1, _⟩ := K1.out k (by rw [HM.out]; exact hlt)
      obtain ⟨g2, rfl, _, _, q2, _⟩ := K2.out k (by rw [HM.out]; exact hlt)
      obtain ⟨b, hb⟩ : ∃ b, ss[k]'(by rw [HM.out]; exact hlt) = b := ⟨_, rfl⟩
      rw [hb] at q1 q2
      clear hb
      have b0 : (0 : Int) ≤ (k : Int) := by omega
      have b1 : (k : Int) < (m : Int) := by omega
      go_wp2_with fail
      go_quiet (fail)
      go_wp2
      go_roundw
      case rel => exact ⟨k + 1, _, by omega, by go_num, rfl⟩
      case measure => simp [intOf]; omega
    · go_wp2
      go_ret
      exact ⟨rfl, n, rfl⟩
end Go.Proofs.YtnbmfdlmgdhocaaDoor.Same
