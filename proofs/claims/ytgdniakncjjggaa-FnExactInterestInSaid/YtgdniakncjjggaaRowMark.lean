/- Marking a row of integers in place: no other block changes. -/
import Derived.Test.YtgdniakncjjggaaIntRow
import Derived.Test.YtgdniakncjjggaaKit
namespace Go.Proofs.Ytgdniakncjjggaa.RowMark
open Go.RowKit Row1 IntRow CurKit
def MarkedO (B g : Nat) (v : Value) (l : List Int) (x : Int) (w : World) (e : Ending) (w' : World) : Prop := e = .returned (.int .i64 x) ∧ Owns fI w' B 3 v l ∧ OnlyB g w w'
set_option maxHeartbeats 400000 in
theorem mark_o (w : World) (B g : Nat) (m cap : Nat) (l : List Int) (k : Int) (hm : l.length = m) (hs : m ≤ 1099511627776) (hk0 : 0 ≤ k) (hk1 : k ≤ 1099511627776) (h : Owns fI w B 3 (.slice (some ⟨g, 0, none⟩) m cap) l) :
    Calls Try.prog 22 #[.slice (some ⟨g, 0, none⟩) m cap, .int .i64 k] w (MarkedO B g (.slice (some ⟨g, 0, none⟩) m cap) (marks k m) (k + (m : Int)) w) := by
  have H0 := Lib.hid h
  have HM := Lib.hid hm
  clear hm h
  go_enter Try.func22, Try.ntmps22
  go_wp2
  go_loopw [1, 5] (fun q i wr => ∃ j : Nat, j ≤ m ∧ i = .int .i64 j ∧ q = .int .i64 (k + (j : Int)) ∧ Hid (Owns fI wr B 3 (.slice (some ⟨g, 0, none⟩) m cap) (markTo l k j)) ∧ Hid (OnlyB g w wr)) (fun _ i _ => m - (intOf i).toNat)
  case atStart => exact ⟨0, Nat.zero_le _, rfl, by simp, by rw [markTo_zero]; exact H0, Lib.hid (OnlyB.refl _ _)⟩
  case round =>
    obtain ⟨j, hj, rfl, rfl, hown, hbel⟩ := hrel
    by_cases hlt : j < m
    · have HL : (markTo l k j).length = m := by rw [markTo_len _ _ _ (by rw [HM.out]; omega), HM.out]
      obtain ⟨q1, q2⟩ := hown.out.cell j (by rw [HL]; exact hlt)
      obtain ⟨b0, hb0⟩ : ∃ b0, (markTo l k j)[j]'(by rw [HL]; exact hlt) = b0 := ⟨_, rfl⟩
      rw [hb0] at q1
      clear hb0 HL
      go_wp2
      go_roundw
      case rel =>
        refine ⟨j + 1, by omega, by go_num, congrArg (Value.int .i64) (by omega), ?_, Lib.hid (hbel.out.setCell j _)⟩
        have R := hown.out.stored (by rw [markTo_len _ _ _ (by rw [HM.out]; omega), HM.out]) j (k + (j : Int))
        rw [markTo_set _ _ _ (by rw [HM.out]; exact hlt)] at R
        exact Lib.hid R
      case measure => simp [intOf]; omega
    · obtain rfl : j = m := by omega
      go_wp2
      go_ret
      refine ⟨rfl, ?_, hbel.out⟩
      have e := markTo_all l k
      rw [HM.out] at e
      have R := hown.out
      rw [e] at R
      exact R
end Go.Proofs.Ytgdniakncjjggaa.RowMark
