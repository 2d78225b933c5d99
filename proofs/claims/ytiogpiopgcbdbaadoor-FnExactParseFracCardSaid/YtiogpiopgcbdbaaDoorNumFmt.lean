/- The contract of the model's FormatInt: the decimal text, for every integer. -/
import Derived.Test.YtiogpiopgcbdbaaDoorRows
import Derived.Test.YtiogpiopgcbdbaaDoorKit
import Derived.Test.YtiogpiopgcbdbaaDoorHexEnc
import Derived.Lib.Hide
namespace Go.Proofs.YtiogpiopgcbdbaaDoor.NumFmt
open Go.RowKit BytesKit HexMath NumMath HexEnc

theorem one_str (w : World) (b : UInt8) : (convert 22 9 (.slice (some ⟨w.heap.size, 0, none⟩) 1 1)).run Tryd.prog (w.alloc (.cells #[.int .u8 (b.toNat : Int)] 5)) = .ok (.string ⟨#[b]⟩) (w.alloc (.cells #[.int .u8 (b.toNat : Int)] 5)) := by
  have h : OwnsB (w.alloc (.cells #[.int .u8 (b.toNat : Int)] 5)) w.heap.size 5 (.slice (some ⟨w.heap.size, 0, none⟩) 1 1) [b] :=
    World.ownsRow_lit w #[.int .u8 (b.toNat : Int)] 1 (Nat.le_refl _) (by simp [maxLen]) rfl
  exact h.str 22 9 bt.ht bt.hT bt.hr

set_option maxRecDepth 100000 in
set_option maxHeartbeats 400000 in
theorem fmt_pos (N : Nat) (w : World) (hN : 0 < N) (hN2 : N ≤ 9223372036854775807) :
    Calls Tryd.prog 39 #[.int .i64 (N : Int)] w fun e w' => e = .returned (.string ⟨(dg N).toArray⟩) ∧ Below w.heap.size w w' := by
  have h0 : ((N : Int) == 0) = false := by rw [beq_eq_false_iff_ne]; omega
  have h1 : decide ((N : Int) < 0) = false := by simp
  go_enter Tryd.func39, Tryd.ntmps39
  go_wp2
  clear h0
  go_loopw [0, 4, 5] (fun n s _ wr => ∃ (a : Nat) (acc : ByteArray), n = .int .i64 a ∧ s = .string acc ∧ a ≤ N ∧ Below w.heap.size w wr ∧ Hid (dg a ++ acc.data.toList = dg N))
    (fun n _ _ _ => (intOf n).toNat)
  case atStart => exact ⟨N, ⟨#[]⟩, rfl, rfl, Nat.le_refl _, Below.refl _ _, by show dg N ++ [] = dg N; simp⟩
  case round =>
    obtain ⟨a, acc, rfl, rfl, ha, hbel, hacc⟩ := hrel
    by_cases hz : 0 < a
    · have t0 : ((a : Int) != 0) = true := by rw [bne_iff_ne]; omega
      have hcv := one_str wr (fig (a % 10))
      have hsm := acc_small N a acc hacc.out (by omega)
      go_wp2_with (go_at_call 67; refine (fig_c _ _ (by omega) (by omega)).mono ?_; rintro e w' ⟨rfl, rfl⟩)
      go_roundw
      case rel => exact ⟨a / 10, _, by go_num, rfl, by omega, hbel.alloc hbel.size _, round_acc N a acc hz hacc.out⟩
      case measure => simp [intOf]; omega
    · obtain rfl : a = 0 := by omega
      have F := Lib.hid (acc_done N acc hacc.out)
      go_wp2
      go_ret
      exact ⟨by rw [F.out]; rfl, hbel⟩

set_option maxRecDepth 100000 in
set_option maxHeartbeats 400000 in
theorem fmt_neg (N : Nat) (w : World) (hN : 0 < N) (hN2 : N ≤ 9223372036854775808) :
    Calls Tryd.prog 39 #[.int .i64 (-(N : Int))] w fun e w' => e = .returned (.string ⟨#[45] ++ (dg N).toArray⟩) ∧ Below w.heap.size w w' := by
  have h0 : ((-(N : Int)) == 0) = false := by rw [beq_eq_false_iff_ne]; omega
  have h1 : decide ((-(N : Int)) < 0) = true := by simp; omega
  go_enter Tryd.func39, Tryd.ntmps39
  go_wp2
  clear h0
  go_loopw [0, 4, 5] (fun n s _ wr => ∃ (a : Nat) (acc : ByteArray), n = .int .i64 (-(a : Int)) ∧ s = .string acc ∧ a ≤ N ∧ Below w.heap.size w wr ∧ Hid (dg a ++ acc.data.toList = dg N))
    (fun n _ _ _ => (-(intOf n)).toNat)
  case atStart => exact ⟨N, ⟨#[]⟩, rfl, rfl, Nat.le_refl _, Below.refl _ _, by show dg N ++ [] = dg N; simp⟩
  case round =>
    obtain ⟨a, acc, rfl, rfl, ha, hbel, hacc⟩ := hrel
    by_cases hz : 0 < a
    · have t0 : ((-(a : Int)) != 0) = true := by rw [bne_iff_ne]; omega
      have hcv := one_str wr (fig (a % 10))
      have hsm := acc_small N a acc hacc.out (by omega)
      have n1 := neg_tmod a
      have n2 := neg_tdiv a
      by_cases hd : 0 < a % 10
      · go_wp2_with (go_at_call 67; refine (fig_c _ _ (by omega) (by omega)).mono ?_; rintro e w' ⟨rfl, rfl⟩)
        go_roundw
        case rel => exact ⟨a / 10, _, by simp, rfl, by omega, hbel.alloc hbel.size _, round_acc N a acc hz hacc.out⟩
        case measure => simp [intOf]; omega
      · have hd' : a % 10 = 0 := by omega
        rw [hd'] at n1 hcv
        go_wp2_with (go_at_call 67; refine (fig_c _ _ (by omega) (by omega)).mono ?_; rintro e w' ⟨rfl, rfl⟩)
        have R := round_acc N a acc hz hacc.out
        rw [hd'] at R
        go_roundw
        case rel => exact ⟨a / 10, _, by simp, rfl, by omega, hbel.alloc hbel.size _, R⟩
        case measure => simp [intOf]; omega
    · obtain rfl : a = 0 := by omega
      have F := Lib.hid (acc_done N acc hacc.out)
      have hsm := acc_small N 0 acc hacc.out (by omega)
      go_wp2
      go_ret
      exact ⟨by rw [F.out]; exact congrArg (fun b : ByteArray => Ending.returned (.string b)) (by apply ByteArray.ext; simp), hbel⟩

theorem fmt_zero (w : World) :
    Calls Tryd.prog 39 #[.int .i64 0] w fun e w' => e = .returned (.string ⟨#[48]⟩) ∧ Below w.heap.size w w' := by
  go_enter Tryd.func39, Tryd.ntmps39
  go_wp2
  go_ret
  exact ⟨rfl, Below.refl _ _⟩

/-- For every integer of 64 bits. -/
theorem fmt_any (n : Int) (w : World) (h1 : -9223372036854775808 ≤ n) (h2 : n ≤ 9223372036854775807) :
    Calls Tryd.prog 39 #[.int .i64 n] w fun e w' => e = .returned (.string ⟨(fmt n).toArray⟩) ∧ Below w.heap.size w w' := by
  unfold fmt
  by_cases h0 : n = 0
  · subst h0
    rw [if_pos rfl]
    exact fmt_zero w
  · rw [if_neg h0]
    by_cases hn : n < 0
    · rw [if_pos hn]
      have := fmt_neg n.natAbs w (by omega) (by omega)
      rw [show -((n.natAbs : Nat) : Int) = n by omega] at this
      refine this.mono fun e w' h => ⟨h.1.trans ?_, h.2⟩
      exact congrArg (fun b : ByteArray => Ending.returned (.string b)) (by apply ByteArray.ext; simp)
    · rw [if_neg hn]
      have := fmt_pos n.natAbs w (by omega) (by omega)
      rwa [show ((n.natAbs : Nat) : Int) = n by omega] at this
end Go.Proofs.YtiogpiopgcbdbaaDoor.NumFmt
