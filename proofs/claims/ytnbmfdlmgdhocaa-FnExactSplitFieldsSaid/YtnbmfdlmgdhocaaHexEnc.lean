/- Contracts of the two encoders of bytes as hexadecimal text: both return the same text and the same answer, at every string. -/
import Derived.Test.YtnbmfdlmgdhocaaRows
import Derived.Test.YtnbmfdlmgdhocaaBytesKit
import Derived.Test.YtnbmfdlmgdhocaaHexMath
import Derived.StillTailTactics
import Derived.Lib.Hide
import Derived.Deep.RegionHeld3
namespace Go.Proofs.Ytnbmfdlmgdhocaa.HexEnc
open Go.RowKit BytesKit HexMath

theorem bt : ByteTypes Try.prog 22 5 9 := ⟨Try.underlying22, Try.underlying5, Try.underlying9, by kernel_rfl⟩

set_option maxHeartbeats 400000 in
theorem fig_c (x : Int) (w : World) (h0 : 0 ≤ x) (h1 : x < 16) :
    Calls Try.prog 28 #[.int .i64 x] w fun e w' => e = .returned (.int .u8 ((fig x.toNat).toNat : Int)) ∧ w = w' := by
  obtain ⟨n, rfl⟩ := Int.eq_ofNat_of_zero_le h0
  rw [Int.toNat_natCast, figI n (by omega)]
  by_cases h : n < 10
  · rw [if_pos h]
    go_enter Try.func28, Try.ntmps28
    go_wp2
    go_ret
    exact ⟨rfl, rfl⟩
  · rw [if_neg h]
    go_enter Try.func28, Try.ntmps28
    go_wp2
    go_ret
    exact ⟨ret_int (by omega), rfl⟩

set_option maxHeartbeats 400000 in
theorem spec_yes (s : ByteArray) (w : World) (hs : s.size ≤ 20000) :
    Calls Try.prog 12 #[.string s] w fun e w' => e = .returned (.tuple #[.string ⟨(enc s.data.toList).toArray⟩, .bool true]) ∧ Below w.heap.size w w' := by
  go_enter Try.func12, Try.ntmps12
  go_wp2
  go_loopw [4, 5] (fun v i wr => ∃ k : Nat, k ≤ s.size ∧ i = .int .i64 k ∧ OwnsB wr w.heap.size 5 v (enc (s.data.toList.take k)) ∧ Below w.heap.size w wr)
    (fun _ i _ => s.size - (intOf i).toNat)
  case atStart => exact ⟨0, Nat.zero_le _, rfl, by simpa [enc] using OwnsB.made w w.heap.size 5 #[] 0 (Nat.le_refl _) (by simp [maxLen]) rfl, (Below.refl _ _).alloc (Nat.le_refl _) _⟩
  case round =>
    obtain ⟨k, hk, rfl, hown, hbel⟩ := hrel
    by_cases hlt : k < s.size
    · have HX := Lib.hid (enc_len (s.data.toList.take k))
      have hk0 : (0 : Int) ≤ (k : Int) := Int.natCast_nonneg _
      have hk1 : (k : Int) < (s.size : Int) := by omega
      obtain ⟨c, hc⟩ : ∃ c : Nat, s[k].toNat = c := ⟨_, rfl⟩
      have hc2 : c < 256 := by rw [← hc]; exact UInt8.toNat_lt _
      have e1 : IntKind.i64.wrap (c : Int) = (c : Int) := IntWalk.i64_in _ (by omega)
      have e2 : IntKind.i64.wrap ((c : Int) / 16) = (c : Int) / 16 := IntWalk.i64_in _ (by omega)
      have e3 : (c : Int).tmod 16 = (c : Int) % 16 := Int.tmod_eq_emod_of_nonneg (by omega)
      go_wp2_with fail
      go_region_held3 (fun _ => True) (trivial)
        ((first
          | (go_at_call 28; refine (fig_c _ _ (by omega) (by omega)).mono ?_; rintro e w' ⟨rfl, rfl⟩)
          | (refine step_append_bytes bt _ (o := ⟨some 30, _, _, _, _, _⟩) rfl (.tmp 16) (.tmp 29) rfl w.heap.size u4 _ ?_ (hown.alloc _).drew wr.heap.size 2 2 [fig ((c : Int) / 16).toNat, fig ((c : Int) % 16).toNat] rfl ?_ (heap_alloc_new wr _) ?_ ?_ ?_; rfl; rfl; (rw [HX.out]; simp; omega); (have := hbel.size; simp; omega); intro v' w1 hown1 hbel1)))
      all_goals
        have R : OwnsB w1 w.heap.size 5 v' (enc (s.data.toList.take (k + 1))) := by rw [enc_step s k c hlt hc]; exact hown1
        have R2 : Below w.heap.size w w1 := ((hbel.alloc hbel.size _).drew).trans hbel1
        clear hown1 hbel1 hown hbel e1 e2 e3 hc hc2
        go_wp2
        go_roundw
        case rel => exact ⟨k + 1, by omega, by go_num, R, R2⟩
        case measure => simp [intOf]; omega
    · have hcv := hown.str 22 9 bt.ht bt.hT bt.hr
      rw [take_all s k (by omega)] at hcv
      clear hown
      go_wp2
      go_ret2
      exact ⟨rfl, hbel⟩
end Go.Proofs.Ytnbmfdlmgdhocaa.HexEnc
