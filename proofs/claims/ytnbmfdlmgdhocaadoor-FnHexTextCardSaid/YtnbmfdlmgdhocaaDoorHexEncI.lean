/- The contract of the program's encoder of bytes as hexadecimal text: it returns the encoding at every string that is not too long. -/
import Derived.Test.YtnbmfdlmgdhocaaDoorRows
import Derived.Test.YtnbmfdlmgdhocaaDoorBytesKit
import Derived.Test.YtnbmfdlmgdhocaaDoorHexMath
import Derived.Test.YtnbmfdlmgdhocaaDoorHexEnc
import Derived.Lib.Hide
import Derived.Deep.RegionHeld3
namespace Go.Proofs.YtnbmfdlmgdhocaaDoor.HexEncI
open Go.RowKit BytesKit HexMath HexEnc

set_option maxHeartbeats 800000 in
theorem impl_yes (s : ByteArray) (w : World) (hs : s.size ≤ 20000) :
    Calls Tryd.prog 9 #[.string s] w fun e w' => e = .returned (.tuple #[.string ⟨(enc s.data.toList).toArray⟩, .bool true]) ∧ Below w.heap.size w w' := by
  obtain ⟨i0, hi, hz0, hz1, hz2⟩ := info_parts bt.hi
  go_enter Tryd.func9, Tryd.ntmps9
  go_wp2_with (at_make; refine wpList_make_own _ rfl _ _ 22 rfl w.heap.size 5 i0 _ 1 Tryd.underlying22 hi hz0 hz1 _ _ _ (2 * s.size) rfl rfl (by omega) (by rw [hz2]; omega) (by unfold maxLen; omega) (Nat.le_refl _) ?_; intro w0 hown0 hg0)
  have hown00 : OwnsB w0 w.heap.size 5 (.slice (some ⟨w.heap.size, 0, none⟩) 0 (2 * s.size)) [] := hown0
  have hb0 : Below w.heap.size w w0 := (Below.refl _ _).grown hg0 (Nat.le_refl _) (by simp)
  clear hown0 hg0
  go_loopw [4, 5] (fun v i wr => ∃ k : Nat, k ≤ s.size ∧ i = .int .i64 k ∧ OwnsB wr w.heap.size 5 v (enc (s.data.toList.take k)) ∧ Below w.heap.size w wr)
    (fun _ i _ => s.size - (intOf i).toNat)
  case atStart => exact ⟨0, Nat.zero_le _, rfl, by simpa [enc] using hown00, hb0⟩
  case round =>
    obtain ⟨k, hk, rfl, hown, hbel⟩ := hrel
    by_cases hlt : k < s.size
    · have HX := Lib.hid (enc_len (s.data.toList.take k))
      have hk0 : (0 : Int) ≤ (k : Int) := Int.natCast_nonneg _
      have hk1 : (k : Int) < (s.size : Int) := by omega
      obtain ⟨c, hc⟩ : ∃ c : Nat, s[k].toNat = c := ⟨_, rfl⟩
      have hc2 : c < 256 := by rw [← hc]; exact UInt8.toNat_lt _
      have eb := and15 c hc2
      have p1 : ((c : Int) / 16).toNat < digits.size := by rw [digits_size]; omega
      have p2 : ((c : Int) % 16).toNat < digits.size := by rw [digits_size]; omega
      have P1 := Lib.hid (digits_at ((c : Int) / 16) (by omega) (by omega) p1)
      have P2 := Lib.hid (digits_at ((c : Int) % 16) (by omega) (by omega) p2)
      have q1 : (c : Int) / 16 < 16 := by omega
      have q2 : (c : Int) % 16 < 16 := by omega
      have q3 : 0 ≤ (c : Int) % 16 := by omega
      go_wp2_with fail
      go_region_held3 (fun _ => True) (trivial)
        ((refine step_append_bytes bt _ (o := ⟨some 31, _, _, _, _, _⟩) rfl (.tmp 19) (.tmp 30) rfl w.heap.size u4 _ ?_ (hown.alloc _).drew wr.heap.size 2 2 [digits[((c : Int) / 16).toNat]'p1, digits[((c : Int) % 16).toNat]'p2] rfl ?_ (heap_alloc_new wr _) ?_ ?_ ?_; rfl; rfl; (rw [HX.out]; simp; omega); (have := hbel.size; simp; omega); intro v' w1 hown1 hbel1))
      all_goals
        have R : OwnsB w1 w.heap.size 5 v' (enc (s.data.toList.take (k + 1))) := by rw [enc_step s k c hlt hc, ← P1.out, ← P2.out]; exact hown1
        have R2 : Below w.heap.size w w1 := ((hbel.alloc hbel.size _).drew).trans hbel1
        clear hown1 hbel1 hown hbel eb hc P1 P2
        go_wp2
        go_roundw
        case rel => exact ⟨k + 1, by omega, by go_num, R, R2⟩
        case measure => simp [intOf]; omega
    · have hcv := hown.str 22 9 bt.ht bt.hT bt.hr
      rw [take_all s k (by omega)] at hcv
      clear hown
      go_wp2
      go_ret2
      exact ⟨rfl, hbel⟩

theorem impl_no (s : ByteArray) (w : World) (hs : 20000 < s.size) (hm : s.size ≤ 1048576) :
    Calls Tryd.prog 9 #[.string s] w fun e w' => e = .returned (.tuple #[.string ⟨#[]⟩, .bool false]) ∧ w = w' := by
  go_enter Tryd.func9, Tryd.ntmps9
  go_wp2
  go_ret2
  exact ⟨rfl, rfl⟩

end Go.Proofs.YtnbmfdlmgdhocaaDoor.HexEncI
