/- Contracts of the two decoders of hexadecimal text: both return the same bytes and the same answer, at every string. -/
import Derived.Test.YtnbmfdlmgdhocaaRows
import Derived.Test.YtnbmfdlmgdhocaaBytesKit
import Derived.Test.YtnbmfdlmgdhocaaHexMath
import Derived.Test.YtnbmfdlmgdhocaaHexDecMath
import Derived.Test.YtnbmfdlmgdhocaaHexEnc
import Derived.Lib.Hide
namespace Go.Proofs.Ytnbmfdlmgdhocaa.HexDec
open Go.RowKit BytesKit HexMath HexDecMath HexEnc

set_option maxHeartbeats 400000 in
theorem value_c (n : Int) (w : World) (h0 : 0 ≤ n) (h1 : n < 256) :
    Calls Try.prog 29 #[.int .u8 n] w fun e w' => e = .returned (.int .i64 (valI n)) ∧ w = w' := by
  by_cases a : 48 ≤ n <;> by_cases b : n ≤ 57 <;> by_cases c : 97 ≤ n <;> by_cases d : n ≤ 102
  all_goals
    have E : valI n = valI n := rfl
    conv at E => rhs; simp only [valI]; simp [a, b, c, d]
    rw [E]; clear E
    go_enter Try.func29, Try.ntmps29
    go_wp2
    go_ret
    exact ⟨by first | rfl | exact ret_int (by omega), rfl⟩

set_option maxHeartbeats 400000 in
theorem hex_yes (n : Int) (w : World) (h0 : 0 ≤ n) (h1 : n < 256) (hv : 0 ≤ valI n) :
    Calls Try.prog 30 #[.int .u8 n] w fun e w' => e = .returned (.tuple #[.int .u8 (valI n), .bool true]) ∧ w = w' := by
  unfold valI at *
  by_cases a : 48 ≤ n ∧ n ≤ 57
  · rw [if_pos a]
    obtain ⟨a, b⟩ := a
    clear hv
    go_enter Try.func30, Try.ntmps30
    go_wp2
    go_ret2
    exact ⟨rfl, rfl⟩
  · rw [if_neg a] at *
    by_cases c : 97 ≤ n ∧ n ≤ 102
    · rw [if_pos c]
      clear hv
      obtain ⟨c, d⟩ := c
      have b : ¬ n ≤ 57 := by omega
      clear a
      go_enter Try.func30, Try.ntmps30
      go_wp2
      go_ret2
      exact ⟨by rw [show n - 97 + 10 = n - 87 by omega]; rfl, rfl⟩
    · rw [if_neg c] at hv
      omega

set_option maxHeartbeats 400000 in
theorem hex_no (n : Int) (w : World) (h0 : 0 ≤ n) (h1 : n < 256) (hv : valI n < 0) :
    Calls Try.prog 30 #[.int .u8 n] w fun e w' => e = .returned (.tuple #[.int .u8 0, .bool false]) ∧ w = w' := by
  have H : ¬ (48 ≤ n ∧ n ≤ 57) ∧ ¬ (97 ≤ n ∧ n ≤ 102) := by
    unfold valI at hv
    split at hv
    · omega
    · split at hv <;> omega
  obtain ⟨H1, H2⟩ := H
  clear hv
  by_cases a : 48 ≤ n <;> by_cases b : n ≤ 57 <;> by_cases c : 97 ≤ n <;> by_cases d : n ≤ 102
  all_goals first | omega | skip
  all_goals
    clear H1 H2
    go_enter Try.func30, Try.ntmps30
    go_wp2
    go_ret2
    exact ⟨rfl, rfl⟩

set_option maxHeartbeats 1000000 in
theorem spec_dec (s : ByteArray) (w : World) (hm : s.size ≤ 1048576) :
    Calls Try.prog 14 #[.string s] w fun e w' => e = .returned (res (decS s)) ∧ Below w.heap.size w w' := by
  by_cases hbad : 40000 < s.size ∨ s.size % 2 ≠ 0
  · have E : decS s = none := by unfold decS; rw [if_pos hbad]
    rw [E]
    clear E
    by_cases hl : 40000 < s.size
    · clear hbad
      go_enter Try.func14, Try.ntmps14
      go_wp2
      go_ret2
      exact ⟨rfl, Below.refl _ _⟩
    · have ho : ((s.size : Int) % 2 != 0) = true := by rw [bne_iff_ne]; omega
      have hl' : s.size ≤ 40000 := by omega
      clear hbad hl
      go_enter Try.func14, Try.ntmps14
      go_wp2
      go_ret2
      exact ⟨rfl, Below.refl _ _⟩
  · have E : decS s = dec s.data.toList := by unfold decS; rw [if_neg hbad]
    rw [E]
    clear E
    have hpar := Lib.hid (show s.size % 2 = 0 by omega)
    have he : ((s.size : Int) % 2 != 0) = false := by rw [bne_eq_false_iff_eq]; omega
    have hl : s.size ≤ 40000 := by omega
    clear hbad
    go_enter Try.func14, Try.ntmps14
    go_wp2
    clear he
    go_loopw [4, 5] (fun v i wr => ∃ (k : Nat) (o : List UInt8), k ≤ s.size ∧ i = .int .i64 k ∧ OwnsB wr w.heap.size 5 v o ∧ Below w.heap.size w wr ∧ Hid (k % 2 = 0 ∧ dec (s.data.toList.take k) = some o) ∧ o.length ≤ k)
      (fun _ i _ => s.size - (intOf i).toNat)
    case atStart => exact ⟨0, [], Nat.zero_le _, rfl, OwnsB.made w w.heap.size 5 #[] 0 (Nat.le_refl _) (by simp [maxLen]) rfl, (Below.refl _ _).alloc (Nat.le_refl _) _, ⟨rfl, rfl⟩, by simp⟩
    case round =>
      obtain ⟨k, o, hk, rfl, hown, hbel, hpk, hol⟩ := hrel
      by_cases hlt : k < s.size
      · have hlt2 : k + 1 < s.size := by have := hpk.out.1; have := hpar.out; omega
        obtain ⟨c, hc⟩ : ∃ c : Nat, s[k].toNat = c := ⟨_, rfl⟩
        obtain ⟨d, hd⟩ : ∃ d : Nat, s[k + 1].toNat = d := ⟨_, rfl⟩
        have hc2 : c < 256 := by rw [← hc]; exact UInt8.toNat_lt _
        have hd2 : d < 256 := by rw [← hd]; exact UInt8.toNat_lt _
        have vc := valI_lt (c : Int)
        have vd := valI_lt (d : Int)
        by_cases hv1 : valI (c : Int) < 0
        · have F := Lib.hid (dec_fail s k c d hlt2 hpk.out.1 hc hd (.inl hv1))
          clear hown
          go_wp2_with (go_at_call 29; refine (value_c _ _ (by omega) (by omega)).mono ?_; rintro e w' ⟨rfl, rfl⟩)
          go_ret2
          rw [F.out]
          exact ⟨rfl, hbel⟩
        · by_cases hv2 : valI (d : Int) < 0
          · have F := Lib.hid (dec_fail s k c d hlt2 hpk.out.1 hc hd (.inr hv2))
            clear hown
            go_wp2_with (go_at_call 29; refine (value_c _ _ (by omega) (by omega)).mono ?_; rintro e w' ⟨rfl, rfl⟩)
            go_ret2
            rw [F.out]
            exact ⟨rfl, hbel⟩
          · have F := Lib.hid (dec_step s k c d o hlt2 hpk.out.1 hc hd (by omega) (by omega) hpk.out.2)
            have eb : IntKind.u8.wrap (16 * valI (c : Int) + valI (d : Int)) = ((b8 (16 * valI (c : Int) + valI (d : Int))).toNat : Int) := by
              rw [byte_val _ (by omega) (by omega)]; exact IntWalk.u8_in _ (by omega)
            go_wp2_with (first
              | (go_at_call 29; refine (value_c _ _ (by omega) (by omega)).mono ?_; rintro e w' ⟨rfl, rfl⟩)
              | (at_builtin; refine wpList_append_bytes bt _ rfl _ _ rfl w.heap.size u4 _ rfl (hown.alloc _) wr.heap.size 1 1 [b8 (16 * valI (c : Int) + valI (d : Int))] rfl rfl (heap_alloc_new wr _) ?_ ?_ ?_; (simp; omega); (have := hbel.size; simp; omega); intro v' w1 hown1 hbel1))
            go_roundw
            case rel => exact ⟨k + 2, _, by omega, by go_num, hown1, (hbel.alloc hbel.size _).trans hbel1, ⟨by have := hpk.out.1; omega, F.out⟩, by simp; omega⟩
            case measure => simp [intOf]; omega
      · have hcv := hown.str 22 9 bt.ht bt.hT bt.hr
        have F := Lib.hid (show dec s.data.toList = some o by rw [← hpk.out.2, take_all s k (by omega)])
        clear hown
        go_wp2
        go_ret2
        rw [F.out]
        exact ⟨rfl, hbel⟩
end Go.Proofs.Ytnbmfdlmgdhocaa.HexDec
