/- The contract of the program's decoder of hexadecimal text, at every string. -/
import Derived.Test.YtnbmfdlmgdhocaaDoorHexDec
namespace Go.Proofs.YtnbmfdlmgdhocaaDoor.HexDecI
open Go.RowKit BytesKit HexMath HexDecMath HexEnc HexDec

set_option maxHeartbeats 1000000 in
theorem impl_dec (s : ByteArray) (w : World) (hm : s.size ≤ 1048576) :
    Calls Tryd.prog 11 #[.string s] w fun e w' => e = .returned (res (decS s)) ∧ Below w.heap.size w w' := by
  by_cases hbad : 40000 < s.size ∨ s.size % 2 ≠ 0
  · have E : decS s = none := by unfold decS; rw [if_pos hbad]
    rw [E]
    clear E
    by_cases hp : s.size % 2 = 0
    · have he : ((s.size : Int) % 2 != 0) = false := by rw [bne_eq_false_iff_eq]; omega
      have hl : 40000 < s.size := by omega
      clear hbad hp
      go_enter Tryd.func11, Tryd.ntmps11
      go_wp2
      go_ret2
      exact ⟨rfl, Below.refl _ _⟩
    · have ho : ((s.size : Int) % 2 != 0) = true := by rw [bne_iff_ne]; omega
      clear hbad hp
      go_enter Tryd.func11, Tryd.ntmps11
      go_wp2
      go_ret2
      exact ⟨rfl, Below.refl _ _⟩
  · have E : decS s = dec s.data.toList := by unfold decS; rw [if_neg hbad]
    rw [E]
    clear E
    have hpar := Lib.hid (show s.size % 2 = 0 by omega)
    have he : ((s.size : Int) % 2 != 0) = false := by rw [bne_eq_false_iff_eq]; omega
    have hl : s.size ≤ 40000 := by omega
    clear hbad
    go_enter Tryd.func11, Tryd.ntmps11
    obtain ⟨i0, hi, hz0, hz1, hz2⟩ := info_parts bt.hi
    go_wp2_with (at_make; refine wpList_make_own _ rfl _ _ 22 rfl w.heap.size 5 i0 _ 1 Tryd.underlying22 hi hz0 hz1 _ _ _ (s.size / 2) rfl rfl (by omega) (by rw [hz2]; omega) (by unfold maxLen; omega) (Nat.le_refl _) ?_; intro w0 hown0 hg0)
    have hown00 : OwnsB w0 w.heap.size 5 (.slice (some ⟨w.heap.size, 0, none⟩) 0 (s.size / 2)) [] := hown0
    have hb0 : Below w.heap.size w w0 := (Below.refl _ _).grown hg0 (Nat.le_refl _) (by simp)
    clear hown0 hg0 hi hz0 hz1 hz2 he
    go_loopw [4, 5] (fun v i wr => ∃ (k : Nat) (o : List UInt8), k ≤ s.size ∧ i = .int .i64 k ∧ OwnsB wr w.heap.size 5 v o ∧ Below w.heap.size w wr ∧ Hid (k % 2 = 0 ∧ dec (s.data.toList.take k) = some o) ∧ o.length ≤ k)
      (fun _ i _ => s.size - (intOf i).toNat)
    case atStart => exact ⟨0, [], Nat.zero_le _, rfl, hown00, hb0, ⟨rfl, rfl⟩, by simp⟩
    case round =>
      obtain ⟨k, o, hk, rfl, hown, hbel, hpk, hol⟩ := hrel
      by_cases hlt : k < s.size
      · have hlt2 : k + 1 < s.size := by have := hpk.out.1; have := hpar.out; omega
        obtain ⟨c, hc⟩ : ∃ c : Nat, s[k].toNat = c := ⟨_, rfl⟩
        obtain ⟨d, hd⟩ : ∃ d : Nat, s[k + 1].toNat = d := ⟨_, rfl⟩
        have hc2 : c < 256 := by rw [← hc]; exact UInt8.toNat_lt _
        have hd2 : d < 256 := by rw [← hd]; exact UInt8.toNat_lt _
        have vc := valI_lt (c : Int)
        have vd := valI_lt (d : Int)
        by_cases hv1 : valI (c : Int) < 0
        · have F := Lib.hid (dec_fail s k c d hlt2 hpk.out.1 hc hd (.inl hv1))
          clear hown
          by_cases hv2 : valI (d : Int) < 0
          · go_wp2_with fail
            refine (hex_no _ _ (by omega) (by omega) hv1).mono ?_
            rintro e w' ⟨rfl, rfl⟩
            go_wp2_with fail
            refine (hex_no _ _ (by omega) (by omega) hv2).mono ?_
            rintro e w' ⟨rfl, rfl⟩
            go_wp2
            go_ret2
            rw [F.out]
            exact ⟨rfl, hbel⟩
          · go_wp2_with fail
            refine (hex_no _ _ (by omega) (by omega) hv1).mono ?_
            rintro e w' ⟨rfl, rfl⟩
            go_wp2_with fail
            refine (hex_yes _ _ (by omega) (by omega) (by omega)).mono ?_
            rintro e w' ⟨rfl, rfl⟩
            go_wp2
            go_ret2
            rw [F.out]
            exact ⟨rfl, hbel⟩
        · by_cases hv2 : valI (d : Int) < 0
          · have F := Lib.hid (dec_fail s k c d hlt2 hpk.out.1 hc hd (.inr hv2))
            clear hown
            go_wp2_with fail
            refine (hex_yes _ _ (by omega) (by omega) (by omega)).mono ?_
            rintro e w' ⟨rfl, rfl⟩
            go_wp2_with fail
            refine (hex_no _ _ (by omega) (by omega) hv2).mono ?_
            rintro e w' ⟨rfl, rfl⟩
            go_wp2
            go_ret2
            rw [F.out]
            exact ⟨rfl, hbel⟩
          · have F := Lib.hid (dec_step s k c d o hlt2 hpk.out.1 hc hd (by omega) (by omega) hpk.out.2)
            have es : IntKind.u8.wrap (valI (c : Int) * 16) = valI (c : Int) * 16 := IntWalk.u8_in _ (by omega)
            have eb : bits BinOp.or .u8 (valI (c : Int) * 16) (valI (d : Int)) = ((b8 (16 * valI (c : Int) + valI (d : Int))).toNat : Int) := by
              rw [byte_val _ (by omega) (by omega)]; exact or_low _ _ (by omega) (by omega) (by omega) (by omega)
            go_wp2_with (first
              | (go_at_call 25; refine (hex_yes _ _ (by omega) (by omega) (by omega)).mono ?_; rintro e w' ⟨rfl, rfl⟩)
              | (at_builtin; refine wpList_append_bytes bt _ rfl _ _ rfl w.heap.size u4 _ rfl (hown.alloc _) wr.heap.size 1 1 [b8 (16 * valI (c : Int) + valI (d : Int))] rfl rfl (heap_alloc_new wr _) ?_ ?_ ?_; (simp; omega); (have := hbel.size; simp; omega); intro v' w1 hown1 hbel1))
            go_roundw
            case rel => exact ⟨k + 2, _, by omega, by go_num, hown1, (hbel.alloc hbel.size _).trans hbel1, ⟨by have := hpk.out.1; omega, F.out⟩, by simp; omega⟩
            case measure => simp [intOf]; omega
      · have hcv := hown.str 22 9 bt.ht bt.hT bt.hr
        have F := Lib.hid (show dec s.data.toList = some o by rw [← hpk.out.2, take_all s k (by omega)])
        clear hown
        go_wp2
        go_ret2
        rw [F.out]
        exact ⟨rfl, hbel⟩
end Go.Proofs.YtnbmfdlmgdhocaaDoor.HexDecI
