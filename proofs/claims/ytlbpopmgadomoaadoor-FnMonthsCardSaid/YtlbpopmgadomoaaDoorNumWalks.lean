/- Contracts of the two parsers of decimal text: both return the same number and the same answer, at every string. -/
import Derived.Test.YtlbpopmgadomoaaDoorRows
import Derived.Test.YtlbpopmgadomoaaDoorBytesKit
import Derived.Test.YtlbpopmgadomoaaDoorHexMath
import Derived.Test.YtlbpopmgadomoaaDoorNumMath
import Derived.Test.YtlbpopmgadomoaaDoorNumParse
import Derived.Test.YtlbpopmgadomoaaDoorNumFmt
import Derived.Lib.Hide
namespace Go.Proofs.YtlbpopmgadomoaaDoor.NumWalks
open Go.RowKit BytesKit HexMath NumMath NumParse NumFmt

set_option maxHeartbeats 1000000 in
theorem spec_pu (s : ByteArray) (w : World) (hm : s.size ≤ 1048576) :
    Calls Tryd.prog 21 #[.string s] w fun e w' => e = .returned (resN (pU s.data.toList)) ∧ Below w.heap.size w w' := by
  by_cases hl : 10 < s.size
  · rw [big_none _ (by simpa using hl)]
    go_enter Tryd.func21, Tryd.ntmps21
    go_wp2
    go_ret2
    exact ⟨rfl, Below.refl _ _⟩
  · have hl' : s.size ≤ 10 := by omega
    clear hl
    go_enter Tryd.func21, Tryd.ntmps21
    go_wp2
    go_loop [4, 5] (fun n i => ∃ (k v : Nat), k ≤ s.size ∧ i = .int .i64 k ∧ n = .int .i64 v ∧ v < 10000000000 ∧ Hid (v = vd (s.data.toList.take k) ∧ (s.data.toList.take k).all isD = true))
      (fun _ i => s.size - (intOf i).toNat)
    case atStart => exact ⟨0, 0, Nat.zero_le _, rfl, rfl, by omega, ⟨rfl, rfl⟩⟩
    case round =>
      obtain ⟨k, v, hk, rfl, rfl, hv, hh⟩ := hrel
      by_cases hlt : k < s.size
      · obtain ⟨c, hc⟩ : ∃ c : Nat, s[k].toNat = c := ⟨_, rfl⟩
        have hc2 : c < 256 := by rw [← hc]; exact UInt8.toNat_lt _
        by_cases h1 : c < 48
        · have F := Lib.hid (bad_none s k c hlt hc (.inl h1))
          go_wp2
          go_ret2
          rw [F.out]
          exact ⟨rfl, Below.refl _ _⟩
        · by_cases h2 : 57 < c
          · have F := Lib.hid (bad_none s k c hlt hc (.inr h2))
            go_wp2
            go_ret2
            rw [F.out]
            exact ⟨rfl, Below.refl _ _⟩
          · have F1 := vd_next s k c hlt hc
            have F2 := all_next s k c hlt hc (by omega) (by omega) hh.out.2
            have F3 := vd_lt _ F2
            rw [← hh.out.1] at F1
            have F4 : (s.data.toList.take (k + 1)).length ≤ 10 := by simp; omega
            have F5 : vd (s.data.toList.take (k + 1)) < 10000000000 := Nat.lt_of_lt_of_le F3 (Nat.le_trans (Nat.pow_le_pow_right (by omega) F4) (by omega))
            clear F3 F4
            have F := Lib.hid (And.intro F1 F2)
            have F5' : 10 * v + (c - 48) < 10000000000 := by omega
            clear F1 F2 F5
            have w1 : IntKind.i64.wrap (c : Int) = (c : Int) := IntWalk.i64_in _ (by omega)
            go_wp2
            go_round
            case rel => exact ⟨k + 1, 10 * v + (c - 48), by omega, by go_num, congrArg (Value.int .i64) (by omega), by omega, ⟨F.out.1.symm, F.out.2⟩⟩
            case measure => simp [intOf]; omega
      · have ek := take_all s k (by omega)
        have hh1 := hh.out.1
        have hh2 := hh.out.2
        rw [ek] at hh1 hh2
        clear ek
        by_cases hbig : 1000000000 < v
        · have F : Hid (pU s.data.toList = none) := by
            show pU s.data.toList = none
            unfold pU; rw [if_neg (by rintro ⟨_, _, h⟩; omega)]
          clear hh1 hh2
          go_wp2
          go_ret2
          rw [F.out]
          exact ⟨rfl, Below.refl _ _⟩
        · cases hcan : canon s.data.toList with
          | true =>
            have F : Hid (pU s.data.toList = some v) := by
              show pU s.data.toList = some v
              unfold pU; rw [if_pos ⟨hcan, hh2, by omega⟩, hh1]
            have G : Hid (∀ t : ByteArray, t = ⟨(fmt (v : Int)).toArray⟩ → (t.toList == s.toList) = true) := by
              show ∀ t : ByteArray, t = ⟨(fmt (v : Int)).toArray⟩ → (t.toList == s.toList) = true
              intro t ht
              rw [ht, ByteArray.toList_eq, ByteArray.toList_eq, hh1, fmt_vd _ hcan hh2]
              simp
            clear hh1 hh2 hcan
            go_wp2_with (go_at_call 19; refine (fmt_any _ _ (by omega) (by omega)).mono ?_; rintro e w' ⟨rfl, hb1⟩; obtain ⟨t, ht⟩ : ∃ t : ByteArray, t = ⟨(fmt (v : Int)).toArray⟩ := ⟨_, rfl⟩; rw [← ht]; have G2 := G.out t ht; clear ht)
            go_ret2
            rw [F.out]
            exact ⟨rfl, hb1⟩
          | false =>
            have F := Lib.hid (uncanon_none _ hcan)
            have G : Hid (∀ t : ByteArray, t = ⟨(fmt (v : Int)).toArray⟩ → (t.toList == s.toList) = false) := by
              show ∀ t : ByteArray, t = ⟨(fmt (v : Int)).toArray⟩ → (t.toList == s.toList) = false
              intro t ht
              rw [ht, ByteArray.toList_eq, ByteArray.toList_eq, beq_eq_false_iff_ne]
              intro e
              have h1 := canon_fmt v
              rw [show fmt (v : Int) = s.data.toList by simpa using e, hcan] at h1
              cases h1
            clear hh1 hh2 hcan
            go_wp2_with (go_at_call 19; refine (fmt_any _ _ (by omega) (by omega)).mono ?_; rintro e w' ⟨rfl, hb1⟩; obtain ⟨t, ht⟩ : ∃ t : ByteArray, t = ⟨(fmt (v : Int)).toArray⟩ := ⟨_, rfl⟩; rw [← ht]; have G2 := G.out t ht; clear ht)
            go_ret2
            rw [F.out]
            exact ⟨rfl, hb1⟩
end Go.Proofs.YtlbpopmgadomoaaDoor.NumWalks
