/- Contract of the model's l09Digits. -/
import Derived.Test.YtiogpiopgcbdbaaDoorRows
import Derived.Test.YtiogpiopgcbdbaaDoorFracTxM
import Derived.WalkKit
import Derived.Below
import Derived.Lib.Hide
namespace Go.Proofs.YtiogpiopgcbdbaaDoor.DigS
open Go.RowKit HexMath NumMath NumParse FracTxM
theorem dgt_bad (s : ByteArray) (k c : Nat) (h : k < s.size) (hc : s[k].toNat = c) (hb : c < 48 ∨ 57 < c) : dgt s.data.toList = -1 := by
  unfold dgt
  rw [if_neg]
  rintro ⟨_, hd⟩
  have hk : k < s.data.toList.length := by simpa using h
  have := List.all_eq_true.1 hd _ (List.getElem_mem hk)
  have e : (s.data.toList[k]'hk).toNat = c := hc
  simp only [isD, decide_eq_true_eq, e] at this
  omega
set_option maxHeartbeats 2000000 in
theorem digits_s (s : ByteArray) (w : World) (hm : s.size ≤ 1048576) :
    Calls Tryd.prog 40 #[.string s] w (fun e w' => e = .returned (.int .i64 (dgt s.data.toList)) ∧ w = w') := by
  by_cases hl : 13 < s.size
  · have E := Lib.hid (show dgt s.data.toList = -1 by unfold dgt; rw [if_neg (by rintro ⟨h, _⟩; simp at h; omega)])
    have d1 : decide ((13 : Int) < (s.size : Int)) = true := decide_eq_true (by omega)
    go_enter Tryd.func40, Tryd.ntmps40
    go_wp2
    go_loopw [4] (fun i wr => i = .int .i64 0 ∧ wr = w) (fun _ _ => 0)
    case atStart => exact ⟨rfl, rfl⟩
    case round =>
      obtain ⟨rfl, rfl⟩ := hrel
      have d0 : decide ((0 : Int) < (s.size : Int)) = true := decide_eq_true (by omega)
      have d00 : decide (0 < s.size) = true := decide_eq_true (by omega)
      go_wp2
      go_ret
      rw [E.out]
      exact ⟨rfl, rfl⟩
  · have hl' : s.size ≤ 13 := by omega
    have d1 : decide ((13 : Int) < (s.size : Int)) = false := decide_eq_false (by omega)
    clear hl hm
    go_enter Tryd.func40, Tryd.ntmps40
    go_wp2
    go_loopw [3, 4] (fun n i wr => ∃ (k v : Nat), k ≤ s.size ∧ i = .int .i64 (k : Int) ∧ n = .int .i64 (v : Int) ∧ v < 10000000000000 ∧ Hid (v = vd (s.data.toList.take k) ∧ (s.data.toList.take k).all isD = true) ∧ w = wr)
      (fun _ i _ => s.size - (intOf i).toNat)
    case atStart => exact ⟨0, 0, Nat.zero_le _, rfl, rfl, by omega, Lib.hid ⟨rfl, rfl⟩, rfl⟩
    case round =>
      obtain ⟨k, v, hk, rfl, rfl, hv, hh, rfl⟩ := hrel
      by_cases hlt : k < s.size
      · obtain ⟨c, hc⟩ : ∃ c : Nat, s[k].toNat = c := ⟨_, rfl⟩
        have hc2 : c < 256 := by rw [← hc]; exact UInt8.toNat_lt _
        by_cases h1 : c < 48
        · have F := Lib.hid (dgt_bad s k c hlt hc (.inl h1))
          go_wp2
          go_ret
          rw [F.out]
          exact ⟨rfl, rfl⟩
        · by_cases h2 : 57 < c
          · have F := Lib.hid (dgt_bad s k c hlt hc (.inr h2))
            go_wp2
            go_ret
            rw [F.out]
            exact ⟨rfl, rfl⟩
          · have F1 := vd_next s k c hlt hc
            have F2 := all_next s k c hlt hc (by omega) (by omega) hh.out.2
            have F3 := vd_lt _ F2
            rw [← hh.out.1] at F1
            have F4 : (s.data.toList.take (k + 1)).length ≤ 13 := by simp; omega
            have F5 : vd (s.data.toList.take (k + 1)) < 10000000000000 := Nat.lt_of_lt_of_le F3 (Nat.le_trans (Nat.pow_le_pow_right (by omega) F4) (by omega))
            clear F3 F4
            have F := Lib.hid (And.intro F1 F2)
            have F5' : 10 * v + (c - 48) < 10000000000000 := by omega
            clear F1 F2 F5 hh
            have w1 : IntKind.i64.wrap (c : Int) = (c : Int) := IntWalk.i64_in _ (by omega)
            go_wp2
            go_roundw
            case rel => exact ⟨k + 1, 10 * v + (c - 48), by omega, by go_num, congrArg (Value.int .i64) (by omega), by omega, Lib.hid ⟨F.out.1.symm, F.out.2⟩, trivial⟩
            case measure => simp [intOf]; omega
      · have ek := take_all s k (by omega)
        have hh1 := hh.out.1
        have hh2 := hh.out.2
        rw [ek] at hh1 hh2
        have E := Lib.hid (show dgt s.data.toList = (v : Int) by unfold dgt; rw [if_pos ⟨by simpa using hl', hh2⟩, hh1])
        clear ek hh1 hh2 hh
        go_wp2
        go_ret
        rw [E.out]
        exact ⟨rfl, rfl⟩
end Go.Proofs.YtiogpiopgcbdbaaDoor.DigS
