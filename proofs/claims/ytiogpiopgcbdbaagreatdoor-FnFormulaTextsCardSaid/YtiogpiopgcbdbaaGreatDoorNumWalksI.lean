/- The contract of the program's parser of decimal text, at every string. -/
import Derived.Test.YtiogpiopgcbdbaaGreatDoorRows
import Derived.Test.YtiogpiopgcbdbaaGreatDoorKit
import Derived.Lib.Hide
namespace Go.Proofs.YtiogpiopgcbdbaaGreatDoor.NumWalksI
open Go.RowKit HexMath NumMath NumParse

theorem not_empty (s : ByteArray) (h : 0 < s.size) : s.toList.isEmpty = false := by
  rw [ByteArray.toList_eq, List.isEmpty_eq_false_iff]
  intro e
  have : s.data.toList.length = s.size := by simp
  rw [e] at this
  simp at this
  omega
theorem empty_of (s : ByteArray) (h : s.size = 0) : s.data.toList = [] := List.eq_nil_of_length_eq_zero (by simpa using h)
theorem canon_list : ∀ (l : List UInt8) (h : 0 < l.length), canon l = (decide (l.length = 1) || l[0] != 48)
  | [_], _ => rfl
  | a :: b :: m, _ => by simp [canon]
theorem canon_of (s : ByteArray) (hpos : 0 < s.size) (h : s[0].toNat ≠ 48 ∨ s.size = 1) : canon s.data.toList = true := by
  have hl : s.data.toList.length = s.size := by simp
  have h0 : s.data.toList[0]'(by omega) = s[0] := rfl
  rw [canon_list s.data.toList (by omega), h0, hl]
  rcases h with h | h
  · have : (s[0] != 48) = true := by rw [bne_iff_ne]; intro e; rw [e] at h; exact h rfl
    rw [this]; simp
  · simp [h]
theorem uncanon_of (s : ByteArray) (hpos : 0 < s.size) (h : s[0].toNat = 48) (h1 : 1 < s.size) : canon s.data.toList = false := by
  have hl : s.data.toList.length = s.size := by simp
  have h0 : s.data.toList[0]'(by omega) = s[0] := rfl
  have h2 : s[0] = 48 := UInt8.toNat_inj.1 h
  rw [canon_list s.data.toList (by omega), h0, hl, h2]
  simp; omega

set_option maxHeartbeats 1000000 in
theorem impl_loop (s : ByteArray) (w : World) (hm : s.size ≤ 1048576) (hpos : 0 < s.size) (c0 : Nat) (h0 : s[0].toNat = c0) (hc0 : c0 ≠ 48 ∨ s.size ≤ 1) (hcan' : Hid (canon s.data.toList = true)) :
    Calls Tryz.prog 46 #[.string s] w fun e w' => e = .returned (resN (pU s.data.toList)) ∧ w = w' := by
  have e1 := not_empty s hpos
  have hc02 : c0 < 256 := by rw [← h0]; exact UInt8.toNat_lt _
  have hcases : ((c0 : Int) == 48) = false ∨ (((c0 : Int) == 48) = true ∧ s.size ≤ 1) := by
    by_cases h : c0 = 48
    · exact .inr ⟨by rw [beq_iff_eq]; omega, by omega⟩
    · exact .inl (by rw [beq_eq_false_iff_ne]; omega)
  clear hc0
  rcases hcases with b0 | ⟨b0, b1⟩
  all_goals
    go_enter Tryz.func46, Tryz.ntmps46
    go_wp2
    clear b0 h0
    go_loop [4, 5] (fun n i => ∃ (k v : Nat), k ≤ s.size ∧ i = .int .i64 k ∧ n = .int .i64 v ∧ v ≤ 1000000000 ∧ Hid (v = vd (s.data.toList.take k) ∧ (s.data.toList.take k).all isD = true))
      (fun _ i => s.size - (intOf i).toNat)
    case atStart => exact ⟨0, 0, Nat.zero_le _, rfl, rfl, by omega, ⟨rfl, rfl⟩⟩
    case round =>
      obtain ⟨k, v, hk, rfl, rfl, hv, hh⟩ := hrel
      by_cases hlt : k < s.size
      · obtain ⟨c, hc⟩ : ∃ c : Nat, s[k].toNat = c := ⟨_, rfl⟩
        have hc2 : c < 256 := by rw [← hc]; exact UInt8.toNat_lt _
        by_cases h1 : c < 48
        · have F := Lib.hid (bad_none s k c hlt hc (.inl h1))
          go_wp2
          go_ret2
          rw [F.out]
          exact ⟨rfl, rfl⟩
        · by_cases h2 : 57 < c
          · have F := Lib.hid (bad_none s k c hlt hc (.inr h2))
            go_wp2
            go_ret2
            rw [F.out]
            exact ⟨rfl, rfl⟩
          · have F1 := vd_next s k c hlt hc
            have F2 := all_next s k c hlt hc (by omega) (by omega) hh.out.2
            rw [← hh.out.1] at F1
            by_cases h3 : 1000000000 < 10 * v + (c - 48)
            · have F := Lib.hid (over_none s (k + 1) (by omega))
              clear F1 F2
              have w1 : IntKind.i64.wrap ((c : Int) - 48) = (c : Int) - 48 := IntWalk.i64_in _ (by omega)
              have w2 : (1000000000 : Int) < 10 * (v : Int) + ((c : Int) - 48) := by omega
              go_wp2
              go_ret2
              rw [F.out]
              exact ⟨rfl, rfl⟩
            · have F := Lib.hid (And.intro F1 F2)
              clear F1 F2
              have w1 : IntKind.i64.wrap ((c : Int) - 48) = (c : Int) - 48 := IntWalk.i64_in _ (by omega)
              have w2 : ¬ (1000000000 : Int) < 10 * (v : Int) + ((c : Int) - 48) := by omega
              go_wp2
              go_round
              case rel => exact ⟨k + 1, 10 * v + (c - 48), by omega, by go_num, congrArg (Value.int .i64) (by omega), by omega, ⟨F.out.1.symm, F.out.2⟩⟩
              case measure => simp [intOf]; omega
      · have ek := take_all s k (by omega)
        have hh1 := hh.out.1
        have hh2 := hh.out.2
        rw [ek] at hh1 hh2
        have F : Hid (pU s.data.toList = some v) := by
          show pU s.data.toList = some v
          unfold pU; rw [if_pos ⟨hcan'.out, hh2, by omega⟩, hh1]
        clear ek hh1 hh2
        go_wp2
        go_ret2
        rw [F.out]
        exact ⟨rfl, rfl⟩

theorem impl_pu (s : ByteArray) (w : World) (hm : s.size ≤ 1048576) :
    Calls Tryz.prog 46 #[.string s] w fun e w' => e = .returned (resN (pU s.data.toList)) ∧ w = w' := by
  by_cases hz : s.size = 0
  · have e0 := empty_of s hz
    have e1 : s.toList.isEmpty = true := by rw [ByteArray.toList_eq, e0]; rfl
    have F : Hid (pU s.data.toList = none) := by rw [e0]; rfl
    clear e0 hz
    go_enter Tryz.func46, Tryz.ntmps46
    go_wp2
    go_ret2
    rw [F.out]
    exact ⟨rfl, rfl⟩
  · have hpos : 0 < s.size := by omega
    clear hz
    by_cases h1 : s[0].toNat = 48 ∧ 1 < s.size
    · obtain ⟨h48, h1⟩ := h1
      have F := Lib.hid (uncanon_none _ (uncanon_of s hpos h48 h1))
      have e1 := not_empty s hpos
      go_enter Tryz.func46, Tryz.ntmps46
      go_wp2
      go_ret2
      rw [F.out]
      exact ⟨rfl, rfl⟩
    · exact impl_loop s w hm hpos _ rfl (by omega) (Lib.hid (canon_of s hpos (by omega)))
end Go.Proofs.YtiogpiopgcbdbaaGreatDoor.NumWalksI
