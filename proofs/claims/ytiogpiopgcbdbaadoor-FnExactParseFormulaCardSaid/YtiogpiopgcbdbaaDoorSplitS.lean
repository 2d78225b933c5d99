/- The contract of the model's SplitFields: the fields of the line in new memory, at every string that is not too long to be looked at. -/
import Derived.Test.YtiogpiopgcbdbaaDoorRows
import Derived.Test.YtiogpiopgcbdbaaDoorSplitI
namespace Go.Proofs.YtiogpiopgcbdbaaDoor.SplitS
open Go.RowKit StrKit SplitMath SplitI

/-- The state at the head of round k; behind the last one (k above the length) all fields are closed. -/
def st2 (s : ByteArray) (k : Nat) : Nat × List ByteArray := if k ≤ s.size then st s k else (k, fin s)
theorem st2_le (s : ByteArray) (k : Nat) (h : k ≤ s.size + 1) : (st2 s k).1 ≤ k ∧ (st2 s k).2.length ≤ k + 1 := by
  unfold st2
  split
  · have := st_le s k; omega
  · refine ⟨Nat.le_refl _, ?_⟩
    show (fin s).length ≤ k + 1
    have := st_le s s.size
    unfold fin
    split
    · rw [List.length_append, List.length_singleton]; omega
    · omega

theorem spec_long (s : ByteArray) (w : World) (h : 600 < s.size) (hm : s.size ≤ 1048576) :
    Calls Tryd.prog 41 #[.string s] w (Fields w (split s)) := by
  rw [split_long s h]
  go_enter Tryd.func41, Tryd.ntmps41
  go_wp2
  go_ret2
  exact ⟨_, rfl, OwnsS.made _ _ _ (Nat.le_refl _), (Below.refl _ _).alloc (Nat.le_refl _) _⟩

set_option maxHeartbeats 1000000 in
theorem spec_split (s : ByteArray) (w : World) (hs : s.size ≤ 600) :
    Calls Tryd.prog 41 #[.string s] w (Fields w (split s)) := by
  have HS := Lib.hid (split_some s hs)
  go_enter Tryd.func41, Tryd.ntmps41
  go_wp2
  go_loopw [4, 5, 6] (fun v b i wr => ∃ k : Nat, k ≤ s.size + 1 ∧ i = .int .i64 k ∧ b = .int .i64 (st2 s k).1 ∧ OwnsS wr w.heap.size 9 v (st2 s k).2 ∧ Below w.heap.size w wr ∧ Hid (∀ j, j < k → j < s.size → okB (at_ s j)))
    (fun _ _ i _ => s.size + 1 - (intOf i).toNat)
  case atStart =>
    refine ⟨0, Nat.zero_le _, rfl, rfl, ?_, (Below.refl _ _).alloc (Nat.le_refl _) _, fun j hj => by omega⟩
    exact OwnsS.made w w.heap.size _ (Nat.le_refl _)
  case round =>
    obtain ⟨k, hk, rfl, rfl, hown, hbel, hok⟩ := hrel
    obtain ⟨b, hb⟩ : ∃ b, (st2 s k).1 = b := ⟨_, rfl⟩
    obtain ⟨ss, hss⟩ : ∃ ss, (st2 s k).2 = ss := ⟨_, rfl⟩
    have hle := st2_le s k hk
    rw [hb, hss] at hle
    rw [hss] at hown
    rw [hb]
    by_cases hlt : k < s.size
    · obtain ⟨c, hc⟩ : ∃ c : Nat, s[k].toNat = c := ⟨_, rfl⟩
      have hc2 : c < 256 := by rw [← hc]; exact UInt8.toNat_lt _
      have hcat : at_ s k = c := by rw [← at_get s k hlt]; exact hc
      by_cases h1 : c < 32
      · have F := Lib.hid (split_bad s k hlt (by unfold okB; omega))
        clear hown hcat
        go_wp2
        go_ret2
        rw [F.out]
        exact ⟨_, rfl, OwnsS.made _ _ _ hbel.size, hbel.alloc hbel.size _⟩
      · by_cases h2 : 126 < c
        · have F := Lib.hid (split_bad s k hlt (by unfold okB; omega))
          clear hown hcat
          go_wp2
          go_ret2
          rw [F.out]
          exact ⟨_, rfl, OwnsS.made _ _ _ hbel.size, hbel.alloc hbel.size _⟩
        · have OK : Hid (∀ j, j < k + 1 → j < s.size → okB (at_ s j)) := by
            show ∀ j, j < k + 1 → j < s.size → okB (at_ s j)
            intro j hj hj2
            by_cases e : j = k
            · rw [e, hcat]; unfold okB; omega
            · exact hok.out j (by omega) hj2
          have hst : st2 s k = st s k := by unfold st2; rw [if_pos (by omega)]
          have hst1 : st2 s (k + 1) = st s (k + 1) := by unfold st2; rw [if_pos (by omega)]
          rw [hst] at hb hss
          by_cases h3 : c = 32
          · have b0 : ((c : Int) != 32) = false := by rw [bne_eq_false_iff_eq]; omega
            have E1 : Hid ((st2 s (k + 1)).1 = k + 1) := by show (st2 s (k + 1)).1 = k + 1; rw [hst1]; unfold st; rw [if_pos (by omega)]
            have hle1 := hle.1
            have hle2 := hle.2
            by_cases hbk : b < k
            · have E2 : Hid ((st2 s (k + 1)).2 = ss ++ [s.extract b k]) := by
                show (st2 s (k + 1)).2 = ss ++ [s.extract b k]
                rw [hst1]; unfold st; rw [if_pos (by omega)]
                show (if (st s k).1 < k then _ else _) = _
                rw [hb, hss, if_pos hbk]
              clear hcat hok h3 hss hb hst hst1
              go_wp2_with (at_builtin; refine wpList_append_str stt _ rfl _ _ rfl w.heap.size u4 ss rfl (hown.alloc _) wr.heap.size 1 (s.extract b k) rfl (heap_alloc_new wr _) ?_ ?_ ?_; omega; (have := hbel.size; simp; omega); intro v' w1 hown1 hbel1)
              have R := Lib.hid (And.intro hown1 ((hbel.alloc hbel.size _).trans hbel1))
              clear hown1 hbel1 hbel hown
              go_wp2
              go_roundw
              case rel => exact ⟨k + 1, by omega, by go_num, by rw [E1.out]; go_num, by rw [E2.out]; exact R.out.1, R.out.2, OK⟩
              case measure => simp [intOf]; omega
            · have E2 : Hid ((st2 s (k + 1)).2 = ss) := by
                show (st2 s (k + 1)).2 = ss
                rw [hst1]; unfold st; rw [if_pos (by omega)]
                show (if (st s k).1 < k then _ else _) = _
                rw [hb, hss, if_neg hbk]
              have HO := Lib.hid hown
              clear hcat hok h3 hss hb hst hst1 hown
              go_wp2
              go_roundw
              case rel => exact ⟨k + 1, by omega, by go_num, by rw [E1.out]; go_num, by rw [E2.out]; exact HO.out, hbel, OK⟩
              case measure => simp [intOf]; omega
          · have E1 : Hid (st2 s (k + 1) = st s k) := by show st2 s (k + 1) = st s k; rw [hst1, st, if_neg (by omega)]
            have HO := Lib.hid hown
            have HSS := Lib.hid hss
            have HB := Lib.hid hb
            have b0 : ((c : Int) != 32) = true := by rw [bne_iff_ne]; omega
            clear hown hcat hok h3 hss hb hst hst1
            go_wp2
            go_roundw
            case rel => exact ⟨k + 1, by omega, by go_num, by rw [E1.out, HB.out], by rw [E1.out, HSS.out]; exact HO.out, hbel, OK⟩
            case measure => simp [intOf]; omega
    · have OK : Hid (∀ j, j < s.size → okB (at_ s j)) := by show ∀ j, j < s.size → okB (at_ s j); intro j hj; exact hok.out j (by omega) hj
      by_cases hk2 : k ≤ s.size
      · have hks : k = s.size := by omega
        have hst : st2 s k = st s s.size := by unfold st2; rw [if_pos hk2, hks]
        rw [hst] at hb hss
        have hst1 : st2 s (k + 1) = (k + 1, fin s) := by unfold st2; rw [if_neg (by omega)]
        have OK2 : Hid (∀ j, j < k + 1 → j < s.size → okB (at_ s j)) := fun j _ hj => OK.out j hj
        have hle1 := hle.1
        have hle2 := hle.2
        by_cases hbk : b < k
        · have E2 : Hid (fin s = ss ++ [s.extract b s.size]) := by
            show fin s = ss ++ [s.extract b s.size]
            unfold fin; rw [hb, hss, if_pos (by omega)]
          have HST := Lib.hid hst1
          obtain rfl := hks
          clear hok hss hb hst hst1
          go_wp2_with (at_builtin; refine wpList_append_str stt _ rfl _ _ rfl w.heap.size u4 ss rfl (hown.alloc _) wr.heap.size 1 (s.extract b s.size) rfl (heap_alloc_new wr _) ?_ ?_ ?_; omega; (have := hbel.size; simp; omega); intro v' w1 hown1 hbel1)
          have R := Lib.hid (And.intro hown1 ((hbel.alloc hbel.size _).trans hbel1))
          clear hown1 hbel1 hbel hown
          go_wp2
          go_roundw
          case rel => exact ⟨s.size + 1, by omega, by go_num, by rw [HST.out]; go_num, by rw [HST.out, E2.out]; exact R.out.1, R.out.2, OK2⟩
          case measure => simp [intOf]
        · have E2 : Hid (fin s = ss) := by
            show fin s = ss
            unfold fin; rw [hb, hss, if_neg (by omega)]
          have HST := Lib.hid hst1
          have HO := Lib.hid hown
          obtain rfl := hks
          clear hok hss hb hst hst1 hown
          go_wp2
          go_roundw
          case rel => exact ⟨s.size + 1, by omega, by go_num, by rw [HST.out]; go_num, by rw [HST.out, E2.out]; exact HO.out, hbel, OK2⟩
          case measure => simp [intOf]
      · have hst : st2 s k = (k, fin s) := by unfold st2; rw [if_neg hk2]
        rw [hst] at hss
        have hss' : ss = fin s := hss.symm
        rw [hss'] at hown
        obtain ⟨a, cap, hu, _⟩ := hown.form
        subst hu
        obtain ⟨m, hm⟩ : ∃ m, (fin s).length = m := ⟨_, rfl⟩
        have HO := Lib.hid hown
        rw [hm] at HO ⊢
        have HM := Lib.hid hm
        clear hown hm hss hst hok hb hss'
        by_cases h24 : 24 < m
        · have F := Lib.hid (split_many s (by rw [HM.out]; exact h24))
          go_wp2
          go_ret2
          rw [F.out]
          exact ⟨_, rfl, OwnsS.made _ _ _ hbel.size, hbel.alloc hbel.size _⟩
        · have F := Lib.hid (HS.out OK.out (by rw [HM.out]; omega))
          go_wp2
          go_ret2
          rw [F.out]
          exact ⟨_, rfl, HO.out, hbel⟩
end Go.Proofs.YtiogpiopgcbdbaaDoor.SplitS
