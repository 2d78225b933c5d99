/- The contract of the program's SplitFields: the fields of the line in new memory, at every string that is not too long to be looked at. -/
import Derived.Test.YtiogpiopgcbdbaaGreatDoorRows
import Derived.Test.YtiogpiopgcbdbaaGreatDoorKit
import Derived.Test.YtiogpiopgcbdbaaGreatDoorNine
import Derived.Lib.Hide
import Derived.WalkMore
namespace Go.Proofs.YtiogpiopgcbdbaaGreatDoor.SplitI
open Go.RowKit StrKit SplitMath

theorem stt : StrTypes Tryz.prog 41 9 := ⟨Tryz.underlying41, Tryz.underlying9, by kernel_rfl⟩
/-- Some slice of its own that holds ss. -/
def Owned (B : Nat) (ss : List ByteArray) (w : World) (e : Ending) (w' : World) : Prop := ∃ v, e = .returned v ∧ OwnsS w' B 9 v ss ∧ Below B w w'
/-- The fields, or none. -/
def Fields (w : World) (r : Option (List ByteArray)) (e : Ending) (w' : World) : Prop := ∃ v, e = .returned (.tuple #[v, .bool r.isSome]) ∧ OwnsS w' w.heap.size 9 v (r.getD []) ∧ Below w.heap.size w w'

theorem empty_of (f : ByteArray) (h : f.size = 0) : f.toList.isEmpty = true := by
  rw [ByteArray.toList_eq, List.isEmpty_iff]
  exact List.eq_nil_of_length_eq_zero (by simpa using h)
theorem not_empty (f : ByteArray) (h : 0 < f.size) : f.toList.isEmpty = false := by
  rw [ByteArray.toList_eq, List.isEmpty_eq_false_iff]
  intro e
  have : f.data.toList.length = f.size := by simp
  rw [e] at this
  simp at this
  omega

set_option maxHeartbeats 400000 in
theorem append_no (v : Value) (f : ByteArray) (w : World) (hf : f.size = 0) :
    Calls Tryz.prog 30 #[v, .string f] w fun e w' => e = .returned v ∧ w = w' := by
  have he := empty_of f hf
  clear hf
  go_enter Tryz.func30, Tryz.ntmps30
  go_wp2
  go_ret
  exact ⟨rfl, rfl⟩

set_option maxHeartbeats 400000 in
theorem append_yes (B : Nat) (v : Value) (ss : List ByteArray) (f : ByteArray) (w : World) (hown : OwnsS w B 9 v ss) (hB : B ≤ w.heap.size) (hlen : ss.length ≤ 1048576) (hf : 0 < f.size) :
    Calls Tryz.prog 30 #[v, .string f] w (Owned B (ss ++ [f]) w) := by
  have he := not_empty f hf
  clear hf
  go_enter Tryz.func30, Tryz.ntmps30
  go_wp2_with (at_builtin; refine wpList_append_str stt _ rfl _ _ rfl B v ss rfl (hown.alloc _) w.heap.size 1 f rfl (heap_alloc_new w _) ?_ ?_ ?_; omega; (simp; omega); intro v' w1 hown1 hbel1)
  go_ret
  exact ⟨v', rfl, hown1, ((Below.refl _ _).alloc hB _).trans hbel1⟩

theorem append_any (B : Nat) (v : Value) (ss : List ByteArray) (f : ByteArray) (w : World) (hown : OwnsS w B 9 v ss) (hB : B ≤ w.heap.size) (hlen : ss.length ≤ 1048576) (ss' : List ByteArray) (h : ss' = if 0 < f.size then ss ++ [f] else ss) :
    Calls Tryz.prog 30 #[v, .string f] w (Owned B ss' w) := by
  subst h
  by_cases hf : 0 < f.size
  · rw [if_pos hf]; exact append_yes B v ss f w hown hB hlen hf
  · rw [if_neg hf]
    refine (append_no v f w (by omega)).mono ?_
    rintro e w' ⟨rfl, rfl⟩
    exact ⟨v, rfl, hown, Below.refl _ _⟩

theorem impl_long (s : ByteArray) (w : World) (h : 600 < s.size) (hm : s.size ≤ 1048576) :
    Calls Tryz.prog 18 #[.string s] w (Fields w (split s)) := by
  rw [split_long s h]
  go_enter Tryz.func18, Tryz.ntmps18
  go_wp2
  go_step3
  go_wp2
  try rw [Exit.noGoto_ret]
  go_ret2
  exact ⟨_, rfl, OwnsS.nil _ _ _, Below.refl _ _⟩

theorem ext_size (s : ByteArray) (a b : Nat) (h : a ≤ b) (hb : b ≤ s.size) : (s.extract a b).size = b - a := by rw [ByteArray.size_extract]; omega

set_option maxHeartbeats 1000000 in
theorem impl_split (s : ByteArray) (w : World) (hs : s.size ≤ 600) :
    Calls Tryz.prog 18 #[.string s] w (Fields w (split s)) := by
  have HS := Lib.hid (split_some s hs)
  go_enter Tryz.func18, Tryz.ntmps18
  go_wp2
  go_step3
  go_wp2
  go_step3
  go_wp2
  go_loopw [4, 5, 6] (fun v b i wr => ∃ k : Nat, k ≤ s.size ∧ i = .int .i64 k ∧ b = .int .i64 (st s k).1 ∧ OwnsS wr w.heap.size 9 v (st s k).2 ∧ Below w.heap.size w wr ∧ Hid (∀ j, j < k → okB (at_ s j)))
    (fun _ _ i _ => s.size - (intOf i).toNat)
  case atStart => exact ⟨0, Nat.zero_le _, rfl, rfl, OwnsS.nil _ _ _, Below.refl _ _, fun j hj => by omega⟩
  case round =>
    obtain ⟨k, hk, rfl, rfl, hown, hbel, hok⟩ := hrel
    obtain ⟨b, hb⟩ : ∃ b, (st s k).1 = b := ⟨_, rfl⟩
    obtain ⟨ss, hss⟩ : ∃ ss, (st s k).2 = ss := ⟨_, rfl⟩
    have hle := st_le s k
    rw [hb, hss] at hle
    rw [hss] at hown
    rw [hb]
    by_cases hlt : k < s.size
    · obtain ⟨c, hc⟩ : ∃ c : Nat, s[k].toNat = c := ⟨_, rfl⟩
      have hc2 : c < 256 := by rw [← hc]; exact UInt8.toNat_lt _
      have hcat : at_ s k = c := by rw [← at_get s k hlt]; exact hc
      by_cases h1 : c < 32
      · have F := Lib.hid (split_bad s k hlt (by unfold okB; omega))
        clear hown hcat
        go_wp2
        try rw [Exit.noGoto_ret]
        go_ret2
        rw [F.out]
        exact ⟨_, rfl, OwnsS.nil _ _ _, hbel⟩
      · by_cases h2 : 126 < c
        · have F := Lib.hid (split_bad s k hlt (by unfold okB; omega))
          clear hown hcat
          go_wp2
          try rw [Exit.noGoto_ret]
          go_ret2
          rw [F.out]
          exact ⟨_, rfl, OwnsS.nil _ _ _, hbel⟩
        · have OK : Hid (∀ j, j < k + 1 → okB (at_ s j)) := by
            show ∀ j, j < k + 1 → okB (at_ s j)
            intro j hj
            by_cases e : j = k
            · rw [e, hcat]; unfold okB; omega
            · exact hok.out j (by omega)
          by_cases h3 : c = 32
          · have E1 : Hid ((st s (k + 1)).1 = k + 1) := by show (st s (k + 1)).1 = k + 1; unfold st; rw [if_pos (by omega)]
            have E2 : (st s (k + 1)).2 = if 0 < (s.extract b k).size then ss ++ [s.extract b k] else ss := by
              rw [ext_size s b k hle.1 hk]
              unfold st
              rw [if_pos (by omega)]
              show (if (st s k).1 < k then _ else _) = _
              rw [hb, hss]
              by_cases hbk : b < k
              · rw [if_pos hbk, if_pos (by omega)]
              · rw [if_neg hbk, if_neg (by omega)]
            have A := fun W hown hB => append_any w.heap.size u4 ss (s.extract b k) W hown hB (by omega) _ E2
            have HA := Lib.hid A
            have HO := Lib.hid hown
            have b0 : ((c : Int) == 32) = true := by rw [beq_iff_eq]; omega
            have hle1 := hle.1
            clear A E2 hown hcat hok h3 hss hb
            go_wp2_with fail
            refine (HA.out _ HO.out hbel.size).mono ?_
            rintro e w1 ⟨v', rfl, hown1, hbel1⟩
            have R := Lib.hid (And.intro hown1 (hbel.trans hbel1))
            clear hown1 hbel1 hbel
            go_wp2
            go_roundw
            case rel => exact ⟨k + 1, by omega, by go_num, by rw [E1.out]; go_num, R.out.1, R.out.2, OK⟩
            case measure => simp [intOf]; omega
          · have E1 : Hid (st s (k + 1) = st s k) := by show st s (k + 1) = st s k; rw [st, if_neg (by omega)]
            have HO := Lib.hid hown
            have HSS := Lib.hid hss
            have HB := Lib.hid hb
            have b0 : ((c : Int) == 32) = false := by rw [beq_eq_false_iff_ne]; omega
            clear hown hcat hok h3 hss hb
            go_wp2
            go_roundw
            case rel => exact ⟨k + 1, by omega, by go_num, by rw [E1.out, HB.out], by rw [E1.out, HSS.out]; exact HO.out, hbel, OK⟩
            case measure => simp [intOf]; omega
    · have hk' : k = s.size := by omega
      have OK : Hid (∀ j, j < s.size → okB (at_ s j)) := by rw [← hk']; exact hok
      have E2 : fin s = if 0 < (s.extract b s.size).size then ss ++ [s.extract b s.size] else ss := by
        rw [ext_size s b s.size (by omega) (Nat.le_refl _)]
        unfold fin
        rw [← hk', hb, hss]
        by_cases hbk : b < k
        · rw [if_pos hbk, if_pos (by omega)]
        · rw [if_neg hbk, if_neg (by omega)]
      have A := fun W hown hB => append_any w.heap.size u4 ss (s.extract b s.size) W hown hB (by omega) _ E2
      have HA := Lib.hid A
      have HO := Lib.hid hown
      have hle1 := hle.1
      clear A E2 hown hok hss hb hk'
      go_wp2_with fail
      refine (HA.out _ HO.out hbel.size).mono ?_
      rintro e w1 ⟨v', rfl, hown1, hbel1⟩
      obtain ⟨a, cap, rfl, _⟩ := hown1.form
      obtain ⟨m, hm⟩ : ∃ m, (fin s).length = m := ⟨_, rfl⟩
      have R := Lib.hid (And.intro hown1 (hbel.trans hbel1))
      rw [hm] at R ⊢
      have HM := Lib.hid hm
      clear hown1 hbel1 hbel hm
      by_cases h24 : 24 < m
      · have F := Lib.hid (split_many s (by rw [HM.out]; exact h24))
        go_wp2
        try rw [Exit.noGoto_ret]
        go_ret2
        rw [F.out]
        exact ⟨_, rfl, OwnsS.nil _ _ _, R.out.2⟩
      · have F := Lib.hid (HS.out OK.out (by rw [HM.out]; omega))
        go_wp2
        try rw [Exit.noGoto_ret]
        go_ret2
        rw [F.out]
        exact ⟨_, rfl, R.out.1, R.out.2⟩
end Go.Proofs.YtiogpiopgcbdbaaGreatDoor.SplitI
