/- Contracts of both ParseMonth: the month whose text the string is, or none; where the program's names of months are as laid. -/
import Derived.Test.YtlbpopmgadomoaaDoorRows
import Derived.Test.YtlbpopmgadomoaaDoorMon
import Derived.Test.YtlbpopmgadomoaaDoorMonMath
import Derived.Test.YtlbpopmgadomoaaDoorMonText
import Derived.Test.YtlbpopmgadomoaaDoorNumParse
import Derived.Test.YtlbpopmgadomoaaDoorNumWalks
import Derived.Test.YtlbpopmgadomoaaDoorNumWalksI
import Derived.Test.YtlbpopmgadomoaaDoorBelowKit
import Derived.Lib.Hide
import Derived.WalkMore
namespace Go.Proofs.YtlbpopmgadomoaaDoor.MonParse
open Go.RowKit NumMath NumParse MonMath Mon MonText

def IsN (r : Option Nat) (w : World) (e : Ending) (w' : World) : Prop := e = .returned (resN r) ∧ Below w.heap.size w w'
theorem take_ext (s : ByteArray) : (s.extract 0 4).data.toList = s.data.toList.take 4 := by simp
theorem drop_ext (s : ByteArray) : (s.extract 4 s.size).data.toList = s.data.toList.drop 4 := by
  rw [show s.size = s.data.toList.length by simp]
  simp
  rw [List.take_of_length_le (by simp)]
theorem byte_at (s : ByteArray) (k : Nat) (h : k < s.size) (x : UInt8) (e : s.data.toList[k]? = some x) : s[k] = x := by
  have h' : k < s.data.toList.length := by simpa using h
  rw [List.getElem?_eq_getElem h'] at e
  exact Option.some.inj e
theorem mof_pos {y m : Int} (h : 0 ≤ mof y m) : 1900 ≤ y ∧ y ≤ 2199 ∧ 1 ≤ m ∧ m ≤ 12 := by
  by_cases h1 : 1900 ≤ y ∧ y ≤ 2199
  · by_cases h2 : 1 ≤ m ∧ m ≤ 12
    · exact ⟨h1.1, h1.2, h2⟩
    · rw [mof_m h2] at h; omega
  · rw [mof_y h1] at h; omega
/-- The two digits behind the hyphen, as numbers. -/
theorem digits_of {s : ByteArray} {m c5 c6 : Nat} (h7 : s.size = 7) (e : mt m = s.data.toList) (h5 : (s[5]'(by omega)).toNat = c5) (h6 : (s[6]'(by omega)).toNat = c6) :
    10 * ((c5 : Int) - 48) + ((c6 : Int) - 48) = ((m % 12 + 1 : Nat) : Int) := by
  have a5 := byte_at s 5 (by omega) (HexMath.fig ((m % 12 + 1) / 10)) (by rw [← e]; rfl)
  have a6 := byte_at s 6 (by omega) (HexMath.fig ((m % 12 + 1) % 10)) (by rw [← e]; rfl)
  rw [a5, NumBack.fig_small _ (by omega)] at h5
  rw [a6, NumBack.fig_small _ (by omega)] at h6
  omega

set_option maxHeartbeats 1000000 in
theorem pm_s (s : ByteArray) (w : World) (hm : s.size ≤ 1048576) : Calls Tryd.prog 13 #[.string s] w (IsN (pm s.data.toList) w) := by
  by_cases h7 : s.size = 7
  · have b7 : ((s.size : Int) != 7) = false := by rw [h7]; rfl
    have i1 : 7 ≤ s.size := by omega
    have i5 : 5 < s.size := by omega
    have i6 : 6 < s.size := by omega
    have P := Lib.hid (fun w => NumWalks.spec_pu (s.extract 0 4) w (by rw [ByteArray.size_extract]; omega))
    rw [take_ext s] at P
    obtain ⟨c5, h5⟩ : ∃ c, (s[5]'i5).toNat = c := ⟨_, rfl⟩
    obtain ⟨c6, h6⟩ : ∃ c, (s[6]'i6).toNat = c := ⟨_, rfl⟩
    have k5 : c5 < 256 := by rw [← h5]; exact UInt8.toNat_lt _
    have k6 : c6 < 256 := by rw [← h6]; exact UInt8.toNat_lt _
    have D := Lib.hid (fun m e => digits_of (m := m) h7 e h5 h6)
    cases hp : pU (s.data.toList.take 4) with
    | none =>
      rw [pm_year hp]
      rw [hp] at P
      have M := Lib.hid (fun x => mof_y (y := 0) (m := x) (by omega))
      clear h7 hp D
      go_enter Tryd.func13, Tryd.ntmps13
      go_wp2_with fail
      refine (P.out _).mono ?_
      rintro e w1 ⟨rfl, hb1⟩
      unfold NumParse.resN
      have HB1 := Lib.hid hb1
      clear hb1
      go_wp2_with fail
      refine (of_s _ _ _).mono ?_
      rintro e w2 ⟨rfl, rfl⟩
      rw [M.out]
      go_wp2
      go_ret2
      exact ⟨rfl, HB1.out⟩
    | some y =>
      rw [hp] at P
      have HP := Lib.hid hp
      obtain ⟨M, hM⟩ : ∃ M, mof (y : Int) (10 * ((c5 : Int) - 48) + ((c6 : Int) - 48)) = M := ⟨_, rfl⟩
      have key : ∀ m, m < 3600 → mt m = s.data.toList → M = (m : Int) := fun m hm e => by
        have e1 := (pm_back hm e).1
        rw [HP.out] at e1
        obtain rfl := Option.some.inj e1
        rw [← hM, D.out m e, mof_yes (by omega) (by omega) (by omega) (by omega)]
        omega
      by_cases hneg : M < 0
      · have R := Lib.hid (show pm s.data.toList = none from pm_none fun m hm e => by have := key m hm e; omega)
        rw [R.out]
        have HM := Lib.hid hM
        clear h7 hp D key hM HP R
        go_enter Tryd.func13, Tryd.ntmps13
        go_wp2_with fail
        refine (P.out _).mono ?_
        rintro e w1 ⟨rfl, hb1⟩
        unfold NumParse.resN
        have HB1 := Lib.hid hb1
        clear hb1
        go_wp2_with fail
        refine (of_s _ _ _).mono ?_
        rintro e w2 ⟨rfl, rfl⟩
        rw [HM.out]
        go_wp2
        go_ret2
        exact ⟨rfl, HB1.out⟩
      · have hp0 := mof_pos (y := (y : Int)) (m := 10 * ((c5 : Int) - 48) + ((c6 : Int) - 48)) (by omega)
        have hM2 := mof_yes hp0.1 hp0.2.1 hp0.2.2.1 hp0.2.2.2
        obtain ⟨k, rfl⟩ := Int.eq_ofNat_of_zero_le (show 0 ≤ M by omega)
        have hk : k < 3600 := by omega
        have T := Lib.hid (fun w => text_s (k : Int) w)
        rw [mtx_yes k hk] at T
        obtain ⟨t, ht⟩ : ∃ t : ByteArray, (⟨(MonMath.mt k).toArray⟩ : ByteArray) = t := ⟨_, rfl⟩
        rw [ht] at T
        have HM := Lib.hid hM
        cases hc : t.toList == s.toList with
        | true =>
          have R := Lib.hid (show pm s.data.toList = some k from pm_some hk (by
            rw [beq_iff_eq, ByteArray.toList_eq, ByteArray.toList_eq, ← ht] at hc
            simpa using hc))
          rw [R.out]
          clear h7 hp D key hM HP R hp0 hM2 ht
          go_enter Tryd.func13, Tryd.ntmps13
          go_wp2_with fail
          refine (P.out _).mono ?_
          rintro e w1 ⟨rfl, hb1⟩
          unfold NumParse.resN
          have HB1 := Lib.hid hb1
          clear hb1
          go_wp2_with fail
          refine (of_s _ _ _).mono ?_
          rintro e w2 ⟨rfl, rfl⟩
          rw [HM.out]
          go_wp2_with fail
          refine (T.out _).mono ?_
          rintro e w2 ⟨rfl, hb2⟩
          have HB2 := Lib.hid hb2
          clear hb2
          go_wp2
          go_ret2
          exact ⟨rfl, BelowKit.bl_trans HB1.out HB2.out⟩
        | false =>
          have R := Lib.hid (show pm s.data.toList = none from pm_none fun m hm e => by
            have h1 := key m hm e
            obtain rfl : k = m := by omega
            rw [beq_eq_false_iff_ne, ByteArray.toList_eq, ByteArray.toList_eq, ← ht] at hc
            exact hc (by simpa using e))
          rw [R.out]
          clear h7 hp D key hM HP R hp0 hM2 ht
          go_enter Tryd.func13, Tryd.ntmps13
          go_wp2_with fail
          refine (P.out _).mono ?_
          rintro e w1 ⟨rfl, hb1⟩
          unfold NumParse.resN
          have HB1 := Lib.hid hb1
          clear hb1
          go_wp2_with fail
          refine (of_s _ _ _).mono ?_
          rintro e w2 ⟨rfl, rfl⟩
          rw [HM.out]
          go_wp2_with fail
          refine (T.out _).mono ?_
          rintro e w2 ⟨rfl, hb2⟩
          have HB2 := Lib.hid hb2
          clear hb2
          go_wp2
          go_ret2
          exact ⟨rfl, BelowKit.bl_trans HB1.out HB2.out⟩
  · have R := Lib.hid (show pm s.data.toList = none from pm_len (by simpa using h7))
    rw [R.out]
    have b7 : ((s.size : Int) != 7) = true := by rw [bne_iff_ne]; omega
    clear h7 R
    go_enter Tryd.func13, Tryd.ntmps13
    go_wp2
    go_ret2
    exact ⟨rfl, Below.refl _ _⟩
theorem index_nm (k : Nat) (hk : k < 12) (w : World) : (Instr.index 35 (.agg nmCells) (.int .i64 (k : Int))).run Tryd.prog w = .ok (.string ⟨(two (k + 1)).toArray⟩) w := by
  have i0 : (Instr.index 35 (.agg nmCells) (.int .i64 ((0 : Nat) : Int))).run Tryd.prog w = .ok (.string ⟨(two (0 + 1)).toArray⟩) w := by kernel_rfl
  have i1 : (Instr.index 35 (.agg nmCells) (.int .i64 ((1 : Nat) : Int))).run Tryd.prog w = .ok (.string ⟨(two (1 + 1)).toArray⟩) w := by kernel_rfl
  have i2 : (Instr.index 35 (.agg nmCells) (.int .i64 ((2 : Nat) : Int))).run Tryd.prog w = .ok (.string ⟨(two (2 + 1)).toArray⟩) w := by kernel_rfl
  have i3 : (Instr.index 35 (.agg nmCells) (.int .i64 ((3 : Nat) : Int))).run Tryd.prog w = .ok (.string ⟨(two (3 + 1)).toArray⟩) w := by kernel_rfl
  have i4 : (Instr.index 35 (.agg nmCells) (.int .i64 ((4 : Nat) : Int))).run Tryd.prog w = .ok (.string ⟨(two (4 + 1)).toArray⟩) w := by kernel_rfl
  have i5 : (Instr.index 35 (.agg nmCells) (.int .i64 ((5 : Nat) : Int))).run Tryd.prog w = .ok (.string ⟨(two (5 + 1)).toArray⟩) w := by kernel_rfl
  have i6 : (Instr.index 35 (.agg nmCells) (.int .i64 ((6 : Nat) : Int))).run Tryd.prog w = .ok (.string ⟨(two (6 + 1)).toArray⟩) w := by kernel_rfl
  have i7 : (Instr.index 35 (.agg nmCells) (.int .i64 ((7 : Nat) : Int))).run Tryd.prog w = .ok (.string ⟨(two (7 + 1)).toArray⟩) w := by kernel_rfl
  have i8 : (Instr.index 35 (.agg nmCells) (.int .i64 ((8 : Nat) : Int))).run Tryd.prog w = .ok (.string ⟨(two (8 + 1)).toArray⟩) w := by kernel_rfl
  have i9 : (Instr.index 35 (.agg nmCells) (.int .i64 ((9 : Nat) : Int))).run Tryd.prog w = .ok (.string ⟨(two (9 + 1)).toArray⟩) w := by kernel_rfl
  have i10 : (Instr.index 35 (.agg nmCells) (.int .i64 ((10 : Nat) : Int))).run Tryd.prog w = .ok (.string ⟨(two (10 + 1)).toArray⟩) w := by kernel_rfl
  have i11 : (Instr.index 35 (.agg nmCells) (.int .i64 ((11 : Nat) : Int))).run Tryd.prog w = .ok (.string ⟨(two (11 + 1)).toArray⟩) w := by kernel_rfl
  have h : k = 0 ∨ k = 1 ∨ k = 2 ∨ k = 3 ∨ k = 4 ∨ k = 5 ∨ k = 6 ∨ k = 7 ∨ k = 8 ∨ k = 9 ∨ k = 10 ∨ k = 11 := by omega
  rcases h with rfl | rfl | rfl | rfl | rfl | rfl | rfl | rfl | rfl | rfl | rfl | rfl
  · exact i0
  · exact i1
  · exact i2
  · exact i3
  · exact i4
  · exact i5
  · exact i6
  · exact i7
  · exact i8
  · exact i9
  · exact i10
  · exact i11
theorem resN_form (r : Option Nat) : resN r = .tuple #[.int .i64 ((r.getD 0 : Nat) : Int), .bool r.isSome] := by cases r <;> rfl
theorem name_is {s n : ByteArray} {k : Nat} (hn : (⟨(two (k + 1)).toArray⟩ : ByteArray) = n) (hc : ((s.extract 4 s.size).toList == ((⟨#[45]⟩ : ByteArray) ++ n).toList) = true) : s.data.toList.drop 4 = 45 :: two (k + 1) := by
  rw [beq_iff_eq, ByteArray.toList_eq, ByteArray.toList_eq, drop_ext, ← hn] at hc
  rw [hc]; simp
theorem name_not {s n : ByteArray} {k : Nat} (hn : (⟨(two (k + 1)).toArray⟩ : ByteArray) = n) (hc : ((s.extract 4 s.size).toList == ((⟨#[45]⟩ : ByteArray) ++ n).toList) = false) : s.data.toList.drop 4 ≠ 45 :: two (k + 1) := by
  rw [beq_eq_false_iff_ne, ByteArray.toList_eq, ByteArray.toList_eq, drop_ext, ← hn] at hc
  intro e
  exact hc (by rw [e]; simp)
/-- No name that was looked at gives a month. -/
def Past (s : ByteArray) (y k : Nat) : Prop := ∀ j, j < k → s.data.toList.drop 4 = 45 :: two (j + 1) → mof (y : Int) ((j : Int) + 1) < 0
theorem Past.next {s : ByteArray} {y k : Nat} (h : Past s y k) (hk : s.data.toList.drop 4 = 45 :: two (k + 1) → mof (y : Int) ((k : Int) + 1) < 0) : Past s y (k + 1) := by
  intro j hj e
  by_cases hjk : j = k
  · subst hjk; exact hk e
  · exact h j (by omega) e
theorem past_all {s : ByteArray} {r : Option Nat} (hr : pU (s.data.toList.take 4) = r) (h : Past s (r.getD 0) 12) : pm s.data.toList = none := pm_none fun m hm e => by
  obtain ⟨e1, e2⟩ := pm_back hm e
  rw [hr] at e1
  subst e1
  have h1 := h (m % 12) (by omega) e2
  simp only [Option.getD_some] at h1
  rw [mof_yes (by omega) (by omega) (by omega) (by omega)] at h1
  omega
theorem found {s : ByteArray} {r : Option Nat} {k : Nat} (hr : pU (s.data.toList.take 4) = r) (hk : k < 12) (hd : s.data.toList.drop 4 = 45 :: two (k + 1)) (h0 : 0 ≤ mof ((r.getD 0 : Nat) : Int) ((k : Int) + 1)) :
    ∃ m : Nat, mof ((r.getD 0 : Nat) : Int) ((k : Int) + 1) = (m : Int) ∧ pm s.data.toList = some m := by
  obtain ⟨p1, p2, p3, p4⟩ := mof_pos h0
  have e := mof_yes p1 p2 p3 p4
  cases r with
  | none => simp at p1
  | some y =>
    simp only [Option.getD_some] at *
    refine ⟨(y - 1900) * 12 + k, by omega, mt_parts hr (by omega) (by omega) hk hd⟩

set_option maxHeartbeats 1000000 in
theorem pm_i (s : ByteArray) (w : World) (hm : s.size ≤ 1048576) (hnm : Names w) : Calls Tryd.prog 9 #[.string s] w (IsN (pm s.data.toList) w) := by
  obtain ⟨T, fr, hrow⟩ := names_row hnm
  have HROW := Lib.hid hrow
  clear hnm hrow
  by_cases h4 : s.size < 4
  · rw [pm_len (by simp; omega)]
    go_enter Tryd.func9, Tryd.ntmps9
    go_wp2
    go_ret2
    exact ⟨rfl, Below.refl _ _⟩
  · have i1 : 4 ≤ s.size := by omega
    have P := Lib.hid (fun w => NumWalksI.impl_pu (s.extract 0 4) w (by rw [ByteArray.size_extract]; omega))
    rw [take_ext s] at P
    obtain ⟨r, hr⟩ : ∃ r, pU (s.data.toList.take 4) = r := ⟨_, rfl⟩
    rw [hr, resN_form r] at P
    have HR := Lib.hid hr
    have FD := fun k hk hd h0 => found (s := s) (k := k) HR.out hk hd h0
    have PA := past_all (s := s) HR.out
    obtain ⟨y, hy⟩ : ∃ y, r.getD 0 = y := ⟨_, rfl⟩
    obtain ⟨b, hb⟩ : ∃ b, r.isSome = b := ⟨_, rfl⟩
    rw [hy, hb] at P
    rw [hy] at FD PA
    obtain ⟨R, hR⟩ : ∃ R, pm s.data.toList = R := ⟨_, rfl⟩
    rw [hR]
    have FH := Lib.hid FD
    have PH := Lib.hid PA
    have HRR := Lib.hid hR
    clear hr hy hb FD PA hR
    go_enter Tryd.func9, Tryd.ntmps9
    go_wp2_with fail
    refine (P.out _).mono ?_
    rintro e w1 ⟨rfl, rfl⟩
    go_wp2_with (refine wpList_load_row rfl 35 (.global 0) rfl 0 rfl T nmCells fr _ HROW.out Tryd.underlying35 rfl (by kernel_rfl) ?_)
    go_wp2
    clear P
    go_loop [19] (fun i => ∃ k : Nat, k ≤ 12 ∧ i = .int .i64 k ∧ Hid (Past s y k)) (fun i => 12 - (intOf i).toNat)
    case atStart => exact ⟨0, by omega, rfl, fun j hj => by omega⟩
    case round =>
      obtain ⟨k, hk, rfl, hpast⟩ := hrel
      by_cases hlt : k < 12
      · have HI := Lib.hid (fun w => index_nm k hlt w)
        obtain ⟨n, hn⟩ : ∃ n : ByteArray, (⟨(two (k + 1)).toArray⟩ : ByteArray) = n := ⟨_, rfl⟩
        have hs : n.size ≤ 2 := by rw [← hn]; exact Nat.le_refl _
        rw [hn] at HI
        have NN := Lib.hid hn
        clear hn
        cases hc : (s.extract 4 s.size).toList == ((⟨#[45]⟩ : ByteArray) ++ n).toList with
        | false =>
          have HP := Lib.hid (hpast.out.next fun e => absurd e (name_not NN.out hc))
          have I0 := HI.out
          go_wp2
          go_round
          case rel => exact ⟨k + 1, by omega, by go_num, HP⟩
          case measure => simp [intOf]; omega
        | true =>
          have hd := Lib.hid (name_is NN.out hc)
          have F := FH.out k hlt hd.out
          obtain ⟨M, hM⟩ : ∃ M, mof (y : Int) ((k : Int) + 1) = M := ⟨_, rfl⟩
          rw [hM] at F
          have HM := Lib.hid hM
          cases hin : inB M 0 3599 with
          | true =>
            obtain ⟨m, rfl, hp⟩ := F (inB_of hin).1
            rw [HRR.out] at hp
            subst hp
            have HIN := Lib.hid hin
            have I0 := HI.out
            clear hM hin
            go_wp2_with fail
            refine (of_i _ _ _).mono ?_
            rintro e w1 ⟨rfl, rfl⟩
            rw [HM.out]
            go_wp2_with fail
            refine (ok_i _ _).mono ?_
            rintro e w1 ⟨rfl, rfl⟩
            rw [HIN.out]
            go_wp2
            go_ret2
            exact ⟨rfl, Below.refl _ _⟩
          | false =>
            have hneg : M < 0 := by
              have h1 := inB_not hin
              by_cases h0 : 0 ≤ M
              · have h2 := mof_pos (y := (y : Int)) (m := (k : Int) + 1) (by rw [hM]; exact h0)
                have h3 := mof_yes h2.1 h2.2.1 h2.2.2.1 h2.2.2.2
                omega
              · omega
            have HP := Lib.hid (hpast.out.next fun _ => by rw [hM]; exact hneg)
            have HIN := Lib.hid hin
            have I0 := HI.out
            clear hM hin hneg F
            go_wp2_with fail
            refine (of_i _ _ _).mono ?_
            rintro e w1 ⟨rfl, rfl⟩
            rw [HM.out]
            go_wp2_with fail
            refine (ok_i _ _).mono ?_
            rintro e w1 ⟨rfl, rfl⟩
            rw [HIN.out]
            go_wp2
            go_round
            case rel => exact ⟨k + 1, by omega, by go_num, HP⟩
            case measure => simp [intOf]; omega
      · obtain rfl : k = 12 := by omega
        have e := PH.out hpast.out
        rw [HRR.out] at e
        subst e
        go_wp2
        go_ret2
        exact ⟨rfl, Below.refl _ _⟩
end Go.Proofs.YtlbpopmgadomoaaDoor.MonParse
