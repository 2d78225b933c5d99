/- Contracts of the model's FormulaOk and l08Vars. -/
import Derived.Test.YtkfgflmhefbinaaRows
import Derived.Test.YtkfgflmhefbinaaNodeS
namespace Go.Proofs.Ytkfgflmhefbinaa.FormS
open Go.RowKit RowN TNode NodeMath FracMath Mon NodeS
set_option maxHeartbeats 4000000 in
theorem form_s (w : World) (p : Option Addr) (m cap : Nat) (l : List El) (hm : l.length = m) (hs : m ≤ 1099511627776) (h : Reads fc 6 w p l) :
    Calls Try.prog 69 #[.slice p m cap] w (IsBo (okF l) w) := by
  have KK := Lib.hid h
  have HM := Lib.hid hm
  obtain ⟨R, hR⟩ : ∃ R, okF l = R := ⟨_, rfl⟩
  have HR := Lib.hid hR
  rw [hR]
  clear h hm hR
  go_enter Try.func69, Try.ntmps69
  go_wp2
  go_loopw [3] (fun i wr => ∃ j : Nat, j ≤ m ∧ i = .int .i64 (j : Int) ∧ Hid (∀ i (h : i < l.length), i < j → okN l[i] (i : Int) = true) ∧ Hid (Below w.heap.size w wr)) (fun i _ => m - (intOf i).toNat)
  case atStart => exact ⟨0, Nat.zero_le _, rfl, Lib.hid (fun i _ hi => by omega), Lib.hid (Below.refl _ _)⟩
  case round =>
    obtain ⟨j, hj, rfl, HP, HB⟩ := hrel
    by_cases hlt : j < m
    · have HLT := Lib.hid (show j < l.length by rw [HM.out]; exact hlt)
      obtain ⟨g, o, rfl, hgl, q0, q1, q2, q3, q4, q5⟩ := read (KK.out.on HB.out) j HLT.out
      have b1 : (0 : Int) ≤ (j : Int) := by omega
      have b2 : (j : Int) < (m : Int) := by omega
      obtain ⟨b, hb⟩ : ∃ b, okN (l[j]'HLT.out) (j : Int) = b := ⟨_, rfl⟩
      have HX : Hid (b = false → R = false) := Lib.hid (fun e => HR.out.symm.trans (okF_no (fun h => by have := h.2 j HLT.out; rw [hb, e] at this; cases this)))
      have HZ : Hid (b = true → ∀ i (h : i < l.length), i < j + 1 → okN l[i] (i : Int) = true) := Lib.hid (fun e i h hi => by
        by_cases h2 : i = j
        · subst h2; exact hb.trans e
        · exact HP.out i h (by omega))
      have HBB := Lib.hid hb
      clear HP hb HR
      generalize (l[j]'HLT.out) = x at q0 q1 q2 q3 q4 q5 HBB
      go_wp2_with fail
      refine (node_s _ x (j : Int)).mono ?_
      rintro e w1 ⟨rfl, hb1⟩
      rw [HBB.out]
      have HB1 := Lib.hid (BelowKit.bl_trans HB.out hb1)
      clear hb1 q0 q1 q2 q3 q4 q5
      cases b with
      | false =>
        have E := Lib.hid (HX.out rfl)
        clear HX HZ
        go_wp2
        go_ret
        rw [E.out]
        exact ⟨rfl, HB1.out⟩
      | true =>
        have E := Lib.hid (HZ.out rfl)
        clear HX HZ
        go_wp2
        go_roundw
        case rel => exact ⟨j + 1, by omega, by go_num, E, HB1⟩
        case measure => simp [intOf]; omega
    · obtain rfl : j = m := by omega
      have E := Lib.hid (show R = Mon.inB (j : Int) 1 30 by
        rw [← HR.out]
        by_cases h : 1 ≤ j ∧ j ≤ 30
        · rw [Mon.inB_yes (by omega) (by omega)]
          exact okF_yes ⟨by rw [HM.out]; exact h, fun i hi => HP.out i hi (by rw [HM.out] at hi; exact hi)⟩
        · rw [show Mon.inB (j : Int) 1 30 = false by cases e : Mon.inB (j : Int) 1 30 with | false => rfl | true => exact absurd (Mon.inB_of e) (by omega)]
          exact okF_no (fun hh => h (by have := hh.1; rwa [HM.out] at this)))
      clear HP HR
      go_wp2_with fail
      refine (in_c _ _ _ _).mono ?_
      rintro e w1 ⟨rfl, rfl⟩
      go_wp2
      go_ret
      rw [E.out]
      exact ⟨rfl, HB.out⟩
set_option maxHeartbeats 4000000 in
theorem vars_s (w : World) (p : Option Addr) (m cap : Nat) (l : List Fr) (hm : l.length = m) (hs : m ≤ 1099511627776) (h : Reads TFrac.fc 2 w p l) :
    Calls Try.prog 100 #[.slice p m cap] w (IsBo (okVs l) w) := by
  have KK := Lib.hid h
  have HM := Lib.hid hm
  obtain ⟨R, hR⟩ : ∃ R, okVs l = R := ⟨_, rfl⟩
  have HR := Lib.hid hR
  rw [hR]
  clear h hm hR
  go_enter Try.func100, Try.ntmps100
  go_wp2
  go_loopw [3] (fun i wr => ∃ j : Nat, j ≤ m ∧ i = .int .i64 (j : Int) ∧ Hid (∀ i (h : i < l.length), i < j → okV l[i] = true) ∧ Hid (Below w.heap.size w wr)) (fun i _ => m - (intOf i).toNat)
  case atStart => exact ⟨0, Nat.zero_le _, rfl, Lib.hid (fun i _ hi => by omega), Lib.hid (Below.refl _ _)⟩
  case round =>
    obtain ⟨j, hj, rfl, HP, HB⟩ := hrel
    by_cases hlt : j < m
    · have HLT := Lib.hid (show j < l.length by rw [HM.out]; exact hlt)
      obtain ⟨g, o, rfl, hgl, q0, q1⟩ := TFrac.read (KK.out.on HB.out) j HLT.out
      have b1 : (0 : Int) ≤ (j : Int) := by omega
      have b2 : (j : Int) < (m : Int) := by omega
      obtain ⟨b, hb⟩ : ∃ b, okB (l[j]'HLT.out).Num (l[j]'HLT.out).Den = b := ⟨_, rfl⟩
      have HX : Hid (b = false → R = false) := Lib.hid (fun e => HR.out.symm.trans (okVs_no (fun h => by have := h.2 j HLT.out; unfold okV at this; rw [hb, e] at this; cases this)))
      have HZ : Hid (b = true → ∀ i (h : i < l.length), i < j + 1 → okV l[i] = true) := Lib.hid (fun e i h hi => by
        by_cases h2 : i = j
        · subst h2; exact hb.trans e
        · exact HP.out i h (by omega))
      have HBB := Lib.hid hb
      clear HP hb HR
      generalize (l[j]'HLT.out) = x at q0 q1 HBB
      go_wp2_with fail
      refine (FracValid.ok_s x.Num x.Den _).mono ?_
      rintro e w1 ⟨rfl, hb1⟩
      rw [HBB.out]
      have HB1 := Lib.hid (BelowKit.bl_trans HB.out hb1)
      clear hb1 q0 q1
      cases b with
      | false =>
        have E := Lib.hid (HX.out rfl)
        clear HX HZ
        go_wp2
        go_ret
        rw [E.out]
        exact ⟨rfl, HB1.out⟩
      | true =>
        have E := Lib.hid (HZ.out rfl)
        clear HX HZ
        go_wp2
        go_roundw
        case rel => exact ⟨j + 1, by omega, by go_num, E, HB1⟩
        case measure => simp [intOf]; omega
    · obtain rfl : j = m := by omega
      by_cases h8 : j = 8
      · have E := Lib.hid (show R = true by rw [← HR.out]; exact okVs_yes ⟨by rw [HM.out]; exact h8, fun i hi => HP.out i hi (by rw [HM.out] at hi; exact hi)⟩)
        have d8 : ((j : Int) == 8) = true := by rw [h8]; rfl
        clear HP HR h8
        go_wp2
        go_ret
        rw [E.out]
        exact ⟨rfl, HB.out⟩
      · have E := Lib.hid (show R = false by rw [← HR.out]; exact okVs_no (fun hh => h8 (by have := hh.1; rwa [HM.out] at this)))
        have d8 : ((j : Int) == 8) = false := beq_eq_false_iff_ne.2 (by omega)
        clear HP HR h8
        go_wp2
        go_ret
        rw [E.out]
        exact ⟨rfl, HB.out⟩
end Go.Proofs.Ytkfgflmhefbinaa.FormS
