/- Contract of the program's FormulaOk. -/
import Derived.Test.YtkfgflmhefbinaaRows
import Derived.Test.YtkfgflmhefbinaaNodeI
namespace Go.Proofs.Ytkfgflmhefbinaa.FormI
open Go.RowKit RowN TNode NodeMath FracMath StepI
set_option maxHeartbeats 4000000 in
theorem form_i (w : World) (p : Option Addr) (m cap : Nat) (l : List El) (hm : l.length = m) (hs : m ≤ 1099511627776) (h : Reads fc 6 w p l) :
    Calls Try.prog 71 #[.slice p m cap] w (IsBo (okF l) w) := by
  have KK := Lib.hid h
  have HM := Lib.hid hm
  obtain ⟨R, hR⟩ : ∃ R, okF l = R := ⟨_, rfl⟩
  have HR := Lib.hid hR
  rw [hR]
  clear h hm hR
  by_cases h0 : 1 ≤ m
  case neg =>
    have E := Lib.hid (show R = false from HR.out.symm.trans (okF_no (fun e => h0 (by have := e.1.1; rwa [HM.out] at this))))
    have d1 : decide ((m : Int) < 1) = true := decide_eq_true (by omega)
    clear HR h0 hs
    go_enter Try.func71, Try.ntmps71
    go_wp2
    go_ret
    rw [E.out]
    exact ⟨rfl, Below.refl _ _⟩
  case pos =>
  have d1 : decide ((m : Int) < 1) = false := decide_eq_false (by omega)
  by_cases h30 : m ≤ 30
  case neg =>
    have E := Lib.hid (show R = false from HR.out.symm.trans (okF_no (fun e => h30 (by have := e.1.2; rwa [HM.out] at this))))
    have d2 : decide ((30 : Int) < (m : Int)) = true := decide_eq_true (by omega)
    clear HR h0 h30 hs
    go_enter Try.func71, Try.ntmps71
    go_wp2
    go_ret
    rw [E.out]
    exact ⟨rfl, Below.refl _ _⟩
  case pos =>
  have d2 : decide ((30 : Int) < (m : Int)) = false := decide_eq_false (by omega)
  have H0 := Lib.hid h0
  have H30 := Lib.hid h30
  clear h0 hs
  go_enter Try.func71, Try.ntmps71
  go_wp2
  clear d1 d2
  go_loopw [15] (fun i wr => ∃ j : Nat, j ≤ m ∧ i = .int .i64 (j : Int) ∧ Hid (∀ i (h : i < l.length), i < j → okN l[i] (i : Int) = true) ∧ Hid (Below w.heap.size w wr)) (fun i _ => m - (intOf i).toNat)
  case atStart => exact ⟨0, Nat.zero_le _, rfl, Lib.hid (fun i _ hi => by omega), Lib.hid (Below.refl _ _)⟩
  case round =>
    obtain ⟨j, hj, rfl, HP, HB⟩ := hrel
    by_cases hlt : j < m
    · have HLT := Lib.hid (show j < l.length by rw [HM.out]; exact hlt)
      obtain ⟨g, o, rfl, hgl, q0, q1, q2, q3, q4, q5⟩ := read (KK.out.on HB.out) j HLT.out
      have b1 : (0 : Int) ≤ (j : Int) := by omega
      have b2 : (j : Int) < (m : Int) := by omega
      obtain ⟨b, hb⟩ : ∃ b, okN (l[j]'HLT.out) (j : Int) = b := ⟨_, rfl⟩
      have HX : Hid (b = false → R = false) := Lib.hid (fun e => HR.out.symm.trans (okF_no (fun h => by have := h.2 j HLT.out; rw [hb, e] at this; cases this)))
      have HZ : Hid (b = true → ∀ i (h : i < l.length), i < j + 1 → okN l[i] (i : Int) = true) := Lib.hid (fun e i h hi => by
        by_cases h2 : i = j
        · subst h2; exact hb.trans e
        · exact HP.out i h (by omega))
      have HBB := Lib.hid hb
      clear HP hb HR
      generalize (l[j]'HLT.out) = x at q0 q1 q2 q3 q4 q5 HBB
      go_wp2_with fail
      refine (NodeI.node_i _ x (j : Int)).mono ?_
      rintro e w1 ⟨rfl, hb1⟩
      rw [HBB.out]
      have HB1 := Lib.hid (BelowKit.bl_trans (BelowKit.bl_alloc HB.out) hb1)
      clear hb1 q0 q1 q2 q3 q4 q5
      cases b with
      | false =>
        have E := Lib.hid (HX.out rfl)
        clear HX HZ
        go_wp2
        go_ret
        rw [E.out]
        exact ⟨rfl, HB1.out⟩
      | true =>
        have E := Lib.hid (HZ.out rfl)
        clear HX HZ
        go_wp2
        go_roundw
        case rel => exact ⟨j + 1, by omega, by go_num, E, HB1⟩
        case measure => simp [intOf]; omega
    · obtain rfl : j = m := by omega
      have E := Lib.hid (show R = true by
        rw [← HR.out]
        exact okF_yes ⟨by rw [HM.out]; exact ⟨H0.out, H30.out⟩, fun i hi => HP.out i hi (by rw [HM.out] at hi; exact hi)⟩)
      clear HP HR
      go_wp2
      go_ret
      rw [E.out]
      exact ⟨rfl, HB.out⟩
end Go.Proofs.Ytkfgflmhefbinaa.FormI
