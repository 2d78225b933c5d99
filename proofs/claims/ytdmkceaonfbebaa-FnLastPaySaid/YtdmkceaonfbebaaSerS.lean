/- Contracts of the model's SeriesOk. Written by gen_sers.py. -/
import Derived.Test.YtdmkceaonfbebaaRows
import Derived.Test.YtdmkceaonfbebaaPointMath
import Derived.Test.YtdmkceaonfbebaaKit
namespace Go.Proofs.Ytdmkceaonfbebaa.SerS
open Go.RowKit RowN TPoint PointMath Mon Box
theorem mo_v (m : Int) (b : Bool) (w : World) (h : inB m 0 3599 = b) : Calls Try.prog 66 #[.int .i64 m] w (fun e w' => e = .returned (.bool b) ∧ w = w') := h ▸ ok_s m w
theorem in_v (m lo hi : Int) (b : Bool) (w : World) (h : inB m lo hi = b) : Calls Try.prog 47 #[.int .i64 m, .int .i64 lo, .int .i64 hi] w (fun e w' => e = .returned (.bool b) ∧ w = w') := h ▸ in_c m lo hi w
theorem not_in {m lo hi : Int} (h : inB m lo hi = false) : ¬ (lo ≤ m ∧ m ≤ hi) := fun e => by rw [inB_yes e.1 e.2] at h; cases h
set_option maxHeartbeats 8000000 in
theorem ok_s (w : World) (p : Option Addr) (m cap : Nat) (l : List El) (hm : l.length = m) (hs : m ≤ 1099511627776) (h : Reads fc 3 w p l) :
    Calls Try.prog 49 #[.agg #[.slice p m cap]] w (IsBo (okS l) w) := by
  have KK := Lib.hid h
  have HM := Lib.hid hm
  obtain ⟨R, hR⟩ : ∃ R, okS l = R := ⟨_, rfl⟩
  have HR := Lib.hid hR
  rw [hR]
  clear h hm hR
  go_enter Try.func49, Try.ntmps49
  go_wp2
  go_loopw [3] (fun i wr => ∃ j : Nat, j ≤ m ∧ i = .int .i64 (j : Int) ∧ Hid (Pre l j) ∧ Hid (Below (boxed w (.slice p m cap) 29).heap.size (boxed w (.slice p m cap) 29) wr)) (fun i _ => m - (intOf i).toNat)
  case atStart => exact ⟨0, Nat.zero_le _, rfl, Lib.hid (Pre.zero l), Lib.hid (Below.refl _ _)⟩
  case round =>
    obtain ⟨j, hj, rfl, HP, HB⟩ := hrel
    have hc := box_cell HB.out
    have hz := box_size HB.out
    by_cases hlt : j < m
    · have HLT := Lib.hid (show j < l.length by rw [HM.out]; exact hlt)
      obtain ⟨g, o, rfl, hgl, q0, q1, q2⟩ := read (KK.out.on (box_below HB.out)) j HLT.out
      have HX : Hid (okP (l[j]'HLT.out) = false → R = false) := Lib.hid (fun e => HR.out.symm.trans (okS_no (not_ok HLT.out e)))
      have HY : Hid (okP (l[j]'HLT.out) = true → (l[j]'HLT.out).Known < since l j → R = false) := Lib.hid (fun e1 e2 => HR.out.symm.trans (okS_no (not_since HLT.out e1 e2)))
      have HZ : Hid (okP (l[j]'HLT.out) = true → since l j ≤ (l[j]'HLT.out).Known → Pre l (j + 1)) := Lib.hid (fun e1 e2 => HP.out.succ HLT.out e1 e2)
      have b1 : (0 : Int) ≤ (j : Int) := by omega
      have b2 : (j : Int) < (m : Int) := by omega
      have HPV : Hid (∀ i (hi : j = i + 1), since l j = (l[i]'(by have := HLT.out; omega)).Known) := Lib.hid (fun i hi => by subst hi; exact since_succ l i (by have := HLT.out; omega))
      generalize (l[j]'HLT.out) = x at q0 q1 q2 HX HY HZ
      obtain ⟨mo, k, v⟩ := x
      simp only [] at q0 q1 q2 HX HY HZ
      have HBA := Lib.hid (BelowKit.bl_alloc (o := .cells #[.int .i64 mo, .int .i64 k, .int .i64 v] 43) HB.out)
      clear HP
      obtain ⟨b1', e1⟩ : ∃ b, inB mo 0 3599 = b := ⟨_, rfl⟩
      cases b1' with
      | false =>
        have E := Lib.hid (HX.out (okP_no (by have := not_in e1; simp only []; omega)))
        have H1 := Lib.hid e1
        clear HX HY HZ HPV e1 HR
        go_wp2_with fail
        go_quiet ((go_at_call 66; with_reducible exact Quiet.left (mo_v _ _ _ H1.out)))
        go_wp2
        go_ret
        rw [E.out]
        exact ⟨rfl, below_drewN (box_below HBA.out) _⟩
      | true =>
      obtain ⟨b2', e2⟩ : ∃ b, inB k 0 3599 = b := ⟨_, rfl⟩
      cases b2' with
      | false =>
        have E := Lib.hid (HX.out (okP_no (by have := not_in e2; have := inB_of e1; simp only []; omega)))
        have H1 := Lib.hid e1
        have H2 := Lib.hid e2
        clear HX HY HZ HPV e1 e2 HR
        go_wp2_with fail
        go_quiet (first | (go_at_call 66; with_reducible exact Quiet.left (mo_v _ _ _ H1.out)) | (go_at_call 66; with_reducible exact Quiet.left (mo_v _ _ _ H2.out)))
        go_wp2
        go_ret
        rw [E.out]
        exact ⟨rfl, below_drewN (box_below HBA.out) _⟩
      | true =>
      by_cases hk : k < mo
      case pos =>
        have E := Lib.hid (HX.out (okP_no (by simp only []; omega)))
        have d1 : decide (k < mo) = true := decide_eq_true hk
        have H1 := Lib.hid e1
        have H2 := Lib.hid e2
        clear HX HY HZ HPV e1 e2 HR hk
        go_wp2_with fail
        go_quiet (first | (go_at_call 66; with_reducible exact Quiet.left (mo_v _ _ _ H1.out)) | (go_at_call 66; with_reducible exact Quiet.left (mo_v _ _ _ H2.out)))
        go_wp2
        go_ret
        rw [E.out]
        exact ⟨rfl, below_drewN (box_below HBA.out) _⟩
      case neg =>
      have d1 : decide (k < mo) = false := decide_eq_false hk
      obtain ⟨b3', e3⟩ : ∃ b, inB v 1 1000000 = b := ⟨_, rfl⟩
      cases b3' with
      | false =>
        have E := Lib.hid (HX.out (okP_no (by have := not_in e3; simp only []; omega)))
        have H1 := Lib.hid e1
        have H2 := Lib.hid e2
        have H3 := Lib.hid e3
        clear HX HY HZ HPV e1 e2 e3 HR hk
        go_wp2_with fail
        go_quiet (first | (go_at_call 66; with_reducible exact Quiet.left (mo_v _ _ _ H1.out)) | (go_at_call 66; with_reducible exact Quiet.left (mo_v _ _ _ H2.out)) | (go_at_call 47; with_reducible exact Quiet.left (in_v _ _ _ _ _ H3.out)))
        go_wp2
        go_ret
        rw [E.out]
        exact ⟨rfl, below_drewN (box_below HBA.out) _⟩
      | true =>
      have hok : okP ⟨mo, k, v⟩ = true := okP_yes (by have := inB_of e1; have := inB_of e2; have := inB_of e3; simp only []; omega)
      have HY := Lib.hid (HY.out hok)
      have HZ := Lib.hid (HZ.out hok)
      have hk0 := (inB_of e2).1
      have H1 := Lib.hid e1
      have H2 := Lib.hid e2
      have H3 := Lib.hid e3
      clear HX e1 e2 e3 hok hk HR
      by_cases hz0 : j = 0
      case pos =>
        have E := Lib.hid (HZ.out (by rw [hz0, since_zero]; exact hk0))
        have d0 : decide ((0 : Int) < (j : Int)) = false := decide_eq_false (by omega)
        have d0' : decide (0 < j) = false := decide_eq_false (by omega)
        clear hz0 HY HZ HPV hk0
        go_wp2_with fail
        go_quiet (first | (go_at_call 66; with_reducible exact Quiet.left (mo_v _ _ _ H1.out)) | (go_at_call 66; with_reducible exact Quiet.left (mo_v _ _ _ H2.out)) | (go_at_call 47; with_reducible exact Quiet.left (in_v _ _ _ _ _ H3.out)))
        go_wp2
        go_roundw
        case rel => exact ⟨j + 1, by omega, by go_num, E, Lib.hid (below_drewN HBA.out _)⟩
        case measure => simp [intOf]; omega
      case neg =>
      obtain ⟨i, hi⟩ : ∃ i, j = i + 1 := ⟨j - 1, by omega⟩
      obtain ⟨g', o', e', y1, y2, r1, y3⟩ := read (KK.out.on (box_below HB.out)) i (by rw [HM.out]; omega)
      clear y1 y2 y3
      cases e'
      have HPV := HPV.out i hi
      rw [HPV] at HY HZ
      generalize (l[i]'(by rw [HM.out]; omega)).Known = s at r1 HY HZ
      have W1 : IntKind.i64.wrap ((j : Int) - 1) = (i : Int) := by rw [IntWalk.i64_in _ (by omega)]; omega
      have d0 : decide ((0 : Int) < (j : Int)) = true := decide_eq_true (by omega)
      have d0' : decide (0 < j) = true := decide_eq_true (by omega)
      have b3 : (0 : Int) ≤ (i : Int) := by omega
      have b4 : (i : Int) < (m : Int) := by omega
      clear hz0 hi HPV hk0
      by_cases hks : k < s
      case pos =>
        have E := Lib.hid (HY.out hks)
        have d2 : decide (k < s) = true := decide_eq_true hks
        clear HY HZ hks
        go_wp2_with fail
        go_quiet (first | (go_at_call 66; with_reducible exact Quiet.left (mo_v _ _ _ H1.out)) | (go_at_call 66; with_reducible exact Quiet.left (mo_v _ _ _ H2.out)) | (go_at_call 47; with_reducible exact Quiet.left (in_v _ _ _ _ _ H3.out)))
        go_wp2
        go_ret
        rw [E.out]
        exact ⟨rfl, below_drewN (box_below HBA.out) _⟩
      case neg =>
        have E := Lib.hid (HZ.out (by omega))
        have d2 : decide (k < s) = false := decide_eq_false hks
        clear HY HZ hks
        go_wp2_with fail
        go_quiet (first | (go_at_call 66; with_reducible exact Quiet.left (mo_v _ _ _ H1.out)) | (go_at_call 66; with_reducible exact Quiet.left (mo_v _ _ _ H2.out)) | (go_at_call 47; with_reducible exact Quiet.left (in_v _ _ _ _ _ H3.out)))
        go_wp2
        go_roundw
        case rel => exact ⟨j + 1, by omega, by go_num, E, Lib.hid (below_drewN HBA.out _)⟩
        case measure => simp [intOf]; omega
    · obtain rfl : j = m := by omega
      have HPA := Lib.hid (show Pre l l.length by rw [HM.out]; exact HP.out)
      by_cases h2 : j ≤ 200
      · have E := Lib.hid (HR.out.symm.trans (okS_yes (HPA.out.all (by rw [HM.out]; exact h2))))
        have e9 : decide ((j : Int) ≤ 200) = true := decide_eq_true (by omega)
        have HE := Lib.hid e9
        clear e9 HR HP HPA
        go_wp2
        go_ret
        rw [E.out]
        exact ⟨congrArg (fun b => Ending.returned (.bool b)) HE.out, box_below HB.out⟩
      · have E := Lib.hid (HR.out.symm.trans (okS_no (not_len (by rw [HM.out]; omega))))
        have e9 : decide ((j : Int) ≤ 200) = false := decide_eq_false (by omega)
        have HE := Lib.hid e9
        clear e9 HR HP HPA
        go_wp2
        go_ret
        rw [E.out]
        exact ⟨congrArg (fun b => Ending.returned (.bool b)) HE.out, box_below HB.out⟩
end Go.Proofs.Ytdmkceaonfbebaa.SerS
