/- Contracts of the model's functions on segments. -/
import Derived.Test.YtggnkjnpiagdpaaRows
import Derived.Test.YtggnkjnpiagdpaaSegMath
import Derived.Test.YtggnkjnpiagdpaaQuiet
namespace Go.Proofs.Ytggnkjnpiagdpaa.SegS
open Go.RowKit RowN TSegment SegMath Mon
def IsInt (n : Int) (w : World) (e : Ending) (w' : World) : Prop := e = .returned (.int .i64 n) ∧ Below w.heap.size w w'
set_option maxHeartbeats 1000000 in
theorem at_s (w : World) (p : Option Addr) (m cap : Nat) (l : List El) (mo : Int) (hm : l.length = m) (hs : m ≤ 1099511627776) (h : Reads fc 3 w p l) :
    Calls Try.prog 20 #[.slice p m cap, .int .i64 mo] w (IsInt (segT mo l 0) w) := by
  have KK := Lib.hid h
  have HM := Lib.hid hm
  obtain ⟨V, hV⟩ : ∃ V, segT mo l 0 = V := ⟨_, rfl⟩
  have HV := Lib.hid hV
  rw [hV]
  clear h hm hV
  go_enter Try.func20, Try.ntmps20
  go_wp2
  go_loopw [5] (fun i wr => ∃ j : Nat, j ≤ m ∧ i = .int .i64 (j : Int) ∧ Hid (segT mo (l.drop j) (j : Int) = V) ∧ Hid (Below w.heap.size w wr)) (fun i _ => m - (intOf i).toNat)
  case atStart => exact ⟨0, Nat.zero_le _, rfl, HV, Lib.hid (Below.refl _ _)⟩
  case round =>
    obtain ⟨j, hj, rfl, HJ, HB⟩ := hrel
    by_cases hlt : j < m
    · obtain ⟨g, o, rfl, hgl, q0, q1, q2⟩ := read (KK.out.on HB.out) j (by rw [HM.out]; exact hlt)
      have HY : Hid ((l[j]'(by rw [HM.out]; exact hlt)).From ≤ mo ∧ mo < (l[j]'(by rw [HM.out]; exact hlt)).To → (j : Int) = V) := Lib.hid (fun e => (segT_yes (by rw [HM.out]; exact hlt) e).symm.trans HJ.out)
      have HN : Hid (¬ ((l[j]'(by rw [HM.out]; exact hlt)).From ≤ mo ∧ mo < (l[j]'(by rw [HM.out]; exact hlt)).To) → segT mo (l.drop (j + 1)) ((j + 1 : Nat) : Int) = V) := Lib.hid (fun e => (segT_no (by rw [HM.out]; exact hlt) e).symm.trans HJ.out)
      generalize (l[j]'(by rw [HM.out]; exact hlt)) = x at q0 q1 q2 HY HN
      obtain ⟨f, t, v⟩ := x
      simp only [] at q0 q1 q2 HY HN
      have b1 : (0 : Int) ≤ (j : Int) := by omega
      have b2 : (j : Int) < (m : Int) := by omega
      clear HJ
      by_cases h1 : f ≤ mo
      case neg =>
        have E := Lib.hid (HN.out (fun e => h1 e.1))
        clear HY HN
        go_wp2
        go_roundw
        case rel => exact ⟨j + 1, by omega, by go_num, E, HB⟩
        case measure => simp [intOf]; omega
      case pos =>
      by_cases h2 : mo < t
      · have E := Lib.hid (HY.out ⟨h1, h2⟩)
        clear HY HN
        go_wp2
        go_ret
        exact ⟨by rw [← E.out]; rfl, HB.out⟩
      · have E := Lib.hid (HN.out (fun e => h2 e.2))
        clear HY HN
        go_wp2
        go_roundw
        case rel => exact ⟨j + 1, by omega, by go_num, E, HB⟩
        case measure => simp [intOf]; omega
    · obtain rfl : j = m := by omega
      have E := Lib.hid ((segT_end mo l j (by rw [HM.out]; exact Nat.le_refl _)).symm.trans HJ.out)
      go_wp2
      go_ret
      exact ⟨by rw [← E.out]; rfl, HB.out⟩
set_option maxHeartbeats 4000000 in
theorem ok_s (w : World) (p : Option Addr) (m cap : Nat) (l : List El) (hm : l.length = m) (hs : m ≤ 1099511627776) (h : Reads fc 3 w p l) :
    Calls Try.prog 17 #[.slice p m cap] w (IsBo (okT l) w) := by
  have KK := Lib.hid h
  have HM := Lib.hid hm
  obtain ⟨V, hV⟩ : ∃ V, okL l = V := ⟨_, rfl⟩
  have HV := Lib.hid hV
  rw [show okT l = (V && decide (m ≤ 401)) by rw [okT, hV, hm]]
  clear h hm hV
  go_enter Try.func17, Try.ntmps17
  go_wp2
  go_loopw [3] (fun i wr => ∃ j : Nat, j ≤ m ∧ i = .int .i64 (j : Int) ∧ Hid (rest l j = V) ∧ Hid (Below w.heap.size w wr)) (fun i _ => m - (intOf i).toNat)
  case atStart => exact ⟨0, Nat.zero_le _, rfl, HV, Lib.hid (Below.refl _ _)⟩
  case round =>
    obtain ⟨j, hj, rfl, HJ, HB⟩ := hrel
    by_cases hlt : j < m
    · obtain ⟨g, o, rfl, hgl, q0, q1, q2⟩ := read (KK.out.on HB.out) j (by rw [HM.out]; exact hlt)
      have b1 : (0 : Int) ≤ (j : Int) := by omega
      have b2 : (j : Int) < (m : Int) := by omega
      by_cases hz : j = 0
      case pos =>
        have E : (okX (l[j]'(by rw [HM.out]; exact hlt)) && rest l (j + 1)) = V := by
          have := HJ.out
          subst hz
          exact (rest_one (by rw [HM.out]; exact hlt)).symm.trans this
        have d0 : decide ((0 : Int) < (j : Int)) = false := decide_eq_false (by omega)
        have d0' : decide (0 < j) = false := decide_eq_false (by omega)
        clear hz
        generalize (l[j]'(by rw [HM.out]; exact hlt)) = x at q0 q1 q2 E
        obtain ⟨f, t, v⟩ := x
        simp only [] at q0 q1 q2 E
        have HBA := Lib.hid (BelowKit.bl_alloc (o := .cells #[.int .i64 f, .int .i64 t, .int .i64 v] 51) HB.out)
        clear HJ
        by_cases hX : 0 ≤ f ∧ f < t ∧ t ≤ 3600
        case neg =>
          rw [okX_no hX, Bool.false_and] at E
          subst E
          by_cases h1 : 0 ≤ f
          case neg =>
            clear hX
            go_wp2
            go_ret
            exact ⟨rfl, HBA.out⟩
          case pos =>
          by_cases h2 : f < t
          case neg =>
            clear hX
            go_wp2
            go_ret
            exact ⟨rfl, HBA.out⟩
          case pos =>
          have h3 : ¬ t ≤ 3600 := fun e => hX ⟨h1, h2, e⟩
          clear hX
          go_wp2
          go_ret
          exact ⟨rfl, HBA.out⟩
        case pos =>
        rw [okX_yes hX, Bool.true_and] at E
        have HE := Lib.hid E
        obtain ⟨h1, h2, h3⟩ := hX
        clear E
        go_wp2_with fail
        go_quiet (fail)
        go_wp2
        go_roundw
        case rel => exact ⟨j + 1, by omega, by go_num, HE, Lib.hid (below_drewN HBA.out _)⟩
        case measure => simp [intOf]; omega
      case neg =>
        obtain ⟨i, hi⟩ : ∃ i, j = i + 1 := ⟨j - 1, by omega⟩
        obtain ⟨g', o', e', _, r0, r1, r2⟩ := read (KK.out.on HB.out) i (by rw [HM.out]; omega)
        cases e'
        have E : (okX (l[j]'(by rw [HM.out]; exact hlt)) && (okP (l[i]'(by rw [HM.out]; omega)) (l[j]'(by rw [HM.out]; exact hlt)) && rest l (j + 1))) = V := by
          have := HJ.out
          subst hi
          exact (rest_next (by rw [HM.out]; exact hlt)).symm.trans this
        have W1 : IntKind.i64.wrap ((j : Int) - 1) = (i : Int) := by rw [IntWalk.i64_in _ (by omega)]; omega
        have d0 : decide ((0 : Int) < (j : Int)) = true := decide_eq_true (by omega)
        have d0' : decide (0 < j) = true := decide_eq_true (by omega)
        have b3 : (0 : Int) ≤ (i : Int) := by omega
        have b4 : (i : Int) < (m : Int) := by omega
        generalize (l[j]'(by rw [HM.out]; exact hlt)) = x at q0 q1 q2 E
        generalize (l[i]'(by rw [HM.out]; omega)) = y at r0 r1 r2 E
        clear hz hi
        obtain ⟨f, t, v⟩ := x
        obtain ⟨f', t', v'⟩ := y
        simp only [] at q0 q1 q2 r0 r1 r2 E
        have HBA := Lib.hid (BelowKit.bl_alloc (o := .cells #[.int .i64 f, .int .i64 t, .int .i64 v] 51) HB.out)
        clear HJ
        by_cases hX : 0 ≤ f ∧ f < t ∧ t ≤ 3600
        case neg =>
          rw [okX_no hX, Bool.false_and] at E
          subst E
          by_cases h1 : 0 ≤ f
          case neg =>
            clear hX
            go_wp2
            go_ret
            exact ⟨rfl, HBA.out⟩
          case pos =>
          by_cases h2 : f < t
          case neg =>
            clear hX
            go_wp2
            go_ret
            exact ⟨rfl, HBA.out⟩
          case pos =>
          have h3 : ¬ t ≤ 3600 := fun e => hX ⟨h1, h2, e⟩
          clear hX
          go_wp2
          go_ret
          exact ⟨rfl, HBA.out⟩
        case pos =>
        rw [okX_yes hX, Bool.true_and] at E
        obtain ⟨h1, h2, h3⟩ := hX
        by_cases hP1 : t' ≤ f
        case neg =>
          rw [okP_no (fun e => hP1 e.1), Bool.false_and] at E
          subst E
          have d1 : decide (f < t') = true := decide_eq_true (by omega)
          go_wp2_with fail
          go_quiet (fail)
          go_wp2
          go_ret
          exact ⟨rfl, below_drewN HBA.out _⟩
        case pos =>
        have d1 : decide (f < t') = false := decide_eq_false (by omega)
        by_cases hP2 : t' = f
        case neg =>
          rw [okP_yes ⟨hP1, fun e => hP2 e.1⟩, Bool.true_and] at E
          have HE := Lib.hid E
          have d2 : (t' == f) = false := beq_eq_false_iff_ne.2 hP2
          clear E
          go_wp2_with fail
          go_quiet (fail)
          go_wp2
          go_roundw
          case rel => exact ⟨j + 1, by omega, by go_num, HE, Lib.hid (below_drewN HBA.out _)⟩
          case measure => simp [intOf]; omega
        case pos =>
        have d2 : (t' == f) = true := by rw [hP2]; exact beq_self_eq_true f
        by_cases hP3 : v' = v
        · rw [okP_no (fun e => e.2 ⟨hP2, hP3⟩), Bool.false_and] at E
          subst E
          have d3 : (v' == v) = true := by rw [hP3]; exact beq_self_eq_true v
          go_wp2_with fail
          go_quiet (fail)
          go_wp2
          go_ret
          exact ⟨rfl, below_drewN HBA.out _⟩
        · rw [okP_yes ⟨hP1, fun e => hP3 e.2⟩, Bool.true_and] at E
          have HE := Lib.hid E
          have d3 : (v' == v) = false := beq_eq_false_iff_ne.2 hP3
          clear E
          go_wp2_with fail
          go_quiet (fail)
          go_wp2
          go_roundw
          case rel => exact ⟨j + 1, by omega, by go_num, HE, Lib.hid (below_drewN HBA.out _)⟩
          case measure => simp [intOf]; omega
    · obtain rfl : j = m := by omega
      have E := HJ.out
      rw [show rest l j = true by have := rest_end l; rw [HM.out] at this; exact this] at E
      subst E
      rw [Bool.true_and]
      have e9 : decide ((j : Int) ≤ 401) = decide (j ≤ 401) := decide_eq_decide.2 (by omega)
      have HE := Lib.hid e9
      clear e9
      go_wp2
      go_ret
      exact ⟨congrArg (fun b => Ending.returned (.bool b)) HE.out, HB.out⟩
theorem com_s' (a b c d v : Int) (w : World) (h : common a b c d = v) : Calls Try.prog 40 #[.int .i64 a, .int .i64 b, .int .i64 c, .int .i64 d] w (fun e w' => e = .returned (.int .i64 v) ∧ w = w') := h ▸ common_s a b c d w
set_option maxHeartbeats 4000000 in
theorem sum_s (w : World) (p : Option Addr) (m cap : Nat) (l : List El) (lo hi : Int) (hm : l.length = m) (hs : m ≤ 1099511627776) (h : Reads fc 3 w p l) :
    Calls Try.prog 22 #[.slice p m cap, .int .i64 lo, .int .i64 hi] w (IsInt (sumO l lo hi) w) := by
  have KK := Lib.hid h
  have HM := Lib.hid hm
  obtain ⟨b1, e1⟩ : ∃ b, okT l = b := ⟨_, rfl⟩
  obtain ⟨b2, e2⟩ : ∃ b, inB lo 0 3600 = b := ⟨_, rfl⟩
  obtain ⟨b3, e3⟩ : ∃ b, inB hi 0 3600 = b := ⟨_, rfl⟩
  obtain ⟨V, hV⟩ : ∃ V, sumT lo hi l 0 = V := ⟨_, rfl⟩
  obtain ⟨R, hR⟩ : ∃ R, sumO l lo hi = R := ⟨_, rfl⟩
  rw [hR]
  have HR := Lib.hid (show R = if b1 = true ∧ b2 = true ∧ b3 = true then V else 0 by rw [← hR]; unfold sumO; rw [e1, e2, e3, hV])
  have E1 := Lib.hid e1
  have E2 := Lib.hid e2
  have E3 := Lib.hid e3
  have HV := Lib.hid hV
  clear h hm e1 e2 e3 hV hR
  go_enter Try.func22, Try.ntmps22
  go_wp2_with fail
  refine (ok_s _ p m cap l HM.out hs KK.out).mono ?_
  rintro e w1 ⟨rfl, hb1⟩
  rw [E1.out]
  have HB1 := Lib.hid hb1
  clear hb1
  cases b1 with
  | false =>
    have E := Lib.hid (HR.out.trans (if_neg (by simp)))
    clear HR
    go_wp2
    go_ret
    exact ⟨by rw [E.out]; rfl, HB1.out⟩
  | true =>
  go_wp2_with fail
  refine (end_s _ _).mono ?_
  rintro e w' ⟨rfl, rfl⟩
  rw [E2.out]
  cases b2 with
  | false =>
    have E := Lib.hid (HR.out.trans (if_neg (by simp)))
    clear HR
    go_wp2
    go_ret
    exact ⟨by rw [E.out]; rfl, HB1.out⟩
  | true =>
  go_wp2_with fail
  refine (end_s _ _).mono ?_
  rintro e w' ⟨rfl, rfl⟩
  rw [E3.out]
  cases b3 with
  | false =>
    have E := Lib.hid (HR.out.trans (if_neg (by simp)))
    clear HR
    go_wp2
    go_ret
    exact ⟨by rw [E.out]; rfl, HB1.out⟩
  | true =>
  have hml : m ≤ 401 := by
    have := E1.out
    simp only [okT, Bool.and_eq_true, decide_eq_true_eq] at this
    rw [← HM.out]; exact this.2
  obtain rfl : R = V := HR.out.trans (if_pos (by simp))
  clear HR
  go_wp2
  go_loopw [7, 8] (fun n i wr => ∃ j : Nat, ∃ s : Int, j ≤ m ∧ i = .int .i64 (j : Int) ∧ n = .int .i64 s ∧ -3600000000000 * (j : Int) ≤ s ∧ s ≤ 3600000000000 * (j : Int) ∧ Hid (sumT lo hi (l.drop j) s = R) ∧ Hid (Below w.heap.size w wr)) (fun _ i _ => m - (intOf i).toNat)
  case atStart => exact ⟨0, 0, Nat.zero_le _, rfl, rfl, by omega, by omega, HV, HB1⟩
  case round =>
    obtain ⟨j, s, hj, rfl, rfl, hs0, hs1, HJ, HB⟩ := hrel
    by_cases hlt : j < m
    · obtain ⟨g, o, rfl, hgl, q0, q1, q2⟩ := read (KK.out.on HB.out) j (by rw [HM.out]; exact hlt)
      have b1 : (0 : Int) ≤ (j : Int) := by omega
      have b2 : (j : Int) < (m : Int) := by omega
      have HY : Hid (inB (l[j]'(by rw [HM.out]; exact hlt)).Value (-1000000000) 1000000000 = true → sumT lo hi (l.drop (j + 1)) (s + (l[j]'(by rw [HM.out]; exact hlt)).Value * common (l[j]'(by rw [HM.out]; exact hlt)).From (l[j]'(by rw [HM.out]; exact hlt)).To lo hi) = R) := Lib.hid (fun e => (sumT_yes s (by rw [HM.out]; exact hlt) e).symm.trans HJ.out)
      have HN : Hid (inB (l[j]'(by rw [HM.out]; exact hlt)).Value (-1000000000) 1000000000 = false → R = 0) := Lib.hid (fun e => HJ.out.symm.trans (sumT_no s (by rw [HM.out]; exact hlt) e))
      generalize (l[j]'(by rw [HM.out]; exact hlt)) = x at q0 q1 q2 HY HN
      obtain ⟨f, t, v⟩ := x
      simp only [] at q0 q1 q2 HY HN
      clear HJ
      go_wp2_with fail
      refine (in_c _ _ _ _).mono ?_
      rintro e w' ⟨rfl, rfl⟩
      cases hv : inB v (-1000000000) 1000000000 with
      | false =>
        have E := Lib.hid (HN.out hv)
        clear hv HY HN
        go_wp2
        go_ret
        exact ⟨by rw [E.out]; rfl, HB.out⟩
      | true =>
        have E := HY.out hv
        obtain ⟨c, hc⟩ : ∃ c, common f t lo hi = c := ⟨_, rfl⟩
        have HC := Lib.hid hc
        have c0 := common_lo f t lo hi
        have c1 := common_hi f t lo hi
        rw [hc] at E c0 c1
        obtain ⟨d0, d1⟩ := part_bd (inB_of hv).1 (inB_of hv).2 c0 c1
        obtain ⟨M, hM⟩ : ∃ M, v * c = M := ⟨_, rfl⟩
        have W1 : IntKind.i64.wrap (v * c) = M := by rw [hM] at d0 d1 ⊢; exact IntWalk.i64_in _ (by omega)
        rw [hM] at E d0 d1
        obtain ⟨S, hS⟩ : ∃ S, s + M = S := ⟨_, rfl⟩
        have W2 : IntKind.i64.wrap (s + M) = S := by rw [hS]; exact IntWalk.i64_in _ (by omega)
        rw [hS] at E
        have HE := Lib.hid E
        have s0 : -3600000000000 * ((j : Int) + 1) ≤ S := by omega
        have s1 : S ≤ 3600000000000 * ((j : Int) + 1) := by omega
        have S0 := Lib.hid s0
        have S1 := Lib.hid s1
        clear E hv HY HN hc hM hS c0 c1 d0 d1 s0 s1 hs0 hs1
        go_wp2_with fail
        go_quiet ((go_at_call 40; with_reducible exact Quiet.left (com_s' _ _ _ _ _ _ HC.out)))
        clear W1 W2
        go_wp2
        go_roundw
        case rel => exact ⟨j + 1, S, by omega, by go_num, rfl, by have := S0.out; omega, by have := S1.out; omega, HE, Lib.hid (below_drewN HB.out _)⟩
        case measure => simp [intOf]; omega
    · obtain rfl : j = m := by omega
      have E := Lib.hid ((sumT_end lo hi l j s (by rw [HM.out]; exact Nat.le_refl _)).symm.trans HJ.out)
      go_wp2
      go_ret
      exact ⟨by rw [← E.out]; rfl, HB.out⟩
end Go.Proofs.Ytggnkjnpiagdpaa.SegS
