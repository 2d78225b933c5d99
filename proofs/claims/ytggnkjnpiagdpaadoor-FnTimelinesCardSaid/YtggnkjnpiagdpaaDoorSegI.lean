/- Contracts of the program's functions on segments. -/
import Derived.Test.YtggnkjnpiagdpaaDoorRows
import Derived.Test.YtggnkjnpiagdpaaDoorSegMath
import Derived.Test.YtggnkjnpiagdpaaDoorQuiet
import Derived.Test.YtggnkjnpiagdpaaDoorFact
import Derived.Test.YtggnkjnpiagdpaaDoorGrown
namespace Go.Proofs.YtggnkjnpiagdpaaDoor.SegI
open Go.RowKit RowN TSegment SegMath Mon
def IsInt (n : Int) (w : World) (e : Ending) (w' : World) : Prop := e = .returned (.int .i64 n) ∧ Below w.heap.size w w'
set_option maxHeartbeats 1000000 in
theorem at_i (w : World) (p : Option Addr) (m cap : Nat) (l : List El) (mo : Int) (hm : l.length = m) (hs : m ≤ 1099511627776) (h : Reads fc 3 w p l) :
    Calls Tryd.prog 10 #[.slice p m cap, .int .i64 mo] w (IsInt (segT mo l 0) w) := by
  have KK := Lib.hid h
  have HM := Lib.hid hm
  obtain ⟨V, hV⟩ : ∃ V, segT mo l 0 = V := ⟨_, rfl⟩
  have HV := Lib.hid hV
  rw [hV]
  clear h hm hV
  go_enter Tryd.func10, Tryd.ntmps10
  go_wp2
  go_loopw [9] (fun i wr => ∃ j : Nat, j ≤ m ∧ i = .int .i64 (j : Int) ∧ Hid (segT mo (l.drop j) (j : Int) = V) ∧ Hid (Below w.heap.size w wr)) (fun i _ => m - (intOf i).toNat)
  case atStart => exact ⟨0, Nat.zero_le _, rfl, HV, Lib.hid (Below.refl _ _)⟩
  case round =>
    obtain ⟨j, hj, rfl, HJ, HB⟩ := hrel
    by_cases hlt : j < m
    · obtain ⟨g, o, rfl, hgl, q0, q1, q2⟩ := read (KK.out.on HB.out) j (by rw [HM.out]; exact hlt)
      have HY : Hid ((l[j]'(by rw [HM.out]; exact hlt)).From ≤ mo ∧ mo < (l[j]'(by rw [HM.out]; exact hlt)).To → (j : Int) = V) := Lib.hid (fun e => (segT_yes (by rw [HM.out]; exact hlt) e).symm.trans HJ.out)
      have HN : Hid (¬ ((l[j]'(by rw [HM.out]; exact hlt)).From ≤ mo ∧ mo < (l[j]'(by rw [HM.out]; exact hlt)).To) → segT mo (l.drop (j + 1)) ((j + 1 : Nat) : Int) = V) := Lib.hid (fun e => (segT_no (by rw [HM.out]; exact hlt) e).symm.trans HJ.out)
      generalize (l[j]'(by rw [HM.out]; exact hlt)) = x at q0 q1 q2 HY HN
      obtain ⟨f, t, v⟩ := x
      simp only [] at q0 q1 q2 HY HN
      have b1 : (0 : Int) ≤ (j : Int) := by omega
      have b2 : (j : Int) < (m : Int) := by omega
      clear HJ
      have HBA := Lib.hid (BelowKit.bl_alloc (o := .cells #[.int .i64 f, .int .i64 t, .int .i64 v] 36) HB.out)
      by_cases h1 : f ≤ mo
      case neg =>
        have E := Lib.hid (HN.out (fun e => h1 e.1))
        clear HY HN
        go_wp2
        go_roundw
        case rel => exact ⟨j + 1, by omega, by go_num, E, HBA⟩
        case measure => simp [intOf]; omega
      case pos =>
      by_cases h2 : mo < t
      · have E := Lib.hid (HY.out ⟨h1, h2⟩)
        clear HY HN
        go_wp2
        go_ret
        exact ⟨by rw [← E.out]; rfl, HBA.out⟩
      · have E := Lib.hid (HN.out (fun e => h2 e.2))
        clear HY HN
        go_wp2
        go_roundw
        case rel => exact ⟨j + 1, by omega, by go_num, E, HBA⟩
        case measure => simp [intOf]; omega
    · obtain rfl : j = m := by omega
      have E := Lib.hid ((segT_end mo l j (by rw [HM.out]; exact Nat.le_refl _)).symm.trans HJ.out)
      go_wp2
      go_ret
      exact ⟨by rw [← E.out]; rfl, HB.out⟩
set_option maxHeartbeats 1000000 in
theorem follow_i (y x : El) (w : World) : Calls Tryd.prog 25 #[.agg #[.int .i64 y.From, .int .i64 y.To, .int .i64 y.Value], .agg #[.int .i64 x.From, .int .i64 x.To, .int .i64 x.Value]] w (IsBo (okP y x) w) := by
  obtain ⟨f', t', v'⟩ := y
  obtain ⟨f, t, v⟩ := x
  simp only []
  by_cases h1 : t' < f
  · rw [okP_yes ⟨by show t' ≤ f; omega, fun e => by have : t' = f := e.1; omega⟩]
    go_enter Tryd.func25, Tryd.ntmps25
    go_wp2
    go_ret
    exact ⟨rfl, by (repeat (first | exact Below.refl _ _ | apply BelowKit.bl_alloc | apply BelowKit.bl_drewN | apply BelowKit.bl_drew | (refine BelowKit.bl_set ?_ _ ?_; rotate_left; (first | omega | (simp; omega) | simp)) | (refine BelowKit.bl_trans ?_ (‹Hid (Below _ _ _)›).out)))⟩
  by_cases h2 : t' = f
  case neg =>
    rw [okP_no (fun e => by have : t' ≤ f := e.1; omega)]
    have d2 : (t' == f) = false := beq_eq_false_iff_ne.2 h2
    clear h2
    go_enter Tryd.func25, Tryd.ntmps25
    go_wp2
    go_ret
    exact ⟨rfl, by (repeat (first | exact Below.refl _ _ | apply BelowKit.bl_alloc | apply BelowKit.bl_drewN | apply BelowKit.bl_drew | (refine BelowKit.bl_set ?_ _ ?_; rotate_left; (first | omega | (simp; omega) | simp)) | (refine BelowKit.bl_trans ?_ (‹Hid (Below _ _ _)›).out)))⟩
  case pos =>
  by_cases h3 : v' = v
  · rw [okP_no (fun e => e.2 ⟨h2, h3⟩)]
    have d2 : (t' == f) = true := by rw [h2]; exact beq_self_eq_true f
    have d3 : (v' != v) = false := by rw [h3]; simp
    have d3' : (v' == v) = true := by rw [h3]; exact beq_self_eq_true v
    clear h2 h3
    go_enter Tryd.func25, Tryd.ntmps25
    go_wp2
    go_ret
    exact ⟨rfl, by (repeat (first | exact Below.refl _ _ | apply BelowKit.bl_alloc | apply BelowKit.bl_drewN | apply BelowKit.bl_drew | (refine BelowKit.bl_set ?_ _ ?_; rotate_left; (first | omega | (simp; omega) | simp)) | (refine BelowKit.bl_trans ?_ (‹Hid (Below _ _ _)›).out)))⟩
  · rw [okP_yes ⟨by show t' ≤ f; omega, fun e => h3 e.2⟩]
    have d2 : (t' == f) = true := by rw [h2]; exact beq_self_eq_true f
    have d3' : (v' == v) = false := beq_eq_false_iff_ne.2 h3
    have d3 : (v' != v) = true := by simp [bne, d3']
    clear h2 h3
    go_enter Tryd.func25, Tryd.ntmps25
    go_wp2
    go_ret
    exact ⟨rfl, by (repeat (first | exact Below.refl _ _ | apply BelowKit.bl_alloc | apply BelowKit.bl_drewN | apply BelowKit.bl_drew | (refine BelowKit.bl_set ?_ _ ?_; rotate_left; (first | omega | (simp; omega) | simp)) | (refine BelowKit.bl_trans ?_ (‹Hid (Below _ _ _)›).out)))⟩
theorem follow_g (y x : El) (b : Bool) {w0 : World} (X : Grown.G w0) (h : okP y x = b) : Calls Tryd.prog 25 #[.agg #[.int .i64 y.From, .int .i64 y.To, .int .i64 y.Value], .agg #[.int .i64 x.From, .int .i64 x.To, .int .i64 x.Value]] X.w (fun e w'' => e = .returned (.bool b) ∧ ∃ Y : Grown.G w0, w'' = Y.w) :=
  Grown.grown_of (by rw [← h]; exact follow_i y x X.w)
theorem okX_iff (f t v : Int) : okX ⟨f, t, v⟩ = (inB f 0 3600 && (inB t 0 3600 && decide (f < t))) := by
  unfold okX inB
  rw [Bool.eq_iff_iff]
  simp
  omega
set_option maxHeartbeats 4000000 in
theorem ok_i (w : World) (p : Option Addr) (m cap : Nat) (l : List El) (hm : l.length = m) (hs : m ≤ 1099511627776) (h : Reads fc 3 w p l) :
    Calls Tryd.prog 11 #[.slice p m cap] w (IsBo (okT l) w) := by
  have KK := Lib.hid h
  have HM := Lib.hid hm
  obtain ⟨V, hV⟩ : ∃ V, okL l = V := ⟨_, rfl⟩
  have HV := Lib.hid hV
  by_cases hbig : 401 < m
  · rw [show okT l = false by rw [okT, hm, show decide (m ≤ 401) = false from decide_eq_false (by omega), Bool.and_false]]
    clear h hm hV
    go_enter Tryd.func11, Tryd.ntmps11
    go_wp2
    go_ret
    exact ⟨rfl, Below.refl _ _⟩
  rw [show okT l = V by rw [okT, hV, hm, show decide (m ≤ 401) = true from decide_eq_true (by omega), Bool.and_true]]
  clear h hm hV
  go_enter Tryd.func11, Tryd.ntmps11
  go_wp2
  go_loopw [10] (fun i wr => ∃ j : Nat, j ≤ m ∧ i = .int .i64 (j : Int) ∧ Hid (rest l j = V) ∧ Hid (Below w.heap.size w wr)) (fun i _ => m - (intOf i).toNat)
  case atStart => exact ⟨0, Nat.zero_le _, rfl, HV, Lib.hid (Below.refl _ _)⟩
  case round =>
    obtain ⟨j, hj, rfl, HJ, HB⟩ := hrel
    by_cases hlt : j < m
    · obtain ⟨g, o, rfl, hgl, q0, q1, q2⟩ := read (KK.out.on HB.out) j (by rw [HM.out]; exact hlt)
      have b1 : (0 : Int) ≤ (j : Int) := by omega
      have b2 : (j : Int) < (m : Int) := by omega
      have HNX : Hid (∀ i (hi : j = i + 1), (okX (l[j]'(by rw [HM.out]; exact hlt)) && (okP (l[i]'(by rw [HM.out]; omega)) (l[j]'(by rw [HM.out]; exact hlt)) && rest l (j + 1))) = V) := Lib.hid (fun i hi => by
          have := HJ.out
          subst hi
          exact (rest_next (by rw [HM.out]; exact hlt)).symm.trans this)
      have HN0 : Hid (j = 0 → (okX (l[j]'(by rw [HM.out]; exact hlt)) && rest l (j + 1)) = V) := Lib.hid (fun hz => by
          have := HJ.out
          subst hz
          exact (rest_one (by rw [HM.out]; exact hlt)).symm.trans this)
      obtain ⟨x, hx⟩ : ∃ x, l[j]'(by rw [HM.out]; exact hlt) = x := ⟨_, rfl⟩
      simp only [hx] at q0 q1 q2 HNX HN0
      clear hx HJ
      obtain ⟨f, t, v⟩ := x
      simp only [okX_iff] at q0 q1 q2 HNX HN0
      have HBA := Lib.hid (BelowKit.bl_alloc (o := .cells #[.int .i64 f, .int .i64 t, .int .i64 v] 36) HB.out)
      have hbase := BelowKit.bcell (BelowKit.bl_alloc (o := .cells #[.int .i64 f, .int .i64 t, .int .i64 v] 36) (Below.refl wr.heap.size wr))
      have HBS := Lib.hid hbase.1
      have n0 : (wr.alloc (.cells #[.int .i64 f, .int .i64 t, .int .i64 v] 36)).cell? ⟨wr.heap.size, 0, none⟩ = some (.int .i64 f) := by simp [go_sem]
      have n1 : (wr.alloc (.cells #[.int .i64 f, .int .i64 t, .int .i64 v] 36)).cell? ⟨wr.heap.size, 1, none⟩ = some (.int .i64 t) := by simp [go_sem]
      have n2 : (wr.alloc (.cells #[.int .i64 f, .int .i64 t, .int .i64 v] 36)).cell? ⟨wr.heap.size, 2, none⟩ = some (.int .i64 v) := by simp [go_sem]
      have N0 := Lib.hid n0
      have N1 := Lib.hid n1
      have N2 := Lib.hid n2
      have hws : wr.heap.size < (wr.alloc (.cells #[.int .i64 f, .int .i64 t, .int .i64 v] 36)).heap.size := by simp
      have HWS := Lib.hid hws
      clear hbase n0 n1 n2 hws
      obtain ⟨c1, e1⟩ : ∃ b, inB f 0 3600 = b := ⟨_, rfl⟩
      obtain ⟨c2, e2⟩ : ∃ b, inB t 0 3600 = b := ⟨_, rfl⟩
      have HE1 := Lib.hid e1
      have HE2 := Lib.hid e2
      rw [e1, e2] at HNX HN0
      clear e1 e2
      have HNO : Hid ((c1 && (c2 && decide (f < t))) = false → V = false) := Lib.hid (fun e => by
        by_cases hz : j = 0
        · have := HN0.out hz; rw [e, Bool.false_and] at this; exact this.symm
        · have := HNX.out (j - 1) (by omega); rw [e, Bool.false_and] at this; exact this.symm)
      go_wp2_with fail
      refine (Mon.end_i _ _).mono ?_
      rintro e w' ⟨rfl, rfl⟩
      rw [HE1.out]
      cases c1 with
      | false =>
        have E := Lib.hid (HNO.out (by simp))
        clear HNO HNX HN0
        go_wp2
        go_ret
        rw [E.out]
        exact ⟨rfl, HBA.out⟩
      | true =>
      go_wp2_with fail
      refine (Mon.end_i _ _).mono ?_
      rintro e w' ⟨rfl, rfl⟩
      rw [HE2.out]
      cases c2 with
      | false =>
        have E := Lib.hid (HNO.out (by simp))
        clear HNO HNX HN0
        go_wp2
        go_ret
        rw [E.out]
        exact ⟨rfl, HBA.out⟩
      | true =>
      by_cases hft : f < t
      case neg =>
        have E := Lib.hid (HNO.out (by simp; omega))
        clear HNO HNX HN0
        go_wp2
        go_ret
        rw [E.out]
        exact ⟨rfl, HBA.out⟩
      case pos =>
      have HFT := Lib.hid (show decide (f < t) = true from decide_eq_true hft)
      rw [HFT.out] at HNX HN0
      clear HNO
      by_cases hz : j = 0
      case pos =>
        have E := Lib.hid (by have := HN0.out hz; simpa using this)
        have d0 : decide ((0 : Int) < (j : Int)) = false := decide_eq_false (by omega)
        have d0' : decide (0 < j) = false := decide_eq_false (by omega)
        clear hz HNX HN0
        go_wp2_with fail
        go_quiet (fail)
        go_wp2
        go_roundw
        case rel => exact ⟨j + 1, by omega, by go_num, E, Lib.hid (below_drewN HBA.out _)⟩
        case measure => simp [intOf]; omega
      case neg =>
        obtain ⟨i, hi⟩ : ∃ i, j = i + 1 := ⟨j - 1, by omega⟩
        obtain ⟨g', o', e', _, r0, r1, r2⟩ := read (KK.out.on HB.out) i (by rw [HM.out]; omega)
        cases e'
        have E := HNX.out i hi
        have W1 : IntKind.i64.wrap ((j : Int) - 1) = (i : Int) := by rw [IntWalk.i64_in _ (by omega)]; omega
        have d0 : decide ((0 : Int) < (j : Int)) = true := decide_eq_true (by omega)
        have d0' : decide (0 < j) = true := decide_eq_true (by omega)
        have b3 : (0 : Int) ≤ (i : Int) := by omega
        have b4 : (i : Int) < (m : Int) := by omega
        generalize (l[i]'(by rw [HM.out]; omega)) = y at r0 r1 r2 E
        clear hz hi HNX HN0
        obtain ⟨f', t', v'⟩ := y
        simp only [] at r0 r1 r2
        have r0 := (HBS.out g _ hgl).trans r0
        have r1 := (HBS.out g _ hgl).trans r1
        have r2 := (HBS.out g _ hgl).trans r2
        obtain ⟨cb, hcb⟩ : ∃ b, okP ⟨f', t', v'⟩ ⟨f, t, v⟩ = b := ⟨_, rfl⟩
        rw [hcb] at E
        have HCB := Lib.hid hcb
        have HE := Lib.hid (show (cb && rest l (j + 1)) = V by simpa using E)
        have hgl' : g < (wr.alloc (.cells #[.int .i64 f, .int .i64 t, .int .i64 v] 36)).heap.size := by simp; omega
        clear hcb E q0 q1 q2
        go_wp2_with fail
        have g0 := Grown.G.keep N0.out HWS.out
        have g1 := Grown.G.keep N1.out HWS.out
        have g2 := Grown.G.keep N2.out HWS.out
        have g3 := Grown.G.keep r0 hgl'
        have g4 := Grown.G.keep r1 hgl'
        have g5 := Grown.G.keep r2 hgl'
        refine Grown.wp_region_grown (by kernel_rfl) (by kernel_rfl) ?_
        repeat (go_big_quiet_step ((go_at_call 25; with_reducible exact follow_g ⟨f', t', v'⟩ ⟨f, t, v⟩ _ _ HCB.out)))
        refine wpQuiet_nil ?_
        rintro w4 ⟨X, rfl⟩
        clear g0 g1 g2 g3 g4 g5 r0 r1 r2 W1
        cases cb with
        | false =>
          have E := Lib.hid (show V = false by have := HE.out; simpa using this.symm)
          go_wp2
          go_ret
          rw [E.out]
          exact ⟨rfl, BelowKit.bl_trans HBA.out X.bel⟩
        | true =>
          have E := Lib.hid (show rest l (j + 1) = V by have := HE.out; simpa using this)
          go_wp2
          go_roundw
          case rel => exact ⟨j + 1, by omega, by go_num, E, Lib.hid (BelowKit.bl_trans HBA.out X.bel)⟩
          case measure => simp [intOf]; omega
    · obtain rfl : j = m := by omega
      have E := HJ.out
      rw [show rest l j = true by have := rest_end l; rw [HM.out] at this; exact this] at E
      subst E
      go_wp2
      go_ret
      exact ⟨rfl, HB.out⟩
theorem com_s' (a b c d v : Int) (w : World) (h : common a b c d = v) : Calls Tryd.prog 27 #[.int .i64 a, .int .i64 b, .int .i64 c, .int .i64 d] w (fun e w' => e = .returned (.int .i64 v) ∧ w = w') := h ▸ common_i a b c d w
theorem common_no {f t lo hi : Int} (h : ¬ (inB lo 0 3600 = true ∧ inB hi 0 3600 = true)) : common f t lo hi = 0 := if_neg fun e => h ⟨e.2.2.1, e.2.2.2⟩
/-- Where from or to is no end of a range the sum is 0, too. -/
theorem sumT_zero {lo hi : Int} (h : ¬ (inB lo 0 3600 = true ∧ inB hi 0 3600 = true)) : ∀ l, sumT lo hi l 0 = 0
  | [] => rfl
  | x :: r => by
    unfold sumT
    rw [common_no h, Int.mul_zero, Int.add_zero]
    split
    · exact sumT_zero h r
    · rfl
theorem sumO_eq (l : List El) (lo hi : Int) : sumO l lo hi = if okT l = true then sumT lo hi l 0 else 0 := by
  unfold sumO
  by_cases h0 : okT l = true
  · rw [if_pos h0]
    by_cases h : inB lo 0 3600 = true ∧ inB hi 0 3600 = true
    · rw [if_pos ⟨h0, h⟩]
    · rw [if_neg (fun e => h e.2), sumT_zero h]
  · rw [if_neg h0, if_neg (fun e => h0 e.1)]
set_option maxHeartbeats 4000000 in
theorem sum_i (w : World) (p : Option Addr) (m cap : Nat) (l : List El) (lo hi : Int) (hm : l.length = m) (hs : m ≤ 1099511627776) (h : Reads fc 3 w p l) :
    Calls Tryd.prog 12 #[.slice p m cap, .int .i64 lo, .int .i64 hi] w (IsInt (sumO l lo hi) w) := by
  have KK := Lib.hid h
  have HM := Lib.hid hm
  obtain ⟨b1, e1⟩ : ∃ b, okT l = b := ⟨_, rfl⟩
  obtain ⟨V, hV⟩ : ∃ V, sumT lo hi l 0 = V := ⟨_, rfl⟩
  obtain ⟨R, hR⟩ : ∃ R, sumO l lo hi = R := ⟨_, rfl⟩
  rw [hR]
  have HR := Lib.hid (show R = if b1 = true then V else 0 by rw [← hR, sumO_eq, e1, hV])
  have E1 := Lib.hid e1
  have HV := Lib.hid hV
  clear h hm e1 hV hR
  go_enter Tryd.func12, Tryd.ntmps12
  go_wp2_with fail
  refine (ok_i _ p m cap l HM.out hs KK.out).mono ?_
  rintro e w1 ⟨rfl, hb1⟩
  rw [E1.out]
  have HB1 := Lib.hid hb1
  clear hb1
  cases b1 with
  | false =>
    have E := Lib.hid (HR.out.trans (if_neg (by simp)))
    clear HR
    go_wp2
    go_ret
    exact ⟨by rw [E.out]; rfl, HB1.out⟩
  | true =>
  have hml : m ≤ 401 := by
    have := E1.out
    simp only [okT, Bool.and_eq_true, decide_eq_true_eq] at this
    rw [← HM.out]; exact this.2
  obtain rfl : R = V := HR.out.trans (if_pos (by simp))
  clear HR
  go_wp2
  go_loopw [7, 15] (fun n i wr => ∃ j : Nat, ∃ s : Int, j ≤ m ∧ i = .int .i64 (j : Int) ∧ n = .int .i64 s ∧ -3600000000000 * (j : Int) ≤ s ∧ s ≤ 3600000000000 * (j : Int) ∧ Hid (sumT lo hi (l.drop j) s = R) ∧ Hid (Below w.heap.size w wr)) (fun _ i _ => m - (intOf i).toNat)
  case atStart => exact ⟨0, 0, Nat.zero_le _, rfl, rfl, by omega, by omega, HV, HB1⟩
  case round =>
    obtain ⟨j, s, hj, rfl, rfl, hs0, hs1, HJ, HB⟩ := hrel
    by_cases hlt : j < m
    · obtain ⟨g, o, rfl, hgl, q0, q1, q2⟩ := read (KK.out.on HB.out) j (by rw [HM.out]; exact hlt)
      have b1 : (0 : Int) ≤ (j : Int) := by omega
      have b2 : (j : Int) < (m : Int) := by omega
      have HY : Hid (inB (l[j]'(by rw [HM.out]; exact hlt)).Value (-1000000000) 1000000000 = true → sumT lo hi (l.drop (j + 1)) (s + (l[j]'(by rw [HM.out]; exact hlt)).Value * common (l[j]'(by rw [HM.out]; exact hlt)).From (l[j]'(by rw [HM.out]; exact hlt)).To lo hi) = R) := Lib.hid (fun e => (sumT_yes s (by rw [HM.out]; exact hlt) e).symm.trans HJ.out)
      have HN : Hid (inB (l[j]'(by rw [HM.out]; exact hlt)).Value (-1000000000) 1000000000 = false → R = 0) := Lib.hid (fun e => HJ.out.symm.trans (sumT_no s (by rw [HM.out]; exact hlt) e))
      generalize (l[j]'(by rw [HM.out]; exact hlt)) = x at q0 q1 q2 HY HN
      obtain ⟨f, t, v⟩ := x
      simp only [] at q0 q1 q2 HY HN
      clear HJ
      have HBA := Lib.hid (BelowKit.bl_alloc (o := .cells #[.int .i64 f, .int .i64 t, .int .i64 v] 36) HB.out)
      go_wp2_with fail
      refine (Fact.win_i _ _ _ (by omega) (by omega)).mono ?_
      rintro e w' ⟨rfl, rfl⟩
      cases hv : inB v (-1000000000) 1000000000 with
      | false =>
        have E := Lib.hid (HN.out hv)
        clear hv HY HN
        go_wp2
        go_ret
        exact ⟨by rw [E.out]; rfl, HBA.out⟩
      | true =>
        have E := HY.out hv
        obtain ⟨c, hc⟩ : ∃ c, common f t lo hi = c := ⟨_, rfl⟩
        have HC := Lib.hid hc
        have c0 := common_lo f t lo hi
        have c1 := common_hi f t lo hi
        rw [hc] at E c0 c1
        obtain ⟨d0, d1⟩ := part_bd (inB_of hv).1 (inB_of hv).2 c0 c1
        obtain ⟨M, hM⟩ : ∃ M, v * c = M := ⟨_, rfl⟩
        have W1 : IntKind.i64.wrap (v * c) = M := by rw [hM] at d0 d1 ⊢; exact IntWalk.i64_in _ (by omega)
        rw [hM] at E d0 d1
        obtain ⟨S, hS⟩ : ∃ S, s + M = S := ⟨_, rfl⟩
        have W2 : IntKind.i64.wrap (s + M) = S := by rw [hS]; exact IntWalk.i64_in _ (by omega)
        rw [hS] at E
        have HE := Lib.hid E
        have s0 : -3600000000000 * ((j : Int) + 1) ≤ S := by omega
        have s1 : S ≤ 3600000000000 * ((j : Int) + 1) := by omega
        have S0 := Lib.hid s0
        have S1 := Lib.hid s1
        clear E hv HY HN hc hM hS c0 c1 d0 d1 s0 s1 hs0 hs1
        go_wp2_with fail
        go_quiet ((go_at_call 27; with_reducible exact Quiet.left (com_s' _ _ _ _ _ _ HC.out)))
        clear W1 W2
        go_wp2
        go_roundw
        case rel => exact ⟨j + 1, S, by omega, by go_num, rfl, by have := S0.out; omega, by have := S1.out; omega, HE, Lib.hid (below_drewN HBA.out _)⟩
        case measure => simp [intOf]; omega
    · obtain rfl : j = m := by omega
      have E := Lib.hid ((sumT_end lo hi l j s (by rw [HM.out]; exact Nat.le_refl _)).symm.trans HJ.out)
      go_wp2
      go_ret
      exact ⟨by rw [← E.out]; rfl, HB.out⟩
end Go.Proofs.YtggnkjnpiagdpaaDoor.SegI
