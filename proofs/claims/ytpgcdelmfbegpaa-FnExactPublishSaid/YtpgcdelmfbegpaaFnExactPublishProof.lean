/- Proves the given statement of the law FnExactPublish: for every input that the row lets in, the law's Go function returns true and every argument reads as before; no condition of mine. -/
import Derived.Test.YtpgcdelmfbegpaaPubI
import Derived.Test.YtpgcdelmfbegpaaPubS
import Derived.Test.YtpgcdelmfbegpaaTSeries
import Derived.Test.YtpgcdelmfbegpaaPointMath
import Derived.Test.YtpgcdelmfbegpaaOwn
import Derived.Test.YtpgcdelmfbegpaaFresh
import Derived.Test.YtpgcdelmfbegpaaGrown
import Derived.Test.YtpgcdelmfbegpaaBelowKit
import Derived.Test.YtpgcdelmfbegpaaTPoint
import Derived.Test.YtpgcdelmfbegpaaRows
import Derived.WalkKit
import Derived.ProofKit
import Derived.OpenShut
import Derived.ShutString
import Derived.ChangeOld
import Derived.Below
import Derived.Deep.RegionHeld3
import Derived.Deep.DeepCutAuto
import Derived.Lib.Hide
import Derived.Lib.SmallJoins
import Derived.Test.YtpgcdelmfbegpaaShape
import Derived.Test.YtpgcdelmfbegpaaTPoint
namespace Go.Proofs.Ytpgcdelmfbegpaa.fnExactPublish
open Go.ChangeShapes Go.WideShapes Go.ChangeAt Go.RowKit
open Go.ChangeMaps (open_string shut_string)
set_option linter.unusedVariables false

theorem own : ownKnob Try.prog.godebug = none := by kernel_rfl
theorem laidOut : laidOutB Try.prog = true := by kernel_rfl

/-! ### STEP 1: the walk -/
theorem walk (a0_Points : Option Addr) (len0_Points cap0_Points : Nat) (z0_Points : List TPoint.El) (a1_Month : Int) (a1_Known : Int) (a1_Value : Int) (w : World) (hz0_Points : z0_Points.length = len0_Points) (w0_Points : RowN.Reads TPoint.fc 3 w a0_Points z0_Points) (hl0_Points : len0_Points ≤ 9223372036854775807) (g0_Points : ∀ x ∈ z0_Points, TPoint.Wf x) (w1_Month : (Lit.int .i64 a1_Month).wf = true) (w1_Known : (Lit.int .i64 a1_Known).wf = true) (w1_Value : (Lit.int .i64 a1_Value).wf = true) :
    Calls Try.prog 8 #[.agg #[.slice a0_Points len0_Points cap0_Points], .agg #[.int .i64 a1_Month, .int .i64 a1_Known, .int .i64 a1_Value]] w fun e w' => e = .returned (.bool true) ∧ Below w.heap.size w w' := by
  have HR0_Points := Lib.hid w0_Points
  have HM0_Points := Lib.hid hz0_Points
  clear w0_Points hz0_Points
  by_cases hbig : 1048576 < len0_Points
  · go_enter Try.func8, Try.ntmps8
    go_wp2_with fail
    obtain ⟨W1, hW1⟩ : ∃ V : World, V = (w.alloc (.cells #[.slice a0_Points len0_Points cap0_Points] 50)).alloc (.cells #[.int .i64 a1_Month, .int .i64 a1_Known, .int .i64 a1_Value] 58) := ⟨_, rfl⟩
    rw [← hW1]
    have hb : Below w.heap.size w W1 := by rw [hW1]; (repeat (first | exact Below.refl _ _ | apply BelowKit.bl_alloc | apply BelowKit.bl_drewN | apply BelowKit.bl_drew | (refine BelowKit.bl_set ?_ _ ?_; rotate_left; (first | omega | (simp; omega) | simp)) | (refine BelowKit.bl_trans ?_ (‹Hid (Below _ _ _)›).out)))
    have tW1 : w.heap.size + 2 ≤ W1.heap.size := by rw [hW1]; simp
    have uW1 : W1.heap.size ≤ w.heap.size + 2 := by rw [hW1]; simp
    have c2 : W1.cell? ⟨w.heap.size, 0, none⟩ = some (.slice a0_Points len0_Points cap0_Points) := by rw [hW1]; simp [go_sem]
    have z3 : w.heap.size < W1.heap.size := by omega
    have c4 : W1.cell? ⟨w.heap.size + 1, 0, none⟩ = some (.int .i64 a1_Month) := by rw [hW1]; simp [go_sem]
    have c5 : W1.cell? ⟨w.heap.size + 1, 1, none⟩ = some (.int .i64 a1_Known) := by rw [hW1]; simp [go_sem]
    have c6 : W1.cell? ⟨w.heap.size + 1, 2, none⟩ = some (.int .i64 a1_Value) := by rw [hW1]; simp [go_sem]
    have z7 : w.heap.size + 1 < W1.heap.size := by omega
    clear hW1
    have sW1 : w.heap.size ≤ W1.heap.size := hb.size
    have HC8 := Lib.hid hb
    clear hb
    refine (TSeries.sz_c W1 a0_Points len0_Points cap0_Points 1048576 hl0_Points (by omega) (by omega)).mono ?_
    rintro e w9 ⟨rfl, hb⟩
    rw [if_pos (by omega)]
    have HC9 := Lib.hid (BelowKit.bl_trans HC8.out hb)
    clear hb
    go_wp2
    go_ret
    exact ⟨rfl, HC9.out⟩
  have hs0_Points : len0_Points ≤ 1048576 := by omega
  obtain ⟨m0, hm0⟩ : ∃ v, (PointMath.added z0_Points ⟨a1_Month, a1_Known, a1_Value⟩).1 = v := ⟨_, rfl⟩
  have hbm0 : m0.length ≤ 1099511627776 := by rw [← hm0]; exact PointMath.added_le _ _ (by have := HM0_Points.out; omega)
  obtain ⟨nm0, hnm0⟩ : ∃ n, m0.length = n := ⟨_, rfl⟩
  rw [hnm0] at hbm0
  have HF0 := Lib.hid hm0
  have HN0 := Lib.hid hnm0
  clear hm0 hnm0
  obtain ⟨m1, hm1⟩ : ∃ v, (PointMath.added z0_Points ⟨a1_Month, a1_Known, a1_Value⟩).2 = v := ⟨_, rfl⟩
  have HF1 := Lib.hid hm1
  clear hm1
  go_enter Try.func8, Try.ntmps8
  go_wp2_with fail
  obtain ⟨W9, hW9⟩ : ∃ V : World, V = (w.alloc (.cells #[.slice a0_Points len0_Points cap0_Points] 50)).alloc (.cells #[.int .i64 a1_Month, .int .i64 a1_Known, .int .i64 a1_Value] 58) := ⟨_, rfl⟩
  rw [← hW9]
  have hb : Below w.heap.size w W9 := by rw [hW9]; (repeat (first | exact Below.refl _ _ | apply BelowKit.bl_alloc | apply BelowKit.bl_drewN | apply BelowKit.bl_drew | (refine BelowKit.bl_set ?_ _ ?_; rotate_left; (first | omega | (simp; omega) | simp)) | (refine BelowKit.bl_trans ?_ (‹Hid (Below _ _ _)›).out)))
  have tW9 : w.heap.size + 2 ≤ W9.heap.size := by rw [hW9]; simp
  have uW9 : W9.heap.size ≤ w.heap.size + 2 := by rw [hW9]; simp
  have c10 : W9.cell? ⟨w.heap.size, 0, none⟩ = some (.slice a0_Points len0_Points cap0_Points) := by rw [hW9]; simp [go_sem]
  have z11 : w.heap.size < W9.heap.size := by omega
  have c12 : W9.cell? ⟨w.heap.size + 1, 0, none⟩ = some (.int .i64 a1_Month) := by rw [hW9]; simp [go_sem]
  have c13 : W9.cell? ⟨w.heap.size + 1, 1, none⟩ = some (.int .i64 a1_Known) := by rw [hW9]; simp [go_sem]
  have c14 : W9.cell? ⟨w.heap.size + 1, 2, none⟩ = some (.int .i64 a1_Value) := by rw [hW9]; simp [go_sem]
  have z15 : w.heap.size + 1 < W9.heap.size := by omega
  clear hW9
  have sW9 : w.heap.size ≤ W9.heap.size := hb.size
  have HC16 := Lib.hid hb
  clear hb
  refine (TSeries.sz_c W9 a0_Points len0_Points cap0_Points 1048576 hl0_Points (by omega) (by omega)).mono ?_
  rintro e w17 ⟨rfl, hb⟩
  rw [if_neg (by omega)]
  have sw17 : W9.heap.size ≤ w17.heap.size := hb.size
  have c18 : w17.cell? ⟨w.heap.size, 0, none⟩ = some (.slice a0_Points len0_Points cap0_Points) := ((BelowKit.bcell hb).1 _ _ z11).trans c10
  have z19 : w.heap.size < w17.heap.size := by omega
  have c20 : w17.cell? ⟨w.heap.size + 1, 0, none⟩ = some (.int .i64 a1_Month) := ((BelowKit.bcell hb).1 _ _ z15).trans c12
  have c21 : w17.cell? ⟨w.heap.size + 1, 1, none⟩ = some (.int .i64 a1_Known) := ((BelowKit.bcell hb).1 _ _ z15).trans c13
  have c22 : w17.cell? ⟨w.heap.size + 1, 2, none⟩ = some (.int .i64 a1_Value) := ((BelowKit.bcell hb).1 _ _ z15).trans c14
  have z23 : w.heap.size + 1 < w17.heap.size := by omega
  have HC24 := Lib.hid (BelowKit.bl_trans HC16.out hb)
  clear c10 z11 c12 c13 c14 z15 HC16 hb
  go_wp2_with fail
  have gc18 := Grown.G.keep c18 z19
  have gc20 := Grown.G.keep c20 z23
  have gc21 := Grown.G.keep c21 z23
  have gc22 := Grown.G.keep c22 z23
  refine Fresh.wp_region_store (fun k => match k with | 1 => .grow | 3 => .grow | 4 => .grow | 8 => .grow | 9 => .write | _ => .quiet)
    (fun k v => match k with
          | 1 => (∃ p25 c26, v = .agg #[.slice p25 len0_Points c26])
          | 3 => (v = .agg #[.int .i64 a1_Month, .int .i64 a1_Known, .int .i64 a1_Value])
          | 4 => (∃ p28 c29, v = .tuple #[.agg #[.slice p28 nm0 c29], .bool m1])
          | 8 => (∃ g : Nat, w17.heap.size ≤ g ∧ v = .pointer (some ⟨g, 0, none⟩))
          | _ => v = undef)
    (fun k v s w1 => match k with
          | 1 => (∃ p25 c26, w17.heap.size ≤ s ∧ v = .agg #[.slice p25 len0_Points c26] ∧ Own.Ow TPoint.fc 3 31 w1 s w1.heap.size (.slice p25 len0_Points c26) z0_Points)
          | 3 => (w17.heap.size ≤ s ∧ v = .agg #[.int .i64 a1_Month, .int .i64 a1_Known, .int .i64 a1_Value])
          | 4 => (∃ p28 c29, w17.heap.size ≤ s ∧ v = .tuple #[.agg #[.slice p28 nm0 c29], .bool m1] ∧ Own.Ow TPoint.fc 3 31 w1 s w1.heap.size (.slice p28 nm0 c29) m0)
          | 8 => (w17.heap.size ≤ s ∧ v = .pointer (some ⟨s, 0, none⟩) ∧ w1.heap.size = s + 1 ∧ w1.cell? ⟨s, 0, none⟩ = some (.slice none 0 0) ∧ w1.frozen? ⟨s, 0, none⟩ = false)
          | _ => True)
    9 (by kernel_rfl) (by kernel_rfl) (by kernel_rfl) rfl (of_decide_eq_true (by kernel_rfl)) (by kernel_rfl) ?_
  refine Fresh.wpG_q rfl ?_
  go_big_quiet_step (fail)
  refine wpQuiet_nil ?_
  refine Fresh.wpG_call #[.agg #[.slice a0_Points len0_Points cap0_Points]] rfl Try.func23 (by kernel_rfl) (by kernel_rfl) rfl ⟨_, none, 0, rfl⟩ (fun X hd => ?_) ?_
  · have hX := X.bel.size
    refine (TSeries.to_c X.w a0_Points len0_Points cap0_Points z0_Points HM0_Points.out (by omega) (HR0_Points.out.on (BelowKit.bl_trans HC24.out X.bel))).mono ?_
    rintro e w8 ⟨p25, c26, rfl, ho0, hb⟩
    try rw [HM0_Points.out] at ho0
    try rw [HM0_Points.out]
    exact ⟨_, rfl, hb, ⟨p25, c26, rfl⟩, p25, c26, by omega, rfl, Own.ow_of ho0⟩
  rintro v ⟨p25, c26, rfl⟩
  go_big_quiet_step (fail)
  refine wpQuiet_nil ?_
  refine Fresh.wpG_q rfl ?_
  go_big_quiet_step (fail)
  refine wpQuiet_nil ?_
  refine Fresh.wpG_call #[.agg #[.int .i64 a1_Month, .int .i64 a1_Known, .int .i64 a1_Value]] rfl Try.func28 (by kernel_rfl) (by kernel_rfl) rfl ⟨_, rfl⟩ (fun X hd => ?_) ?_
  · have hX := X.bel.size
    refine (TPoint.to1 ⟨a1_Month, a1_Known, a1_Value⟩ X.w).mono ?_
    rintro e w8 ⟨rfl, hb⟩
    exact ⟨_, rfl, hb, rfl, by omega, rfl⟩
  rintro v rfl
  go_big_quiet_step (fail)
  refine wpQuiet_nil ?_
  refine Fresh.wpG_call #[.agg #[.slice p25 len0_Points c26], .agg #[.int .i64 a1_Month, .int .i64 a1_Known, .int .i64 a1_Value]] rfl Try.func27 (by kernel_rfl) (by kernel_rfl) rfl ⟨_, none, 0, rfl⟩ (fun X hd => ?_) ?_
  · obtain ⟨_, _, w9, ⟨p25_ , c26_, _, e9, ho_r27⟩, _, hb9⟩ := hd ⟨1, .data⟩ (by simp) rfl rfl
    have e8 : (.agg #[.slice p25 len0_Points c26] : Value) = .agg #[.slice p25_ len0_Points c26_] := e9
    cases e8
    replace ho_r27 := ho_r27.on hb9
    have hX := X.bel.size
    refine (PubS.pub_s X.w p25 len0_Points c26 z0_Points ⟨a1_Month, a1_Known, a1_Value⟩ HM0_Points.out (by omega) (ho_r27.reads TPoint.fw)).mono ?_
    rintro e w8 ⟨p28, c29, rfl, ho0, hb⟩
    try rw [HF0.out] at ho0
    try rw [HF0.out]
    try rw [HF1.out] at ho0
    try rw [HF1.out]
    try rw [HN0.out] at ho0
    try rw [HN0.out]
    exact ⟨_, rfl, hb, ⟨p28, c29, rfl⟩, p28, c29, by omega, rfl, Own.ow_of ho0⟩
  rintro v ⟨p28, c29, rfl⟩
  go_big_quiet_step (fail)
  refine wpQuiet_nil ?_
  refine Fresh.wpG_q rfl ?_
  go_big_quiet_step (fail)
  refine wpQuiet_nil ?_
  refine Fresh.wpG_q rfl ?_
  go_big_quiet_step (fail)
  refine wpQuiet_nil ?_
  refine Fresh.wpG_q rfl ?_
  go_big_quiet_step (fail)
  refine wpQuiet_nil ?_
  refine Fresh.wpG_own rfl ⟨_, w17.heap.size, Nat.le_refl _, rfl⟩ (fun X _ => ?_) ?_
  · go_simp
    have hX := X.bel.size
    exact ⟨_, _, ⟨rfl, rfl⟩, by (repeat (first | exact Below.refl _ _ | apply BelowKit.bl_alloc | apply BelowKit.bl_drewN | apply BelowKit.bl_drew | (refine BelowKit.bl_set ?_ _ ?_; rotate_left; (first | omega | (simp; omega) | simp)) | (refine BelowKit.bl_trans ?_ (‹Hid (Below _ _ _)›).out))), ⟨_, hX, rfl⟩, hX, rfl, by simp, by simp [go_sem], by simp [go_sem]⟩
  rintro v ⟨g31, hg31, rfl⟩
  go_big_quiet_step (fail)
  refine wpQuiet_nil ?_
  refine Fresh.wpG_store rfl rfl (fun X hd => ?_) ?_
  · obtain ⟨_, _, w7, ⟨_, eg, hg, hc0, hf0⟩, _, hb7⟩ := hd ⟨8, .data⟩ (by simp) rfl rfl
    have eg' : (Value.pointer (some ⟨g31, 0, none⟩)) = .pointer (some ⟨_, 0, none⟩) := eg
    cases eg'
    have q0 := ((BelowKit.bcell hb7).1 g31 0 (by omega)).trans hc0
    have r0 := ((BelowKit.bcell hb7).2 g31 0 (by omega)).trans hf0
    refine ⟨⟨X.w.setCell ⟨g31, 0, none⟩ (.slice p28 nm0 c29), BelowKit.bl_set (X.bel) (a := ⟨g31, 0, none⟩) _ hg31⟩, ?_⟩
    go_simp
    rfl
  refine Fresh.wpG_q rfl ?_
  go_big_quiet_step (fail)
  refine wpQuiet_nil ?_
  refine Fresh.wpG_nil fun X1 X sN1 tN1 hk hrun => ?_
  obtain ⟨⟨w4_, ⟨p28_ , c29_, lo4, e9, ho_r30⟩, ht4, hb4⟩, st4, _⟩ := hk.1 4 (by decide) rfl
  have e8 : (.tuple #[.agg #[.slice p28 nm0 c29], .bool m1] : Value) = .tuple #[.agg #[.slice p28_ nm0 c29_], .bool m1] := e9
  cases e8
  replace ho_r30 := Own.Ow.to_hi (ho_r30.on hb4) ht4
  have hXs := X1.bel.size
  obtain ⟨⟨w7, ⟨hlo7, eg, hg7, hc0, hf0⟩, ht7, hb7⟩, st7, hl7⟩ := hk.1 8 (by decide) rfl
  have eg' : (Value.pointer (some ⟨g31, 0, none⟩)) = .pointer (some ⟨sN1 8, 0, none⟩) := eg
  obtain rfl : g31 = sN1 8 := by simpa using eg'
  clear eg eg'
  have hd4 := hk.2 4 8 (by decide) (by decide) rfl rfl (by decide)
  have q0 := ((BelowKit.bcell hb7).1 (sN1 8) 0 (by omega)).trans hc0
  have r0 := ((BelowKit.bcell hb7).2 (sN1 8) 0 (by omega)).trans hf0
  have hX : X.w = X1.w.setCell ⟨sN1 8, 0, none⟩ (.slice p28 nm0 c29) := by
    simp [go_sem, q0, r0] at hrun
    exact hrun.symm
  replace ho_r30 := ho_r30.box (o := 0) (b := sN1 8) (by omega) (.slice p28 nm0 c29)
  rw [← hX] at ho_r30
  have c33 : X.w.cell? ⟨sN1 8, 0, none⟩ = some (.slice p28 nm0 c29) := by rw [hX]; simp [go_sem, q0]
  have z34 : sN1 8 < X.w.heap.size := by rw [hX]; simp; omega
  have hbX := X.bel
  obtain ⟨w32, hU⟩ : ∃ U : World, U = X.w := ⟨_, rfl⟩
  rw [← hU] at hbX ho_r30 c33 z34 ⊢
  have lo4' : w17.heap.size ≤ sN1 4 := lo4
  have hi4' : tN1 4 ≤ w32.heap.size := ho_r30.lim
  have tj : tN1 8 = sN1 8 + 1 := by rw [← ht7, hg7]
  have tj1 : tN1 8 ≤ sN1 8 + 1 := by omega
  have tj2 : sN1 8 + 1 ≤ tN1 8 := by omega
  have lo7 : w17.heap.size ≤ sN1 8 := hlo7
  clear hk hU hXs gc18 gc20 gc21 gc22 hb4 ht4 e9 lo4 hrun hX hb7 hl7 tj ht7 hg7 hlo7 hc0 hf0 q0 r0
  have sw32 : w17.heap.size ≤ w32.heap.size := hbX.size
  have c35 : w32.cell? ⟨w.heap.size, 0, none⟩ = some (.slice a0_Points len0_Points cap0_Points) := ((BelowKit.bcell hbX).1 _ _ z19).trans c18
  have z36 : w.heap.size < w32.heap.size := by omega
  have c37 : w32.cell? ⟨w.heap.size + 1, 0, none⟩ = some (.int .i64 a1_Month) := ((BelowKit.bcell hbX).1 _ _ z23).trans c20
  have c38 : w32.cell? ⟨w.heap.size + 1, 1, none⟩ = some (.int .i64 a1_Known) := ((BelowKit.bcell hbX).1 _ _ z23).trans c21
  have c39 : w32.cell? ⟨w.heap.size + 1, 2, none⟩ = some (.int .i64 a1_Value) := ((BelowKit.bcell hbX).1 _ _ z23).trans c22
  have z40 : w.heap.size + 1 < w32.heap.size := by omega
  have HC41 := Lib.hid (BelowKit.bl_trans HC24.out hbX)
  clear c18 z19 c20 c21 c22 z23 HC24 hbX
  have HO42 := Lib.hid ho_r30
  clear ho_r30
  have pz34 := z34
  go_wp2_with fail
  refine (TSeries.to_c w32 a0_Points len0_Points cap0_Points z0_Points HM0_Points.out (by omega) (HR0_Points.out.on HC41.out)).mono ?_
  rintro e w48 ⟨p45, c46, rfl, ho0, hb⟩
  rw [HM0_Points.out] at ho0 ⊢
  have sw48 : w32.heap.size ≤ w48.heap.size := hb.size
  have c49 : w48.cell? ⟨w.heap.size, 0, none⟩ = some (.slice a0_Points len0_Points cap0_Points) := ((BelowKit.bcell hb).1 _ _ z36).trans c35
  have z50 : w.heap.size < w48.heap.size := by omega
  have c51 : w48.cell? ⟨w.heap.size + 1, 0, none⟩ = some (.int .i64 a1_Month) := ((BelowKit.bcell hb).1 _ _ z40).trans c37
  have c52 : w48.cell? ⟨w.heap.size + 1, 1, none⟩ = some (.int .i64 a1_Known) := ((BelowKit.bcell hb).1 _ _ z40).trans c38
  have c53 : w48.cell? ⟨w.heap.size + 1, 2, none⟩ = some (.int .i64 a1_Value) := ((BelowKit.bcell hb).1 _ _ z40).trans c39
  have z54 : w.heap.size + 1 < w48.heap.size := by omega
  have c55 : w48.cell? ⟨sN1 8, 0, none⟩ = some (.slice p28 nm0 c29) := ((BelowKit.bcell hb).1 _ _ z34).trans c33
  have z56 : sN1 8 < w48.heap.size := by omega
  have HO57 := Lib.hid (HO42.out.on hb)
  have HC58 := Lib.hid (BelowKit.bl_trans HC41.out hb)
  clear c35 z36 c37 c38 c39 z40 c33 z34 HO42 HC41 hb
  have HO59 := Lib.hid (Own.ow_of ho0)
  clear ho0
  go_wp2_with fail
  obtain ⟨W60, hW60⟩ : ∃ V : World, V = w48.alloc (.cells #[.slice p45 len0_Points c46] 26) := ⟨_, rfl⟩
  rw [← hW60]
  have hb : Below w48.heap.size w48 W60 := by rw [hW60]; (repeat (first | exact Below.refl _ _ | apply BelowKit.bl_alloc | apply BelowKit.bl_drewN | apply BelowKit.bl_drew | (refine BelowKit.bl_set ?_ _ ?_; rotate_left; (first | omega | (simp; omega) | simp)) | (refine BelowKit.bl_trans ?_ (‹Hid (Below _ _ _)›).out)))
  have tW60 : w48.heap.size + 1 ≤ W60.heap.size := by rw [hW60]; simp
  have uW60 : W60.heap.size ≤ w48.heap.size + 1 := by rw [hW60]; simp
  have c61 : W60.cell? ⟨w48.heap.size, 0, none⟩ = some (.slice p45 len0_Points c46) := by rw [hW60]; simp [go_sem]
  have z62 : w48.heap.size < W60.heap.size := by omega
  clear hW60
  have sW60 : w48.heap.size ≤ W60.heap.size := hb.size
  have c63 : W60.cell? ⟨w.heap.size, 0, none⟩ = some (.slice a0_Points len0_Points cap0_Points) := ((BelowKit.bcell hb).1 _ _ z50).trans c49
  have z64 : w.heap.size < W60.heap.size := by omega
  have c65 : W60.cell? ⟨w.heap.size + 1, 0, none⟩ = some (.int .i64 a1_Month) := ((BelowKit.bcell hb).1 _ _ z54).trans c51
  have c66 : W60.cell? ⟨w.heap.size + 1, 1, none⟩ = some (.int .i64 a1_Known) := ((BelowKit.bcell hb).1 _ _ z54).trans c52
  have c67 : W60.cell? ⟨w.heap.size + 1, 2, none⟩ = some (.int .i64 a1_Value) := ((BelowKit.bcell hb).1 _ _ z54).trans c53
  have z68 : w.heap.size + 1 < W60.heap.size := by omega
  have c69 : W60.cell? ⟨sN1 8, 0, none⟩ = some (.slice p28 nm0 c29) := ((BelowKit.bcell hb).1 _ _ z56).trans c55
  have z70 : sN1 8 < W60.heap.size := by omega
  have HO71 := Lib.hid (HO57.out.on hb)
  have HO72 := Lib.hid (HO59.out.on hb)
  have HC73 := Lib.hid (BelowKit.bl_trans HC58.out hb)
  clear c49 z50 c51 c52 c53 z54 c55 z56 HO57 HO59 HC58 hb
  have gc63 := Grown.G.keep c63 z64
  have gc65 := Grown.G.keep c65 z68
  have gc66 := Grown.G.keep c66 z68
  have gc67 := Grown.G.keep c67 z68
  have gc69 := Grown.G.keep c69 z70
  have gc61 := Grown.G.keep c61 z62
  refine Fresh.wp_region_store (fun k => match k with | 2 => .grow | 3 => .grow | 7 => .grow | 8 => .write | _ => .quiet)
    (fun k v => match k with
          | 2 => (v = .agg #[.int .i64 a1_Month, .int .i64 a1_Known, .int .i64 a1_Value])
          | 3 => (∃ p74 c75, v = .tuple #[.agg #[.slice p74 nm0 c75], .bool m1])
          | 7 => (∃ g : Nat, W60.heap.size ≤ g ∧ v = .pointer (some ⟨g, 0, none⟩))
          | _ => v = undef)
    (fun k v s w1 => match k with
          | 2 => (W60.heap.size ≤ s ∧ v = .agg #[.int .i64 a1_Month, .int .i64 a1_Known, .int .i64 a1_Value])
          | 3 => (∃ p74 c75, W60.heap.size ≤ s ∧ v = .tuple #[.agg #[.slice p74 nm0 c75], .bool m1] ∧ Own.Ow TPoint.fc 3 31 w1 s w1.heap.size (.slice p74 nm0 c75) m0)
          | 7 => (W60.heap.size ≤ s ∧ v = .pointer (some ⟨s, 0, none⟩) ∧ w1.heap.size = s + 1 ∧ w1.cell? ⟨s, 0, none⟩ = some (.slice none 0 0) ∧ w1.frozen? ⟨s, 0, none⟩ = false)
          | _ => True)
    8 (by kernel_rfl) (by kernel_rfl) (by kernel_rfl) rfl (of_decide_eq_true (by kernel_rfl)) (by kernel_rfl) ?_
  refine Fresh.wpG_q rfl ?_
  go_big_quiet_step (fail)
  refine wpQuiet_nil ?_
  refine Fresh.wpG_q rfl ?_
  go_big_quiet_step (fail)
  refine wpQuiet_nil ?_
  refine Fresh.wpG_call #[.agg #[.int .i64 a1_Month, .int .i64 a1_Known, .int .i64 a1_Value]] rfl Try.func28 (by kernel_rfl) (by kernel_rfl) rfl ⟨_, rfl⟩ (fun X hd => ?_) ?_
  · have hX := X.bel.size
    refine (TPoint.to1 ⟨a1_Month, a1_Known, a1_Value⟩ X.w).mono ?_
    rintro e w8 ⟨rfl, hb⟩
    exact ⟨_, rfl, hb, rfl, by omega, rfl⟩
  rintro v rfl
  go_big_quiet_step (fail)
  refine wpQuiet_nil ?_
  refine Fresh.wpG_call #[.agg #[.slice p45 len0_Points c46], .agg #[.int .i64 a1_Month, .int .i64 a1_Known, .int .i64 a1_Value]] rfl Try.func13 (by kernel_rfl) (by kernel_rfl) rfl ⟨_, none, 0, rfl⟩ (fun X hd => ?_) ?_
  · have hX := X.bel.size
    refine (PubI.pub_i X.w p45 len0_Points c46 z0_Points ⟨a1_Month, a1_Known, a1_Value⟩ HM0_Points.out (by omega) ((HO72.out.on X.bel).reads TPoint.fw)).mono ?_
    rintro e w8 ⟨p74, c75, rfl, ho0, hb⟩
    try rw [HF0.out] at ho0
    try rw [HF0.out]
    try rw [HF1.out] at ho0
    try rw [HF1.out]
    try rw [HN0.out] at ho0
    try rw [HN0.out]
    exact ⟨_, rfl, hb, ⟨p74, c75, rfl⟩, p74, c75, by omega, rfl, Own.ow_of ho0⟩
  rintro v ⟨p74, c75, rfl⟩
  go_big_quiet_step (fail)
  refine wpQuiet_nil ?_
  refine Fresh.wpG_q rfl ?_
  go_big_quiet_step (fail)
  refine wpQuiet_nil ?_
  refine Fresh.wpG_q rfl ?_
  go_big_quiet_step (fail)
  refine wpQuiet_nil ?_
  refine Fresh.wpG_q rfl ?_
  go_big_quiet_step (fail)
  refine wpQuiet_nil ?_
  refine Fresh.wpG_own rfl ⟨_, W60.heap.size, Nat.le_refl _, rfl⟩ (fun X _ => ?_) ?_
  · go_simp
    have hX := X.bel.size
    exact ⟨_, _, ⟨rfl, rfl⟩, by (repeat (first | exact Below.refl _ _ | apply BelowKit.bl_alloc | apply BelowKit.bl_drewN | apply BelowKit.bl_drew | (refine BelowKit.bl_set ?_ _ ?_; rotate_left; (first | omega | (simp; omega) | simp)) | (refine BelowKit.bl_trans ?_ (‹Hid (Below _ _ _)›).out))), ⟨_, hX, rfl⟩, hX, rfl, by simp, by simp [go_sem], by simp [go_sem]⟩
  rintro v ⟨g77, hg77, rfl⟩
  go_big_quiet_step (fail)
  refine wpQuiet_nil ?_
  refine Fresh.wpG_store rfl rfl (fun X hd => ?_) ?_
  · obtain ⟨_, _, w7, ⟨_, eg, hg, hc0, hf0⟩, _, hb7⟩ := hd ⟨7, .data⟩ (by simp) rfl rfl
    have eg' : (Value.pointer (some ⟨g77, 0, none⟩)) = .pointer (some ⟨_, 0, none⟩) := eg
    cases eg'
    have q0 := ((BelowKit.bcell hb7).1 g77 0 (by omega)).trans hc0
    have r0 := ((BelowKit.bcell hb7).2 g77 0 (by omega)).trans hf0
    refine ⟨⟨X.w.setCell ⟨g77, 0, none⟩ (.slice p74 nm0 c75), BelowKit.bl_set (X.bel) (a := ⟨g77, 0, none⟩) _ hg77⟩, ?_⟩
    go_simp
    rfl
  refine Fresh.wpG_q rfl ?_
  go_big_quiet_step (fail)
  refine wpQuiet_nil ?_
  refine Fresh.wpG_nil fun X1 X sN2 tN2 hk hrun => ?_
  obtain ⟨⟨w3_, ⟨p74_ , c75_, lo3, e9, ho_r76⟩, ht3, hb3⟩, st3, _⟩ := hk.1 3 (by decide) rfl
  have e8 : (.tuple #[.agg #[.slice p74 nm0 c75], .bool m1] : Value) = .tuple #[.agg #[.slice p74_ nm0 c75_], .bool m1] := e9
  cases e8
  replace ho_r76 := Own.Ow.to_hi (ho_r76.on hb3) ht3
  have hXs := X1.bel.size
  obtain ⟨⟨w7, ⟨hlo7, eg, hg7, hc0, hf0⟩, ht7, hb7⟩, st7, hl7⟩ := hk.1 7 (by decide) rfl
  have eg' : (Value.pointer (some ⟨g77, 0, none⟩)) = .pointer (some ⟨sN2 7, 0, none⟩) := eg
  obtain rfl : g77 = sN2 7 := by simpa using eg'
  clear eg eg'
  have hd3 := hk.2 3 7 (by decide) (by decide) rfl rfl (by decide)
  have q0 := ((BelowKit.bcell hb7).1 (sN2 7) 0 (by omega)).trans hc0
  have r0 := ((BelowKit.bcell hb7).2 (sN2 7) 0 (by omega)).trans hf0
  have hX : X.w = X1.w.setCell ⟨sN2 7, 0, none⟩ (.slice p74 nm0 c75) := by
    simp [go_sem, q0, r0] at hrun
    exact hrun.symm
  replace ho_r76 := ho_r76.box (o := 0) (b := sN2 7) (by omega) (.slice p74 nm0 c75)
  rw [← hX] at ho_r76
  have c79 : X.w.cell? ⟨sN2 7, 0, none⟩ = some (.slice p74 nm0 c75) := by rw [hX]; simp [go_sem, q0]
  have z80 : sN2 7 < X.w.heap.size := by rw [hX]; simp; omega
  have hbX := X.bel
  obtain ⟨w78, hU⟩ : ∃ U : World, U = X.w := ⟨_, rfl⟩
  rw [← hU] at hbX ho_r76 c79 z80 ⊢
  have lo3' : W60.heap.size ≤ sN2 3 := lo3
  have hi3' : tN2 3 ≤ w78.heap.size := ho_r76.lim
  have tj : tN2 7 = sN2 7 + 1 := by rw [← ht7, hg7]
  have tj1 : tN2 7 ≤ sN2 7 + 1 := by omega
  have tj2 : sN2 7 + 1 ≤ tN2 7 := by omega
  have lo7 : W60.heap.size ≤ sN2 7 := hlo7
  clear hk hU hXs gc63 gc65 gc66 gc67 gc69 gc61 hb3 ht3 e9 lo3 hrun hX hb7 hl7 tj ht7 hg7 hlo7 hc0 hf0 q0 r0
  have sw78 : W60.heap.size ≤ w78.heap.size := hbX.size
  have c81 : w78.cell? ⟨w.heap.size, 0, none⟩ = some (.slice a0_Points len0_Points cap0_Points) := ((BelowKit.bcell hbX).1 _ _ z64).trans c63
  have z82 : w.heap.size < w78.heap.size := by omega
  have c83 : w78.cell? ⟨w.heap.size + 1, 0, none⟩ = some (.int .i64 a1_Month) := ((BelowKit.bcell hbX).1 _ _ z68).trans c65
  have c84 : w78.cell? ⟨w.heap.size + 1, 1, none⟩ = some (.int .i64 a1_Known) := ((BelowKit.bcell hbX).1 _ _ z68).trans c66
  have c85 : w78.cell? ⟨w.heap.size + 1, 2, none⟩ = some (.int .i64 a1_Value) := ((BelowKit.bcell hbX).1 _ _ z68).trans c67
  have z86 : w.heap.size + 1 < w78.heap.size := by omega
  have c87 : w78.cell? ⟨sN1 8, 0, none⟩ = some (.slice p28 nm0 c29) := ((BelowKit.bcell hbX).1 _ _ z70).trans c69
  have z88 : sN1 8 < w78.heap.size := by omega
  have c89 : w78.cell? ⟨w48.heap.size, 0, none⟩ = some (.slice p45 len0_Points c46) := ((BelowKit.bcell hbX).1 _ _ z62).trans c61
  have z90 : w48.heap.size < w78.heap.size := by omega
  have HO91 := Lib.hid (HO71.out.on hbX)
  have HO92 := Lib.hid (HO72.out.on hbX)
  have HC93 := Lib.hid (BelowKit.bl_trans HC73.out hbX)
  clear c63 z64 c65 c66 c67 z68 c69 z70 c61 z62 HO71 HO72 HC73 hbX
  have HO94 := Lib.hid ho_r76
  clear ho_r76
  have pz80 := z80
  go_wp2_with fail
  refine (TSeries.eq_c w78 nm0 c75 c29 p74 p28 m0 HN0.out (by omega) (HO94.out.reads TPoint.fw) (HO91.out.reads TPoint.fw)).mono ?_
  rintro e w97 ⟨rfl, hb⟩
  have sw97 : w78.heap.size ≤ w97.heap.size := hb.size
  have c98 : w97.cell? ⟨w.heap.size, 0, none⟩ = some (.slice a0_Points len0_Points cap0_Points) := ((BelowKit.bcell hb).1 _ _ z82).trans c81
  have z99 : w.heap.size < w97.heap.size := by omega
  have c100 : w97.cell? ⟨w.heap.size + 1, 0, none⟩ = some (.int .i64 a1_Month) := ((BelowKit.bcell hb).1 _ _ z86).trans c83
  have c101 : w97.cell? ⟨w.heap.size + 1, 1, none⟩ = some (.int .i64 a1_Known) := ((BelowKit.bcell hb).1 _ _ z86).trans c84
  have c102 : w97.cell? ⟨w.heap.size + 1, 2, none⟩ = some (.int .i64 a1_Value) := ((BelowKit.bcell hb).1 _ _ z86).trans c85
  have z103 : w.heap.size + 1 < w97.heap.size := by omega
  have c104 : w97.cell? ⟨sN1 8, 0, none⟩ = some (.slice p28 nm0 c29) := ((BelowKit.bcell hb).1 _ _ z88).trans c87
  have z105 : sN1 8 < w97.heap.size := by omega
  have c106 : w97.cell? ⟨w48.heap.size, 0, none⟩ = some (.slice p45 len0_Points c46) := ((BelowKit.bcell hb).1 _ _ z90).trans c89
  have z107 : w48.heap.size < w97.heap.size := by omega
  have c108 : w97.cell? ⟨sN2 7, 0, none⟩ = some (.slice p74 nm0 c75) := ((BelowKit.bcell hb).1 _ _ z80).trans c79
  have z109 : sN2 7 < w97.heap.size := by omega
  have HO110 := Lib.hid (HO91.out.on hb)
  have HO111 := Lib.hid (HO92.out.on hb)
  have HO112 := Lib.hid (HO94.out.on hb)
  have HC113 := Lib.hid (BelowKit.bl_trans HC93.out hb)
  clear c81 z82 c83 c84 c85 z86 c87 z88 c89 z90 c79 z80 HO91 HO92 HO94 HC93 hb
  go_wp2_with fail
  have gc98 := Grown.G.keep c98 z99
  have gc100 := Grown.G.keep c100 z103
  have gc101 := Grown.G.keep c101 z103
  have gc102 := Grown.G.keep c102 z103
  have gc104 := Grown.G.keep c104 z105
  have gc106 := Grown.G.keep c106 z107
  have gc108 := Grown.G.keep c108 z109
  refine Fresh.wp_region_grow (fun k => match k with | 2 => .grow | 3 => .grow | _ => .quiet)
    (fun k v => match k with
          | 2 => (∃ p114 c115, v = .agg #[.slice p114 len0_Points c115])
          | 3 => (v = .bool true)
          | _ => v = undef)
    (fun k v s w1 => match k with
          | 2 => (∃ p114 c115, w97.heap.size ≤ s ∧ v = .agg #[.slice p114 len0_Points c115] ∧ Own.Ow TPoint.fc 3 31 w1 s w1.heap.size (.slice p114 len0_Points c115) z0_Points)
          | 3 => (w97.heap.size ≤ s ∧ v = .bool true)
          | _ => True)
    (by kernel_rfl) (by kernel_rfl) (by kernel_rfl) (by kernel_rfl) ?_
  refine Fresh.wpG_q rfl ?_
  go_big_quiet_step (fail)
  refine wpQuiet_nil ?_
  refine Fresh.wpG_q rfl ?_
  go_big_quiet_step (fail)
  refine wpQuiet_nil ?_
  refine Fresh.wpG_call #[.agg #[.slice a0_Points len0_Points cap0_Points]] rfl Try.func23 (by kernel_rfl) (by kernel_rfl) rfl ⟨_, none, 0, rfl⟩ (fun X hd => ?_) ?_
  · have hX := X.bel.size
    refine (TSeries.to_c X.w a0_Points len0_Points cap0_Points z0_Points HM0_Points.out (by omega) (HR0_Points.out.on (BelowKit.bl_trans HC113.out X.bel))).mono ?_
    rintro e w8 ⟨p114, c115, rfl, ho0, hb⟩
    try rw [HM0_Points.out] at ho0
    try rw [HM0_Points.out]
    exact ⟨_, rfl, hb, ⟨p114, c115, rfl⟩, p114, c115, by omega, rfl, Own.ow_of ho0⟩
  rintro v ⟨p114, c115, rfl⟩
  go_big_quiet_step (fail)
  refine wpQuiet_nil ?_
  refine Fresh.wpG_call #[.agg #[.slice p45 len0_Points c46], .agg #[.slice p114 len0_Points c115]] rfl Try.func24 (by kernel_rfl) (by kernel_rfl) rfl ⟨_, rfl⟩ (fun X hd => ?_) ?_
  · obtain ⟨_, _, w9, ⟨p114_ , c115_, _, e9, ho_r116⟩, _, hb9⟩ := hd ⟨2, .data⟩ (by simp) rfl rfl
    have e8 : (.agg #[.slice p114 len0_Points c115] : Value) = .agg #[.slice p114_ len0_Points c115_] := e9
    cases e8
    replace ho_r116 := ho_r116.on hb9
    have hX := X.bel.size
    refine (TSeries.eq_c X.w len0_Points c46 c115 p45 p114 z0_Points HM0_Points.out (by omega) ((HO111.out.on X.bel).reads TPoint.fw) (ho_r116.reads TPoint.fw)).mono ?_
    rintro e w8 ⟨rfl, hb⟩
    exact ⟨_, rfl, hb, rfl, by omega, rfl⟩
  rintro v rfl
  go_big_quiet_step (fail)
  refine wpQuiet_nil ?_
  refine Fresh.wpG_q rfl ?_
  go_big_quiet_step (fail)
  refine wpQuiet_nil ?_
  refine Fresh.wpG_nil fun X sN3 tN3 hk => ?_
  have hXs := X.bel.size
  have hbX := X.bel
  obtain ⟨w117, hU⟩ : ∃ U : World, U = X.w := ⟨_, rfl⟩
  rw [← hU] at hbX  ⊢
  clear hk hU hXs gc98 gc100 gc101 gc102 gc104 gc106 gc108
  have sw117 : w97.heap.size ≤ w117.heap.size := hbX.size
  have c118 : w117.cell? ⟨w.heap.size, 0, none⟩ = some (.slice a0_Points len0_Points cap0_Points) := ((BelowKit.bcell hbX).1 _ _ z99).trans c98
  have z119 : w.heap.size < w117.heap.size := by omega
  have c120 : w117.cell? ⟨w.heap.size + 1, 0, none⟩ = some (.int .i64 a1_Month) := ((BelowKit.bcell hbX).1 _ _ z103).trans c100
  have c121 : w117.cell? ⟨w.heap.size + 1, 1, none⟩ = some (.int .i64 a1_Known) := ((BelowKit.bcell hbX).1 _ _ z103).trans c101
  have c122 : w117.cell? ⟨w.heap.size + 1, 2, none⟩ = some (.int .i64 a1_Value) := ((BelowKit.bcell hbX).1 _ _ z103).trans c102
  have z123 : w.heap.size + 1 < w117.heap.size := by omega
  have c124 : w117.cell? ⟨sN1 8, 0, none⟩ = some (.slice p28 nm0 c29) := ((BelowKit.bcell hbX).1 _ _ z105).trans c104
  have z125 : sN1 8 < w117.heap.size := by omega
  have c126 : w117.cell? ⟨w48.heap.size, 0, none⟩ = some (.slice p45 len0_Points c46) := ((BelowKit.bcell hbX).1 _ _ z107).trans c106
  have z127 : w48.heap.size < w117.heap.size := by omega
  have c128 : w117.cell? ⟨sN2 7, 0, none⟩ = some (.slice p74 nm0 c75) := ((BelowKit.bcell hbX).1 _ _ z109).trans c108
  have z129 : sN2 7 < w117.heap.size := by omega
  have HO130 := Lib.hid (HO110.out.on hbX)
  have HO131 := Lib.hid (HO111.out.on hbX)
  have HO132 := Lib.hid (HO112.out.on hbX)
  have HC133 := Lib.hid (BelowKit.bl_trans HC113.out hbX)
  clear c98 z99 c100 c101 c102 z103 c104 z105 c106 z107 c108 z109 HO110 HO111 HO112 HC113 hbX
  go_wp2_with fail
  refine (TSeries.mark_m w117 w32.heap.size w48.heap.size p45 len0_Points c46 z0_Points 1 HM0_Points.out (by omega) (by omega) (by omega) HO131.out (by omega)).mono ?_
  rintro e w136 ⟨rfl, ho, hm⟩
  have sw136 : w117.heap.size ≤ w136.heap.size := hm.low.size
  have c137 : w136.cell? ⟨w.heap.size, 0, none⟩ = some (.slice a0_Points len0_Points cap0_Points) := (hm.out (b := w.heap.size) (by omega) 0).trans c118
  have z138 : w.heap.size < w136.heap.size := by omega
  have c139 : w136.cell? ⟨w.heap.size + 1, 0, none⟩ = some (.int .i64 a1_Month) := (hm.out (b := w.heap.size + 1) (by omega) 0).trans c120
  have c140 : w136.cell? ⟨w.heap.size + 1, 1, none⟩ = some (.int .i64 a1_Known) := (hm.out (b := w.heap.size + 1) (by omega) 1).trans c121
  have c141 : w136.cell? ⟨w.heap.size + 1, 2, none⟩ = some (.int .i64 a1_Value) := (hm.out (b := w.heap.size + 1) (by omega) 2).trans c122
  have z142 : w.heap.size + 1 < w136.heap.size := by omega
  have c143 : w136.cell? ⟨sN1 8, 0, none⟩ = some (.slice p28 nm0 c29) := (hm.out (b := sN1 8) (by omega) 0).trans c124
  have z144 : sN1 8 < w136.heap.size := by omega
  have c145 : w136.cell? ⟨w48.heap.size, 0, none⟩ = some (.slice p45 len0_Points c46) := (hm.out (b := w48.heap.size) (by omega) 0).trans c126
  have z146 : w48.heap.size < w136.heap.size := by omega
  have c147 : w136.cell? ⟨sN2 7, 0, none⟩ = some (.slice p74 nm0 c75) := (hm.out (b := sN2 7) (by omega) 0).trans c128
  have z148 : sN2 7 < w136.heap.size := by omega
  have HO149 := Lib.hid (HO130.out.mid hm (by omega))
  have HO151 := Lib.hid (HO132.out.mid hm (by omega))
  have HC152 := Lib.hid (HC133.out.trans (hm.low.mono (by omega)))
  clear c118 z119 c120 c121 c122 z123 c124 z125 c126 z127 c128 z129 HO130 HO132 HC133 hm
  have HO153 := Lib.hid ho
  clear ho HO131
  have HM154 : Hid ((TPoint.marks 1 len0_Points).length = len0_Points) := Lib.hid (TPoint.marks_len _ _)
  go_wp2_with fail
  refine (TSeries.eq_c w136 nm0 c75 c29 p74 p28 m0 HN0.out (by omega) (HO151.out.reads TPoint.fw) (HO149.out.reads TPoint.fw)).mono ?_
  rintro e w155 ⟨rfl, hb⟩
  have sw155 : w136.heap.size ≤ w155.heap.size := hb.size
  have c156 : w155.cell? ⟨w.heap.size, 0, none⟩ = some (.slice a0_Points len0_Points cap0_Points) := ((BelowKit.bcell hb).1 _ _ z138).trans c137
  have z157 : w.heap.size < w155.heap.size := by omega
  have c158 : w155.cell? ⟨w.heap.size + 1, 0, none⟩ = some (.int .i64 a1_Month) := ((BelowKit.bcell hb).1 _ _ z142).trans c139
  have c159 : w155.cell? ⟨w.heap.size + 1, 1, none⟩ = some (.int .i64 a1_Known) := ((BelowKit.bcell hb).1 _ _ z142).trans c140
  have c160 : w155.cell? ⟨w.heap.size + 1, 2, none⟩ = some (.int .i64 a1_Value) := ((BelowKit.bcell hb).1 _ _ z142).trans c141
  have z161 : w.heap.size + 1 < w155.heap.size := by omega
  have c162 : w155.cell? ⟨sN1 8, 0, none⟩ = some (.slice p28 nm0 c29) := ((BelowKit.bcell hb).1 _ _ z144).trans c143
  have z163 : sN1 8 < w155.heap.size := by omega
  have c164 : w155.cell? ⟨w48.heap.size, 0, none⟩ = some (.slice p45 len0_Points c46) := ((BelowKit.bcell hb).1 _ _ z146).trans c145
  have z165 : w48.heap.size < w155.heap.size := by omega
  have c166 : w155.cell? ⟨sN2 7, 0, none⟩ = some (.slice p74 nm0 c75) := ((BelowKit.bcell hb).1 _ _ z148).trans c147
  have z167 : sN2 7 < w155.heap.size := by omega
  have HO168 := Lib.hid (HO149.out.on hb)
  have HO169 := Lib.hid (HO153.out.on hb)
  have HO170 := Lib.hid (HO151.out.on hb)
  have HC171 := Lib.hid (BelowKit.bl_trans HC152.out hb)
  clear c137 z138 c139 c140 c141 z142 c143 z144 c145 z146 c147 z148 HO149 HO153 HO151 HC152 hb
  go_wp2_with fail
  refine (TSeries.mark_m w155 (sN2 3) (tN2 3) p74 nm0 c75 m0 1 HN0.out (by omega) (by omega) (by omega) HO170.out (by omega)).mono ?_
  rintro e w172 ⟨rfl, ho, hm⟩
  have sw172 : w155.heap.size ≤ w172.heap.size := hm.low.size
  have c173 : w172.cell? ⟨w.heap.size, 0, none⟩ = some (.slice a0_Points len0_Points cap0_Points) := (hm.out (b := w.heap.size) (by omega) 0).trans c156
  have z174 : w.heap.size < w172.heap.size := by omega
  have c175 : w172.cell? ⟨w.heap.size + 1, 0, none⟩ = some (.int .i64 a1_Month) := (hm.out (b := w.heap.size + 1) (by omega) 0).trans c158
  have c176 : w172.cell? ⟨w.heap.size + 1, 1, none⟩ = some (.int .i64 a1_Known) := (hm.out (b := w.heap.size + 1) (by omega) 1).trans c159
  have c177 : w172.cell? ⟨w.heap.size + 1, 2, none⟩ = some (.int .i64 a1_Value) := (hm.out (b := w.heap.size + 1) (by omega) 2).trans c160
  have z178 : w.heap.size + 1 < w172.heap.size := by omega
  have c179 : w172.cell? ⟨sN1 8, 0, none⟩ = some (.slice p28 nm0 c29) := (hm.out (b := sN1 8) (by omega) 0).trans c162
  have z180 : sN1 8 < w172.heap.size := by omega
  have c181 : w172.cell? ⟨w48.heap.size, 0, none⟩ = some (.slice p45 len0_Points c46) := (hm.out (b := w48.heap.size) (by omega) 0).trans c164
  have z182 : w48.heap.size < w172.heap.size := by omega
  have c183 : w172.cell? ⟨sN2 7, 0, none⟩ = some (.slice p74 nm0 c75) := (hm.out (b := sN2 7) (by omega) 0).trans c166
  have z184 : sN2 7 < w172.heap.size := by omega
  have HO185 := Lib.hid (HO168.out.mid hm (by omega))
  have HO186 := Lib.hid (HO169.out.mid hm (by omega))
  have HC188 := Lib.hid (HC171.out.trans (hm.low.mono (by omega)))
  clear c156 z157 c158 c159 c160 z161 c162 z163 c164 z165 c166 z167 HO168 HO169 HC171 hm
  have HO189 := Lib.hid ho
  clear ho HO170
  have HM190 : Hid ((TPoint.marks 1 nm0).length = nm0) := Lib.hid (TPoint.marks_len _ _)
  go_wp2_with fail
  refine (TSeries.held_c w172 p74 nm0 c75 1 (by omega) (by omega) (by omega) (HO189.out.reads TPoint.fw)).mono ?_
  rintro e w191 ⟨rfl, hb⟩
  have sw191 : w172.heap.size ≤ w191.heap.size := hb.size
  have c192 : w191.cell? ⟨w.heap.size, 0, none⟩ = some (.slice a0_Points len0_Points cap0_Points) := ((BelowKit.bcell hb).1 _ _ z174).trans c173
  have z193 : w.heap.size < w191.heap.size := by omega
  have c194 : w191.cell? ⟨w.heap.size + 1, 0, none⟩ = some (.int .i64 a1_Month) := ((BelowKit.bcell hb).1 _ _ z178).trans c175
  have c195 : w191.cell? ⟨w.heap.size + 1, 1, none⟩ = some (.int .i64 a1_Known) := ((BelowKit.bcell hb).1 _ _ z178).trans c176
  have c196 : w191.cell? ⟨w.heap.size + 1, 2, none⟩ = some (.int .i64 a1_Value) := ((BelowKit.bcell hb).1 _ _ z178).trans c177
  have z197 : w.heap.size + 1 < w191.heap.size := by omega
  have c198 : w191.cell? ⟨sN1 8, 0, none⟩ = some (.slice p28 nm0 c29) := ((BelowKit.bcell hb).1 _ _ z180).trans c179
  have z199 : sN1 8 < w191.heap.size := by omega
  have c200 : w191.cell? ⟨w48.heap.size, 0, none⟩ = some (.slice p45 len0_Points c46) := ((BelowKit.bcell hb).1 _ _ z182).trans c181
  have z201 : w48.heap.size < w191.heap.size := by omega
  have c202 : w191.cell? ⟨sN2 7, 0, none⟩ = some (.slice p74 nm0 c75) := ((BelowKit.bcell hb).1 _ _ z184).trans c183
  have z203 : sN2 7 < w191.heap.size := by omega
  have HO204 := Lib.hid (HO185.out.on hb)
  have HO205 := Lib.hid (HO186.out.on hb)
  have HO206 := Lib.hid (HO189.out.on hb)
  have HC207 := Lib.hid (BelowKit.bl_trans HC188.out hb)
  clear c173 z174 c175 c176 c177 z178 c179 z180 c181 z182 c183 z184 HO185 HO186 HO189 HC188 hb
  go_wp2_with fail
  have gc192 := Grown.G.keep c192 z193
  have gc194 := Grown.G.keep c194 z197
  have gc195 := Grown.G.keep c195 z197
  have gc196 := Grown.G.keep c196 z197
  have gc198 := Grown.G.keep c198 z199
  have gc200 := Grown.G.keep c200 z201
  have gc202 := Grown.G.keep c202 z203
  refine Fresh.wp_region_store (fun k => match k with | 1 => .grow | 3 => .grow | 4 => .grow | 8 => .grow | 9 => .write | _ => .quiet)
    (fun k v => match k with
          | 1 => (∃ p208 c209, v = .agg #[.slice p208 len0_Points c209])
          | 3 => (v = .agg #[.int .i64 a1_Month, .int .i64 a1_Known, .int .i64 a1_Value])
          | 4 => (∃ p211 c212, v = .tuple #[.agg #[.slice p211 nm0 c212], .bool m1])
          | 8 => (∃ g : Nat, w191.heap.size ≤ g ∧ v = .pointer (some ⟨g, 0, none⟩))
          | _ => v = undef)
    (fun k v s w1 => match k with
          | 1 => (∃ p208 c209, w191.heap.size ≤ s ∧ v = .agg #[.slice p208 len0_Points c209] ∧ Own.Ow TPoint.fc 3 31 w1 s w1.heap.size (.slice p208 len0_Points c209) z0_Points)
          | 3 => (w191.heap.size ≤ s ∧ v = .agg #[.int .i64 a1_Month, .int .i64 a1_Known, .int .i64 a1_Value])
          | 4 => (∃ p211 c212, w191.heap.size ≤ s ∧ v = .tuple #[.agg #[.slice p211 nm0 c212], .bool m1] ∧ Own.Ow TPoint.fc 3 31 w1 s w1.heap.size (.slice p211 nm0 c212) m0)
          | 8 => (w191.heap.size ≤ s ∧ v = .pointer (some ⟨s, 0, none⟩) ∧ w1.heap.size = s + 1 ∧ w1.cell? ⟨s, 0, none⟩ = some (.slice none 0 0) ∧ w1.frozen? ⟨s, 0, none⟩ = false)
          | _ => True)
    9 (by kernel_rfl) (by kernel_rfl) (by kernel_rfl) rfl (of_decide_eq_true (by kernel_rfl)) (by kernel_rfl) ?_
  refine Fresh.wpG_q rfl ?_
  go_big_quiet_step (fail)
  refine wpQuiet_nil ?_
  refine Fresh.wpG_call #[.agg #[.slice a0_Points len0_Points cap0_Points]] rfl Try.func23 (by kernel_rfl) (by kernel_rfl) rfl ⟨_, none, 0, rfl⟩ (fun X hd => ?_) ?_
  · have hX := X.bel.size
    refine (TSeries.to_c X.w a0_Points len0_Points cap0_Points z0_Points HM0_Points.out (by omega) (HR0_Points.out.on (BelowKit.bl_trans HC207.out X.bel))).mono ?_
    rintro e w8 ⟨p208, c209, rfl, ho0, hb⟩
    try rw [HM0_Points.out] at ho0
    try rw [HM0_Points.out]
    exact ⟨_, rfl, hb, ⟨p208, c209, rfl⟩, p208, c209, by omega, rfl, Own.ow_of ho0⟩
  rintro v ⟨p208, c209, rfl⟩
  go_big_quiet_step (fail)
  refine wpQuiet_nil ?_
  refine Fresh.wpG_q rfl ?_
  go_big_quiet_step (fail)
  refine wpQuiet_nil ?_
  refine Fresh.wpG_call #[.agg #[.int .i64 a1_Month, .int .i64 a1_Known, .int .i64 a1_Value]] rfl Try.func28 (by kernel_rfl) (by kernel_rfl) rfl ⟨_, rfl⟩ (fun X hd => ?_) ?_
  · have hX := X.bel.size
    refine (TPoint.to1 ⟨a1_Month, a1_Known, a1_Value⟩ X.w).mono ?_
    rintro e w8 ⟨rfl, hb⟩
    exact ⟨_, rfl, hb, rfl, by omega, rfl⟩
  rintro v rfl
  go_big_quiet_step (fail)
  refine wpQuiet_nil ?_
  refine Fresh.wpG_call #[.agg #[.slice p208 len0_Points c209], .agg #[.int .i64 a1_Month, .int .i64 a1_Known, .int .i64 a1_Value]] rfl Try.func13 (by kernel_rfl) (by kernel_rfl) rfl ⟨_, none, 0, rfl⟩ (fun X hd => ?_) ?_
  · obtain ⟨_, _, w9, ⟨p208_ , c209_, _, e9, ho_r210⟩, _, hb9⟩ := hd ⟨1, .data⟩ (by simp) rfl rfl
    have e8 : (.agg #[.slice p208 len0_Points c209] : Value) = .agg #[.slice p208_ len0_Points c209_] := e9
    cases e8
    replace ho_r210 := ho_r210.on hb9
    have hX := X.bel.size
    refine (PubI.pub_i X.w p208 len0_Points c209 z0_Points ⟨a1_Month, a1_Known, a1_Value⟩ HM0_Points.out (by omega) (ho_r210.reads TPoint.fw)).mono ?_
    rintro e w8 ⟨p211, c212, rfl, ho0, hb⟩
    try rw [HF0.out] at ho0
    try rw [HF0.out]
    try rw [HF1.out] at ho0
    try rw [HF1.out]
    try rw [HN0.out] at ho0
    try rw [HN0.out]
    exact ⟨_, rfl, hb, ⟨p211, c212, rfl⟩, p211, c212, by omega, rfl, Own.ow_of ho0⟩
  rintro v ⟨p211, c212, rfl⟩
  go_big_quiet_step (fail)
  refine wpQuiet_nil ?_
  refine Fresh.wpG_q rfl ?_
  go_big_quiet_step (fail)
  refine wpQuiet_nil ?_
  refine Fresh.wpG_q rfl ?_
  go_big_quiet_step (fail)
  refine wpQuiet_nil ?_
  refine Fresh.wpG_q rfl ?_
  go_big_quiet_step (fail)
  refine wpQuiet_nil ?_
  refine Fresh.wpG_own rfl ⟨_, w191.heap.size, Nat.le_refl _, rfl⟩ (fun X _ => ?_) ?_
  · go_simp
    have hX := X.bel.size
    exact ⟨_, _, ⟨rfl, rfl⟩, by (repeat (first | exact Below.refl _ _ | apply BelowKit.bl_alloc | apply BelowKit.bl_drewN | apply BelowKit.bl_drew | (refine BelowKit.bl_set ?_ _ ?_; rotate_left; (first | omega | (simp; omega) | simp)) | (refine BelowKit.bl_trans ?_ (‹Hid (Below _ _ _)›).out))), ⟨_, hX, rfl⟩, hX, rfl, by simp, by simp [go_sem], by simp [go_sem]⟩
  rintro v ⟨g214, hg214, rfl⟩
  go_big_quiet_step (fail)
  refine wpQuiet_nil ?_
  refine Fresh.wpG_store rfl rfl (fun X hd => ?_) ?_
  · obtain ⟨_, _, w7, ⟨_, eg, hg, hc0, hf0⟩, _, hb7⟩ := hd ⟨8, .data⟩ (by simp) rfl rfl
    have eg' : (Value.pointer (some ⟨g214, 0, none⟩)) = .pointer (some ⟨_, 0, none⟩) := eg
    cases eg'
    have q0 := ((BelowKit.bcell hb7).1 g214 0 (by omega)).trans hc0
    have r0 := ((BelowKit.bcell hb7).2 g214 0 (by omega)).trans hf0
    refine ⟨⟨X.w.setCell ⟨g214, 0, none⟩ (.slice p211 nm0 c212), BelowKit.bl_set (X.bel) (a := ⟨g214, 0, none⟩) _ hg214⟩, ?_⟩
    go_simp
    rfl
  refine Fresh.wpG_q rfl ?_
  go_big_quiet_step (fail)
  refine wpQuiet_nil ?_
  refine Fresh.wpG_nil fun X1 X sN4 tN4 hk hrun => ?_
  obtain ⟨⟨w4_, ⟨p211_ , c212_, lo4, e9, ho_r213⟩, ht4, hb4⟩, st4, _⟩ := hk.1 4 (by decide) rfl
  have e8 : (.tuple #[.agg #[.slice p211 nm0 c212], .bool m1] : Value) = .tuple #[.agg #[.slice p211_ nm0 c212_], .bool m1] := e9
  cases e8
  replace ho_r213 := Own.Ow.to_hi (ho_r213.on hb4) ht4
  have hXs := X1.bel.size
  obtain ⟨⟨w7, ⟨hlo7, eg, hg7, hc0, hf0⟩, ht7, hb7⟩, st7, hl7⟩ := hk.1 8 (by decide) rfl
  have eg' : (Value.pointer (some ⟨g214, 0, none⟩)) = .pointer (some ⟨sN4 8, 0, none⟩) := eg
  obtain rfl : g214 = sN4 8 := by simpa using eg'
  clear eg eg'
  have hd4 := hk.2 4 8 (by decide) (by decide) rfl rfl (by decide)
  have q0 := ((BelowKit.bcell hb7).1 (sN4 8) 0 (by omega)).trans hc0
  have r0 := ((BelowKit.bcell hb7).2 (sN4 8) 0 (by omega)).trans hf0
  have hX : X.w = X1.w.setCell ⟨sN4 8, 0, none⟩ (.slice p211 nm0 c212) := by
    simp [go_sem, q0, r0] at hrun
    exact hrun.symm
  replace ho_r213 := ho_r213.box (o := 0) (b := sN4 8) (by omega) (.slice p211 nm0 c212)
  rw [← hX] at ho_r213
  have c216 : X.w.cell? ⟨sN4 8, 0, none⟩ = some (.slice p211 nm0 c212) := by rw [hX]; simp [go_sem, q0]
  have z217 : sN4 8 < X.w.heap.size := by rw [hX]; simp; omega
  have hbX := X.bel
  obtain ⟨w215, hU⟩ : ∃ U : World, U = X.w := ⟨_, rfl⟩
  rw [← hU] at hbX ho_r213 c216 z217 ⊢
  have lo4' : w191.heap.size ≤ sN4 4 := lo4
  have hi4' : tN4 4 ≤ w215.heap.size := ho_r213.lim
  have tj : tN4 8 = sN4 8 + 1 := by rw [← ht7, hg7]
  have tj1 : tN4 8 ≤ sN4 8 + 1 := by omega
  have tj2 : sN4 8 + 1 ≤ tN4 8 := by omega
  have lo7 : w191.heap.size ≤ sN4 8 := hlo7
  clear hk hU hXs gc192 gc194 gc195 gc196 gc198 gc200 gc202 hb4 ht4 e9 lo4 hrun hX hb7 hl7 tj ht7 hg7 hlo7 hc0 hf0 q0 r0
  have sw215 : w191.heap.size ≤ w215.heap.size := hbX.size
  have c218 : w215.cell? ⟨w.heap.size, 0, none⟩ = some (.slice a0_Points len0_Points cap0_Points) := ((BelowKit.bcell hbX).1 _ _ z193).trans c192
  have z219 : w.heap.size < w215.heap.size := by omega
  have c220 : w215.cell? ⟨w.heap.size + 1, 0, none⟩ = some (.int .i64 a1_Month) := ((BelowKit.bcell hbX).1 _ _ z197).trans c194
  have c221 : w215.cell? ⟨w.heap.size + 1, 1, none⟩ = some (.int .i64 a1_Known) := ((BelowKit.bcell hbX).1 _ _ z197).trans c195
  have c222 : w215.cell? ⟨w.heap.size + 1, 2, none⟩ = some (.int .i64 a1_Value) := ((BelowKit.bcell hbX).1 _ _ z197).trans c196
  have z223 : w.heap.size + 1 < w215.heap.size := by omega
  have c224 : w215.cell? ⟨sN1 8, 0, none⟩ = some (.slice p28 nm0 c29) := ((BelowKit.bcell hbX).1 _ _ z199).trans c198
  have z225 : sN1 8 < w215.heap.size := by omega
  have c226 : w215.cell? ⟨w48.heap.size, 0, none⟩ = some (.slice p45 len0_Points c46) := ((BelowKit.bcell hbX).1 _ _ z201).trans c200
  have z227 : w48.heap.size < w215.heap.size := by omega
  have c228 : w215.cell? ⟨sN2 7, 0, none⟩ = some (.slice p74 nm0 c75) := ((BelowKit.bcell hbX).1 _ _ z203).trans c202
  have z229 : sN2 7 < w215.heap.size := by omega
  have HO230 := Lib.hid (HO204.out.on hbX)
  have HO231 := Lib.hid (HO205.out.on hbX)
  have HO232 := Lib.hid (HO206.out.on hbX)
  have HC233 := Lib.hid (BelowKit.bl_trans HC207.out hbX)
  clear c192 z193 c194 c195 c196 z197 c198 z199 c200 z201 c202 z203 HO204 HO205 HO206 HC207 hbX
  have HO234 := Lib.hid ho_r213
  clear ho_r213
  have pz217 := z217
  go_wp2_with fail
  refine (TSeries.eq_c w215 nm0 c212 c29 p211 p28 m0 HN0.out (by omega) (HO234.out.reads TPoint.fw) (HO230.out.reads TPoint.fw)).mono ?_
  rintro e w237 ⟨rfl, hb⟩
  have sw237 : w215.heap.size ≤ w237.heap.size := hb.size
  have c238 : w237.cell? ⟨w.heap.size, 0, none⟩ = some (.slice a0_Points len0_Points cap0_Points) := ((BelowKit.bcell hb).1 _ _ z219).trans c218
  have z239 : w.heap.size < w237.heap.size := by omega
  have c240 : w237.cell? ⟨w.heap.size + 1, 0, none⟩ = some (.int .i64 a1_Month) := ((BelowKit.bcell hb).1 _ _ z223).trans c220
  have c241 : w237.cell? ⟨w.heap.size + 1, 1, none⟩ = some (.int .i64 a1_Known) := ((BelowKit.bcell hb).1 _ _ z223).trans c221
  have c242 : w237.cell? ⟨w.heap.size + 1, 2, none⟩ = some (.int .i64 a1_Value) := ((BelowKit.bcell hb).1 _ _ z223).trans c222
  have z243 : w.heap.size + 1 < w237.heap.size := by omega
  have c244 : w237.cell? ⟨sN1 8, 0, none⟩ = some (.slice p28 nm0 c29) := ((BelowKit.bcell hb).1 _ _ z225).trans c224
  have z245 : sN1 8 < w237.heap.size := by omega
  have c246 : w237.cell? ⟨w48.heap.size, 0, none⟩ = some (.slice p45 len0_Points c46) := ((BelowKit.bcell hb).1 _ _ z227).trans c226
  have z247 : w48.heap.size < w237.heap.size := by omega
  have c248 : w237.cell? ⟨sN2 7, 0, none⟩ = some (.slice p74 nm0 c75) := ((BelowKit.bcell hb).1 _ _ z229).trans c228
  have z249 : sN2 7 < w237.heap.size := by omega
  have c250 : w237.cell? ⟨sN4 8, 0, none⟩ = some (.slice p211 nm0 c212) := ((BelowKit.bcell hb).1 _ _ z217).trans c216
  have z251 : sN4 8 < w237.heap.size := by omega
  have HO252 := Lib.hid (HO230.out.on hb)
  have HO253 := Lib.hid (HO231.out.on hb)
  have HO254 := Lib.hid (HO232.out.on hb)
  have HO255 := Lib.hid (HO234.out.on hb)
  have HC256 := Lib.hid (BelowKit.bl_trans HC233.out hb)
  clear c218 z219 c220 c221 c222 z223 c224 z225 c226 z227 c228 z229 c216 z217 HO230 HO231 HO232 HO234 HC233 hb
  go_wp2_with fail
  refine (TSeries.held_c w237 p74 nm0 c75 1 (by omega) (by omega) (by omega) (HO254.out.reads TPoint.fw)).mono ?_
  rintro e w257 ⟨rfl, hb⟩
  have sw257 : w237.heap.size ≤ w257.heap.size := hb.size
  have c258 : w257.cell? ⟨w.heap.size, 0, none⟩ = some (.slice a0_Points len0_Points cap0_Points) := ((BelowKit.bcell hb).1 _ _ z239).trans c238
  have z259 : w.heap.size < w257.heap.size := by omega
  have c260 : w257.cell? ⟨w.heap.size + 1, 0, none⟩ = some (.int .i64 a1_Month) := ((BelowKit.bcell hb).1 _ _ z243).trans c240
  have c261 : w257.cell? ⟨w.heap.size + 1, 1, none⟩ = some (.int .i64 a1_Known) := ((BelowKit.bcell hb).1 _ _ z243).trans c241
  have c262 : w257.cell? ⟨w.heap.size + 1, 2, none⟩ = some (.int .i64 a1_Value) := ((BelowKit.bcell hb).1 _ _ z243).trans c242
  have z263 : w.heap.size + 1 < w257.heap.size := by omega
  have c264 : w257.cell? ⟨sN1 8, 0, none⟩ = some (.slice p28 nm0 c29) := ((BelowKit.bcell hb).1 _ _ z245).trans c244
  have z265 : sN1 8 < w257.heap.size := by omega
  have c266 : w257.cell? ⟨w48.heap.size, 0, none⟩ = some (.slice p45 len0_Points c46) := ((BelowKit.bcell hb).1 _ _ z247).trans c246
  have z267 : w48.heap.size < w257.heap.size := by omega
  have c268 : w257.cell? ⟨sN2 7, 0, none⟩ = some (.slice p74 nm0 c75) := ((BelowKit.bcell hb).1 _ _ z249).trans c248
  have z269 : sN2 7 < w257.heap.size := by omega
  have c270 : w257.cell? ⟨sN4 8, 0, none⟩ = some (.slice p211 nm0 c212) := ((BelowKit.bcell hb).1 _ _ z251).trans c250
  have z271 : sN4 8 < w257.heap.size := by omega
  have HO272 := Lib.hid (HO252.out.on hb)
  have HO273 := Lib.hid (HO253.out.on hb)
  have HO274 := Lib.hid (HO254.out.on hb)
  have HO275 := Lib.hid (HO255.out.on hb)
  have HC276 := Lib.hid (BelowKit.bl_trans HC256.out hb)
  clear c238 z239 c240 c241 c242 z243 c244 z245 c246 z247 c248 z249 c250 z251 HO252 HO253 HO254 HO255 HC256 hb
  go_wp2
  go_ret
  exact ⟨rfl, by (repeat (first | exact Below.refl _ _ | apply BelowKit.bl_alloc | apply BelowKit.bl_drewN | apply BelowKit.bl_drew | (refine BelowKit.bl_set ?_ _ ?_; rotate_left; (first | omega | (simp; omega) | simp)) | (refine BelowKit.bl_trans ?_ (‹Hid (Below _ _ _)›).out)))⟩

/-! ### THE ROW's STEP -/
set_option maxRecDepth 100000 in
theorem lifted (os : Os) (started : os.Started) (H : Type) (enc : TypeId × Value → H) :
    ReturnsInHanded {} Try.checked os 8 .any (Rows.fnExactPublishSpec.pre6 enc Try.prog Try.f8 Rows.fnExactPublishRow.domain false) (Rows.fnExactPublishSpec.post enc Try.prog Try.f8 false true false false) := by
  refine returnsInHanded_of_change (C := Try.checked) own started (by kernel_rfl) Try.func8
    (ChangeSpec.witness6 (enc := enc) (C := Try.checked) false ⟨#[], #[.agg #[.slice none 0 0], .agg #[.int .i64 0, .int .i64 0, .int .i64 0]], []⟩ 8 (by kernel_rfl) (by kernel_rfl) (by kernel_rfl) (by kernel_rfl)) ?_
  intro W base args ds gs before hval0 hW hcnd _
  have hval : ∀ (j : Nat) t v, Try.f8.params[j]? = some t → args[j]? = some v → Value.okWide Try.prog W .any base t v := hval0
  have hW' := hW
  obtain ⟨p, q, hA0, hV, rfl, hfz, hnd⟩ := hW
  have hA : DataW.TrodAll enc Try.prog W 0 (fun _ => true) true Try.f8.params.toList args.toList ds p := hA0
  rw [Try.params8] at hA hval
  obtain ⟨v0, vs0, d0, ds0, p0, q0, hargs, rfl, rfl, h0, r0⟩ := trodAll_cons hA
  obtain ⟨v1, vs1, d1, ds1, p1, q1, rfl, rfl, rfl, h1, r1⟩ := trodAll_cons r0
  obtain ⟨rfl, rfl, rfl⟩ := trodAll_nil r1
  obtain rfl : args = #[v0, v1] := by cases args; simp_all
  obtain ⟨rfl, rfl⟩ := trodVars_none hV
  have k0 := h0
  have lt0 : ∀ x ∈ p0, x.block < W.heap.size := by obtain ⟨m, hm⟩ := k0; exact DataW.trod_lt m _ _ _ hm
  obtain ⟨⟨l0⟩, rfl, _⟩ := okWide_struct Try.underlying50 (hval 0 50 v0 rfl rfl)
  have s0 : Shape.FitL W [.sl [.int .i64, .int .i64, .int .i64]] l0 := by
    obtain ⟨fu, hfu⟩ := h0
    exact Shape.trod_fit 8 50 _ (by kernel_rfl) _ _ _ hfu
  obtain ⟨a0_Points, len0_Points, cap0_Points, r0, rfl, s0_Points, s0⟩ := Shape.fit_sl s0
  obtain ⟨z0_Points, hz0_Points, w0_Points, hl0_Points, g0_Points⟩ := Shape.reads_of (f := TPoint.fc) (c := 3) (good := TPoint.Wf) rfl (fun _ h => TPoint.cov h) s0_Points
  obtain rfl := Shape.fit_nil s0
  have k1 := h1
  have lt1 : ∀ x ∈ p1, x.block < W.heap.size := by obtain ⟨m, hm⟩ := k1; exact DataW.trod_lt m _ _ _ hm
  obtain ⟨⟨l1⟩, rfl, _⟩ := okWide_struct Try.underlying58 (hval 1 58 v1 rfl rfl)
  have s1 : Shape.FitL W [.int .i64, .int .i64, .int .i64] l1 := by
    obtain ⟨fu, hfu⟩ := h1
    exact Shape.trod_fit 8 58 _ (by kernel_rfl) _ _ _ hfu
  obtain ⟨a1_Month, r1, rfl, w1_Month, s1⟩ := Shape.fit_int s1
  obtain ⟨a1_Known, r1, rfl, w1_Known, s1⟩ := Shape.fit_int s1
  obtain ⟨a1_Value, r1, rfl, w1_Value, s1⟩ := Shape.fit_int s1
  obtain rfl := Shape.fit_nil s1
  clear hA0 hval0
  refine (walk a0_Points len0_Points cap0_Points z0_Points a1_Month a1_Known a1_Value W hz0_Points w0_Points hl0_Points g0_Points w1_Month w1_Known w1_Value).mono fun e W' ⟨he, bel⟩ => ?_
  subst he
  exact ⟨_, rfl, _, _, _, [], _, [], hW', trodAll_mk1 (shut_bool Try.underlying4 _), (trodAll_cons_mk (Below.trod laidOut (by kernel_rfl) (of_decide_eq_true (by kernel_rfl)) k0 bel lt0) (trodAll_cons_mk (Below.trod laidOut (by kernel_rfl) (of_decide_eq_true (by kernel_rfl)) k1 bel lt1) trodAll_mk0)), rfl, bel.frame _, fun h => by cases h⟩

theorem over : Rows.fnExactPublishRow.holds Try.pinned (OpenSpec.ofChange Rows.fnExactPublishSpec) :=
  OpenClaim.holds_of_wide 8 Try.f8 rfl rfl rfl rfl rfl rfl rfl ⟨rfl, rfl, rfl, rfl, rfl⟩ rfl rfl rfl rfl rfl (by kernel_rfl) Try.func8 (by kernel_rfl)
    (of_decide_eq_true (by kernel_rfl)) (by unfold Func.isWrapper; first | (rw [if_pos (by decide +kernel)]; kernel_rfl) | (rw [if_neg (by decide +kernel)]; exact ⟨rfl, rfl⟩))
    (fun os started H enc _ => lifted os started H enc)

theorem proved : Rows.FnExactPublishSaid := over
#print axioms proved
end Go.Proofs.Ytpgcdelmfbegpaa.fnExactPublish
