/- Proves the given statement of the law FnExactAccrued: for every input that the row lets in, the law's Go function returns true and every argument reads as before; no condition of mine. -/
import Derived.Test.YthhjnffbafmkpaaAccruS
import Derived.Test.YthhjnffbafmkpaaAccruI
import Derived.Test.YthhjnffbafmkpaaTDesign
import Derived.Test.YthhjnffbafmkpaaFracLaws
import Derived.Test.YthhjnffbafmkpaaKit
import Derived.Test.YthhjnffbafmkpaaRows
import Derived.WalkKit
import Derived.ProofKit
import Derived.OpenShut
import Derived.ShutString
import Derived.ChangeOld
import Derived.Below
import Derived.Deep.RegionHeld3
import Derived.Deep.DeepCutAuto
import Derived.Lib.Hide
import Derived.Lib.SmallJoins
namespace Go.Proofs.Ythhjnffbafmkpaa.fnExactAccrued
open Go.ChangeShapes Go.WideShapes Go.ChangeAt Go.RowKit
open Go.ChangeMaps (open_string shut_string)
set_option linter.unusedVariables false

theorem own : ownKnob Try.prog.godebug = none := by kernel_rfl
theorem laidOut : laidOutB Try.prog = true := by kernel_rfl

/-! ### STEP 1: the walk -/
set_option maxHeartbeats 8000000 in
theorem walk (a0_Kind : Int) (a0_Rate : Int) (a0_Cap : Int) (a1 : Int) (a2_Num : Int) (a2_Den : Int) (w : World) (w0_Kind : (Lit.int .i64 a0_Kind).wf = true) (w0_Rate : (Lit.int .i64 a0_Rate).wf = true) (w0_Cap : (Lit.int .i64 a0_Cap).wf = true) (w1 : (Lit.int .i64 a1).wf = true) (w2_Num : (Lit.int .i64 a2_Num).wf = true) (w2_Den : (Lit.int .i64 a2_Den).wf = true) :
    Calls Try.prog 7 #[.agg #[.int .i64 a0_Kind, .int .i64 a0_Rate, .int .i64 a0_Cap], .int .i64 a1, .agg #[.int .i64 a2_Num, .int .i64 a2_Den]] w fun e w' => e = .returned (.bool true) ∧ Below w.heap.size w w' := by
  obtain ⟨m0_0, hm0_0⟩ : ∃ v, (AccruMath.accr a0_Kind a0_Rate a0_Cap a1 a2_Num a2_Den).1 = v := ⟨_, rfl⟩
  have HF0_0 := Lib.hid hm0_0
  clear hm0_0
  obtain ⟨m0_1, hm0_1⟩ : ∃ v, (AccruMath.accr a0_Kind a0_Rate a0_Cap a1 a2_Num a2_Den).2.1 = v := ⟨_, rfl⟩
  have HF0_1 := Lib.hid hm0_1
  clear hm0_1
  obtain ⟨m1, hm1⟩ : ∃ v, (AccruMath.accr a0_Kind a0_Rate a0_Cap a1 a2_Num a2_Den).2.2 = v := ⟨_, rfl⟩
  have HF1 := Lib.hid hm1
  clear hm1
  go_enter Try.func7, Try.ntmps7
  go_wp2_with fail
  obtain ⟨W1, hW1⟩ : ∃ V : World, V = (w.alloc (.cells #[.int .i64 a0_Kind, .int .i64 a0_Rate, .int .i64 a0_Cap] 38)).alloc (.cells #[.int .i64 a2_Num, .int .i64 a2_Den] 41) := ⟨_, rfl⟩
  rw [← hW1]
  have hb : Below w.heap.size w W1 := by rw [hW1]; (repeat (first | exact Below.refl _ _ | apply BelowKit.bl_alloc | apply BelowKit.bl_drewN | apply BelowKit.bl_drew | (refine BelowKit.bl_set ?_ _ ?_; rotate_left; (first | omega | (simp; omega) | simp)) | (refine BelowKit.bl_trans ?_ (‹Hid (Below _ _ _)›).out)))
  have tW1 : w.heap.size + 2 ≤ W1.heap.size := by rw [hW1]; simp
  have uW1 : W1.heap.size ≤ w.heap.size + 2 := by rw [hW1]; simp
  have c2 : W1.cell? ⟨w.heap.size, 0, none⟩ = some (.int .i64 a0_Kind) := by rw [hW1]; simp [go_sem]
  have c3 : W1.cell? ⟨w.heap.size, 1, none⟩ = some (.int .i64 a0_Rate) := by rw [hW1]; simp [go_sem]
  have c4 : W1.cell? ⟨w.heap.size, 2, none⟩ = some (.int .i64 a0_Cap) := by rw [hW1]; simp [go_sem]
  have z5 : w.heap.size < W1.heap.size := by omega
  have c6 : W1.cell? ⟨w.heap.size + 1, 0, none⟩ = some (.int .i64 a2_Num) := by rw [hW1]; simp [go_sem]
  have c7 : W1.cell? ⟨w.heap.size + 1, 1, none⟩ = some (.int .i64 a2_Den) := by rw [hW1]; simp [go_sem]
  have z8 : w.heap.size + 1 < W1.heap.size := by omega
  clear hW1
  have sW1 : w.heap.size ≤ W1.heap.size := hb.size
  have HC9 := Lib.hid hb
  clear hb
  have gc2 := Grown.G.keep c2 z5
  have gc3 := Grown.G.keep c3 z5
  have gc4 := Grown.G.keep c4 z5
  have gc6 := Grown.G.keep c6 z8
  have gc7 := Grown.G.keep c7 z8
  refine Fresh.wp_region_store (fun k => match k with | 1 => .grow | 4 => .grow | 5 => .grow | 9 => .grow | 10 => .write | _ => .quiet)
    (fun k v => match k with
          | 1 => (v = .agg #[.int .i64 a0_Kind, .int .i64 a0_Rate, .int .i64 a0_Cap])
          | 4 => (v = .agg #[.int .i64 a2_Num, .int .i64 a2_Den])
          | 5 => (v = .tuple #[.agg #[.int .i64 m0_0, .int .i64 m0_1], .bool m1])
          | 9 => (∃ g : Nat, W1.heap.size ≤ g ∧ v = .pointer (some ⟨g, 0, none⟩))
          | _ => v = undef)
    (fun k v s w1 => match k with
          | 1 => (W1.heap.size ≤ s ∧ v = .agg #[.int .i64 a0_Kind, .int .i64 a0_Rate, .int .i64 a0_Cap])
          | 4 => (W1.heap.size ≤ s ∧ v = .agg #[.int .i64 a2_Num, .int .i64 a2_Den])
          | 5 => (W1.heap.size ≤ s ∧ v = .tuple #[.agg #[.int .i64 m0_0, .int .i64 m0_1], .bool m1])
          | 9 => (W1.heap.size ≤ s ∧ v = .pointer (some ⟨s, 0, none⟩) ∧ w1.heap.size = s + 1 ∧ w1.cell? ⟨s, 0, none⟩ = some (.int .i64 0) ∧ w1.frozen? ⟨s, 0, none⟩ = false ∧ w1.cell? ⟨s, 1, none⟩ = some (.int .i64 0) ∧ w1.frozen? ⟨s, 1, none⟩ = false)
          | _ => True)
    10 (by kernel_rfl) (by kernel_rfl) (by kernel_rfl) rfl (of_decide_eq_true (by kernel_rfl)) (by kernel_rfl) ?_
  refine Fresh.wpG_q rfl ?_
  go_big_quiet_step (fail)
  refine wpQuiet_nil ?_
  refine Fresh.wpG_call #[.agg #[.int .i64 a0_Kind, .int .i64 a0_Rate, .int .i64 a0_Cap]] rfl Try.func20 (by kernel_rfl) (by kernel_rfl) rfl ⟨_, rfl⟩ (fun X hd => ?_) ?_
  · have hX := X.bel.size
    refine (TDesign.to1 ⟨a0_Kind, a0_Rate, a0_Cap⟩ X.w).mono ?_
    rintro e w8 ⟨rfl, hb⟩
    exact ⟨_, rfl, hb, rfl, by omega, rfl⟩
  rintro v rfl
  go_big_quiet_step (fail)
  refine wpQuiet_nil ?_
  refine Fresh.wpG_q rfl ?_
  go_big_quiet_step (fail)
  refine wpQuiet_nil ?_
  refine Fresh.wpG_q rfl ?_
  go_big_quiet_step (fail)
  refine wpQuiet_nil ?_
  refine Fresh.wpG_call #[.agg #[.int .i64 a2_Num, .int .i64 a2_Den]] rfl Try.func22 (by kernel_rfl) (by kernel_rfl) rfl ⟨_, rfl⟩ (fun X hd => ?_) ?_
  · have hX := X.bel.size
    refine (FracLaws.to_c a2_Num a2_Den X.w).mono ?_
    rintro e w8 ⟨rfl, hb⟩
    exact ⟨_, rfl, hb, rfl, by omega, rfl⟩
  rintro v rfl
  go_big_quiet_step (fail)
  refine wpQuiet_nil ?_
  refine Fresh.wpG_call #[.agg #[.int .i64 a0_Kind, .int .i64 a0_Rate, .int .i64 a0_Cap], .int .i64 a1, .agg #[.int .i64 a2_Num, .int .i64 a2_Den]] rfl Try.func21 (by kernel_rfl) (by kernel_rfl) rfl ⟨_, rfl⟩ (fun X hd => ?_) ?_
  · have hX := X.bel.size
    refine (AccruS.accr_s X.w a0_Kind a0_Rate a0_Cap a1 a2_Num a2_Den).mono ?_
    rintro e w8 ⟨rfl, hb⟩
    rw [HF0_0.out, HF0_1.out, HF1.out]
    exact ⟨_, rfl, hb, rfl, by omega, rfl⟩
  rintro v rfl
  go_big_quiet_step (fail)
  refine wpQuiet_nil ?_
  refine Fresh.wpG_q rfl ?_
  go_big_quiet_step (fail)
  refine wpQuiet_nil ?_
  refine Fresh.wpG_q rfl ?_
  go_big_quiet_step (fail)
  refine wpQuiet_nil ?_
  refine Fresh.wpG_q rfl ?_
  go_big_quiet_step (fail)
  refine wpQuiet_nil ?_
  refine Fresh.wpG_own rfl ⟨_, W1.heap.size, Nat.le_refl _, rfl⟩ (fun X _ => ?_) ?_
  · go_simp
    have hX := X.bel.size
    exact ⟨_, _, ⟨rfl, rfl⟩, by (repeat (first | exact Below.refl _ _ | apply BelowKit.bl_alloc | apply BelowKit.bl_drewN | apply BelowKit.bl_drew | (refine BelowKit.bl_set ?_ _ ?_; rotate_left; (first | omega | (simp; omega) | simp)) | (refine BelowKit.bl_trans ?_ (‹Hid (Below _ _ _)›).out))), ⟨_, hX, rfl⟩, hX, rfl, by simp, by simp [go_sem], by simp [go_sem], by simp [go_sem], by simp [go_sem]⟩
  rintro v ⟨g10, hg10, rfl⟩
  go_big_quiet_step (fail)
  refine wpQuiet_nil ?_
  refine Fresh.wpG_store rfl rfl (fun X hd => ?_) ?_
  · obtain ⟨_, _, w7, ⟨_, eg, hg, hc0, hf0, hc1, hf1⟩, _, hb7⟩ := hd ⟨9, .data⟩ (by simp) rfl rfl
    have eg' : (Value.pointer (some ⟨g10, 0, none⟩)) = .pointer (some ⟨_, 0, none⟩) := eg
    cases eg'
    have q0 := ((BelowKit.bcell hb7).1 g10 0 (by omega)).trans hc0
    have r0 := ((BelowKit.bcell hb7).2 g10 0 (by omega)).trans hf0
    have q1 := ((BelowKit.bcell hb7).1 g10 1 (by omega)).trans hc1
    have r1 := ((BelowKit.bcell hb7).2 g10 1 (by omega)).trans hf1
    refine ⟨⟨(X.w.setCell ⟨g10, 0, none⟩ (.int .i64 m0_0)).setCell ⟨g10, 1, none⟩ (.int .i64 m0_1), BelowKit.bl_set (BelowKit.bl_set (X.bel) (a := ⟨g10, 0, none⟩) _ hg10) (a := ⟨g10, 1, none⟩) _ hg10⟩, ?_⟩
    go_simp
    rfl
  refine Fresh.wpG_q rfl ?_
  go_big_quiet_step (fail)
  refine wpQuiet_nil ?_
  refine Fresh.wpG_nil fun X1 X sN1 tN1 hk hrun => ?_
  have hXs := X1.bel.size
  obtain ⟨⟨w7, ⟨hlo7, eg, hg7, hc0, hf0, hc1, hf1⟩, ht7, hb7⟩, st7, hl7⟩ := hk.1 9 (by decide) rfl
  have eg' : (Value.pointer (some ⟨g10, 0, none⟩)) = .pointer (some ⟨sN1 9, 0, none⟩) := eg
  obtain rfl : g10 = sN1 9 := by simpa using eg'
  clear eg eg'
  have q0 := ((BelowKit.bcell hb7).1 (sN1 9) 0 (by omega)).trans hc0
  have r0 := ((BelowKit.bcell hb7).2 (sN1 9) 0 (by omega)).trans hf0
  have q1 := ((BelowKit.bcell hb7).1 (sN1 9) 1 (by omega)).trans hc1
  have r1 := ((BelowKit.bcell hb7).2 (sN1 9) 1 (by omega)).trans hf1
  have hX : X.w = (X1.w.setCell ⟨sN1 9, 0, none⟩ (.int .i64 m0_0)).setCell ⟨sN1 9, 1, none⟩ (.int .i64 m0_1) := by
    simp [go_sem, q0, r0, q1, r1] at hrun
    exact hrun.symm
  have c12 : X.w.cell? ⟨sN1 9, 0, none⟩ = some (.int .i64 m0_0) := by rw [hX]; simp [go_sem, q0]
  have c13 : X.w.cell? ⟨sN1 9, 1, none⟩ = some (.int .i64 m0_1) := by rw [hX]; simp [go_sem, q1]
  have z14 : sN1 9 < X.w.heap.size := by rw [hX]; simp; omega
  have hbX := X.bel
  obtain ⟨w11, hU⟩ : ∃ U : World, U = X.w := ⟨_, rfl⟩
  rw [← hU] at hbX c12 c13 z14 ⊢
  have tj : tN1 9 = sN1 9 + 1 := by rw [← ht7, hg7]
  have tj1 : tN1 9 ≤ sN1 9 + 1 := by omega
  have tj2 : sN1 9 + 1 ≤ tN1 9 := by omega
  have lo7 : W1.heap.size ≤ sN1 9 := hlo7
  clear hk hU hXs gc2 gc3 gc4 gc6 gc7 hrun hX hb7 hl7 tj ht7 hg7 hlo7 hc0 hc1 hf0 hf1 q0 q1 r0 r1
  have sw11 : W1.heap.size ≤ w11.heap.size := hbX.size
  have c15 : w11.cell? ⟨w.heap.size, 0, none⟩ = some (.int .i64 a0_Kind) := ((BelowKit.bcell hbX).1 _ _ z5).trans c2
  have c16 : w11.cell? ⟨w.heap.size, 1, none⟩ = some (.int .i64 a0_Rate) := ((BelowKit.bcell hbX).1 _ _ z5).trans c3
  have c17 : w11.cell? ⟨w.heap.size, 2, none⟩ = some (.int .i64 a0_Cap) := ((BelowKit.bcell hbX).1 _ _ z5).trans c4
  have z18 : w.heap.size < w11.heap.size := by omega
  have c19 : w11.cell? ⟨w.heap.size + 1, 0, none⟩ = some (.int .i64 a2_Num) := ((BelowKit.bcell hbX).1 _ _ z8).trans c6
  have c20 : w11.cell? ⟨w.heap.size + 1, 1, none⟩ = some (.int .i64 a2_Den) := ((BelowKit.bcell hbX).1 _ _ z8).trans c7
  have z21 : w.heap.size + 1 < w11.heap.size := by omega
  have HC22 := Lib.hid (BelowKit.bl_trans HC9.out hbX)
  clear c2 c3 c4 z5 c6 c7 z8 HC9 hbX
  have pz14 := z14
  go_wp2_with fail
  have gc15 := Grown.G.keep c15 z18
  have gc16 := Grown.G.keep c16 z18
  have gc17 := Grown.G.keep c17 z18
  have gc19 := Grown.G.keep c19 z21
  have gc20 := Grown.G.keep c20 z21
  have gc12 := Grown.G.keep c12 z14
  have gc13 := Grown.G.keep c13 z14
  refine Fresh.wp_region_store (fun k => match k with | 1 => .grow | 4 => .grow | 5 => .grow | 9 => .grow | 10 => .write | _ => .quiet)
    (fun k v => match k with
          | 1 => (v = .agg #[.int .i64 a0_Kind, .int .i64 a0_Rate, .int .i64 a0_Cap])
          | 4 => (v = .agg #[.int .i64 a2_Num, .int .i64 a2_Den])
          | 5 => (v = .tuple #[.agg #[.int .i64 m0_0, .int .i64 m0_1], .bool m1])
          | 9 => (∃ g : Nat, w11.heap.size ≤ g ∧ v = .pointer (some ⟨g, 0, none⟩))
          | _ => v = undef)
    (fun k v s w1 => match k with
          | 1 => (w11.heap.size ≤ s ∧ v = .agg #[.int .i64 a0_Kind, .int .i64 a0_Rate, .int .i64 a0_Cap])
          | 4 => (w11.heap.size ≤ s ∧ v = .agg #[.int .i64 a2_Num, .int .i64 a2_Den])
          | 5 => (w11.heap.size ≤ s ∧ v = .tuple #[.agg #[.int .i64 m0_0, .int .i64 m0_1], .bool m1])
          | 9 => (w11.heap.size ≤ s ∧ v = .pointer (some ⟨s, 0, none⟩) ∧ w1.heap.size = s + 1 ∧ w1.cell? ⟨s, 0, none⟩ = some (.int .i64 0) ∧ w1.frozen? ⟨s, 0, none⟩ = false ∧ w1.cell? ⟨s, 1, none⟩ = some (.int .i64 0) ∧ w1.frozen? ⟨s, 1, none⟩ = false)
          | _ => True)
    10 (by kernel_rfl) (by kernel_rfl) (by kernel_rfl) rfl (of_decide_eq_true (by kernel_rfl)) (by kernel_rfl) ?_
  refine Fresh.wpG_q rfl ?_
  go_big_quiet_step (fail)
  refine wpQuiet_nil ?_
  refine Fresh.wpG_call #[.agg #[.int .i64 a0_Kind, .int .i64 a0_Rate, .int .i64 a0_Cap]] rfl Try.func20 (by kernel_rfl) (by kernel_rfl) rfl ⟨_, rfl⟩ (fun X hd => ?_) ?_
  · have hX := X.bel.size
    refine (TDesign.to1 ⟨a0_Kind, a0_Rate, a0_Cap⟩ X.w).mono ?_
    rintro e w8 ⟨rfl, hb⟩
    exact ⟨_, rfl, hb, rfl, by omega, rfl⟩
  rintro v rfl
  go_big_quiet_step (fail)
  refine wpQuiet_nil ?_
  refine Fresh.wpG_q rfl ?_
  go_big_quiet_step (fail)
  refine wpQuiet_nil ?_
  refine Fresh.wpG_q rfl ?_
  go_big_quiet_step (fail)
  refine wpQuiet_nil ?_
  refine Fresh.wpG_call #[.agg #[.int .i64 a2_Num, .int .i64 a2_Den]] rfl Try.func22 (by kernel_rfl) (by kernel_rfl) rfl ⟨_, rfl⟩ (fun X hd => ?_) ?_
  · have hX := X.bel.size
    refine (FracLaws.to_c a2_Num a2_Den X.w).mono ?_
    rintro e w8 ⟨rfl, hb⟩
    exact ⟨_, rfl, hb, rfl, by omega, rfl⟩
  rintro v rfl
  go_big_quiet_step (fail)
  refine wpQuiet_nil ?_
  refine Fresh.wpG_call #[.agg #[.int .i64 a0_Kind, .int .i64 a0_Rate, .int .i64 a0_Cap], .int .i64 a1, .agg #[.int .i64 a2_Num, .int .i64 a2_Den]] rfl Try.func13 (by kernel_rfl) (by kernel_rfl) rfl ⟨_, rfl⟩ (fun X hd => ?_) ?_
  · have hX := X.bel.size
    refine (AccruI.accr_i X.w a0_Kind a0_Rate a0_Cap a1 a2_Num a2_Den).mono ?_
    rintro e w8 ⟨rfl, hb⟩
    rw [HF0_0.out, HF0_1.out, HF1.out]
    exact ⟨_, rfl, hb, rfl, by omega, rfl⟩
  rintro v rfl
  go_big_quiet_step (fail)
  refine wpQuiet_nil ?_
  refine Fresh.wpG_q rfl ?_
  go_big_quiet_step (fail)
  refine wpQuiet_nil ?_
  refine Fresh.wpG_q rfl ?_
  go_big_quiet_step (fail)
  refine wpQuiet_nil ?_
  refine Fresh.wpG_q rfl ?_
  go_big_quiet_step (fail)
  refine wpQuiet_nil ?_
  refine Fresh.wpG_own rfl ⟨_, w11.heap.size, Nat.le_refl _, rfl⟩ (fun X _ => ?_) ?_
  · go_simp
    have hX := X.bel.size
    exact ⟨_, _, ⟨rfl, rfl⟩, by (repeat (first | exact Below.refl _ _ | apply BelowKit.bl_alloc | apply BelowKit.bl_drewN | apply BelowKit.bl_drew | (refine BelowKit.bl_set ?_ _ ?_; rotate_left; (first | omega | (simp; omega) | simp)) | (refine BelowKit.bl_trans ?_ (‹Hid (Below _ _ _)›).out))), ⟨_, hX, rfl⟩, hX, rfl, by simp, by simp [go_sem], by simp [go_sem], by simp [go_sem], by simp [go_sem]⟩
  rintro v ⟨g25, hg25, rfl⟩
  go_big_quiet_step (fail)
  refine wpQuiet_nil ?_
  refine Fresh.wpG_store rfl rfl (fun X hd => ?_) ?_
  · obtain ⟨_, _, w7, ⟨_, eg, hg, hc0, hf0, hc1, hf1⟩, _, hb7⟩ := hd ⟨9, .data⟩ (by simp) rfl rfl
    have eg' : (Value.pointer (some ⟨g25, 0, none⟩)) = .pointer (some ⟨_, 0, none⟩) := eg
    cases eg'
    have q0 := ((BelowKit.bcell hb7).1 g25 0 (by omega)).trans hc0
    have r0 := ((BelowKit.bcell hb7).2 g25 0 (by omega)).trans hf0
    have q1 := ((BelowKit.bcell hb7).1 g25 1 (by omega)).trans hc1
    have r1 := ((BelowKit.bcell hb7).2 g25 1 (by omega)).trans hf1
    refine ⟨⟨(X.w.setCell ⟨g25, 0, none⟩ (.int .i64 m0_0)).setCell ⟨g25, 1, none⟩ (.int .i64 m0_1), BelowKit.bl_set (BelowKit.bl_set (X.bel) (a := ⟨g25, 0, none⟩) _ hg25) (a := ⟨g25, 1, none⟩) _ hg25⟩, ?_⟩
    go_simp
    rfl
  refine Fresh.wpG_q rfl ?_
  go_big_quiet_step (fail)
  refine wpQuiet_nil ?_
  refine Fresh.wpG_nil fun X1 X sN2 tN2 hk hrun => ?_
  have hXs := X1.bel.size
  obtain ⟨⟨w7, ⟨hlo7, eg, hg7, hc0, hf0, hc1, hf1⟩, ht7, hb7⟩, st7, hl7⟩ := hk.1 9 (by decide) rfl
  have eg' : (Value.pointer (some ⟨g25, 0, none⟩)) = .pointer (some ⟨sN2 9, 0, none⟩) := eg
  obtain rfl : g25 = sN2 9 := by simpa using eg'
  clear eg eg'
  have q0 := ((BelowKit.bcell hb7).1 (sN2 9) 0 (by omega)).trans hc0
  have r0 := ((BelowKit.bcell hb7).2 (sN2 9) 0 (by omega)).trans hf0
  have q1 := ((BelowKit.bcell hb7).1 (sN2 9) 1 (by omega)).trans hc1
  have r1 := ((BelowKit.bcell hb7).2 (sN2 9) 1 (by omega)).trans hf1
  have hX : X.w = (X1.w.setCell ⟨sN2 9, 0, none⟩ (.int .i64 m0_0)).setCell ⟨sN2 9, 1, none⟩ (.int .i64 m0_1) := by
    simp [go_sem, q0, r0, q1, r1] at hrun
    exact hrun.symm
  have c27 : X.w.cell? ⟨sN2 9, 0, none⟩ = some (.int .i64 m0_0) := by rw [hX]; simp [go_sem, q0]
  have c28 : X.w.cell? ⟨sN2 9, 1, none⟩ = some (.int .i64 m0_1) := by rw [hX]; simp [go_sem, q1]
  have z29 : sN2 9 < X.w.heap.size := by rw [hX]; simp; omega
  have hbX := X.bel
  obtain ⟨w26, hU⟩ : ∃ U : World, U = X.w := ⟨_, rfl⟩
  rw [← hU] at hbX c27 c28 z29 ⊢
  have tj : tN2 9 = sN2 9 + 1 := by rw [← ht7, hg7]
  have tj1 : tN2 9 ≤ sN2 9 + 1 := by omega
  have tj2 : sN2 9 + 1 ≤ tN2 9 := by omega
  have lo7 : w11.heap.size ≤ sN2 9 := hlo7
  clear hk hU hXs gc15 gc16 gc17 gc19 gc20 gc12 gc13 hrun hX hb7 hl7 tj ht7 hg7 hlo7 hc0 hc1 hf0 hf1 q0 q1 r0 r1
  have sw26 : w11.heap.size ≤ w26.heap.size := hbX.size
  have c30 : w26.cell? ⟨w.heap.size, 0, none⟩ = some (.int .i64 a0_Kind) := ((BelowKit.bcell hbX).1 _ _ z18).trans c15
  have c31 : w26.cell? ⟨w.heap.size, 1, none⟩ = some (.int .i64 a0_Rate) := ((BelowKit.bcell hbX).1 _ _ z18).trans c16
  have c32 : w26.cell? ⟨w.heap.size, 2, none⟩ = some (.int .i64 a0_Cap) := ((BelowKit.bcell hbX).1 _ _ z18).trans c17
  have z33 : w.heap.size < w26.heap.size := by omega
  have c34 : w26.cell? ⟨w.heap.size + 1, 0, none⟩ = some (.int .i64 a2_Num) := ((BelowKit.bcell hbX).1 _ _ z21).trans c19
  have c35 : w26.cell? ⟨w.heap.size + 1, 1, none⟩ = some (.int .i64 a2_Den) := ((BelowKit.bcell hbX).1 _ _ z21).trans c20
  have z36 : w.heap.size + 1 < w26.heap.size := by omega
  have c37 : w26.cell? ⟨sN1 9, 0, none⟩ = some (.int .i64 m0_0) := ((BelowKit.bcell hbX).1 _ _ z14).trans c12
  have c38 : w26.cell? ⟨sN1 9, 1, none⟩ = some (.int .i64 m0_1) := ((BelowKit.bcell hbX).1 _ _ z14).trans c13
  have z39 : sN1 9 < w26.heap.size := by omega
  have HC40 := Lib.hid (BelowKit.bl_trans HC22.out hbX)
  clear c15 c16 c17 z18 c19 c20 z21 c12 c13 z14 HC22 hbX
  have pz29 := z29
  go_wp2_with fail
  refine (FracLaws.eq_yes m0_0 m0_1 w26).mono ?_
  rintro e w43 ⟨rfl, hb⟩
  have sw43 : w26.heap.size ≤ w43.heap.size := hb.size
  have c44 : w43.cell? ⟨w.heap.size, 0, none⟩ = some (.int .i64 a0_Kind) := ((BelowKit.bcell hb).1 _ _ z33).trans c30
  have c45 : w43.cell? ⟨w.heap.size, 1, none⟩ = some (.int .i64 a0_Rate) := ((BelowKit.bcell hb).1 _ _ z33).trans c31
  have c46 : w43.cell? ⟨w.heap.size, 2, none⟩ = some (.int .i64 a0_Cap) := ((BelowKit.bcell hb).1 _ _ z33).trans c32
  have z47 : w.heap.size < w43.heap.size := by omega
  have c48 : w43.cell? ⟨w.heap.size + 1, 0, none⟩ = some (.int .i64 a2_Num) := ((BelowKit.bcell hb).1 _ _ z36).trans c34
  have c49 : w43.cell? ⟨w.heap.size + 1, 1, none⟩ = some (.int .i64 a2_Den) := ((BelowKit.bcell hb).1 _ _ z36).trans c35
  have z50 : w.heap.size + 1 < w43.heap.size := by omega
  have c51 : w43.cell? ⟨sN1 9, 0, none⟩ = some (.int .i64 m0_0) := ((BelowKit.bcell hb).1 _ _ z39).trans c37
  have c52 : w43.cell? ⟨sN1 9, 1, none⟩ = some (.int .i64 m0_1) := ((BelowKit.bcell hb).1 _ _ z39).trans c38
  have z53 : sN1 9 < w43.heap.size := by omega
  have c54 : w43.cell? ⟨sN2 9, 0, none⟩ = some (.int .i64 m0_0) := ((BelowKit.bcell hb).1 _ _ z29).trans c27
  have c55 : w43.cell? ⟨sN2 9, 1, none⟩ = some (.int .i64 m0_1) := ((BelowKit.bcell hb).1 _ _ z29).trans c28
  have z56 : sN2 9 < w43.heap.size := by omega
  have HC57 := Lib.hid (BelowKit.bl_trans HC40.out hb)
  clear c30 c31 c32 z33 c34 c35 z36 c37 c38 z39 c27 c28 z29 HC40 hb
  go_wp2
  go_ret
  exact ⟨rfl, by (repeat (first | exact Below.refl _ _ | apply BelowKit.bl_alloc | apply BelowKit.bl_drewN | apply BelowKit.bl_drew | (refine BelowKit.bl_set ?_ _ ?_; rotate_left; (first | omega | (simp; omega) | simp)) | (refine BelowKit.bl_trans ?_ (‹Hid (Below _ _ _)›).out)))⟩

/-! ### THE ROW's STEP -/
set_option maxRecDepth 100000 in
theorem lifted (os : Os) (started : os.Started) (H : Type) (enc : TypeId × Value → H) :
    ReturnsInHanded {} Try.checked os 7 .any (Rows.fnExactAccruedSpec.pre6 enc Try.prog Try.f7 Rows.fnExactAccruedRow.domain false) (Rows.fnExactAccruedSpec.post enc Try.prog Try.f7 false true false false) := by
  refine returnsInHanded_of_change (C := Try.checked) own started (by kernel_rfl) Try.func7
    (ChangeSpec.witness6 (enc := enc) (C := Try.checked) false ⟨#[], #[.agg #[.int .i64 0, .int .i64 0, .int .i64 0], .int .i64 0, .agg #[.int .i64 0, .int .i64 0]], []⟩ 8 (by kernel_rfl) (by kernel_rfl) (by kernel_rfl) (by kernel_rfl)) ?_
  intro W base args ds gs before hval0 hW hcnd _
  have hval : ∀ (j : Nat) t v, Try.f7.params[j]? = some t → args[j]? = some v → Value.okWide Try.prog W .any base t v := hval0
  have hW' := hW
  obtain ⟨p, q, hA0, hV, rfl, hfz, hnd⟩ := hW
  have hA : DataW.TrodAll enc Try.prog W 0 (fun _ => true) true Try.f7.params.toList args.toList ds p := hA0
  rw [Try.params7] at hA hval
  obtain ⟨v0, vs0, d0, ds0, p0, q0, hargs, rfl, rfl, h0, r0⟩ := trodAll_cons hA
  obtain ⟨v1, vs1, d1, ds1, p1, q1, rfl, rfl, rfl, h1, r1⟩ := trodAll_cons r0
  obtain ⟨v2, vs2, d2, ds2, p2, q2, rfl, rfl, rfl, h2, r2⟩ := trodAll_cons r1
  obtain ⟨rfl, rfl, rfl⟩ := trodAll_nil r2
  obtain rfl : args = #[v0, v1, v2] := by cases args; simp_all
  obtain ⟨rfl, rfl⟩ := trodVars_none hV
  have k0 := h0
  have lt0 : ∀ x ∈ p0, x.block < W.heap.size := by obtain ⟨m, hm⟩ := k0; exact DataW.trod_lt m _ _ _ hm
  obtain ⟨⟨l0⟩, rfl, _⟩ := okWide_struct Try.underlying38 (hval 0 38 v0 rfl rfl)
  have s0 : Shape.FitL W [.int .i64, .int .i64, .int .i64] l0 := by
    obtain ⟨fu, hfu⟩ := h0
    exact Shape.trod_fit 8 38 _ (by kernel_rfl) _ _ _ hfu
  obtain ⟨a0_Kind, r0, rfl, w0_Kind, s0⟩ := Shape.fit_int s0
  obtain ⟨a0_Rate, r0, rfl, w0_Rate, s0⟩ := Shape.fit_int s0
  obtain ⟨a0_Cap, r0, rfl, w0_Cap, s0⟩ := Shape.fit_int s0
  obtain rfl := Shape.fit_nil s0
  obtain ⟨a1, rfl, rfl, rfl, w1⟩ := open_int Try.underlying3 (hval 1 3 v1 rfl rfl) h1
  have k2 := h2
  have lt2 : ∀ x ∈ p2, x.block < W.heap.size := by obtain ⟨m, hm⟩ := k2; exact DataW.trod_lt m _ _ _ hm
  obtain ⟨⟨l2⟩, rfl, _⟩ := okWide_struct Try.underlying41 (hval 2 41 v2 rfl rfl)
  have s2 : Shape.FitL W [.int .i64, .int .i64] l2 := by
    obtain ⟨fu, hfu⟩ := h2
    exact Shape.trod_fit 8 41 _ (by kernel_rfl) _ _ _ hfu
  obtain ⟨a2_Num, r2, rfl, w2_Num, s2⟩ := Shape.fit_int s2
  obtain ⟨a2_Den, r2, rfl, w2_Den, s2⟩ := Shape.fit_int s2
  obtain rfl := Shape.fit_nil s2
  clear hA0 hval0
  refine (walk a0_Kind a0_Rate a0_Cap a1 a2_Num a2_Den W w0_Kind w0_Rate w0_Cap w1 w2_Num w2_Den).mono fun e W' ⟨he, bel⟩ => ?_
  subst he
  exact ⟨_, rfl, _, _, _, [], _, [], hW', trodAll_mk1 (shut_bool Try.underlying4 _), (trodAll_cons_mk (Below.trod laidOut (by kernel_rfl) (of_decide_eq_true (by kernel_rfl)) k0 bel lt0) (trodAll_cons_mk (shut_int Try.underlying3 w1) (trodAll_cons_mk (Below.trod laidOut (by kernel_rfl) (of_decide_eq_true (by kernel_rfl)) k2 bel lt2) trodAll_mk0))), rfl, bel.frame _, fun h => by cases h⟩

theorem over : Rows.fnExactAccruedRow.holds Try.pinned (OpenSpec.ofChange Rows.fnExactAccruedSpec) :=
  OpenClaim.holds_of_wide 7 Try.f7 rfl rfl rfl rfl rfl rfl rfl ⟨rfl, rfl, rfl, rfl, rfl⟩ rfl rfl rfl rfl rfl (by kernel_rfl) Try.func7 (by kernel_rfl)
    (of_decide_eq_true (by kernel_rfl)) (by unfold Func.isWrapper; first | (rw [if_pos (by decide +kernel)]; kernel_rfl) | (rw [if_neg (by decide +kernel)]; exact ⟨rfl, rfl⟩))
    (fun os started H enc _ => lifted os started H enc)

theorem proved : Rows.FnExactAccruedSaid := over
#print axioms proved
end Go.Proofs.Ythhjnffbafmkpaa.fnExactAccrued
