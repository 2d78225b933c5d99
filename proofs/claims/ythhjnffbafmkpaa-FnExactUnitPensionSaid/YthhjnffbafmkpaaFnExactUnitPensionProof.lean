/- Proves the given statement of the law FnExactUnitPension: for every input that the row lets in, the law's Go function returns true and every argument reads as before; no condition of mine. -/
import Derived.Test.YthhjnffbafmkpaaAccruS
import Derived.Test.YthhjnffbafmkpaaAccruI
import Derived.Test.YthhjnffbafmkpaaTDesign
import Derived.Test.YthhjnffbafmkpaaFracLaws
import Derived.Test.YthhjnffbafmkpaaKit
import Derived.Test.YthhjnffbafmkpaaRows
import Derived.WalkKit
import Derived.ProofKit
import Derived.OpenShut
import Derived.ShutString
import Derived.ChangeOld
import Derived.Below
import Derived.Deep.RegionHeld3
import Derived.Deep.DeepCutAuto
import Derived.Lib.Hide
import Derived.Lib.SmallJoins
namespace Go.Proofs.Ythhjnffbafmkpaa.fnExactUnitPension
open Go.ChangeShapes Go.WideShapes Go.ChangeAt Go.RowKit
open Go.ChangeMaps (open_string shut_string)
set_option linter.unusedVariables false

theorem own : ownKnob Try.prog.godebug = none := by kernel_rfl
theorem laidOut : laidOutB Try.prog = true := by kernel_rfl

/-! ### STEP 1: the walk -/
set_option maxHeartbeats 8000000 in
theorem walk (a0_Kind : Int) (a0_Rate : Int) (a0_Cap : Int) (a1_Num : Int) (a1_Den : Int) (w : World) (w0_Kind : (Lit.int .i64 a0_Kind).wf = true) (w0_Rate : (Lit.int .i64 a0_Rate).wf = true) (w0_Cap : (Lit.int .i64 a0_Cap).wf = true) (w1_Num : (Lit.int .i64 a1_Num).wf = true) (w1_Den : (Lit.int .i64 a1_Den).wf = true) :
    Calls Try.prog 9 #[.agg #[.int .i64 a0_Kind, .int .i64 a0_Rate, .int .i64 a0_Cap], .agg #[.int .i64 a1_Num, .int .i64 a1_Den]] w fun e w' => e = .returned (.bool true) ∧ Below w.heap.size w w' := by
  obtain ⟨m0, hm0⟩ : ∃ v, (AccruMath.upen a0_Kind a0_Rate a0_Cap a1_Num a1_Den).1 = v := ⟨_, rfl⟩
  have HF0 := Lib.hid hm0
  clear hm0
  obtain ⟨m1, hm1⟩ : ∃ v, (AccruMath.upen a0_Kind a0_Rate a0_Cap a1_Num a1_Den).2 = v := ⟨_, rfl⟩
  have HF1 := Lib.hid hm1
  clear hm1
  go_enter Try.func9, Try.ntmps9
  go_wp2_with fail
  obtain ⟨W1, hW1⟩ : ∃ V : World, V = (w.alloc (.cells #[.int .i64 a0_Kind, .int .i64 a0_Rate, .int .i64 a0_Cap] 38)).alloc (.cells #[.int .i64 a1_Num, .int .i64 a1_Den] 41) := ⟨_, rfl⟩
  rw [← hW1]
  have hb : Below w.heap.size w W1 := by rw [hW1]; (repeat (first | exact Below.refl _ _ | apply BelowKit.bl_alloc | apply BelowKit.bl_drewN | apply BelowKit.bl_drew | (refine BelowKit.bl_set ?_ _ ?_; rotate_left; (first | omega | (simp; omega) | simp)) | (refine BelowKit.bl_trans ?_ (‹Hid (Below _ _ _)›).out)))
  have tW1 : w.heap.size + 2 ≤ W1.heap.size := by rw [hW1]; simp
  have uW1 : W1.heap.size ≤ w.heap.size + 2 := by rw [hW1]; simp
  have c2 : W1.cell? ⟨w.heap.size, 0, none⟩ = some (.int .i64 a0_Kind) := by rw [hW1]; simp [go_sem]
  have c3 : W1.cell? ⟨w.heap.size, 1, none⟩ = some (.int .i64 a0_Rate) := by rw [hW1]; simp [go_sem]
  have c4 : W1.cell? ⟨w.heap.size, 2, none⟩ = some (.int .i64 a0_Cap) := by rw [hW1]; simp [go_sem]
  have z5 : w.heap.size < W1.heap.size := by omega
  have c6 : W1.cell? ⟨w.heap.size + 1, 0, none⟩ = some (.int .i64 a1_Num) := by rw [hW1]; simp [go_sem]
  have c7 : W1.cell? ⟨w.heap.size + 1, 1, none⟩ = some (.int .i64 a1_Den) := by rw [hW1]; simp [go_sem]
  have z8 : w.heap.size + 1 < W1.heap.size := by omega
  clear hW1
  have sW1 : w.heap.size ≤ W1.heap.size := hb.size
  have HC9 := Lib.hid hb
  clear hb
  have gc2 := Grown.G.keep c2 z5
  have gc3 := Grown.G.keep c3 z5
  have gc4 := Grown.G.keep c4 z5
  have gc6 := Grown.G.keep c6 z8
  have gc7 := Grown.G.keep c7 z8
  refine Fresh.wp_region_grow (fun k => match k with | 1 => .grow | 3 => .grow | 4 => .grow | _ => .quiet)
    (fun k v => match k with
          | 1 => (v = .agg #[.int .i64 a0_Kind, .int .i64 a0_Rate, .int .i64 a0_Cap])
          | 3 => (v = .agg #[.int .i64 a1_Num, .int .i64 a1_Den])
          | 4 => (v = .tuple #[.int .i64 m0, .bool m1])
          | _ => v = undef)
    (fun k v s w1 => match k with
          | 1 => (W1.heap.size ≤ s ∧ v = .agg #[.int .i64 a0_Kind, .int .i64 a0_Rate, .int .i64 a0_Cap])
          | 3 => (W1.heap.size ≤ s ∧ v = .agg #[.int .i64 a1_Num, .int .i64 a1_Den])
          | 4 => (W1.heap.size ≤ s ∧ v = .tuple #[.int .i64 m0, .bool m1])
          | _ => True)
    (by kernel_rfl) (by kernel_rfl) (by kernel_rfl) (by kernel_rfl) ?_
  refine Fresh.wpG_q rfl ?_
  go_big_quiet_step (fail)
  refine wpQuiet_nil ?_
  refine Fresh.wpG_call #[.agg #[.int .i64 a0_Kind, .int .i64 a0_Rate, .int .i64 a0_Cap]] rfl Try.func20 (by kernel_rfl) (by kernel_rfl) rfl ⟨_, rfl⟩ (fun X hd => ?_) ?_
  · have hX := X.bel.size
    refine (TDesign.to1 ⟨a0_Kind, a0_Rate, a0_Cap⟩ X.w).mono ?_
    rintro e w8 ⟨rfl, hb⟩
    exact ⟨_, rfl, hb, rfl, by omega, rfl⟩
  rintro v rfl
  go_big_quiet_step (fail)
  refine wpQuiet_nil ?_
  refine Fresh.wpG_q rfl ?_
  go_big_quiet_step (fail)
  refine wpQuiet_nil ?_
  refine Fresh.wpG_call #[.agg #[.int .i64 a1_Num, .int .i64 a1_Den]] rfl Try.func22 (by kernel_rfl) (by kernel_rfl) rfl ⟨_, rfl⟩ (fun X hd => ?_) ?_
  · have hX := X.bel.size
    refine (FracLaws.to_c a1_Num a1_Den X.w).mono ?_
    rintro e w8 ⟨rfl, hb⟩
    exact ⟨_, rfl, hb, rfl, by omega, rfl⟩
  rintro v rfl
  go_big_quiet_step (fail)
  refine wpQuiet_nil ?_
  refine Fresh.wpG_call #[.agg #[.int .i64 a0_Kind, .int .i64 a0_Rate, .int .i64 a0_Cap], .agg #[.int .i64 a1_Num, .int .i64 a1_Den]] rfl Try.func25 (by kernel_rfl) (by kernel_rfl) rfl ⟨_, rfl⟩ (fun X hd => ?_) ?_
  · have hX := X.bel.size
    refine (AccruS.pen_s X.w a0_Kind a0_Rate a0_Cap a1_Num a1_Den).mono ?_
    rintro e w8 ⟨rfl, hb⟩
    rw [HF0.out, HF1.out]
    exact ⟨_, rfl, hb, rfl, by omega, rfl⟩
  rintro v rfl
  go_big_quiet_step (fail)
  refine wpQuiet_nil ?_
  refine Fresh.wpG_q rfl ?_
  go_big_quiet_step (fail)
  refine wpQuiet_nil ?_
  refine Fresh.wpG_q rfl ?_
  go_big_quiet_step (fail)
  refine wpQuiet_nil ?_
  refine Fresh.wpG_q rfl ?_
  go_big_quiet_step (fail)
  refine wpQuiet_nil ?_
  refine Fresh.wpG_q rfl ?_
  go_big_quiet_step (fail)
  refine wpQuiet_nil ?_
  refine Fresh.wpG_q rfl ?_
  go_big_quiet_step (fail)
  refine wpQuiet_nil ?_
  refine Fresh.wpG_nil fun X sN1 tN1 hk => ?_
  have hXs := X.bel.size
  have hbX := X.bel
  obtain ⟨w10, hU⟩ : ∃ U : World, U = X.w := ⟨_, rfl⟩
  rw [← hU] at hbX  ⊢
  clear hk hU hXs gc2 gc3 gc4 gc6 gc7
  have sw10 : W1.heap.size ≤ w10.heap.size := hbX.size
  have c11 : w10.cell? ⟨w.heap.size, 0, none⟩ = some (.int .i64 a0_Kind) := ((BelowKit.bcell hbX).1 _ _ z5).trans c2
  have c12 : w10.cell? ⟨w.heap.size, 1, none⟩ = some (.int .i64 a0_Rate) := ((BelowKit.bcell hbX).1 _ _ z5).trans c3
  have c13 : w10.cell? ⟨w.heap.size, 2, none⟩ = some (.int .i64 a0_Cap) := ((BelowKit.bcell hbX).1 _ _ z5).trans c4
  have z14 : w.heap.size < w10.heap.size := by omega
  have c15 : w10.cell? ⟨w.heap.size + 1, 0, none⟩ = some (.int .i64 a1_Num) := ((BelowKit.bcell hbX).1 _ _ z8).trans c6
  have c16 : w10.cell? ⟨w.heap.size + 1, 1, none⟩ = some (.int .i64 a1_Den) := ((BelowKit.bcell hbX).1 _ _ z8).trans c7
  have z17 : w.heap.size + 1 < w10.heap.size := by omega
  have HC18 := Lib.hid (BelowKit.bl_trans HC9.out hbX)
  clear c2 c3 c4 z5 c6 c7 z8 HC9 hbX
  go_wp2_with fail
  have gc11 := Grown.G.keep c11 z14
  have gc12 := Grown.G.keep c12 z14
  have gc13 := Grown.G.keep c13 z14
  have gc15 := Grown.G.keep c15 z17
  have gc16 := Grown.G.keep c16 z17
  refine Fresh.wp_region_grow (fun k => match k with | 1 => .grow | 3 => .grow | 4 => .grow | _ => .quiet)
    (fun k v => match k with
          | 1 => (v = .agg #[.int .i64 a0_Kind, .int .i64 a0_Rate, .int .i64 a0_Cap])
          | 3 => (v = .agg #[.int .i64 a1_Num, .int .i64 a1_Den])
          | 4 => (v = .tuple #[.int .i64 m0, .bool m1])
          | _ => v = undef)
    (fun k v s w1 => match k with
          | 1 => (w10.heap.size ≤ s ∧ v = .agg #[.int .i64 a0_Kind, .int .i64 a0_Rate, .int .i64 a0_Cap])
          | 3 => (w10.heap.size ≤ s ∧ v = .agg #[.int .i64 a1_Num, .int .i64 a1_Den])
          | 4 => (w10.heap.size ≤ s ∧ v = .tuple #[.int .i64 m0, .bool m1])
          | _ => True)
    (by kernel_rfl) (by kernel_rfl) (by kernel_rfl) (by kernel_rfl) ?_
  refine Fresh.wpG_q rfl ?_
  go_big_quiet_step (fail)
  refine wpQuiet_nil ?_
  refine Fresh.wpG_call #[.agg #[.int .i64 a0_Kind, .int .i64 a0_Rate, .int .i64 a0_Cap]] rfl Try.func20 (by kernel_rfl) (by kernel_rfl) rfl ⟨_, rfl⟩ (fun X hd => ?_) ?_
  · have hX := X.bel.size
    refine (TDesign.to1 ⟨a0_Kind, a0_Rate, a0_Cap⟩ X.w).mono ?_
    rintro e w8 ⟨rfl, hb⟩
    exact ⟨_, rfl, hb, rfl, by omega, rfl⟩
  rintro v rfl
  go_big_quiet_step (fail)
  refine wpQuiet_nil ?_
  refine Fresh.wpG_q rfl ?_
  go_big_quiet_step (fail)
  refine wpQuiet_nil ?_
  refine Fresh.wpG_call #[.agg #[.int .i64 a1_Num, .int .i64 a1_Den]] rfl Try.func22 (by kernel_rfl) (by kernel_rfl) rfl ⟨_, rfl⟩ (fun X hd => ?_) ?_
  · have hX := X.bel.size
    refine (FracLaws.to_c a1_Num a1_Den X.w).mono ?_
    rintro e w8 ⟨rfl, hb⟩
    exact ⟨_, rfl, hb, rfl, by omega, rfl⟩
  rintro v rfl
  go_big_quiet_step (fail)
  refine wpQuiet_nil ?_
  refine Fresh.wpG_call #[.agg #[.int .i64 a0_Kind, .int .i64 a0_Rate, .int .i64 a0_Cap], .agg #[.int .i64 a1_Num, .int .i64 a1_Den]] rfl Try.func18 (by kernel_rfl) (by kernel_rfl) rfl ⟨_, rfl⟩ (fun X hd => ?_) ?_
  · have hX := X.bel.size
    refine (AccruI.pen_i X.w a0_Kind a0_Rate a0_Cap a1_Num a1_Den).mono ?_
    rintro e w8 ⟨rfl, hb⟩
    rw [HF0.out, HF1.out]
    exact ⟨_, rfl, hb, rfl, by omega, rfl⟩
  rintro v rfl
  go_big_quiet_step (fail)
  refine wpQuiet_nil ?_
  refine Fresh.wpG_q rfl ?_
  go_big_quiet_step (fail)
  refine wpQuiet_nil ?_
  refine Fresh.wpG_q rfl ?_
  go_big_quiet_step (fail)
  refine wpQuiet_nil ?_
  refine Fresh.wpG_q rfl ?_
  go_big_quiet_step (fail)
  refine wpQuiet_nil ?_
  refine Fresh.wpG_q rfl ?_
  go_big_quiet_step (fail)
  refine wpQuiet_nil ?_
  refine Fresh.wpG_q rfl ?_
  go_big_quiet_step (fail)
  refine wpQuiet_nil ?_
  refine Fresh.wpG_nil fun X sN2 tN2 hk => ?_
  have hXs := X.bel.size
  have hbX := X.bel
  obtain ⟨w21, hU⟩ : ∃ U : World, U = X.w := ⟨_, rfl⟩
  rw [← hU] at hbX  ⊢
  clear hk hU hXs gc11 gc12 gc13 gc15 gc16
  have sw21 : w10.heap.size ≤ w21.heap.size := hbX.size
  have c22 : w21.cell? ⟨w.heap.size, 0, none⟩ = some (.int .i64 a0_Kind) := ((BelowKit.bcell hbX).1 _ _ z14).trans c11
  have c23 : w21.cell? ⟨w.heap.size, 1, none⟩ = some (.int .i64 a0_Rate) := ((BelowKit.bcell hbX).1 _ _ z14).trans c12
  have c24 : w21.cell? ⟨w.heap.size, 2, none⟩ = some (.int .i64 a0_Cap) := ((BelowKit.bcell hbX).1 _ _ z14).trans c13
  have z25 : w.heap.size < w21.heap.size := by omega
  have c26 : w21.cell? ⟨w.heap.size + 1, 0, none⟩ = some (.int .i64 a1_Num) := ((BelowKit.bcell hbX).1 _ _ z17).trans c15
  have c27 : w21.cell? ⟨w.heap.size + 1, 1, none⟩ = some (.int .i64 a1_Den) := ((BelowKit.bcell hbX).1 _ _ z17).trans c16
  have z28 : w.heap.size + 1 < w21.heap.size := by omega
  have HC29 := Lib.hid (BelowKit.bl_trans HC18.out hbX)
  clear c11 c12 c13 z14 c15 c16 z17 HC18 hbX
  go_wp2
  go_ret
  exact ⟨rfl, by (repeat (first | exact Below.refl _ _ | apply BelowKit.bl_alloc | apply BelowKit.bl_drewN | apply BelowKit.bl_drew | (refine BelowKit.bl_set ?_ _ ?_; rotate_left; (first | omega | (simp; omega) | simp)) | (refine BelowKit.bl_trans ?_ (‹Hid (Below _ _ _)›).out)))⟩

/-! ### THE ROW's STEP -/
set_option maxRecDepth 100000 in
theorem lifted (os : Os) (started : os.Started) (H : Type) (enc : TypeId × Value → H) :
    ReturnsInHanded {} Try.checked os 9 .any (Rows.fnExactUnitPensionSpec.pre6 enc Try.prog Try.f9 Rows.fnExactUnitPensionRow.domain false) (Rows.fnExactUnitPensionSpec.post enc Try.prog Try.f9 false true false false) := by
  refine returnsInHanded_of_change (C := Try.checked) own started (by kernel_rfl) Try.func9
    (ChangeSpec.witness6 (enc := enc) (C := Try.checked) false ⟨#[], #[.agg #[.int .i64 0, .int .i64 0, .int .i64 0], .agg #[.int .i64 0, .int .i64 0]], []⟩ 8 (by kernel_rfl) (by kernel_rfl) (by kernel_rfl) (by kernel_rfl)) ?_
  intro W base args ds gs before hval0 hW hcnd _
  have hval : ∀ (j : Nat) t v, Try.f9.params[j]? = some t → args[j]? = some v → Value.okWide Try.prog W .any base t v := hval0
  have hW' := hW
  obtain ⟨p, q, hA0, hV, rfl, hfz, hnd⟩ := hW
  have hA : DataW.TrodAll enc Try.prog W 0 (fun _ => true) true Try.f9.params.toList args.toList ds p := hA0
  rw [Try.params9] at hA hval
  obtain ⟨v0, vs0, d0, ds0, p0, q0, hargs, rfl, rfl, h0, r0⟩ := trodAll_cons hA
  obtain ⟨v1, vs1, d1, ds1, p1, q1, rfl, rfl, rfl, h1, r1⟩ := trodAll_cons r0
  obtain ⟨rfl, rfl, rfl⟩ := trodAll_nil r1
  obtain rfl : args = #[v0, v1] := by cases args; simp_all
  obtain ⟨rfl, rfl⟩ := trodVars_none hV
  have k0 := h0
  have lt0 : ∀ x ∈ p0, x.block < W.heap.size := by obtain ⟨m, hm⟩ := k0; exact DataW.trod_lt m _ _ _ hm
  obtain ⟨⟨l0⟩, rfl, _⟩ := okWide_struct Try.underlying38 (hval 0 38 v0 rfl rfl)
  have s0 : Shape.FitL W [.int .i64, .int .i64, .int .i64] l0 := by
    obtain ⟨fu, hfu⟩ := h0
    exact Shape.trod_fit 8 38 _ (by kernel_rfl) _ _ _ hfu
  obtain ⟨a0_Kind, r0, rfl, w0_Kind, s0⟩ := Shape.fit_int s0
  obtain ⟨a0_Rate, r0, rfl, w0_Rate, s0⟩ := Shape.fit_int s0
  obtain ⟨a0_Cap, r0, rfl, w0_Cap, s0⟩ := Shape.fit_int s0
  obtain rfl := Shape.fit_nil s0
  have k1 := h1
  have lt1 : ∀ x ∈ p1, x.block < W.heap.size := by obtain ⟨m, hm⟩ := k1; exact DataW.trod_lt m _ _ _ hm
  obtain ⟨⟨l1⟩, rfl, _⟩ := okWide_struct Try.underlying41 (hval 1 41 v1 rfl rfl)
  have s1 : Shape.FitL W [.int .i64, .int .i64] l1 := by
    obtain ⟨fu, hfu⟩ := h1
    exact Shape.trod_fit 8 41 _ (by kernel_rfl) _ _ _ hfu
  obtain ⟨a1_Num, r1, rfl, w1_Num, s1⟩ := Shape.fit_int s1
  obtain ⟨a1_Den, r1, rfl, w1_Den, s1⟩ := Shape.fit_int s1
  obtain rfl := Shape.fit_nil s1
  clear hA0 hval0
  refine (walk a0_Kind a0_Rate a0_Cap a1_Num a1_Den W w0_Kind w0_Rate w0_Cap w1_Num w1_Den).mono fun e W' ⟨he, bel⟩ => ?_
  subst he
  exact ⟨_, rfl, _, _, _, [], _, [], hW', trodAll_mk1 (shut_bool Try.underlying4 _), (trodAll_cons_mk (Below.trod laidOut (by kernel_rfl) (of_decide_eq_true (by kernel_rfl)) k0 bel lt0) (trodAll_cons_mk (Below.trod laidOut (by kernel_rfl) (of_decide_eq_true (by kernel_rfl)) k1 bel lt1) trodAll_mk0)), rfl, bel.frame _, fun h => by cases h⟩

theorem over : Rows.fnExactUnitPensionRow.holds Try.pinned (OpenSpec.ofChange Rows.fnExactUnitPensionSpec) :=
  OpenClaim.holds_of_wide 9 Try.f9 rfl rfl rfl rfl rfl rfl rfl ⟨rfl, rfl, rfl, rfl, rfl⟩ rfl rfl rfl rfl rfl (by kernel_rfl) Try.func9 (by kernel_rfl)
    (of_decide_eq_true (by kernel_rfl)) (by unfold Func.isWrapper; first | (rw [if_pos (by decide +kernel)]; kernel_rfl) | (rw [if_neg (by decide +kernel)]; exact ⟨rfl, rfl⟩))
    (fun os started H enc _ => lifted os started H enc)

theorem proved : Rows.FnExactUnitPensionSaid := over
#print axioms proved
end Go.Proofs.Ythhjnffbafmkpaa.fnExactUnitPension
