/- Proves the given statement of the law FnExactDesignOk: for every input that the row lets in, the law's Go function returns true and every argument reads as before; no condition of mine. -/
import Derived.Test.YthhjnffbafmkpaaAccruS
import Derived.Test.YthhjnffbafmkpaaAccruI
import Derived.Test.YthhjnffbafmkpaaTDesign
import Derived.Test.YthhjnffbafmkpaaFracLaws
import Derived.Test.YthhjnffbafmkpaaKit
import Derived.Test.YthhjnffbafmkpaaRows
import Derived.WalkKit
import Derived.ProofKit
import Derived.OpenShut
import Derived.ShutString
import Derived.ChangeOld
import Derived.Below
import Derived.Deep.RegionHeld3
import Derived.Deep.DeepCutAuto
import Derived.Lib.Hide
import Derived.Lib.SmallJoins
namespace Go.Proofs.Ythhjnffbafmkpaa.fnExactDesignOk
open Go.ChangeShapes Go.WideShapes Go.ChangeAt Go.RowKit
open Go.ChangeMaps (open_string shut_string)
set_option linter.unusedVariables false

theorem own : ownKnob Try.prog.godebug = none := by kernel_rfl
theorem laidOut : laidOutB Try.prog = true := by kernel_rfl

/-! ### STEP 1: the walk -/
set_option maxHeartbeats 8000000 in
theorem walk (a0_Kind : Int) (a0_Rate : Int) (a0_Cap : Int) (w : World) (w0_Kind : (Lit.int .i64 a0_Kind).wf = true) (w0_Rate : (Lit.int .i64 a0_Rate).wf = true) (w0_Cap : (Lit.int .i64 a0_Cap).wf = true) :
    Calls Try.prog 6 #[.agg #[.int .i64 a0_Kind, .int .i64 a0_Rate, .int .i64 a0_Cap]] w fun e w' => e = .returned (.bool true) ∧ Below w.heap.size w w' := by
  obtain ⟨m0, hm0⟩ : ∃ v, AccruMath.okD a0_Kind a0_Rate a0_Cap = v := ⟨_, rfl⟩
  have HF0 := Lib.hid hm0
  clear hm0
  go_enter Try.func6, Try.ntmps6
  go_wp2_with fail
  obtain ⟨W1, hW1⟩ : ∃ V : World, V = w.alloc (.cells #[.int .i64 a0_Kind, .int .i64 a0_Rate, .int .i64 a0_Cap] 38) := ⟨_, rfl⟩
  rw [← hW1]
  have hb : Below w.heap.size w W1 := by rw [hW1]; (repeat (first | exact Below.refl _ _ | apply BelowKit.bl_alloc | apply BelowKit.bl_drewN | apply BelowKit.bl_drew | (refine BelowKit.bl_set ?_ _ ?_; rotate_left; (first | omega | (simp; omega) | simp)) | (refine BelowKit.bl_trans ?_ (‹Hid (Below _ _ _)›).out)))
  have tW1 : w.heap.size + 1 ≤ W1.heap.size := by rw [hW1]; simp
  have uW1 : W1.heap.size ≤ w.heap.size + 1 := by rw [hW1]; simp
  have c2 : W1.cell? ⟨w.heap.size, 0, none⟩ = some (.int .i64 a0_Kind) := by rw [hW1]; simp [go_sem]
  have c3 : W1.cell? ⟨w.heap.size, 1, none⟩ = some (.int .i64 a0_Rate) := by rw [hW1]; simp [go_sem]
  have c4 : W1.cell? ⟨w.heap.size, 2, none⟩ = some (.int .i64 a0_Cap) := by rw [hW1]; simp [go_sem]
  have z5 : w.heap.size < W1.heap.size := by omega
  clear hW1
  have sW1 : w.heap.size ≤ W1.heap.size := hb.size
  have HC6 := Lib.hid hb
  clear hb
  refine (TDesign.to1 ⟨a0_Kind, a0_Rate, a0_Cap⟩ W1).mono ?_
  rintro e w7 ⟨rfl, hb⟩
  unfold TDesign.fv
  have sw7 : W1.heap.size ≤ w7.heap.size := hb.size
  have c8 : w7.cell? ⟨w.heap.size, 0, none⟩ = some (.int .i64 a0_Kind) := ((BelowKit.bcell hb).1 _ _ z5).trans c2
  have c9 : w7.cell? ⟨w.heap.size, 1, none⟩ = some (.int .i64 a0_Rate) := ((BelowKit.bcell hb).1 _ _ z5).trans c3
  have c10 : w7.cell? ⟨w.heap.size, 2, none⟩ = some (.int .i64 a0_Cap) := ((BelowKit.bcell hb).1 _ _ z5).trans c4
  have z11 : w.heap.size < w7.heap.size := by omega
  have HC12 := Lib.hid (BelowKit.bl_trans HC6.out hb)
  clear c2 c3 c4 z5 HC6 hb
  go_wp2_with fail
  refine (AccruS.design_s w7 a0_Kind a0_Rate a0_Cap).mono ?_
  rintro e w13 ⟨rfl, hb⟩
  rw [HF0.out]
  have sw13 : w7.heap.size ≤ w13.heap.size := hb.size
  have c14 : w13.cell? ⟨w.heap.size, 0, none⟩ = some (.int .i64 a0_Kind) := ((BelowKit.bcell hb).1 _ _ z11).trans c8
  have c15 : w13.cell? ⟨w.heap.size, 1, none⟩ = some (.int .i64 a0_Rate) := ((BelowKit.bcell hb).1 _ _ z11).trans c9
  have c16 : w13.cell? ⟨w.heap.size, 2, none⟩ = some (.int .i64 a0_Cap) := ((BelowKit.bcell hb).1 _ _ z11).trans c10
  have z17 : w.heap.size < w13.heap.size := by omega
  have HC18 := Lib.hid (BelowKit.bl_trans HC12.out hb)
  clear c8 c9 c10 z11 HC12 hb
  go_wp2_with fail
  refine (TDesign.to1 ⟨a0_Kind, a0_Rate, a0_Cap⟩ w13).mono ?_
  rintro e w19 ⟨rfl, hb⟩
  unfold TDesign.fv
  have sw19 : w13.heap.size ≤ w19.heap.size := hb.size
  have c20 : w19.cell? ⟨w.heap.size, 0, none⟩ = some (.int .i64 a0_Kind) := ((BelowKit.bcell hb).1 _ _ z17).trans c14
  have c21 : w19.cell? ⟨w.heap.size, 1, none⟩ = some (.int .i64 a0_Rate) := ((BelowKit.bcell hb).1 _ _ z17).trans c15
  have c22 : w19.cell? ⟨w.heap.size, 2, none⟩ = some (.int .i64 a0_Cap) := ((BelowKit.bcell hb).1 _ _ z17).trans c16
  have z23 : w.heap.size < w19.heap.size := by omega
  have HC24 := Lib.hid (BelowKit.bl_trans HC18.out hb)
  clear c14 c15 c16 z17 HC18 hb
  go_wp2_with fail
  refine (AccruI.design_i w19 a0_Kind a0_Rate a0_Cap).mono ?_
  rintro e w25 ⟨rfl, hb⟩
  rw [HF0.out]
  have sw25 : w19.heap.size ≤ w25.heap.size := hb.size
  have c26 : w25.cell? ⟨w.heap.size, 0, none⟩ = some (.int .i64 a0_Kind) := ((BelowKit.bcell hb).1 _ _ z23).trans c20
  have c27 : w25.cell? ⟨w.heap.size, 1, none⟩ = some (.int .i64 a0_Rate) := ((BelowKit.bcell hb).1 _ _ z23).trans c21
  have c28 : w25.cell? ⟨w.heap.size, 2, none⟩ = some (.int .i64 a0_Cap) := ((BelowKit.bcell hb).1 _ _ z23).trans c22
  have z29 : w.heap.size < w25.heap.size := by omega
  have HC30 := Lib.hid (BelowKit.bl_trans HC24.out hb)
  clear c20 c21 c22 z23 HC24 hb
  go_wp2
  go_ret
  exact ⟨rfl, by (repeat (first | exact Below.refl _ _ | apply BelowKit.bl_alloc | apply BelowKit.bl_drewN | apply BelowKit.bl_drew | (refine BelowKit.bl_set ?_ _ ?_; rotate_left; (first | omega | (simp; omega) | simp)) | (refine BelowKit.bl_trans ?_ (‹Hid (Below _ _ _)›).out)))⟩

/-! ### THE ROW's STEP -/
set_option maxRecDepth 100000 in
theorem lifted (os : Os) (started : os.Started) (H : Type) (enc : TypeId × Value → H) :
    ReturnsInHanded {} Try.checked os 6 .any (Rows.fnExactDesignOkSpec.pre6 enc Try.prog Try.f6 Rows.fnExactDesignOkRow.domain false) (Rows.fnExactDesignOkSpec.post enc Try.prog Try.f6 false true false false) := by
  refine returnsInHanded_of_change (C := Try.checked) own started (by kernel_rfl) Try.func6
    (ChangeSpec.witness6 (enc := enc) (C := Try.checked) false ⟨#[], #[.agg #[.int .i64 0, .int .i64 0, .int .i64 0]], []⟩ 8 (by kernel_rfl) (by kernel_rfl) (by kernel_rfl) (by kernel_rfl)) ?_
  intro W base args ds gs before hval0 hW hcnd _
  have hval : ∀ (j : Nat) t v, Try.f6.params[j]? = some t → args[j]? = some v → Value.okWide Try.prog W .any base t v := hval0
  have hW' := hW
  obtain ⟨p, q, hA0, hV, rfl, hfz, hnd⟩ := hW
  have hA : DataW.TrodAll enc Try.prog W 0 (fun _ => true) true Try.f6.params.toList args.toList ds p := hA0
  rw [Try.params6] at hA hval
  obtain ⟨v0, vs0, d0, ds0, p0, q0, hargs, rfl, rfl, h0, r0⟩ := trodAll_cons hA
  obtain ⟨rfl, rfl, rfl⟩ := trodAll_nil r0
  obtain rfl : args = #[v0] := by cases args; simp_all
  obtain ⟨rfl, rfl⟩ := trodVars_none hV
  have k0 := h0
  have lt0 : ∀ x ∈ p0, x.block < W.heap.size := by obtain ⟨m, hm⟩ := k0; exact DataW.trod_lt m _ _ _ hm
  obtain ⟨⟨l0⟩, rfl, _⟩ := okWide_struct Try.underlying38 (hval 0 38 v0 rfl rfl)
  have s0 : Shape.FitL W [.int .i64, .int .i64, .int .i64] l0 := by
    obtain ⟨fu, hfu⟩ := h0
    exact Shape.trod_fit 8 38 _ (by kernel_rfl) _ _ _ hfu
  obtain ⟨a0_Kind, r0, rfl, w0_Kind, s0⟩ := Shape.fit_int s0
  obtain ⟨a0_Rate, r0, rfl, w0_Rate, s0⟩ := Shape.fit_int s0
  obtain ⟨a0_Cap, r0, rfl, w0_Cap, s0⟩ := Shape.fit_int s0
  obtain rfl := Shape.fit_nil s0
  clear hA0 hval0
  refine (walk a0_Kind a0_Rate a0_Cap W w0_Kind w0_Rate w0_Cap).mono fun e W' ⟨he, bel⟩ => ?_
  subst he
  exact ⟨_, rfl, _, _, _, [], _, [], hW', trodAll_mk1 (shut_bool Try.underlying4 _), (trodAll_cons_mk (Below.trod laidOut (by kernel_rfl) (of_decide_eq_true (by kernel_rfl)) k0 bel lt0) trodAll_mk0), rfl, bel.frame _, fun h => by cases h⟩

theorem over : Rows.fnExactDesignOkRow.holds Try.pinned (OpenSpec.ofChange Rows.fnExactDesignOkSpec) :=
  OpenClaim.holds_of_wide 6 Try.f6 rfl rfl rfl rfl rfl rfl rfl ⟨rfl, rfl, rfl, rfl, rfl⟩ rfl rfl rfl rfl rfl (by kernel_rfl) Try.func6 (by kernel_rfl)
    (of_decide_eq_true (by kernel_rfl)) (by unfold Func.isWrapper; first | (rw [if_pos (by decide +kernel)]; kernel_rfl) | (rw [if_neg (by decide +kernel)]; exact ⟨rfl, rfl⟩))
    (fun os started H enc _ => lifted os started H enc)

theorem proved : Rows.FnExactDesignOkSaid := over
#print axioms proved
end Go.Proofs.Ythhjnffbafmkpaa.fnExactDesignOk
