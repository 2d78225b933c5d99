/- Proves the given statement of the law FnExactNodeOk: for every input that the row lets in, the law's Go function returns true and every argument reads as before; no condition of mine. -/
import Derived.Test.YtlljhcfiojfimaaNodeS
import Derived.Test.YtlljhcfiojfimaaFormS
import Derived.Test.YtlljhcfiojfimaaEvalS
import Derived.Test.YtlljhcfiojfimaaVarsS
import Derived.Test.YtlljhcfiojfimaaFracLaws
import Derived.Test.YtlljhcfiojfimaaNodeI
import Derived.Test.YtlljhcfiojfimaaFormI
import Derived.Test.YtlljhcfiojfimaaEvalI
import Derived.Test.YtlljhcfiojfimaaOwn
import Derived.Test.YtlljhcfiojfimaaFresh
import Derived.Test.YtlljhcfiojfimaaGrown
import Derived.Test.YtlljhcfiojfimaaBelowKit
import Derived.Test.YtlljhcfiojfimaaTNode
import Derived.Test.YtlljhcfiojfimaaTBool
import Derived.Test.YtlljhcfiojfimaaNodeMath
import Derived.Test.YtlljhcfiojfimaaRows
import Derived.WalkKit
import Derived.ProofKit
import Derived.OpenShut
import Derived.ShutString
import Derived.ChangeOld
import Derived.Below
import Derived.Deep.RegionHeld3
import Derived.Deep.DeepCutAuto
import Derived.Lib.Hide
import Derived.Lib.SmallJoins
import Derived.Test.YtlljhcfiojfimaaShape
namespace Go.Proofs.Ytlljhcfiojfimaa.fnExactNodeOk
open Go.ChangeShapes Go.WideShapes Go.ChangeAt Go.RowKit
open Go.ChangeMaps (open_string shut_string)
set_option linter.unusedVariables false

theorem own : ownKnob Try.prog.godebug = none := by kernel_rfl
theorem laidOut : laidOutB Try.prog = true := by kernel_rfl

/-! ### STEP 1: the walk -/
set_option maxHeartbeats 4000000 in
theorem walk (a0_Kind : Int) (a0_A : Int) (a0_B : Int) (a0_C : Int) (a0_Value_Num : Int) (a0_Value_Den : Int) (a1 : Int) (w : World) (w0_Kind : (Lit.int .i64 a0_Kind).wf = true) (w0_A : (Lit.int .i64 a0_A).wf = true) (w0_B : (Lit.int .i64 a0_B).wf = true) (w0_C : (Lit.int .i64 a0_C).wf = true) (w0_Value_Num : (Lit.int .i64 a0_Value_Num).wf = true) (w0_Value_Den : (Lit.int .i64 a0_Value_Den).wf = true) (w1 : (Lit.int .i64 a1).wf = true) :
    Calls Try.prog 5 #[.agg #[.int .i64 a0_Kind, .int .i64 a0_A, .int .i64 a0_B, .int .i64 a0_C, .int .i64 a0_Value_Num, .int .i64 a0_Value_Den], .int .i64 a1] w fun e w' => e = .returned (.bool true) ∧ Below w.heap.size w w' := by
  obtain ⟨m0, hm0⟩ : ∃ v, NodeMath.okN ⟨a0_Kind, a0_A, a0_B, a0_C, a0_Value_Num, a0_Value_Den⟩ a1 = v := ⟨_, rfl⟩
  have HF0 := Lib.hid hm0
  clear hm0
  go_enter Try.func5, Try.ntmps5
  go_wp2_with fail
  obtain ⟨W1, hW1⟩ : ∃ V : World, V = w.alloc (.cells #[.int .i64 a0_Kind, .int .i64 a0_A, .int .i64 a0_B, .int .i64 a0_C, .int .i64 a0_Value_Num, .int .i64 a0_Value_Den] 44) := ⟨_, rfl⟩
  rw [← hW1]
  have hb : Below w.heap.size w W1 := by rw [hW1]; (repeat (first | exact Below.refl _ _ | apply BelowKit.bl_alloc | apply BelowKit.bl_drewN | apply BelowKit.bl_drew | (refine BelowKit.bl_set ?_ _ ?_; rotate_left; (first | omega | (simp; omega) | simp)) | (refine BelowKit.bl_trans ?_ (‹Hid (Below _ _ _)›).out)))
  have tW1 : w.heap.size + 1 ≤ W1.heap.size := by rw [hW1]; simp
  have uW1 : W1.heap.size ≤ w.heap.size + 1 := by rw [hW1]; simp
  have c2 : W1.cell? ⟨w.heap.size, 0, none⟩ = some (.int .i64 a0_Kind) := by rw [hW1]; simp [go_sem]
  have c3 : W1.cell? ⟨w.heap.size, 1, none⟩ = some (.int .i64 a0_A) := by rw [hW1]; simp [go_sem]
  have c4 : W1.cell? ⟨w.heap.size, 2, none⟩ = some (.int .i64 a0_B) := by rw [hW1]; simp [go_sem]
  have c5 : W1.cell? ⟨w.heap.size, 3, none⟩ = some (.int .i64 a0_C) := by rw [hW1]; simp [go_sem]
  have c6 : W1.cell? ⟨w.heap.size, 4, none⟩ = some (.int .i64 a0_Value_Num) := by rw [hW1]; simp [go_sem]
  have c7 : W1.cell? ⟨w.heap.size, 5, none⟩ = some (.int .i64 a0_Value_Den) := by rw [hW1]; simp [go_sem]
  have z8 : w.heap.size < W1.heap.size := by omega
  clear hW1
  have sW1 : w.heap.size ≤ W1.heap.size := hb.size
  have HC9 := Lib.hid hb
  clear hb
  refine (TNode.to1 ⟨a0_Kind, a0_A, a0_B, a0_C, a0_Value_Num, a0_Value_Den⟩ W1).mono ?_
  rintro e w10 ⟨rfl, hb⟩
  unfold TNode.fv
  have sw10 : W1.heap.size ≤ w10.heap.size := hb.size
  have c11 : w10.cell? ⟨w.heap.size, 0, none⟩ = some (.int .i64 a0_Kind) := ((BelowKit.bcell hb).1 _ _ z8).trans c2
  have c12 : w10.cell? ⟨w.heap.size, 1, none⟩ = some (.int .i64 a0_A) := ((BelowKit.bcell hb).1 _ _ z8).trans c3
  have c13 : w10.cell? ⟨w.heap.size, 2, none⟩ = some (.int .i64 a0_B) := ((BelowKit.bcell hb).1 _ _ z8).trans c4
  have c14 : w10.cell? ⟨w.heap.size, 3, none⟩ = some (.int .i64 a0_C) := ((BelowKit.bcell hb).1 _ _ z8).trans c5
  have c15 : w10.cell? ⟨w.heap.size, 4, none⟩ = some (.int .i64 a0_Value_Num) := ((BelowKit.bcell hb).1 _ _ z8).trans c6
  have c16 : w10.cell? ⟨w.heap.size, 5, none⟩ = some (.int .i64 a0_Value_Den) := ((BelowKit.bcell hb).1 _ _ z8).trans c7
  have z17 : w.heap.size < w10.heap.size := by omega
  have HC18 := Lib.hid (BelowKit.bl_trans HC9.out hb)
  clear c2 c3 c4 c5 c6 c7 z8 HC9 hb
  go_wp2_with fail
  refine (NodeS.node_s w10 ⟨a0_Kind, a0_A, a0_B, a0_C, a0_Value_Num, a0_Value_Den⟩ a1).mono ?_
  rintro e w19 ⟨rfl, hb⟩
  rw [HF0.out]
  have sw19 : w10.heap.size ≤ w19.heap.size := hb.size
  have c20 : w19.cell? ⟨w.heap.size, 0, none⟩ = some (.int .i64 a0_Kind) := ((BelowKit.bcell hb).1 _ _ z17).trans c11
  have c21 : w19.cell? ⟨w.heap.size, 1, none⟩ = some (.int .i64 a0_A) := ((BelowKit.bcell hb).1 _ _ z17).trans c12
  have c22 : w19.cell? ⟨w.heap.size, 2, none⟩ = some (.int .i64 a0_B) := ((BelowKit.bcell hb).1 _ _ z17).trans c13
  have c23 : w19.cell? ⟨w.heap.size, 3, none⟩ = some (.int .i64 a0_C) := ((BelowKit.bcell hb).1 _ _ z17).trans c14
  have c24 : w19.cell? ⟨w.heap.size, 4, none⟩ = some (.int .i64 a0_Value_Num) := ((BelowKit.bcell hb).1 _ _ z17).trans c15
  have c25 : w19.cell? ⟨w.heap.size, 5, none⟩ = some (.int .i64 a0_Value_Den) := ((BelowKit.bcell hb).1 _ _ z17).trans c16
  have z26 : w.heap.size < w19.heap.size := by omega
  have HC27 := Lib.hid (BelowKit.bl_trans HC18.out hb)
  clear c11 c12 c13 c14 c15 c16 z17 HC18 hb
  go_wp2_with fail
  refine (TNode.to1 ⟨a0_Kind, a0_A, a0_B, a0_C, a0_Value_Num, a0_Value_Den⟩ w19).mono ?_
  rintro e w28 ⟨rfl, hb⟩
  unfold TNode.fv
  have sw28 : w19.heap.size ≤ w28.heap.size := hb.size
  have c29 : w28.cell? ⟨w.heap.size, 0, none⟩ = some (.int .i64 a0_Kind) := ((BelowKit.bcell hb).1 _ _ z26).trans c20
  have c30 : w28.cell? ⟨w.heap.size, 1, none⟩ = some (.int .i64 a0_A) := ((BelowKit.bcell hb).1 _ _ z26).trans c21
  have c31 : w28.cell? ⟨w.heap.size, 2, none⟩ = some (.int .i64 a0_B) := ((BelowKit.bcell hb).1 _ _ z26).trans c22
  have c32 : w28.cell? ⟨w.heap.size, 3, none⟩ = some (.int .i64 a0_C) := ((BelowKit.bcell hb).1 _ _ z26).trans c23
  have c33 : w28.cell? ⟨w.heap.size, 4, none⟩ = some (.int .i64 a0_Value_Num) := ((BelowKit.bcell hb).1 _ _ z26).trans c24
  have c34 : w28.cell? ⟨w.heap.size, 5, none⟩ = some (.int .i64 a0_Value_Den) := ((BelowKit.bcell hb).1 _ _ z26).trans c25
  have z35 : w.heap.size < w28.heap.size := by omega
  have HC36 := Lib.hid (BelowKit.bl_trans HC27.out hb)
  clear c20 c21 c22 c23 c24 c25 z26 HC27 hb
  go_wp2_with fail
  refine (NodeI.node_i w28 ⟨a0_Kind, a0_A, a0_B, a0_C, a0_Value_Num, a0_Value_Den⟩ a1).mono ?_
  rintro e w37 ⟨rfl, hb⟩
  rw [HF0.out]
  have sw37 : w28.heap.size ≤ w37.heap.size := hb.size
  have c38 : w37.cell? ⟨w.heap.size, 0, none⟩ = some (.int .i64 a0_Kind) := ((BelowKit.bcell hb).1 _ _ z35).trans c29
  have c39 : w37.cell? ⟨w.heap.size, 1, none⟩ = some (.int .i64 a0_A) := ((BelowKit.bcell hb).1 _ _ z35).trans c30
  have c40 : w37.cell? ⟨w.heap.size, 2, none⟩ = some (.int .i64 a0_B) := ((BelowKit.bcell hb).1 _ _ z35).trans c31
  have c41 : w37.cell? ⟨w.heap.size, 3, none⟩ = some (.int .i64 a0_C) := ((BelowKit.bcell hb).1 _ _ z35).trans c32
  have c42 : w37.cell? ⟨w.heap.size, 4, none⟩ = some (.int .i64 a0_Value_Num) := ((BelowKit.bcell hb).1 _ _ z35).trans c33
  have c43 : w37.cell? ⟨w.heap.size, 5, none⟩ = some (.int .i64 a0_Value_Den) := ((BelowKit.bcell hb).1 _ _ z35).trans c34
  have z44 : w.heap.size < w37.heap.size := by omega
  have HC45 := Lib.hid (BelowKit.bl_trans HC36.out hb)
  clear c29 c30 c31 c32 c33 c34 z35 HC36 hb
  go_wp2
  go_ret
  exact ⟨rfl, by (repeat (first | exact Below.refl _ _ | apply BelowKit.bl_alloc | apply BelowKit.bl_drewN | apply BelowKit.bl_drew | (refine BelowKit.bl_set ?_ _ ?_; rotate_left; (first | omega | (simp; omega) | simp)) | (refine BelowKit.bl_trans ?_ (‹Hid (Below _ _ _)›).out)))⟩

/-! ### THE ROW's STEP -/
set_option maxRecDepth 100000 in
theorem lifted (os : Os) (started : os.Started) (H : Type) (enc : TypeId × Value → H) :
    ReturnsInHanded {} Try.checked os 5 .any (Rows.fnExactNodeOkSpec.pre6 enc Try.prog Try.f5 Rows.fnExactNodeOkRow.domain false) (Rows.fnExactNodeOkSpec.post enc Try.prog Try.f5 false true false false) := by
  refine returnsInHanded_of_change (C := Try.checked) own started (by kernel_rfl) Try.func5
    (ChangeSpec.witness6 (enc := enc) (C := Try.checked) false ⟨#[], #[.agg #[.int .i64 0, .int .i64 0, .int .i64 0, .int .i64 0, .int .i64 0, .int .i64 0], .int .i64 0], []⟩ 8 (by kernel_rfl) (by kernel_rfl) (by kernel_rfl) (by kernel_rfl)) ?_
  intro W base args ds gs before hval0 hW hcnd _
  have hval : ∀ (j : Nat) t v, Try.f5.params[j]? = some t → args[j]? = some v → Value.okWide Try.prog W .any base t v := hval0
  have hW' := hW
  obtain ⟨p, q, hA0, hV, rfl, hfz, hnd⟩ := hW
  have hA : DataW.TrodAll enc Try.prog W 0 (fun _ => true) true Try.f5.params.toList args.toList ds p := hA0
  rw [Try.params5] at hA hval
  obtain ⟨v0, vs0, d0, ds0, p0, q0, hargs, rfl, rfl, h0, r0⟩ := trodAll_cons hA
  obtain ⟨v1, vs1, d1, ds1, p1, q1, rfl, rfl, rfl, h1, r1⟩ := trodAll_cons r0
  obtain ⟨rfl, rfl, rfl⟩ := trodAll_nil r1
  obtain rfl : args = #[v0, v1] := by cases args; simp_all
  obtain ⟨rfl, rfl⟩ := trodVars_none hV
  have k0 := h0
  have lt0 : ∀ x ∈ p0, x.block < W.heap.size := by obtain ⟨m, hm⟩ := k0; exact DataW.trod_lt m _ _ _ hm
  obtain ⟨⟨l0⟩, rfl, _⟩ := okWide_struct Try.underlying44 (hval 0 44 v0 rfl rfl)
  have s0 : Shape.FitL W [.int .i64, .int .i64, .int .i64, .int .i64, .int .i64, .int .i64] l0 := by
    obtain ⟨fu, hfu⟩ := h0
    exact Shape.trod_fit 8 44 _ (by kernel_rfl) _ _ _ hfu
  obtain ⟨a0_Kind, r0, rfl, w0_Kind, s0⟩ := Shape.fit_int s0
  obtain ⟨a0_A, r0, rfl, w0_A, s0⟩ := Shape.fit_int s0
  obtain ⟨a0_B, r0, rfl, w0_B, s0⟩ := Shape.fit_int s0
  obtain ⟨a0_C, r0, rfl, w0_C, s0⟩ := Shape.fit_int s0
  obtain ⟨a0_Value_Num, r0, rfl, w0_Value_Num, s0⟩ := Shape.fit_int s0
  obtain ⟨a0_Value_Den, r0, rfl, w0_Value_Den, s0⟩ := Shape.fit_int s0
  obtain rfl := Shape.fit_nil s0
  obtain ⟨a1, rfl, rfl, rfl, w1⟩ := open_int Try.underlying3 (hval 1 3 v1 rfl rfl) h1
  clear hA0 hval0
  refine (walk a0_Kind a0_A a0_B a0_C a0_Value_Num a0_Value_Den a1 W w0_Kind w0_A w0_B w0_C w0_Value_Num w0_Value_Den w1).mono fun e W' ⟨he, bel⟩ => ?_
  subst he
  exact ⟨_, rfl, _, _, _, [], _, [], hW', trodAll_mk1 (shut_bool Try.underlying4 _), (trodAll_cons_mk (Below.trod laidOut (by kernel_rfl) (of_decide_eq_true (by kernel_rfl)) k0 bel lt0) (trodAll_cons_mk (shut_int Try.underlying3 w1) trodAll_mk0)), rfl, bel.frame _, fun h => by cases h⟩

theorem over : Rows.fnExactNodeOkRow.holds Try.pinned (OpenSpec.ofChange Rows.fnExactNodeOkSpec) :=
  OpenClaim.holds_of_wide 5 Try.f5 rfl rfl rfl rfl rfl rfl rfl ⟨rfl, rfl, rfl, rfl, rfl⟩ rfl rfl rfl rfl rfl (by kernel_rfl) Try.func5 (by kernel_rfl)
    (of_decide_eq_true (by kernel_rfl)) (by unfold Func.isWrapper; first | (rw [if_pos (by decide +kernel)]; kernel_rfl) | (rw [if_neg (by decide +kernel)]; exact ⟨rfl, rfl⟩))
    (fun os started H enc _ => lifted os started H enc)

theorem proved : Rows.FnExactNodeOkSaid := over
#print axioms proved
end Go.Proofs.Ytlljhcfiojfimaa.fnExactNodeOk
