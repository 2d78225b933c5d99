/- Proves the given statement of the law FnExactGrowAccount: for every input that the row lets in, the law's Go function returns true and every argument reads as before; no condition of mine. -/
import Derived.Test.YthhjnffbafmkpaaAccruS
import Derived.Test.YthhjnffbafmkpaaAccruI
import Derived.Test.YthhjnffbafmkpaaTDesign
import Derived.Test.YthhjnffbafmkpaaFracLaws
import Derived.Test.YthhjnffbafmkpaaKit
import Derived.Test.YthhjnffbafmkpaaRows
import Derived.WalkKit
import Derived.ProofKit
import Derived.OpenShut
import Derived.ShutString
import Derived.ChangeOld
import Derived.Below
import Derived.Deep.RegionHeld3
import Derived.Deep.DeepCutAuto
import Derived.Lib.Hide
import Derived.Lib.SmallJoins
namespace Go.Proofs.Ythhjnffbafmkpaa.fnExactGrowAccount
open Go.ChangeShapes Go.WideShapes Go.ChangeAt Go.RowKit
open Go.ChangeMaps (open_string shut_string)
set_option linter.unusedVariables false

theorem own : ownKnob Try.prog.godebug = none := by kernel_rfl
theorem laidOut : laidOutB Try.prog = true := by kernel_rfl

/-! ### STEP 1: the walk -/
set_option maxHeartbeats 8000000 in
theorem walk (a0_Kind : Int) (a0_Rate : Int) (a0_Cap : Int) (a1 : Int) (a2 : Int) (a3 : Int) (w : World) (w0_Kind : (Lit.int .i64 a0_Kind).wf = true) (w0_Rate : (Lit.int .i64 a0_Rate).wf = true) (w0_Cap : (Lit.int .i64 a0_Cap).wf = true) (w1 : (Lit.int .i64 a1).wf = true) (w2 : (Lit.int .i64 a2).wf = true) (w3 : (Lit.int .i64 a3).wf = true) :
    Calls Try.prog 10 #[.agg #[.int .i64 a0_Kind, .int .i64 a0_Rate, .int .i64 a0_Cap], .int .i64 a1, .int .i64 a2, .int .i64 a3] w fun e w' => e = .returned (.bool true) ∧ Below w.heap.size w w' := by
  obtain ⟨m0, hm0⟩ : ∃ v, AccruMath.grow a0_Kind a0_Rate a0_Cap a1 a2 a3 = v := ⟨_, rfl⟩
  have HF0 := Lib.hid hm0
  clear hm0
  go_enter Try.func10, Try.ntmps10
  go_wp2_with fail
  obtain ⟨W1, hW1⟩ : ∃ V : World, V = w.alloc (.cells #[.int .i64 a0_Kind, .int .i64 a0_Rate, .int .i64 a0_Cap] 38) := ⟨_, rfl⟩
  rw [← hW1]
  have hb : Below w.heap.size w W1 := by rw [hW1]; (repeat (first | exact Below.refl _ _ | apply BelowKit.bl_alloc | apply BelowKit.bl_drewN | apply BelowKit.bl_drew | (refine BelowKit.bl_set ?_ _ ?_; rotate_left; (first | omega | (simp; omega) | simp)) | (refine BelowKit.bl_trans ?_ (‹Hid (Below _ _ _)›).out)))
  have tW1 : w.heap.size + 1 ≤ W1.heap.size := by rw [hW1]; simp
  have uW1 : W1.heap.size ≤ w.heap.size + 1 := by rw [hW1]; simp
  have c2 : W1.cell? ⟨w.heap.size, 0, none⟩ = some (.int .i64 a0_Kind) := by rw [hW1]; simp [go_sem]
  have c3 : W1.cell? ⟨w.heap.size, 1, none⟩ = some (.int .i64 a0_Rate) := by rw [hW1]; simp [go_sem]
  have c4 : W1.cell? ⟨w.heap.size, 2, none⟩ = some (.int .i64 a0_Cap) := by rw [hW1]; simp [go_sem]
  have z5 : w.heap.size < W1.heap.size := by omega
  clear hW1
  have sW1 : w.heap.size ≤ W1.heap.size := hb.size
  have HC6 := Lib.hid hb
  clear hb
  refine (TDesign.to1 ⟨a0_Kind, a0_Rate, a0_Cap⟩ W1).mono ?_
  rintro e w7 ⟨rfl, hb⟩
  unfold TDesign.fv
  have sw7 : W1.heap.size ≤ w7.heap.size := hb.size
  have c8 : w7.cell? ⟨w.heap.size, 0, none⟩ = some (.int .i64 a0_Kind) := ((BelowKit.bcell hb).1 _ _ z5).trans c2
  have c9 : w7.cell? ⟨w.heap.size, 1, none⟩ = some (.int .i64 a0_Rate) := ((BelowKit.bcell hb).1 _ _ z5).trans c3
  have c10 : w7.cell? ⟨w.heap.size, 2, none⟩ = some (.int .i64 a0_Cap) := ((BelowKit.bcell hb).1 _ _ z5).trans c4
  have z11 : w.heap.size < w7.heap.size := by omega
  have HC12 := Lib.hid (BelowKit.bl_trans HC6.out hb)
  clear c2 c3 c4 z5 HC6 hb
  go_wp2_with fail
  refine (AccruS.grow_s w7 a0_Kind a0_Rate a0_Cap a1 a2 a3).mono ?_
  rintro e w13 ⟨rfl, hb⟩
  rw [HF0.out]
  have sw13 : w7.heap.size ≤ w13.heap.size := hb.size
  have c14 : w13.cell? ⟨w.heap.size, 0, none⟩ = some (.int .i64 a0_Kind) := ((BelowKit.bcell hb).1 _ _ z11).trans c8
  have c15 : w13.cell? ⟨w.heap.size, 1, none⟩ = some (.int .i64 a0_Rate) := ((BelowKit.bcell hb).1 _ _ z11).trans c9
  have c16 : w13.cell? ⟨w.heap.size, 2, none⟩ = some (.int .i64 a0_Cap) := ((BelowKit.bcell hb).1 _ _ z11).trans c10
  have z17 : w.heap.size < w13.heap.size := by omega
  have HC18 := Lib.hid (BelowKit.bl_trans HC12.out hb)
  clear c8 c9 c10 z11 HC12 hb
  go_wp2_with fail
  refine (TDesign.to1 ⟨a0_Kind, a0_Rate, a0_Cap⟩ w13).mono ?_
  rintro e w19 ⟨rfl, hb⟩
  unfold TDesign.fv
  have sw19 : w13.heap.size ≤ w19.heap.size := hb.size
  have c20 : w19.cell? ⟨w.heap.size, 0, none⟩ = some (.int .i64 a0_Kind) := ((BelowKit.bcell hb).1 _ _ z17).trans c14
  have c21 : w19.cell? ⟨w.heap.size, 1, none⟩ = some (.int .i64 a0_Rate) := ((BelowKit.bcell hb).1 _ _ z17).trans c15
  have c22 : w19.cell? ⟨w.heap.size, 2, none⟩ = some (.int .i64 a0_Cap) := ((BelowKit.bcell hb).1 _ _ z17).trans c16
  have z23 : w.heap.size < w19.heap.size := by omega
  have HC24 := Lib.hid (BelowKit.bl_trans HC18.out hb)
  clear c14 c15 c16 z17 HC18 hb
  go_wp2_with fail
  refine (AccruI.grow_i w19 a0_Kind a0_Rate a0_Cap a1 a2 a3).mono ?_
  rintro e w25 ⟨rfl, hb⟩
  rw [HF0.out]
  have sw25 : w19.heap.size ≤ w25.heap.size := hb.size
  have c26 : w25.cell? ⟨w.heap.size, 0, none⟩ = some (.int .i64 a0_Kind) := ((BelowKit.bcell hb).1 _ _ z23).trans c20
  have c27 : w25.cell? ⟨w.heap.size, 1, none⟩ = some (.int .i64 a0_Rate) := ((BelowKit.bcell hb).1 _ _ z23).trans c21
  have c28 : w25.cell? ⟨w.heap.size, 2, none⟩ = some (.int .i64 a0_Cap) := ((BelowKit.bcell hb).1 _ _ z23).trans c22
  have z29 : w.heap.size < w25.heap.size := by omega
  have HC30 := Lib.hid (BelowKit.bl_trans HC24.out hb)
  clear c20 c21 c22 z23 HC24 hb
  go_wp2
  go_ret
  exact ⟨rfl, by (repeat (first | exact Below.refl _ _ | apply BelowKit.bl_alloc | apply BelowKit.bl_drewN | apply BelowKit.bl_drew | (refine BelowKit.bl_set ?_ _ ?_; rotate_left; (first | omega | (simp; omega) | simp)) | (refine BelowKit.bl_trans ?_ (‹Hid (Below _ _ _)›).out)))⟩

/-! ### THE ROW's STEP -/
set_option maxRecDepth 100000 in
theorem lifted (os : Os) (started : os.Started) (H : Type) (enc : TypeId × Value → H) :
    ReturnsInHanded {} Try.checked os 10 .any (Rows.fnExactGrowAccountSpec.pre6 enc Try.prog Try.f10 Rows.fnExactGrowAccountRow.domain false) (Rows.fnExactGrowAccountSpec.post enc Try.prog Try.f10 false true false false) := by
  refine returnsInHanded_of_change (C := Try.checked) own started (by kernel_rfl) Try.func10
    (ChangeSpec.witness6 (enc := enc) (C := Try.checked) false ⟨#[], #[.agg #[.int .i64 0, .int .i64 0, .int .i64 0], .int .i64 0, .int .i64 0, .int .i64 0], []⟩ 8 (by kernel_rfl) (by kernel_rfl) (by kernel_rfl) (by kernel_rfl)) ?_
  intro W base args ds gs before hval0 hW hcnd _
  have hval : ∀ (j : Nat) t v, Try.f10.params[j]? = some t → args[j]? = some v → Value.okWide Try.prog W .any base t v := hval0
  have hW' := hW
  obtain ⟨p, q, hA0, hV, rfl, hfz, hnd⟩ := hW
  have hA : DataW.TrodAll enc Try.prog W 0 (fun _ => true) true Try.f10.params.toList args.toList ds p := hA0
  rw [Try.params10] at hA hval
  obtain ⟨v0, vs0, d0, ds0, p0, q0, hargs, rfl, rfl, h0, r0⟩ := trodAll_cons hA
  obtain ⟨v1, vs1, d1, ds1, p1, q1, rfl, rfl, rfl, h1, r1⟩ := trodAll_cons r0
  obtain ⟨v2, vs2, d2, ds2, p2, q2, rfl, rfl, rfl, h2, r2⟩ := trodAll_cons r1
  obtain ⟨v3, vs3, d3, ds3, p3, q3, rfl, rfl, rfl, h3, r3⟩ := trodAll_cons r2
  obtain ⟨rfl, rfl, rfl⟩ := trodAll_nil r3
  obtain rfl : args = #[v0, v1, v2, v3] := by cases args; simp_all
  obtain ⟨rfl, rfl⟩ := trodVars_none hV
  have k0 := h0
  have lt0 : ∀ x ∈ p0, x.block < W.heap.size := by obtain ⟨m, hm⟩ := k0; exact DataW.trod_lt m _ _ _ hm
  obtain ⟨⟨l0⟩, rfl, _⟩ := okWide_struct Try.underlying38 (hval 0 38 v0 rfl rfl)
  have s0 : Shape.FitL W [.int .i64, .int .i64, .int .i64] l0 := by
    obtain ⟨fu, hfu⟩ := h0
    exact Shape.trod_fit 8 38 _ (by kernel_rfl) _ _ _ hfu
  obtain ⟨a0_Kind, r0, rfl, w0_Kind, s0⟩ := Shape.fit_int s0
  obtain ⟨a0_Rate, r0, rfl, w0_Rate, s0⟩ := Shape.fit_int s0
  obtain ⟨a0_Cap, r0, rfl, w0_Cap, s0⟩ := Shape.fit_int s0
  obtain rfl := Shape.fit_nil s0
  obtain ⟨a1, rfl, rfl, rfl, w1⟩ := open_int Try.underlying3 (hval 1 3 v1 rfl rfl) h1
  obtain ⟨a2, rfl, rfl, rfl, w2⟩ := open_int Try.underlying3 (hval 2 3 v2 rfl rfl) h2
  obtain ⟨a3, rfl, rfl, rfl, w3⟩ := open_int Try.underlying3 (hval 3 3 v3 rfl rfl) h3
  clear hA0 hval0
  refine (walk a0_Kind a0_Rate a0_Cap a1 a2 a3 W w0_Kind w0_Rate w0_Cap w1 w2 w3).mono fun e W' ⟨he, bel⟩ => ?_
  subst he
  exact ⟨_, rfl, _, _, _, [], _, [], hW', trodAll_mk1 (shut_bool Try.underlying4 _), (trodAll_cons_mk (Below.trod laidOut (by kernel_rfl) (of_decide_eq_true (by kernel_rfl)) k0 bel lt0) (trodAll_cons_mk (shut_int Try.underlying3 w1) (trodAll_cons_mk (shut_int Try.underlying3 w2) (trodAll_cons_mk (shut_int Try.underlying3 w3) trodAll_mk0)))), rfl, bel.frame _, fun h => by cases h⟩

theorem over : Rows.fnExactGrowAccountRow.holds Try.pinned (OpenSpec.ofChange Rows.fnExactGrowAccountSpec) :=
  OpenClaim.holds_of_wide 10 Try.f10 rfl rfl rfl rfl rfl rfl rfl ⟨rfl, rfl, rfl, rfl, rfl⟩ rfl rfl rfl rfl rfl (by kernel_rfl) Try.func10 (by kernel_rfl)
    (of_decide_eq_true (by kernel_rfl)) (by unfold Func.isWrapper; first | (rw [if_pos (by decide +kernel)]; kernel_rfl) | (rw [if_neg (by decide +kernel)]; exact ⟨rfl, rfl⟩))
    (fun os started H enc _ => lifted os started H enc)

theorem proved : Rows.FnExactGrowAccountSaid := over
#print axioms proved
end Go.Proofs.Ythhjnffbafmkpaa.fnExactGrowAccount
