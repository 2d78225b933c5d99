/- Proves the given statement of the law FnExactUnitsFor: for every input that the row lets in, the law's Go function returns true and every argument reads as before; no condition of mine. -/
import Derived.Test.YthhjnffbafmkpaaAccruS
import Derived.Test.YthhjnffbafmkpaaAccruI
import Derived.Test.YthhjnffbafmkpaaTDesign
import Derived.Test.YthhjnffbafmkpaaFracLaws
import Derived.Test.YthhjnffbafmkpaaKit
import Derived.Test.YthhjnffbafmkpaaRows
import Derived.WalkKit
import Derived.ProofKit
import Derived.OpenShut
import Derived.Below
import Derived.ShutString
namespace Go.Proofs.Ythhjnffbafmkpaa.fnExactUnitsFor
open Go.ChangeShapes Go.WideShapes Go.ChangeAt Go.RowKit
open Go.ChangeMaps (open_string shut_string)
set_option linter.unusedVariables false      -- a walk need not use every 'w<i>' (that an integer argument fits its kind)

theorem own : ownKnob Try.prog.godebug = none := by kernel_rfl

/-! ### STEP 1: THE WALK: the Go text returns true. 'Grown w w'': the world has at most new blocks (Derived/RowKit3.lean). Part the cases AHEAD of 'go_enter' where a test parts the walk; take each callee by a contract of your own. -/
set_option maxHeartbeats 8000000 in
theorem walk (a0 : Int) (a1 : Int) (w0 : (Lit.int .i64 a0).wf = true) (w1 : (Lit.int .i64 a1).wf = true) (w : World) :
    Calls Try.prog 8 #[.int .i64 a0, .int .i64 a1] w fun e w' => e = .returned (.bool true) ∧ Below w.heap.size w w' := by
  obtain ⟨m0_0, hm0_0⟩ : ∃ v, (AccruMath.units a0 a1).1 = v := ⟨_, rfl⟩
  have HF0_0 := Lib.hid hm0_0
  clear hm0_0
  obtain ⟨m0_1, hm0_1⟩ : ∃ v, (AccruMath.units a0 a1).2 = v := ⟨_, rfl⟩
  have HF0_1 := Lib.hid hm0_1
  clear hm0_1
  go_enter Try.func8, Try.ntmps8
  go_wp2_with fail
  refine (AccruS.units_s w a0 a1).mono ?_
  rintro e w1 ⟨rfl, hb⟩
  rw [HF0_0.out, HF0_1.out]
  have sw1 : w.heap.size ≤ w1.heap.size := hb.size
  have HC2 := Lib.hid hb
  clear hb
  go_wp2_with fail
  obtain ⟨W3, hW3⟩ : ∃ V : World, V = w1.alloc (.cells #[.int .i64 m0_0, .int .i64 m0_1] 29) := ⟨_, rfl⟩
  rw [← hW3]
  have hb : Below w1.heap.size w1 W3 := by rw [hW3]; (repeat (first | exact Below.refl _ _ | apply BelowKit.bl_alloc | apply BelowKit.bl_drewN | apply BelowKit.bl_drew | (refine BelowKit.bl_set ?_ _ ?_; rotate_left; (first | omega | (simp; omega) | simp)) | (refine BelowKit.bl_trans ?_ (‹Hid (Below _ _ _)›).out)))
  have tW3 : w1.heap.size + 1 ≤ W3.heap.size := by rw [hW3]; simp
  have uW3 : W3.heap.size ≤ w1.heap.size + 1 := by rw [hW3]; simp
  have c4 : W3.cell? ⟨w1.heap.size, 0, none⟩ = some (.int .i64 m0_0) := by rw [hW3]; simp [go_sem]
  have c5 : W3.cell? ⟨w1.heap.size, 1, none⟩ = some (.int .i64 m0_1) := by rw [hW3]; simp [go_sem]
  have z6 : w1.heap.size < W3.heap.size := by omega
  clear hW3
  have sW3 : w1.heap.size ≤ W3.heap.size := hb.size
  have HC7 := Lib.hid (BelowKit.bl_trans HC2.out hb)
  clear HC2 hb
  refine (AccruI.units_i W3 a0 a1).mono ?_
  rintro e w8 ⟨rfl, hb⟩
  rw [HF0_0.out, HF0_1.out]
  have sw8 : W3.heap.size ≤ w8.heap.size := hb.size
  have c9 : w8.cell? ⟨w1.heap.size, 0, none⟩ = some (.int .i64 m0_0) := ((BelowKit.bcell hb).1 _ _ z6).trans c4
  have c10 : w8.cell? ⟨w1.heap.size, 1, none⟩ = some (.int .i64 m0_1) := ((BelowKit.bcell hb).1 _ _ z6).trans c5
  have z11 : w1.heap.size < w8.heap.size := by omega
  have HC12 := Lib.hid (BelowKit.bl_trans HC7.out hb)
  clear c4 c5 z6 HC7 hb
  go_wp2_with fail
  obtain ⟨W13, hW13⟩ : ∃ V : World, V = w8.alloc (.cells #[.int .i64 m0_0, .int .i64 m0_1] 29) := ⟨_, rfl⟩
  rw [← hW13]
  have hb : Below w8.heap.size w8 W13 := by rw [hW13]; (repeat (first | exact Below.refl _ _ | apply BelowKit.bl_alloc | apply BelowKit.bl_drewN | apply BelowKit.bl_drew | (refine BelowKit.bl_set ?_ _ ?_; rotate_left; (first | omega | (simp; omega) | simp)) | (refine BelowKit.bl_trans ?_ (‹Hid (Below _ _ _)›).out)))
  have tW13 : w8.heap.size + 1 ≤ W13.heap.size := by rw [hW13]; simp
  have uW13 : W13.heap.size ≤ w8.heap.size + 1 := by rw [hW13]; simp
  have c14 : W13.cell? ⟨w8.heap.size, 0, none⟩ = some (.int .i64 m0_0) := by rw [hW13]; simp [go_sem]
  have c15 : W13.cell? ⟨w8.heap.size, 1, none⟩ = some (.int .i64 m0_1) := by rw [hW13]; simp [go_sem]
  have z16 : w8.heap.size < W13.heap.size := by omega
  clear hW13
  have sW13 : w8.heap.size ≤ W13.heap.size := hb.size
  have c17 : W13.cell? ⟨w1.heap.size, 0, none⟩ = some (.int .i64 m0_0) := ((BelowKit.bcell hb).1 _ _ z11).trans c9
  have c18 : W13.cell? ⟨w1.heap.size, 1, none⟩ = some (.int .i64 m0_1) := ((BelowKit.bcell hb).1 _ _ z11).trans c10
  have z19 : w1.heap.size < W13.heap.size := by omega
  have HC20 := Lib.hid (BelowKit.bl_trans HC12.out hb)
  clear c9 c10 z11 HC12 hb
  refine (FracLaws.eq_yes m0_0 m0_1 W13).mono ?_
  rintro e w21 ⟨rfl, hb⟩
  have sw21 : W13.heap.size ≤ w21.heap.size := hb.size
  have c22 : w21.cell? ⟨w1.heap.size, 0, none⟩ = some (.int .i64 m0_0) := ((BelowKit.bcell hb).1 _ _ z19).trans c17
  have c23 : w21.cell? ⟨w1.heap.size, 1, none⟩ = some (.int .i64 m0_1) := ((BelowKit.bcell hb).1 _ _ z19).trans c18
  have z24 : w1.heap.size < w21.heap.size := by omega
  have c25 : w21.cell? ⟨w8.heap.size, 0, none⟩ = some (.int .i64 m0_0) := ((BelowKit.bcell hb).1 _ _ z16).trans c14
  have c26 : w21.cell? ⟨w8.heap.size, 1, none⟩ = some (.int .i64 m0_1) := ((BelowKit.bcell hb).1 _ _ z16).trans c15
  have z27 : w8.heap.size < w21.heap.size := by omega
  have HC28 := Lib.hid (BelowKit.bl_trans HC20.out hb)
  clear c17 c18 z19 c14 c15 z16 HC20 hb
  go_wp2
  go_ret
  exact ⟨rfl, by (repeat (first | exact Below.refl _ _ | apply BelowKit.bl_alloc | apply BelowKit.bl_drewN | apply BelowKit.bl_drew | (refine BelowKit.bl_set ?_ _ ?_; rotate_left; (first | omega | (simp; omega) | simp)) | (refine BelowKit.bl_trans ?_ (‹Hid (Below _ _ _)›).out)))⟩

/-! ### THE ROW's STEP: WRITTEN OUT: LEAVE IT -/
set_option maxRecDepth 100000 in
theorem lifted (os : Os) (started : os.Started) (H : Type) (enc : TypeId × Value → H) :
    ReturnsInHanded {} Try.checked os 8 .any (Rows.fnExactUnitsForSpec.pre6 enc Try.prog Try.f8 Rows.fnExactUnitsForRow.domain false) (Rows.fnExactUnitsForSpec.post enc Try.prog Try.f8 false true false false) := by
  refine returnsInHanded_of_change (C := Try.checked) own started (by kernel_rfl) Try.func8
    (ChangeSpec.witness6 (enc := enc) (C := Try.checked) false ⟨#[], #[.int .i64 0, .int .i64 0], []⟩ 8 (by kernel_rfl) (by kernel_rfl) (by kernel_rfl) (by kernel_rfl)) ?_
  intro W base args ds gs before hval0 hW hcnd _
  have hval : ∀ (j : Nat) t v, Try.f8.params[j]? = some t → args[j]? = some v → Value.okWide Try.prog W .any base t v := hval0
  have hW' := hW
  obtain ⟨p, q, hA0, hV, rfl, hfz, hnd⟩ := hW
  have hA : DataW.TrodAll enc Try.prog W 0 (fun _ => true) true Try.f8.params.toList args.toList ds p := hA0
  rw [Try.params8] at hA hval
  obtain ⟨v0, vs0, d0, ds0, p0, q0, hargs, rfl, rfl, h0, r0⟩ := trodAll_cons hA
  obtain ⟨v1, vs1, d1, ds1, p1, q1, rfl, rfl, rfl, h1, r1⟩ := trodAll_cons r0
  obtain ⟨rfl, rfl, rfl⟩ := trodAll_nil r1
  obtain rfl : args = #[v0, v1] := by cases args; simp_all
  obtain ⟨rfl, rfl⟩ := trodVars_none hV
  obtain ⟨a0, rfl, rfl, rfl, w0⟩ := open_int Try.underlying3 (hval 0 3 v0 rfl rfl) h0
  obtain ⟨a1, rfl, rfl, rfl, w1⟩ := open_int Try.underlying3 (hval 1 3 v1 rfl rfl) h1
  clear hA0 hval0
  simp only [List.append_nil] at hW'
  refine (walk a0 a1 w0 w1 W).mono fun e W' ⟨he, bel⟩ => ?_
  subst he
  exact ⟨_, rfl, _, _, _, [], [], [], hW', (trodAll_cons_mk (shut_bool Try.underlying4 _) trodAll_mk0), (trodAll_cons_mk (shut_int Try.underlying3 w0) (trodAll_cons_mk (shut_int Try.underlying3 w1) trodAll_mk0)), rfl, bel.frame _, fun h => by cases h⟩

theorem over : Rows.fnExactUnitsForRow.holds Try.pinned (OpenSpec.ofChange Rows.fnExactUnitsForSpec) :=
  OpenClaim.holds_of_wide 8 Try.f8 rfl rfl rfl rfl rfl rfl rfl ⟨rfl, rfl, rfl, rfl, rfl⟩ rfl rfl rfl rfl rfl (by kernel_rfl) Try.func8 (by kernel_rfl)
    (of_decide_eq_true (by kernel_rfl)) (by unfold Func.isWrapper; first | (rw [if_pos (by decide +kernel)]; kernel_rfl) | (rw [if_neg (by decide +kernel)]; exact ⟨rfl, rfl⟩))
    (fun os started H enc _ => lifted os started H enc)

theorem proved : Rows.FnExactUnitsForSaid :=
  over
#print axioms proved
end Go.Proofs.Ythhjnffbafmkpaa.fnExactUnitsFor
