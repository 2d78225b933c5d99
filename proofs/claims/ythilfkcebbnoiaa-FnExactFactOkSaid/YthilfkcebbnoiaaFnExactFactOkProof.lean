/- Proves the given statement of the law FnExactFactOk: for every input that the row lets in, the law's Go function returns true and every argument reads as before; no condition of mine. -/
import Derived.Test.YthilfkcebbnoiaaFact
import Derived.Test.YthilfkcebbnoiaaBelowKit
import Derived.Test.YthilfkcebbnoiaaRows
import Derived.WalkKit
import Derived.ProofKit
import Derived.OpenShut
import Derived.ShutString
import Derived.ChangeOld
import Derived.Below
import Derived.Deep.RegionHeld3
import Derived.Deep.DeepCutAuto
import Derived.Lib.Hide
import Derived.Lib.SmallJoins
import Derived.Test.YthilfkcebbnoiaaShape
namespace Go.Proofs.Ythilfkcebbnoiaa.fnExactFactOk
open Go.ChangeShapes Go.WideShapes Go.ChangeAt Go.RowKit
open Go.ChangeMaps (open_string shut_string)
set_option linter.unusedVariables false

theorem own : ownKnob Try.prog.godebug = none := by kernel_rfl
theorem laidOut : laidOutB Try.prog = true := by kernel_rfl

/-! ### STEP 1: the walk -/
theorem walk (a0_Key : Int) (a0_From : Int) (a0_To : Int) (a0_Known : Int) (a0_Value : Int) (w : World) (w0_Key : (Lit.int .i64 a0_Key).wf = true) (w0_From : (Lit.int .i64 a0_From).wf = true) (w0_To : (Lit.int .i64 a0_To).wf = true) (w0_Known : (Lit.int .i64 a0_Known).wf = true) (w0_Value : (Lit.int .i64 a0_Value).wf = true) :
    Calls Try.prog 6 #[.agg #[.int .i64 a0_Key, .int .i64 a0_From, .int .i64 a0_To, .int .i64 a0_Known, .int .i64 a0_Value]] w fun e w' => e = .returned (.bool true) ∧ Below w.heap.size w w' := by
  obtain ⟨ok, hok⟩ : ∃ b, Fact.okF ⟨a0_Key, a0_From, a0_To, a0_Known, a0_Value⟩ = b := ⟨_, rfl⟩
  have HO := Lib.hid hok
  clear hok w0_Key w0_From w0_To w0_Known w0_Value
  go_enter Try.func6, Try.ntmps6
  go_wp2_with fail
  refine (Fact.to_c ⟨a0_Key, a0_From, a0_To, a0_Known, a0_Value⟩ _).mono ?_
  rintro e w1 ⟨rfl, hb1⟩
  obtain ⟨hc1, hf1⟩ := BelowKit.bcell hb1
  have hz1 := hb1.size
  simp at hz1
  have HB1 := Lib.hid hb1
  clear hb1
  unfold Fact.fv
  go_wp2_with fail
  refine (Fact.fact_s ⟨a0_Key, a0_From, a0_To, a0_Known, a0_Value⟩ _).mono ?_
  rintro e w2 ⟨rfl, hb2⟩
  rw [HO.out]
  replace hb2 := BelowKit.bl_trans HB1.out hb2
  clear hc1 hf1 hz1 HB1
  obtain ⟨hc2, hf2⟩ := BelowKit.bcell hb2
  have hz2 := hb2.size
  simp at hz2
  have HB2 := Lib.hid hb2
  clear hb2
  go_wp2_with fail
  refine (Fact.to_c ⟨a0_Key, a0_From, a0_To, a0_Known, a0_Value⟩ _).mono ?_
  rintro e w3 ⟨rfl, hb3⟩
  replace hb3 := BelowKit.bl_trans HB2.out hb3
  clear hc2 hf2 hz2 HB2
  have HB3 := Lib.hid hb3
  clear hb3
  unfold Fact.fv
  go_wp2_with fail
  refine (Fact.fact_i ⟨a0_Key, a0_From, a0_To, a0_Known, a0_Value⟩ _).mono ?_
  rintro e w4 ⟨rfl, hb4⟩
  rw [HO.out]
  replace hb4 := BelowKit.bl_trans HB3.out hb4
  clear HB3
  have HB4 := Lib.hid hb4
  clear hb4
  go_wp2
  go_ret
  exact ⟨rfl, by (repeat (first | exact Below.refl _ _ | apply BelowKit.bl_alloc | apply BelowKit.bl_drewN | apply BelowKit.bl_drew | (refine BelowKit.bl_set ?_ _ ?_; rotate_left; (first | omega | (simp; omega) | simp)) | (refine BelowKit.bl_trans ?_ (‹Hid (Below _ _ _)›).out)))⟩

/-! ### THE ROW's STEP -/
set_option maxRecDepth 100000 in
theorem lifted (os : Os) (started : os.Started) (H : Type) (enc : TypeId × Value → H) :
    ReturnsInHanded {} Try.checked os 6 .any (Rows.fnExactFactOkSpec.pre6 enc Try.prog Try.f6 Rows.fnExactFactOkRow.domain false) (Rows.fnExactFactOkSpec.post enc Try.prog Try.f6 false true false false) := by
  refine returnsInHanded_of_change (C := Try.checked) own started (by kernel_rfl) Try.func6
    (ChangeSpec.witness6 (enc := enc) (C := Try.checked) false ⟨#[], #[.agg #[.int .i64 0, .int .i64 0, .int .i64 0, .int .i64 0, .int .i64 0]], []⟩ 8 (by kernel_rfl) (by kernel_rfl) (by kernel_rfl) (by kernel_rfl)) ?_
  intro W base args ds gs before hval0 hW hcnd _
  have hval : ∀ (j : Nat) t v, Try.f6.params[j]? = some t → args[j]? = some v → Value.okWide Try.prog W .any base t v := hval0
  have hW' := hW
  obtain ⟨p, q, hA0, hV, rfl, hfz, hnd⟩ := hW
  have hA : DataW.TrodAll enc Try.prog W 0 (fun _ => true) true Try.f6.params.toList args.toList ds p := hA0
  rw [Try.params6] at hA hval
  obtain ⟨v0, vs0, d0, ds0, p0, q0, hargs, rfl, rfl, h0, r0⟩ := trodAll_cons hA
  obtain ⟨rfl, rfl, rfl⟩ := trodAll_nil r0
  obtain rfl : args = #[v0] := by cases args; simp_all
  obtain ⟨rfl, rfl⟩ := trodVars_none hV
  have k0 := h0
  have lt0 : ∀ x ∈ p0, x.block < W.heap.size := by obtain ⟨m, hm⟩ := k0; exact DataW.trod_lt m _ _ _ hm
  obtain ⟨⟨l0⟩, rfl, _⟩ := okWide_struct Try.underlying39 (hval 0 39 v0 rfl rfl)
  have s0 : Shape.FitL W [.int .i64, .int .i64, .int .i64, .int .i64, .int .i64] l0 := by
    obtain ⟨fu, hfu⟩ := h0
    exact Shape.trod_fit 8 39 _ (by kernel_rfl) _ _ _ hfu
  obtain ⟨a0_Key, r0, rfl, w0_Key, s0⟩ := Shape.fit_int s0
  obtain ⟨a0_From, r0, rfl, w0_From, s0⟩ := Shape.fit_int s0
  obtain ⟨a0_To, r0, rfl, w0_To, s0⟩ := Shape.fit_int s0
  obtain ⟨a0_Known, r0, rfl, w0_Known, s0⟩ := Shape.fit_int s0
  obtain ⟨a0_Value, r0, rfl, w0_Value, s0⟩ := Shape.fit_int s0
  obtain rfl := Shape.fit_nil s0
  clear hA0 hval0
  refine (walk a0_Key a0_From a0_To a0_Known a0_Value W w0_Key w0_From w0_To w0_Known w0_Value).mono fun e W' ⟨he, bel⟩ => ?_
  subst he
  exact ⟨_, rfl, _, _, _, [], _, [], hW', trodAll_mk1 (shut_bool Try.underlying4 _), (trodAll_cons_mk (Below.trod laidOut (by kernel_rfl) (of_decide_eq_true (by kernel_rfl)) k0 bel lt0) trodAll_mk0), rfl, bel.frame _, fun h => by cases h⟩

theorem over : Rows.fnExactFactOkRow.holds Try.pinned (OpenSpec.ofChange Rows.fnExactFactOkSpec) :=
  OpenClaim.holds_of_wide 6 Try.f6 rfl rfl rfl rfl rfl rfl rfl ⟨rfl, rfl, rfl, rfl, rfl⟩ rfl rfl rfl rfl rfl (by kernel_rfl) Try.func6 (by kernel_rfl)
    (of_decide_eq_true (by kernel_rfl)) (by unfold Func.isWrapper; first | (rw [if_pos (by decide +kernel)]; kernel_rfl) | (rw [if_neg (by decide +kernel)]; exact ⟨rfl, rfl⟩))
    (fun os started H enc _ => lifted os started H enc)

theorem proved : Rows.FnExactFactOkSaid := over
#print axioms proved
end Go.Proofs.Ythilfkcebbnoiaa.fnExactFactOk
