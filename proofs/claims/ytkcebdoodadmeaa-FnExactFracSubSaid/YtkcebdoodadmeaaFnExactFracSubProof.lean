/- Proves the given statement of the law FnExactFracSub: for every input that the row lets in, the law's Go function returns true and every argument reads as before; no condition of mine. -/
import Derived.Test.YtkcebdoodadmeaaFracS
import Derived.Test.YtkcebdoodadmeaaFracISub
import Derived.Test.YtkcebdoodadmeaaFracLaws
import Derived.Test.YtkcebdoodadmeaaBelowKit
import Derived.Test.YtkcebdoodadmeaaRows
import Derived.WalkKit
import Derived.ProofKit
import Derived.OpenShut
import Derived.ShutString
import Derived.ChangeOld
import Derived.Below
import Derived.Deep.RegionHeld3
import Derived.Deep.DeepCutAuto
import Derived.Lib.Hide
import Derived.Lib.SmallJoins
namespace Go.Proofs.Ytkcebdoodadmeaa.fnExactFracSub
open Go.ChangeShapes Go.WideShapes Go.ChangeAt Go.RowKit
open Go.ChangeMaps (open_string shut_string)
set_option linter.unusedVariables false

theorem own : ownKnob Try.prog.godebug = none := by kernel_rfl
theorem laidOut : laidOutB Try.prog = true := by kernel_rfl
theorem cells32 : Try.prog.cellsOf 32 = 2 := by kernel_rfl

/-! ### STEP 1: the walk -/
theorem walk (a0_0 : Int) (a0_1 : Int) (a1_0 : Int) (a1_1 : Int) (w : World) (w0_0 : (Lit.int .i64 a0_0).wf = true) (w0_1 : (Lit.int .i64 a0_1).wf = true) (w1_0 : (Lit.int .i64 a1_0).wf = true) (w1_1 : (Lit.int .i64 a1_1).wf = true) :
    Calls Try.prog 8 #[.agg #[.int .i64 a0_0, .int .i64 a0_1], .agg #[.int .i64 a1_0, .int .i64 a1_1]] w fun e w' => e = .returned (.bool true) ∧ Below w.heap.size w w' := by
  obtain ⟨⟨x, y, z⟩, hx⟩ : ∃ x, FracMath.subR a0_0 a0_1 a1_0 a1_1 = x := ⟨_, rfl⟩
  have HX := Lib.hid hx
  clear hx
  have HBox := Lib.hid (FracLaws.boxes w 32 a0_0 a0_1 a1_0 a1_1)
  go_enter Try.func8, Try.ntmps8
  go_upto_region 1 with fail
  go_cut [5, 6] (fun s t wx => FracLaws.Left ((w.alloc (.cells #[.int .i64 a0_0, .int .i64 a0_1] 32)).alloc (.cells #[.int .i64 a1_0, .int .i64 a1_1] 32)) x y z s t wx)
  case first =>
    go_region_held3 (fun W => W.cell? ⟨w.heap.size, 0, none⟩ = some (.int .i64 a0_0) ∧ W.cell? ⟨w.heap.size, 1, none⟩ = some (.int .i64 a0_1) ∧ W.cell? ⟨w.heap.size + 1, 0, none⟩ = some (.int .i64 a1_0) ∧ W.cell? ⟨w.heap.size + 1, 1, none⟩ = some (.int .i64 a1_1))
      (exact (HBox.out.on (by (repeat (first | exact Below.refl _ _ | apply BelowKit.bl_alloc | apply BelowKit.bl_drewN | apply BelowKit.bl_drew | (refine BelowKit.bl_set ?_ _ ?_; rotate_left; (first | omega | (simp; omega) | simp)) | (refine BelowKit.bl_trans ?_ (‹Hid (Below _ _ _)›).out))))).all)
      ((first
        | (go_at_call 22; (with_reducible refine (FracLaws.to_c a0_0 a0_1 _).mono ?_); rintro e w1 ⟨rfl, hb1⟩; obtain ⟨hc1, hf1⟩ := BelowKit.bcell hb1; have hz1 := hb1.size; (try simp at hz1); (try have hl1 := Nat.lt_of_succ_le hz1); (try have hq1 : w.heap.size + 1 + 1 < w1.heap.size := by omega); have HB1 := Lib.hid hb1; clear hb1)
        | (go_at_call 22; (with_reducible refine (FracLaws.to_c a1_0 a1_1 _).mono ?_); rintro e w2 ⟨rfl, hb2⟩; obtain ⟨hc2, hf2⟩ := BelowKit.bcell hb2; have hz2 := hb2.size; (try simp at hz2); (try have hl2 := Nat.lt_of_succ_le hz2); (try have hq2 : w.heap.size + 1 + 1 < w2.heap.size := by omega); have HB2 := Lib.hid hb2; clear hb2)
        | (go_at_call 26; (with_reducible refine (FracS.sub_s a0_0 a0_1 a1_0 a1_1 _).mono ?_); rintro e w3 ⟨rfl, hb3⟩; rw [HX.out]; obtain ⟨hc3, hf3⟩ := BelowKit.bcell hb3; have hz3 := hb3.size; (try simp at hz3); (try have hl3 := Nat.lt_of_succ_le hz3); (try have hq3 : w.heap.size + 1 + 1 < w3.heap.size := by omega); have HB3 := Lib.hid hb3; clear hb3)))
    all_goals
      go_wp2_with fail
      go_meet
      refine ⟨_, rfl, rfl, ⟨by (repeat (first | exact Below.refl _ _ | apply BelowKit.bl_alloc | apply BelowKit.bl_drewN | apply BelowKit.bl_drew | (refine BelowKit.bl_set ?_ _ ?_; rotate_left; (first | omega | (simp; omega) | simp)) | (refine BelowKit.bl_trans ?_ (‹Hid (Below _ _ _)›).out))), ?_, ?_, ?_, ?_⟩⟩
    all_goals first
      | omega
      | (simp [go_sem]; done)
      | (simp; omega)
      | (simp [go_sem, hc3, hc2, hc1, hl3, hl2, hl1, hq3, hq2, hq1]; done)
      | (simp [go_sem, hc3, hc2, hc1, hl3, hl2, hl1, hq3, hq2]; done)
      | (simp [go_sem, *]; done)
  case rest =>
    rename World => wx
    obtain ⟨g, rfl, rfl, hB⟩ := hcut
    have HBox2 := Lib.hid (HBox.out.on hB.bel)
    have HL := Lib.hid hB
    have HBx := Lib.hid hB.bel
    clear hB HBox
    go_upto_region 2 with fail
    go_cut [7, 8] (fun s t wy => FracLaws.Left wx x y z s t wy)
    case first =>
      go_region_held3 (fun W => W.cell? ⟨w.heap.size, 0, none⟩ = some (.int .i64 a0_0) ∧ W.cell? ⟨w.heap.size, 1, none⟩ = some (.int .i64 a0_1) ∧ W.cell? ⟨w.heap.size + 1, 0, none⟩ = some (.int .i64 a1_0) ∧ W.cell? ⟨w.heap.size + 1, 1, none⟩ = some (.int .i64 a1_1))
        (exact (HBox2.out.on (by (repeat (first | exact Below.refl _ _ | apply BelowKit.bl_alloc | apply BelowKit.bl_drewN | apply BelowKit.bl_drew | (refine BelowKit.bl_set ?_ _ ?_; rotate_left; (first | omega | (simp; omega) | simp)) | (refine BelowKit.bl_trans ?_ (‹Hid (Below _ _ _)›).out))))).all)
        ((first
        | (go_at_call 22; (with_reducible refine (FracLaws.to_c a0_0 a0_1 _).mono ?_); rintro e w4 ⟨rfl, hb4⟩; obtain ⟨hc4, hf4⟩ := BelowKit.bcell hb4; have hz4 := hb4.size; (try simp at hz4); (try have hl4 := Nat.lt_of_succ_le hz4); (try have hq4 : wx.heap.size < w4.heap.size := by omega); have HB4 := Lib.hid hb4; clear hb4)
        | (go_at_call 22; (with_reducible refine (FracLaws.to_c a1_0 a1_1 _).mono ?_); rintro e w5 ⟨rfl, hb5⟩; obtain ⟨hc5, hf5⟩ := BelowKit.bcell hb5; have hz5 := hb5.size; (try simp at hz5); (try have hl5 := Nat.lt_of_succ_le hz5); (try have hq5 : wx.heap.size < w5.heap.size := by omega); have HB5 := Lib.hid hb5; clear hb5)
        | (go_at_call 15; (with_reducible refine (FracISub.sub_i a0_0 a0_1 a1_0 a1_1 _).mono ?_); rintro e w6 ⟨rfl, hb6⟩; rw [HX.out]; obtain ⟨hc6, hf6⟩ := BelowKit.bcell hb6; have hz6 := hb6.size; (try simp at hz6); (try have hl6 := Nat.lt_of_succ_le hz6); (try have hq6 : wx.heap.size < w6.heap.size := by omega); have HB6 := Lib.hid hb6; clear hb6)))
      all_goals
        go_wp2_with fail
        go_meet
        refine ⟨_, rfl, rfl, ⟨by (repeat (first | exact Below.refl _ _ | apply BelowKit.bl_alloc | apply BelowKit.bl_drewN | apply BelowKit.bl_drew | (refine BelowKit.bl_set ?_ _ ?_; rotate_left; (first | omega | (simp; omega) | simp)) | (refine BelowKit.bl_trans ?_ (‹Hid (Below _ _ _)›).out))), ?_, ?_, ?_, ?_⟩⟩
      all_goals first
      | omega
      | (simp [go_sem]; done)
      | (simp; omega)
      | (simp [go_sem, hc6, hc5, hc4, hl6, hl5, hl4, hq6, hq5, hq4]; done)
      | (simp [go_sem, hc6, hc5, hc4, hl6, hl5, hl4, hq6, hq5]; done)
      | (simp [go_sem, *]; done)
    case rest =>
      obtain ⟨g2, rfl, rfl, hB⟩ := hcut
      have HL2 := Lib.hid hB
      have p0 := ((BelowKit.bcell hB.bel).1 g 0 HL.out.lt).trans HL.out.c0
      have p1 := ((BelowKit.bcell hB.bel).1 g 1 HL.out.lt).trans HL.out.c1
      have r0 := hB.c0
      have r1 := hB.c1
      have HBy := Lib.hid hB.bel
      clear hB
      go_wp2_with fail
      refine (FracLaws.eq_yes _ _ _).mono ?_
      rintro e w9 ⟨rfl, hb9⟩
      have HB9 := Lib.hid hb9
      clear hb9
      go_wp2
      go_ret
      exact ⟨rfl, by (repeat (first | exact Below.refl _ _ | apply BelowKit.bl_alloc | apply BelowKit.bl_drewN | apply BelowKit.bl_drew | (refine BelowKit.bl_set ?_ _ ?_; rotate_left; (first | omega | (simp; omega) | simp)) | (refine BelowKit.bl_trans ?_ (‹Hid (Below _ _ _)›).out)))⟩

/-! ### THE ROW's STEP -/
set_option maxRecDepth 100000 in
theorem lifted (os : Os) (started : os.Started) (H : Type) (enc : TypeId × Value → H) :
    ReturnsInHanded {} Try.checked os 8 .any (Rows.fnExactFracSubSpec.pre6 enc Try.prog Try.f8 Rows.fnExactFracSubRow.domain false) (Rows.fnExactFracSubSpec.post enc Try.prog Try.f8 false true false false) := by
  refine returnsInHanded_of_change (C := Try.checked) own started (by kernel_rfl) Try.func8
    (ChangeSpec.witness6 (enc := enc) (C := Try.checked) false ⟨#[], #[.agg #[.int .i64 0, .int .i64 0], .agg #[.int .i64 0, .int .i64 0]], []⟩ 8 (by kernel_rfl) (by kernel_rfl) (by kernel_rfl) (by kernel_rfl)) ?_
  intro W base args ds gs before hval0 hW hcnd _
  have hval : ∀ (j : Nat) t v, Try.f8.params[j]? = some t → args[j]? = some v → Value.okWide Try.prog W .any base t v := hval0
  have hW' := hW
  obtain ⟨p, q, hA0, hV, rfl, hfz, hnd⟩ := hW
  have hA : DataW.TrodAll enc Try.prog W 0 (fun _ => true) true Try.f8.params.toList args.toList ds p := hA0
  rw [Try.params8] at hA hval
  obtain ⟨v0, vs0, d0, ds0, p0, q0, hargs, rfl, rfl, h0, r0⟩ := trodAll_cons hA
  obtain ⟨v1, vs1, d1, ds1, p1, q1, rfl, rfl, rfl, h1, r1⟩ := trodAll_cons r0
  obtain ⟨rfl, rfl, rfl⟩ := trodAll_nil r1
  obtain rfl : args = #[v0, v1] := by cases args; simp_all
  obtain ⟨rfl, rfl⟩ := trodVars_none hV
  have k0 := h0
  have lt0 : ∀ x ∈ p0, x.block < W.heap.size := by obtain ⟨m, hm⟩ := k0; exact DataW.trod_lt m _ _ _ hm
  obtain ⟨c0_0, c0_1, y0_0, y0_1, m0, rfl, rfl, rfl, hy0_0, hy0_1⟩ := Joins.open_agg2 Try.underlying32 (by kernel_rfl) cells32 (hval 0 32 v0 rfl rfl) h0
  obtain ⟨a0_0, e0_0, rfl, w0_0⟩ := DataW.trod_int Try.underlying3 hy0_0
  simp at e0_0
  subst e0_0
  obtain ⟨a0_1, e0_1, rfl, w0_1⟩ := DataW.trod_int Try.underlying3 hy0_1
  simp at e0_1
  subst e0_1
  have k1 := h1
  have lt1 : ∀ x ∈ p1, x.block < W.heap.size := by obtain ⟨m, hm⟩ := k1; exact DataW.trod_lt m _ _ _ hm
  obtain ⟨c1_0, c1_1, y1_0, y1_1, m1, rfl, rfl, rfl, hy1_0, hy1_1⟩ := Joins.open_agg2 Try.underlying32 (by kernel_rfl) cells32 (hval 1 32 v1 rfl rfl) h1
  obtain ⟨a1_0, e1_0, rfl, w1_0⟩ := DataW.trod_int Try.underlying3 hy1_0
  simp at e1_0
  subst e1_0
  obtain ⟨a1_1, e1_1, rfl, w1_1⟩ := DataW.trod_int Try.underlying3 hy1_1
  simp at e1_1
  subst e1_1
  clear hA0 hval0
  refine (walk a0_0 a0_1 a1_0 a1_1 W w0_0 w0_1 w1_0 w1_1).mono fun e W' ⟨he, bel⟩ => ?_
  subst he
  exact ⟨_, rfl, _, _, _, [], _, [], hW', trodAll_mk1 (shut_bool Try.underlying4 _), (trodAll_cons_mk (Below.trod laidOut (by kernel_rfl) (of_decide_eq_true (by kernel_rfl)) k0 bel lt0) (trodAll_cons_mk (Below.trod laidOut (by kernel_rfl) (of_decide_eq_true (by kernel_rfl)) k1 bel lt1) trodAll_mk0)), rfl, bel.frame _, fun h => by cases h⟩

theorem over : Rows.fnExactFracSubRow.holds Try.pinned (OpenSpec.ofChange Rows.fnExactFracSubSpec) :=
  OpenClaim.holds_of_wide 8 Try.f8 rfl rfl rfl rfl rfl rfl rfl ⟨rfl, rfl, rfl, rfl, rfl⟩ rfl rfl rfl rfl rfl (by kernel_rfl) Try.func8 (by kernel_rfl)
    (of_decide_eq_true (by kernel_rfl)) (by unfold Func.isWrapper; first | (rw [if_pos (by decide +kernel)]; kernel_rfl) | (rw [if_neg (by decide +kernel)]; exact ⟨rfl, rfl⟩))
    (fun os started H enc _ => lifted os started H enc)

theorem proved : Rows.FnExactFracSubSaid := over
#print axioms proved
end Go.Proofs.Ytkcebdoodadmeaa.fnExactFracSub
