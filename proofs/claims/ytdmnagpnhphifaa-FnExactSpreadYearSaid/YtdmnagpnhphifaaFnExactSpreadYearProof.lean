/- Proves the given statement of the law FnExactSpreadYear: for every input that the row lets in, the law's Go function returns true and every argument reads as before; no condition of mine. -/
import Derived.Test.YtdmnagpnhphifaaSpread
import Derived.Test.YtdmnagpnhphifaaIntRow
import Derived.Test.YtdmnagpnhphifaaBelowKit
import Derived.Test.YtdmnagpnhphifaaRows
import Derived.WalkKit
import Derived.ProofKit
import Derived.OpenShut
import Derived.Below
import Derived.ShutString
namespace Go.Proofs.Ytdmnagpnhphifaa.fnExactSpreadYear
open Go.ChangeShapes Go.WideShapes Go.ChangeAt Go.RowKit
open Go.ChangeMaps (open_string shut_string)
set_option linter.unusedVariables false      -- a walk need not use every 'w<i>' (that an integer argument fits its kind)

theorem own : ownKnob Try.prog.godebug = none := by kernel_rfl

/-! ### STEP 1: THE WALK: the Go text returns true. 'Grown w w'': the world has at most new blocks (Derived/RowKit3.lean). Part the cases AHEAD of 'go_enter' where a test parts the walk; take each callee by a contract of your own. -/
set_option maxHeartbeats 1000000 in
theorem walk (a0 : Int) (a1 : Int) (w0 : (Lit.int .i64 a0).wf = true) (w1 : (Lit.int .i64 a1).wf = true) (w : World) :
    Calls Try.prog 9 #[.int .i64 a0, .int .i64 a1] w fun e w' => e = .returned (.bool true) ∧ Below w.heap.size w w' := by
  obtain ⟨n, hn⟩ : ∃ n, (Spread.spreadR a0 a1).length = n := ⟨_, rfl⟩
  have hn12 : n ≤ 12 := by rw [← hn]; exact Spread.spread_len _ _
  have HN := Lib.hid hn
  clear hn
  go_enter Try.func9, Try.ntmps9
  go_wp2_with fail
  refine (Spread.spread_s a0 a1 _).mono ?_
  rintro e w1 ⟨p1, c1, rfl, ho1, hb1⟩
  rw [HN.out] at ho1 ⊢
  have HB1 := Lib.hid hb1
  have HO1 := Lib.hid ho1
  clear hb1 ho1
  go_wp2_with fail
  refine (Spread.spread_i a0 a1 _).mono ?_
  rintro e w2 ⟨p2, c2, rfl, ho2, hb2⟩
  rw [HN.out] at ho2 ⊢
  have HR1 := Lib.hid ((IntRow.reads_own HO1.out).on hb2)
  have HB2 := Lib.hid hb2
  have HO2 := Lib.hid ho2
  clear hb2 ho2
  go_wp2_with fail
  refine (IntRow.eq_c _ n c2 c1 p2 p1 _ HN.out (by omega) (IntRow.reads_own HO2.out) HR1.out).mono ?_
  rintro e w3 ⟨rfl, d1, rfl⟩
  go_wp2_with fail
  refine (IntRow.mark_c _ w1.heap.size p2 n c2 _ 1 HN.out (by omega) (by omega) (by omega) (HO2.out.drewN _)).mono ?_
  rintro e w3 ⟨rfl, ho3, hb3⟩
  have HO3 := Lib.hid ho3
  have HB3 := Lib.hid (show Below w1.heap.size w1 w3 from (below_drewN HB2.out d1).trans hb3)
  clear ho3 hb3 HO2 HB2 HR1
  go_wp2_with fail
  refine (IntRow.held_c _ p2 n c2 1 (by omega) (by omega) (by omega) (IntRow.reads_own HO3.out)).mono ?_
  rintro e w4 ⟨rfl, d2, rfl⟩
  go_wp2_with fail
  refine (Spread.spread_i a0 a1 _).mono ?_
  rintro e w4 ⟨p4, c4, rfl, ho4, hb4⟩
  rw [HN.out] at ho4 ⊢
  have HB4 := Lib.hid (show Below w1.heap.size w1 w4 from (below_drewN HB3.out d2).trans (hb4.mono (by have := HB3.out.size; exact this)))
  have HO4 := Lib.hid ho4
  have HO5 := Lib.hid ((HO3.out.drewN d2).on hb4)
  have HR1 := Lib.hid ((IntRow.reads_own HO1.out).on HB4.out)
  clear ho4 hb4 HO3
  go_wp2_with fail
  refine (IntRow.eq_c _ n c4 c1 p4 p1 _ HN.out (by omega) (IntRow.reads_own HO4.out) HR1.out).mono ?_
  rintro e w5 ⟨rfl, d3, rfl⟩
  go_wp2_with fail
  refine (IntRow.held_c _ p2 n c2 1 (by omega) (by omega) (by omega) (IntRow.reads_own (HO5.out.drewN d3))).mono ?_
  rintro e w6 ⟨rfl, d4, rfl⟩
  go_wp2
  go_ret
  exact ⟨rfl, below_drewN (BelowKit.bl_trans HB1.out HB4.out) _⟩

/-! ### THE ROW's STEP: WRITTEN OUT: LEAVE IT -/
set_option maxRecDepth 100000 in
theorem lifted (os : Os) (started : os.Started) (H : Type) (enc : TypeId × Value → H) :
    ReturnsInHanded {} Try.checked os 9 .any (Rows.fnExactSpreadYearSpec.pre6 enc Try.prog Try.f9 Rows.fnExactSpreadYearRow.domain false) (Rows.fnExactSpreadYearSpec.post enc Try.prog Try.f9 false true false false) := by
  refine returnsInHanded_of_change (C := Try.checked) own started (by kernel_rfl) Try.func9
    (ChangeSpec.witness6 (enc := enc) (C := Try.checked) false ⟨#[], #[.int .i64 0, .int .i64 0], []⟩ 8 (by kernel_rfl) (by kernel_rfl) (by kernel_rfl) (by kernel_rfl)) ?_
  intro W base args ds gs before hval0 hW hcnd _
  have hval : ∀ (j : Nat) t v, Try.f9.params[j]? = some t → args[j]? = some v → Value.okWide Try.prog W .any base t v := hval0
  have hW' := hW
  obtain ⟨p, q, hA0, hV, rfl, hfz, hnd⟩ := hW
  have hA : DataW.TrodAll enc Try.prog W 0 (fun _ => true) true Try.f9.params.toList args.toList ds p := hA0
  rw [Try.params9] at hA hval
  obtain ⟨v0, vs0, d0, ds0, p0, q0, hargs, rfl, rfl, h0, r0⟩ := trodAll_cons hA
  obtain ⟨v1, vs1, d1, ds1, p1, q1, rfl, rfl, rfl, h1, r1⟩ := trodAll_cons r0
  obtain ⟨rfl, rfl, rfl⟩ := trodAll_nil r1
  obtain rfl : args = #[v0, v1] := by cases args; simp_all
  obtain ⟨rfl, rfl⟩ := trodVars_none hV
  obtain ⟨a0, rfl, rfl, rfl, w0⟩ := open_int Try.underlying3 (hval 0 3 v0 rfl rfl) h0
  obtain ⟨a1, rfl, rfl, rfl, w1⟩ := open_int Try.underlying3 (hval 1 3 v1 rfl rfl) h1
  clear hA0 hval0
  simp only [List.append_nil] at hW'
  refine (walk a0 a1 w0 w1 W).mono fun e W' ⟨he, bel⟩ => ?_
  subst he
  exact ⟨_, rfl, _, _, _, [], [], [], hW', (trodAll_cons_mk (shut_bool Try.underlying4 _) trodAll_mk0), (trodAll_cons_mk (shut_int Try.underlying3 w0) (trodAll_cons_mk (shut_int Try.underlying3 w1) trodAll_mk0)), rfl, bel.frame _, fun h => by cases h⟩

theorem over : Rows.fnExactSpreadYearRow.holds Try.pinned (OpenSpec.ofChange Rows.fnExactSpreadYearSpec) :=
  OpenClaim.holds_of_wide 9 Try.f9 rfl rfl rfl rfl rfl rfl rfl ⟨rfl, rfl, rfl, rfl, rfl⟩ rfl rfl rfl rfl rfl (by kernel_rfl) Try.func9 (by kernel_rfl)
    (of_decide_eq_true (by kernel_rfl)) (by unfold Func.isWrapper; first | (rw [if_pos (by decide +kernel)]; kernel_rfl) | (rw [if_neg (by decide +kernel)]; exact ⟨rfl, rfl⟩))
    (fun os started H enc _ => lifted os started H enc)

theorem proved : Rows.FnExactSpreadYearSaid :=
  over
#print axioms proved
end Go.Proofs.Ytdmnagpnhphifaa.fnExactSpreadYear
