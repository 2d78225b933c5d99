/- Proves the given statement of the law FnExactSpellsOk: for every input that the row lets in, the law's Go function returns true and every argument reads as before; no condition of mine. -/
import Derived.Test.YtkoeodmneedjcaaSpellS
import Derived.Test.YtkoeodmneedjcaaSpellI
import Derived.Test.YtkoeodmneedjcaaTSpell
import Derived.Test.YtkoeodmneedjcaaTSegment
import Derived.Test.YtkoeodmneedjcaaSpellMath
import Derived.Test.YtkoeodmneedjcaaKit
import Derived.Test.YtkoeodmneedjcaaRows
import Derived.WalkKit
import Derived.ProofKit
import Derived.OpenShut
import Derived.ShutString
import Derived.ChangeOld
import Derived.Below
import Derived.Deep.RegionHeld3
import Derived.Deep.DeepCutAuto
import Derived.Lib.Hide
import Derived.Lib.SmallJoins
namespace Go.Proofs.Ytkoeodmneedjcaa.fnExactSpellsOk
open Go.ChangeShapes Go.WideShapes Go.ChangeAt Go.RowKit
open Go.ChangeMaps (open_string shut_string)
set_option linter.unusedVariables false

theorem own : ownKnob Try.prog.godebug = none := by kernel_rfl
theorem laidOut : laidOutB Try.prog = true := by kernel_rfl

/-! ### STEP 1: the walk -/
set_option maxHeartbeats 8000000 in
theorem walk (a0 : Option Addr) (len0 cap0 : Nat) (z0 : List TSpell.El) (w : World) (hz0 : z0.length = len0) (w0 : RowN.Reads TSpell.fc 4 w a0 z0) (hl0 : len0 ≤ 9223372036854775807) (g0 : ∀ x ∈ z0, TSpell.Wf x) :
    Calls Try.prog 6 #[.slice a0 len0 cap0] w fun e w' => e = .returned (.bool true) ∧ Below w.heap.size w w' := by
  have HR0 := Lib.hid w0
  have HM0 := Lib.hid hz0
  clear w0 hz0
  by_cases hbig : 1048576 < len0
  · go_enter Try.func6, Try.ntmps6
    go_wp2_with fail
    refine (TSpell.sz_c w a0 len0 cap0 1048576 hl0 (by omega) (by omega)).mono ?_
    rintro e w9 ⟨rfl, hb⟩
    rw [if_pos (by omega)]
    have HC9 := Lib.hid hb
    clear hb
    go_wp2
    go_ret
    exact ⟨rfl, HC9.out⟩
  have hs0 : len0 ≤ 1048576 := by omega
  obtain ⟨m0, hm0⟩ : ∃ v, SpellMath.okB z0 = v := ⟨_, rfl⟩
  have HF0 := Lib.hid hm0
  clear hm0
  go_enter Try.func6, Try.ntmps6
  go_wp2_with fail
  refine (TSpell.sz_c w a0 len0 cap0 1048576 hl0 (by omega) (by omega)).mono ?_
  rintro e w1 ⟨rfl, hb⟩
  rw [if_neg (by omega)]
  have sw1 : w.heap.size ≤ w1.heap.size := hb.size
  have HC2 := Lib.hid hb
  clear hb
  go_wp2_with fail
  refine (TSpell.to_c w1 a0 len0 cap0 z0 HM0.out (by omega) (HR0.out.on HC2.out)).mono ?_
  rintro e w6 ⟨p3, c4, rfl, ho0, hb⟩
  rw [HM0.out] at ho0 ⊢
  have sw6 : w1.heap.size ≤ w6.heap.size := hb.size
  have HC7 := Lib.hid (BelowKit.bl_trans HC2.out hb)
  clear HC2 hb
  have HO8 := Lib.hid (Own.ow_of ho0)
  clear ho0
  go_wp2_with fail
  refine (SpellS.ok_s w6 p3 len0 c4 z0 HM0.out (by omega) (HO8.out.reads TSpell.fw)).mono ?_
  rintro e w9 ⟨rfl, hb⟩
  rw [HF0.out]
  have sw9 : w6.heap.size ≤ w9.heap.size := hb.size
  have HO10 := Lib.hid (HO8.out.on hb)
  have HC11 := Lib.hid (BelowKit.bl_trans HC7.out hb)
  clear HO8 HC7 hb
  go_wp2_with fail
  refine (TSpell.to_c w9 a0 len0 cap0 z0 HM0.out (by omega) (HR0.out.on HC11.out)).mono ?_
  rintro e w15 ⟨p12, c13, rfl, ho0, hb⟩
  rw [HM0.out] at ho0 ⊢
  have sw15 : w9.heap.size ≤ w15.heap.size := hb.size
  have HO16 := Lib.hid (HO10.out.on hb)
  have HC17 := Lib.hid (BelowKit.bl_trans HC11.out hb)
  clear HO10 HC11 hb
  have HO18 := Lib.hid (Own.ow_of ho0)
  clear ho0
  go_wp2_with fail
  refine (SpellI.ok_i w15 p12 len0 c13 z0 HM0.out (by omega) (HO18.out.reads TSpell.fw)).mono ?_
  rintro e w19 ⟨rfl, hb⟩
  rw [HF0.out]
  have sw19 : w15.heap.size ≤ w19.heap.size := hb.size
  have HO20 := Lib.hid (HO16.out.on hb)
  have HO21 := Lib.hid (HO18.out.on hb)
  have HC22 := Lib.hid (BelowKit.bl_trans HC17.out hb)
  clear HO16 HO18 HC17 hb
  go_wp2_with fail
  refine (TSpell.to_c w19 a0 len0 cap0 z0 HM0.out (by omega) (HR0.out.on HC22.out)).mono ?_
  rintro e w26 ⟨p23, c24, rfl, ho0, hb⟩
  rw [HM0.out] at ho0 ⊢
  have sw26 : w19.heap.size ≤ w26.heap.size := hb.size
  have HO27 := Lib.hid (HO20.out.on hb)
  have HO28 := Lib.hid (HO21.out.on hb)
  have HC29 := Lib.hid (BelowKit.bl_trans HC22.out hb)
  clear HO20 HO21 HC22 hb
  have HO30 := Lib.hid (Own.ow_of ho0)
  clear ho0
  go_wp2_with fail
  refine (TSpell.eq_c w26 len0 c13 c24 p12 p23 z0 HM0.out (by omega) (HO28.out.reads TSpell.fw) (HO30.out.reads TSpell.fw)).mono ?_
  rintro e w31 ⟨rfl, hb⟩
  have sw31 : w26.heap.size ≤ w31.heap.size := hb.size
  have HO32 := Lib.hid (HO27.out.on hb)
  have HO33 := Lib.hid (HO28.out.on hb)
  have HO34 := Lib.hid (HO30.out.on hb)
  have HC35 := Lib.hid (BelowKit.bl_trans HC29.out hb)
  clear HO27 HO28 HO30 HC29 hb
  go_wp2
  go_ret
  exact ⟨rfl, by (repeat (first | exact Below.refl _ _ | apply BelowKit.bl_alloc | apply BelowKit.bl_drewN | apply BelowKit.bl_drew | (refine BelowKit.bl_set ?_ _ ?_; rotate_left; (first | omega | (simp; omega) | simp)) | (refine BelowKit.bl_trans ?_ (‹Hid (Below _ _ _)›).out)))⟩

/-! ### THE ROW's STEP -/
set_option maxRecDepth 100000 in
theorem lifted (os : Os) (started : os.Started) (H : Type) (enc : TypeId × Value → H) :
    ReturnsInHanded {} Try.checked os 6 .any (Rows.fnExactSpellsOkSpec.pre6 enc Try.prog Try.f6 Rows.fnExactSpellsOkRow.domain false) (Rows.fnExactSpellsOkSpec.post enc Try.prog Try.f6 false true false false) := by
  refine returnsInHanded_of_change (C := Try.checked) own started (by kernel_rfl) Try.func6
    (ChangeSpec.witness6 (enc := enc) (C := Try.checked) false ⟨#[], #[.slice none 0 0], []⟩ 8 (by kernel_rfl) (by kernel_rfl) (by kernel_rfl) (by kernel_rfl)) ?_
  intro W base args ds gs before hval0 hW hcnd _
  have hval : ∀ (j : Nat) t v, Try.f6.params[j]? = some t → args[j]? = some v → Value.okWide Try.prog W .any base t v := hval0
  have hW' := hW
  obtain ⟨p, q, hA0, hV, rfl, hfz, hnd⟩ := hW
  have hA : DataW.TrodAll enc Try.prog W 0 (fun _ => true) true Try.f6.params.toList args.toList ds p := hA0
  rw [Try.params6] at hA hval
  obtain ⟨v0, vs0, d0, ds0, p0, q0, hargs, rfl, rfl, h0, r0⟩ := trodAll_cons hA
  obtain ⟨rfl, rfl, rfl⟩ := trodAll_nil r0
  obtain rfl : args = #[v0] := by cases args; simp_all
  obtain ⟨rfl, rfl⟩ := trodVars_none hV
  have k0 := h0
  have lt0 : ∀ x ∈ p0, x.block < W.heap.size := by obtain ⟨m, hm⟩ := k0; exact DataW.trod_lt m _ _ _ hm
  obtain ⟨a0, len0, cap0, rfl⟩ := okWide_slice Try.underlying39 (hval 0 39 v0 rfl rfl)
  have s0 : Shape.FitL W [.sl [.int .i64, .int .i64, .int .i64, .bool]] [.slice a0 len0 cap0] := by
    obtain ⟨fu, hfu⟩ := h0
    exact Shape.trod_fit 8 39 _ (by kernel_rfl) _ _ _ hfu
  obtain ⟨_, _, _, _, e0, s0, _⟩ := Shape.fit_sl s0
  cases e0
  obtain ⟨z0, hz0, w0, hl0, g0⟩ := Shape.reads_of (f := TSpell.fc) (c := 4) (good := TSpell.Wf) rfl (fun _ h => TSpell.cov h) s0
  clear hA0 hval0
  refine (walk a0 len0 cap0 z0 W hz0 w0 hl0 g0).mono fun e W' ⟨he, bel⟩ => ?_
  subst he
  exact ⟨_, rfl, _, _, _, [], _, [], hW', trodAll_mk1 (shut_bool Try.underlying4 _), (trodAll_cons_mk (Below.trod laidOut (by kernel_rfl) (of_decide_eq_true (by kernel_rfl)) k0 bel lt0) trodAll_mk0), rfl, bel.frame _, fun h => by cases h⟩

theorem over : Rows.fnExactSpellsOkRow.holds Try.pinned (OpenSpec.ofChange Rows.fnExactSpellsOkSpec) :=
  OpenClaim.holds_of_wide 6 Try.f6 rfl rfl rfl rfl rfl rfl rfl ⟨rfl, rfl, rfl, rfl, rfl⟩ rfl rfl rfl rfl rfl (by kernel_rfl) Try.func6 (by kernel_rfl)
    (of_decide_eq_true (by kernel_rfl)) (by unfold Func.isWrapper; first | (rw [if_pos (by decide +kernel)]; kernel_rfl) | (rw [if_neg (by decide +kernel)]; exact ⟨rfl, rfl⟩))
    (fun os started H enc _ => lifted os started H enc)

theorem proved : Rows.FnExactSpellsOkSaid := over
#print axioms proved
end Go.Proofs.Ytkoeodmneedjcaa.fnExactSpellsOk
