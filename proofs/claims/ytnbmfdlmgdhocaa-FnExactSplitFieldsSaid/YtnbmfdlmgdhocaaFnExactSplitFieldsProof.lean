/- Proves the given statement of the law FnExactSplitFields: for every input that the row lets in, the law's Go function returns true and every argument reads as before; no condition of mine. -/
import Derived.Test.YtnbmfdlmgdhocaaSplitS
import Derived.Test.YtnbmfdlmgdhocaaMarks
import Derived.Test.YtnbmfdlmgdhocaaRows
import Derived.WalkKit
import Derived.ProofKit
import Derived.OpenShut
import Derived.Below
import Derived.ShutString
namespace Go.Proofs.Ytnbmfdlmgdhocaa.fnExactSplitFields
open Go.ChangeShapes Go.WideShapes Go.ChangeAt Go.RowKit
open Go.ChangeMaps (open_string shut_string)
set_option linter.unusedVariables false      -- a walk need not use every 'w<i>' (that an integer argument fits its kind)

theorem own : ownKnob Try.prog.godebug = none := by kernel_rfl

/-! ### STEP 1: THE WALK: the Go text returns true. 'Grown w w'': the world has at most new blocks (Derived/RowKit3.lean). Part the cases AHEAD of 'go_enter' where a test parts the walk; take each callee by a contract of your own. -/
theorem walk (a0 : ByteArray) (w0 : a0.size ≤ maxLen) (w : World) :
    Calls Try.prog 7 #[.string a0] w fun e w' => e = .returned (.bool true) ∧ Below w.heap.size w w' := by
  by_cases hbig : 1048576 < a0.size
  · unfold maxLen at w0
    go_enter Try.func7, Try.ntmps7
    go_wp2
    go_ret
    exact ⟨rfl, Below.refl _ _⟩
  · have hbig' : a0.size ≤ 1048576 := by omega
    clear hbig
    have c1 : ∀ w, Calls Try.prog 18 #[.string a0] w (SplitI.Fields w (SplitMath.split a0)) := fun w => by
      by_cases h : 600 < a0.size
      · exact SplitS.spec_long a0 w h hbig'
      · exact SplitS.spec_split a0 w (by omega)
    have c2 : ∀ w, Calls Try.prog 19 #[.string a0] w (SplitI.Fields w (SplitMath.split a0)) := fun w => by
      by_cases h : 600 < a0.size
      · exact SplitI.impl_long a0 w h hbig'
      · exact SplitI.impl_split a0 w (by omega)
    have hle : ((SplitMath.split a0).getD []).length ≤ 1048576 := by
      unfold SplitMath.split
      split
      · simp
      · have := SplitMath.st_le a0 a0.size
        show (SplitMath.fin a0).length ≤ 1048576
        unfold SplitMath.fin
        split
        · rw [List.length_append, List.length_singleton]; omega
        · omega
    obtain ⟨r, hr⟩ : ∃ r, SplitMath.split a0 = r := ⟨_, rfl⟩
    rw [hr] at c1 c2 hle
    obtain ⟨ss, hss⟩ : ∃ ss, r.getD [] = ss := ⟨_, rfl⟩
    obtain ⟨ok, hok⟩ : ∃ ok, r.isSome = ok := ⟨_, rfl⟩
    have H1 := Lib.hid c1
    have H2 := Lib.hid c2
    have HSS := Lib.hid hss
    have HOK := Lib.hid hok
    rw [hss] at hle
    clear c1 c2 hr hss hok
    go_enter Try.func7, Try.ntmps7
    go_wp2_with fail
    refine (H1.out _).mono ?_
    rintro e w1 ⟨v1, rfl, o1, b1⟩
    rw [HSS.out] at o1
    rw [HOK.out]
    have O1 := Lib.hid o1
    have B1 := Lib.hid b1
    clear o1 b1
    go_wp2_with fail
    refine (H2.out _).mono ?_
    rintro e w2 ⟨v2, rfl, o2, b2⟩
    rw [HSS.out] at o2
    rw [HOK.out]
    have O1b := Lib.hid (O1.out.below b2 O1.out.lt)
    have HV1 := Lib.hid O1.out.lt
    have O2 := Lib.hid o2
    have B2 := Lib.hid b2
    have HS2 := Lib.hid b2.size
    clear o2 b2 O1
    go_wp2_with fail
    refine (Marks.eq_c _ _ _ _ _ _ hle O2.out O1b.out).mono ?_
    rintro e w3 ⟨rfl, n3, rfl⟩
    go_wp2_with fail
    refine (Marks.mark_one (w2.drewN n3) w1.heap.size v2 ss hle HS2.out (O2.out.drewN n3)).mono ?_
    rintro e w4 ⟨rfl, o4, b4⟩
    obtain ⟨m, hm⟩ : ∃ m, ss.length = m := ⟨_, rfl⟩
    rw [hm] at o4 hle ⊢
    have HM := Lib.hid hm
    have O4 := Lib.hid o4
    have O1c := Lib.hid ((O1b.out.drewN n3).below b4 HV1.out)
    have B4 := Lib.hid b4
    have hs4 := b4.size
    have HS4 := Lib.hid (show w1.heap.size ≤ w4.heap.size from Nat.le_trans HS2.out hs4)
    clear o4 b4 hm hs4 O2 O1b
    go_wp2_with fail
    refine (Marks.held_one _ _ v2 m hle O4.out).mono ?_
    rintro e w5 ⟨rfl, b5⟩
    have O5 := Lib.hid (O4.out.below b5 O4.out.lt)
    have O1d := Lib.hid (O1c.out.below b5 O1c.out.lt)
    have B5 := Lib.hid b5
    have HS5 := Lib.hid (show w1.heap.size ≤ w5.heap.size from Nat.le_trans HS4.out b5.size)
    clear b5 O4 O1c
    go_wp2_with fail
    refine (H2.out _).mono ?_
    rintro e w6 ⟨v3, rfl, o6, b6⟩
    rw [HSS.out] at o6
    rw [HOK.out]
    have O6 := Lib.hid o6
    have O6b := Lib.hid (O5.out.below b6 O5.out.lt)
    have O1e := Lib.hid (O1d.out.below b6 O1d.out.lt)
    have B6 := Lib.hid b6
    clear o6 b6 O5 O1d
    go_wp2_with fail
    refine (Marks.eq_c _ _ _ _ _ ss (by rw [HM.out]; exact hle) O6.out O1e.out).mono ?_
    rintro e w7 ⟨rfl, n7, rfl⟩
    go_wp2_with fail
    refine (Marks.held_one _ _ v2 m hle (O6b.out.drewN n7)).mono ?_
    rintro e w8 ⟨rfl, b8⟩
    have B8 := Lib.hid b8
    clear b8
    go_wp2
    go_ret
    refine ⟨rfl, ?_⟩
    have s1 := B1.out.size
    have s2 := B2.out.size
    have s4 := B4.out.size
    have s5 := B5.out.size
    have s6 := B6.out.size
    have d2 : Below w.heap.size w w2 := B1.out.trans (B2.out.mono s1)
    have d4 : Below w.heap.size w w4 := Below.trans (b := w2) d2 (Below.trans (b := w2.drewN n3) ⟨rfl, rfl, rfl, Nat.le_refl _, fun _ _ => rfl⟩ (B4.out.mono s1))
    have d5 : Below w.heap.size w w5 := d4.trans (B5.out.mono d4.size)
    have d6 : Below w.heap.size w w6 := d5.trans (B6.out.mono d5.size)
    exact Below.trans (b := w6) d6 (Below.trans (b := w6.drewN n7) ⟨rfl, rfl, rfl, Nat.le_refl _, fun _ _ => rfl⟩ (B8.out.mono d6.size))

/-! ### THE ROW's STEP: WRITTEN OUT: LEAVE IT -/
set_option maxRecDepth 100000 in
theorem lifted (os : Os) (started : os.Started) (H : Type) (enc : TypeId × Value → H) :
    ReturnsInHanded {} Try.checked os 7 .any (Rows.fnExactSplitFieldsSpec.pre6 enc Try.prog Try.f7 Rows.fnExactSplitFieldsRow.domain false) (Rows.fnExactSplitFieldsSpec.post enc Try.prog Try.f7 false true false false) := by
  refine returnsInHanded_of_change (C := Try.checked) own started (by kernel_rfl) Try.func7
    (ChangeSpec.witness6 (enc := enc) (C := Try.checked) false ⟨#[], #[.string ByteArray.empty], []⟩ 8 (by kernel_rfl) (by kernel_rfl) (by kernel_rfl) (by kernel_rfl)) ?_
  intro W base args ds gs before hval0 hW hcnd _
  have hval : ∀ (j : Nat) t v, Try.f7.params[j]? = some t → args[j]? = some v → Value.okWide Try.prog W .any base t v := hval0
  have hW' := hW
  obtain ⟨p, q, hA0, hV, rfl, hfz, hnd⟩ := hW
  have hA : DataW.TrodAll enc Try.prog W 0 (fun _ => true) true Try.f7.params.toList args.toList ds p := hA0
  rw [Try.params7] at hA hval
  obtain ⟨v0, vs0, d0, ds0, p0, q0, hargs, rfl, rfl, h0, r0⟩ := trodAll_cons hA
  obtain ⟨rfl, rfl, rfl⟩ := trodAll_nil r0
  obtain rfl : args = #[v0] := by cases args; simp_all
  obtain ⟨rfl, rfl⟩ := trodVars_none hV
  obtain ⟨a0, rfl, rfl, rfl, w0⟩ := open_string Try.underlying9 (hval 0 9 v0 rfl rfl) h0
  clear hA0 hval0
  simp only [List.append_nil] at hW'
  refine (walk a0 w0 W).mono fun e W' ⟨he, bel⟩ => ?_
  subst he
  exact ⟨_, rfl, _, _, _, [], [], [], hW', (trodAll_cons_mk (shut_bool Try.underlying4 _) trodAll_mk0), (trodAll_cons_mk (shut_string Try.underlying9 w0) trodAll_mk0), rfl, bel.frame _, fun h => by cases h⟩

theorem over : Rows.fnExactSplitFieldsRow.holds Try.pinned (OpenSpec.ofChange Rows.fnExactSplitFieldsSpec) :=
  OpenClaim.holds_of_wide 7 Try.f7 rfl rfl rfl rfl rfl rfl rfl ⟨rfl, rfl, rfl, rfl, rfl⟩ rfl rfl rfl rfl rfl (by kernel_rfl) Try.func7 (by kernel_rfl)
    (of_decide_eq_true (by kernel_rfl)) (by unfold Func.isWrapper; first | (rw [if_pos (by decide +kernel)]; kernel_rfl) | (rw [if_neg (by decide +kernel)]; exact ⟨rfl, rfl⟩))
    (fun os started H enc _ => lifted os started H enc)

theorem proved : Rows.FnExactSplitFieldsSaid :=
  over
#print axioms proved
end Go.Proofs.Ytnbmfdlmgdhocaa.fnExactSplitFields
