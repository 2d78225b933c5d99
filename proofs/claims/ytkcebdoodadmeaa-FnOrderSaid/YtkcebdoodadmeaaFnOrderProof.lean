/- Proves the given statement of the law FnOrder: for every input that the row lets in, the law's Go function returns true and every argument reads as before; no condition of mine. -/
import Derived.Test.YtkcebdoodadmeaaDrawFrac
import Derived.Test.YtkcebdoodadmeaaFracOrder
import Derived.Test.YtkcebdoodadmeaaFracBlk
import Derived.Test.YtkcebdoodadmeaaAppendCode
import Derived.Test.YtkcebdoodadmeaaBt
import Derived.Test.YtkcebdoodadmeaaCurKit
import Derived.Test.YtkcebdoodadmeaaFracI
import Derived.Test.YtkcebdoodadmeaaFracISub
import Derived.Test.YtkcebdoodadmeaaFracICmp
import Derived.Test.YtkcebdoodadmeaaBelowKit
import Derived.Test.YtkcebdoodadmeaaRows
import Derived.WalkKit
import Derived.ProofKit
import Derived.OpenShut
import Derived.ShutString
import Derived.ChangeOld
import Derived.Below
namespace Go.Proofs.Ytkcebdoodadmeaa.fnOrder
open Go.ChangeShapes Go.WideShapes Go.ChangeAt Go.RowKit
open Go.ChangeMaps (open_string shut_string)
set_option linter.unusedVariables false

theorem own : ownKnob Try.prog.godebug = none := by kernel_rfl
theorem laidOut : laidOutB Try.prog = true := by kernel_rfl

/-- WHAT THE WALK IS TOLD OF A SLICE OF INTEGERS THAT CAME IN: it is nil; or it leads to a row of 'cap' cells, the numbers 'zs' (the first 'len' are its elements, the rest its spare room), each fitting its kind. -/
def IsRow (k : IntKind) (w : World) (a : Option Addr) (len cap : Nat) (zs : List Int) : Prop :=
  (a = none ∧ len = 0 ∧ cap = 0 ∧ zs = []) ∨
  ∃ x, a = some x ∧ len ≤ cap ∧ cap ≤ maxLen ∧ zs.length = cap ∧ (∀ i, i < zs.length → w.cell? (x.add i) = some (.int k (zs.getD i 0))) ∧ ∀ n ∈ zs, (Lit.int k n).wf = true

/-! ### STEP 1: THE WALK: the Go text returns true, AND WRITES NOTHING THAT WAS THERE: 'Below w.heap.size w w'' (Derived/Below.lean: '.refl', '.alloc', '.drew', '.setCell' at a new block, '.trans'). Open each 'IsRow' by 'rcases' AHEAD of 'go_enter'; part every test ahead of the walk. -/
theorem walk (a0 : Option Addr) (len0 cap0 : Nat) (z0 : List Int) (w : World) (w0 : IsRow .u8 w a0 len0 cap0 z0) :
    Calls Try.prog 4 #[.slice a0 len0 cap0] w fun e w' => e = .returned (.bool true) ∧ Below w.heap.size w w' := by
  have hnil : a0 = none → len0 = 0 ∧ cap0 = 0 := by
    rcases w0 with ⟨_, h1, h2, _⟩ | ⟨x, h, _⟩
    · exact fun _ => ⟨h1, h2⟩
    · intro h'; rw [h] at h'; cases h'
  obtain ⟨hcode, hs⟩ := CurKit.code_at w0
  clear w0
  have HN := Lib.hid hnil
  have HK := Lib.hid hcode
  have HS := Lib.hid hs
  clear hcode hnil
  unfold maxLen at hs
  by_cases hbig : 1048576 < len0
  · go_enter Try.func4, Try.ntmps4
    go_wp2
    go_ret
    exact ⟨rfl, Below.refl _ _⟩
  · go_enter Try.func4, Try.ntmps4
    go_wp2_with (go_at_call 12; go_in)
    refine (DrawFrac.draw_c _ a0 len0 cap0 HK.out HS.out).mono ?_
    rintro e w1 ⟨a, b, h1, rfl, hb1⟩
    have H1 := Lib.hid h1
    have hz1 := hb1.size
    have HB1 := Lib.hid hb1
    have HK1 := Lib.hid (AppendCode.code_below HK.out hb1)
    clear h1 hb1
    obtain ⟨hown, hcode2⟩ := AppendCode.lit_code (l := [3]) w1 (.cells #[.int .i64 a, .int .i64 b] 25) 5 HK1.out (by simp)
    have HO := Lib.hid hown
    have HC2 := Lib.hid hcode2
    clear hown hcode2
    go_wp2_with (at_builtin; refine AppendCode.wpList_append_code Bt.bt _ rfl _ _ rfl (w1.heap.size + 1) _ [3] rfl HO.out a0 len0 cap0 rfl HC2.out HN.out ?_ ?_ ?_; (simp; omega); (simp); intro v' w2 news hnl hown2 hb2)
    obtain ⟨g, cap, rfl, hg, hcd⟩ := AppendCode.own_code hown2 (by simp)
    have hln : ([3] ++ news : List UInt8).length ≤ maxLen := by simp [maxLen]; omega
    have HCD := Lib.hid (And.intro hcd hln)
    have BA := Lib.hid ((((FracBlk.FB.new w1 25 a b).alloc (.cells #[.int .u8 3] 5)).below hb2 (Nat.lt_succ_self _)))
    have hbw : Below w.heap.size w w2 := ((((HB1.out).alloc (HB1.out.size) _).alloc (by simp; omega) _)).trans (hb2.mono (by omega))
    have HB2 := Lib.hid hbw
    clear hb2 hown2 hcd hln hnl hbw HO HC2
    refine (DrawFrac.draw_c w2 (some ⟨g, 0, none⟩) _ cap HCD.out.1 HCD.out.2).mono ?_
    rintro e w3 ⟨c, d, h3, rfl, hb3⟩
    have H3 := Lib.hid h3
    have BA3 := Lib.hid (BA.out.on hb3)
    have HB3 := Lib.hid hb3
    clear h3 hb3 BA HCD
    have lA := BA3.out.lt
    have cA0 := BA3.out.c0
    have cA1 := BA3.out.c1
    obtain ⟨x, y, hx, hord⟩ := FracOrder.order_small H1.out H3.out
    have HX := Lib.hid hx
    have HV := Lib.hid (FracOrder.new_three H1.out)
    have hA1 := H1.out.n1
    have hA2 := H1.out.n2
    have hA3 := H1.out.d1
    have hA4 := H1.out.d2
    clear hx
    have hord2 : ∃ s : Int, ((s = -1 ∧ decide (0 < x) = false ∧ (x == 0) = false) ∨ (s = 0 ∧ decide (0 < x) = false ∧ (x == 0) = true) ∨ (s = 1 ∧ decide (0 < x) = true ∧ (x == 0) = false)) ∧ Hid (FracMath.cmpI a b c d = s ∧ FracMath.cmpI c d a b = -s) := by
      rcases hord with ⟨p, q, r⟩ | ⟨p, q, r⟩ | ⟨p, q, r⟩
      · exact ⟨-1, .inl ⟨rfl, by simp; omega, by simp; omega⟩, p, q⟩
      · exact ⟨0, .inr (.inl ⟨rfl, by simp; omega, by simp; omega⟩), p, q⟩
      · exact ⟨1, .inr (.inr ⟨rfl, by simp; omega, by simp; omega⟩), p, q⟩
    obtain ⟨s, hs3, HC⟩ := hord2
    clear hord
    rcases hs3 with ⟨rfl, e1, e2⟩ | ⟨rfl, e1, e2⟩ | ⟨rfl, e1, e2⟩
    all_goals
      go_wp2_with fail
      refine (FracISub.sub_i a b c d _).mono ?_
      rintro e w4 ⟨rfl, hb4⟩
      rw [HX.out]
      have BA4 := Lib.hid ((BA3.out.alloc _).on hb4)
      clear BA3 lA cA0 cA1
      have BC4 := Lib.hid ((FracBlk.FB.new w3 25 c d).on hb4)
      have lA := BA4.out.lt
      have cA0 := BA4.out.c0
      have cA1 := BA4.out.c1
      have lC := BC4.out.lt
      have cC0 := BC4.out.c0
      have cC1 := BC4.out.c1
      have HB4 := Lib.hid hb4
      clear hb4
      go_wp2_with fail
      refine (FracI.new_i (-3 * a) (-3 * b) _).mono ?_
      rintro e w5 ⟨rfl, hb5⟩
      rw [HV.out]
      have BA5 := Lib.hid ((BA4.out.alloc _).on hb5)
      clear BA4 lA cA0 cA1
      have BC5 := Lib.hid ((BC4.out.alloc _).on hb5)
      clear BC4 lC cC0 cC1
      have BX5 := Lib.hid ((FracBlk.FB.new w4 25 x y).on hb5)
      have lA := BA5.out.lt
      have cA0 := BA5.out.c0
      have cA1 := BA5.out.c1
      have lC := BC5.out.lt
      have cC0 := BC5.out.c0
      have cC1 := BC5.out.c1
      have lX := BX5.out.lt
      have cX0 := BX5.out.c0
      have cX1 := BX5.out.c1
      have HB5 := Lib.hid hb5
      clear hb5
      go_wp2_with fail
      refine (FracICmp.cmp_i a b c d _).mono ?_
      rintro e w6 ⟨rfl, hb6⟩
      rw [HC.out.1]
      have BA6 := Lib.hid ((BA5.out.alloc _).on hb6)
      clear BA5 lA cA0 cA1
      have BC6 := Lib.hid ((BC5.out.alloc _).on hb6)
      clear BC5 lC cC0 cC1
      have BX6 := Lib.hid ((BX5.out.alloc _).on hb6)
      clear BX5 lX cX0 cX1
      have BV6 := Lib.hid ((FracBlk.FB.new w5 25 a b).on hb6)
      have lA := BA6.out.lt
      have cA0 := BA6.out.c0
      have cA1 := BA6.out.c1
      have lC := BC6.out.lt
      have cC0 := BC6.out.c0
      have cC1 := BC6.out.c1
      have lX := BX6.out.lt
      have cX0 := BX6.out.c0
      have cX1 := BX6.out.c1
      have lV := BV6.out.lt
      have cV0 := BV6.out.c0
      have cV1 := BV6.out.c1
      have HB6 := Lib.hid hb6
      clear hb6
      go_wp2_with fail
      refine (FracICmp.cmp_i c d a b _).mono ?_
      rintro e w7 ⟨rfl, hb7⟩
      rw [HC.out.2]
      have BA7 := Lib.hid ((BA6.out).on hb7)
      clear BA6 lA cA0 cA1
      have BC7 := Lib.hid ((BC6.out).on hb7)
      clear BC6 lC cC0 cC1
      have BX7 := Lib.hid ((BX6.out).on hb7)
      clear BX6 lX cX0 cX1
      have BV7 := Lib.hid ((BV6.out).on hb7)
      clear BV6 lV cV0 cV1
      have lA := BA7.out.lt
      have cA0 := BA7.out.c0
      have cA1 := BA7.out.c1
      have lC := BC7.out.lt
      have cC0 := BC7.out.c0
      have cC1 := BC7.out.c1
      have lX := BX7.out.lt
      have cX0 := BX7.out.c0
      have cX1 := BX7.out.c1
      have lV := BV7.out.lt
      have cV0 := BV7.out.c0
      have cV1 := BV7.out.c1
      have HB7 := Lib.hid hb7
      clear hb7
      go_wp2
      go_ret
      exact ⟨rfl, by (repeat (first | exact Below.refl _ _ | apply BelowKit.bl_alloc | apply BelowKit.bl_drewN | apply BelowKit.bl_drew | (refine BelowKit.bl_set ?_ _ ?_; rotate_left; (first | omega | (simp; omega) | simp)) | (refine BelowKit.bl_trans ?_ (‹Hid (Below _ _ _)›).out)))⟩

/-! ### THE ROW's STEP: WRITTEN OUT: LEAVE IT -/
set_option maxRecDepth 100000 in
theorem lifted (os : Os) (started : os.Started) (H : Type) (enc : TypeId × Value → H) :
    ReturnsInHanded {} Try.checked os 4 .any (Rows.fnOrderSpec.pre6 enc Try.prog Try.f4 Rows.fnOrderRow.domain false) (Rows.fnOrderSpec.post enc Try.prog Try.f4 false true false false) := by
  refine returnsInHanded_of_change (C := Try.checked) own started (by kernel_rfl) Try.func4
    (ChangeSpec.witness6 (enc := enc) (C := Try.checked) false ⟨#[], #[.slice none 0 0], []⟩ 8 (by kernel_rfl) (by kernel_rfl) (by kernel_rfl) (by kernel_rfl)) ?_
  intro W base args ds gs before hval0 hW hcnd _
  have hval : ∀ (j : Nat) t v, Try.f4.params[j]? = some t → args[j]? = some v → Value.okWide Try.prog W .any base t v := hval0
  have hW' := hW
  obtain ⟨p, q, hA0, hV, rfl, hfz, hnd⟩ := hW
  have hA : DataW.TrodAll enc Try.prog W 0 (fun _ => true) true Try.f4.params.toList args.toList ds p := hA0
  rw [Try.params4] at hA hval
  obtain ⟨v0, vs0, d0, ds0, p0, q0, hargs, rfl, rfl, h0, r0⟩ := trodAll_cons hA
  obtain ⟨rfl, rfl, rfl⟩ := trodAll_nil r0
  obtain rfl : args = #[v0] := by cases args; simp_all
  obtain ⟨rfl, rfl⟩ := trodVars_none hV
  obtain ⟨a0, len0, cap0, rfl⟩ := okWide_slice Try.underlying22 (hval 0 22 v0 rfl rfl)
  have k0 := h0
  have lt0 : ∀ x ∈ p0, x.block < W.heap.size := by obtain ⟨m, hm⟩ := k0; exact DataW.trod_lt m _ _ _ hm
  obtain ⟨z0, w0⟩ : ∃ zs, IsRow .u8 W a0 len0 cap0 zs := by
    obtain ⟨fuel, hf⟩ := h0
    rcases open_ints Try.underlying22 Try.underlying5 (by kernel_rfl) hf with ⟨hcs, _⟩ | ⟨x, l, c, zs, hcs, _, hl, hm, hz, _, hcell, hwz⟩
    · simp [Value.cells] at hcs
      obtain ⟨rfl, rfl, rfl⟩ := hcs
      exact ⟨[], .inl ⟨rfl, rfl, rfl, rfl⟩⟩
    · simp [Value.cells] at hcs
      obtain ⟨rfl, rfl, rfl⟩ := hcs
      exact ⟨zs, .inr ⟨_, rfl, hl, hm, by simpa using hz, hcell, hwz⟩⟩
  clear hA0 hval0
  refine (walk a0 len0 cap0 z0 W w0).mono fun e W' ⟨he, bel⟩ => ?_
  subst he
  exact ⟨_, rfl, _, _, _, [], _, [], hW', trodAll_mk1 (shut_bool Try.underlying4 _), (trodAll_cons_mk (Below.trod laidOut (by kernel_rfl) (of_decide_eq_true (by kernel_rfl)) k0 bel lt0) trodAll_mk0), rfl, bel.frame _, fun h => by cases h⟩

theorem over : Rows.fnOrderRow.holds Try.pinned (OpenSpec.ofChange Rows.fnOrderSpec) :=
  OpenClaim.holds_of_wide 4 Try.f4 rfl rfl rfl rfl rfl rfl rfl ⟨rfl, rfl, rfl, rfl, rfl⟩ rfl rfl rfl rfl rfl (by kernel_rfl) Try.func4 (by kernel_rfl)
    (of_decide_eq_true (by kernel_rfl)) (by unfold Func.isWrapper; first | (rw [if_pos (by decide +kernel)]; kernel_rfl) | (rw [if_neg (by decide +kernel)]; exact ⟨rfl, rfl⟩))
    (fun os started H enc _ => lifted os started H enc)

theorem proved : Rows.FnOrderSaid := over
#print axioms proved
end Go.Proofs.Ytkcebdoodadmeaa.fnOrder
