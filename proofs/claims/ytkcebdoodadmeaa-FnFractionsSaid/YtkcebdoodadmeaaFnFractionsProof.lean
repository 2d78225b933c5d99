/- Proves the given statement of the law FnFractions: for every input that the row lets in, the law's Go function returns true and every argument reads as before; no condition of mine. -/
import Derived.Test.YtkcebdoodadmeaaDrawFrac
import Derived.Test.YtkcebdoodadmeaaFracOrder
import Derived.Test.YtkcebdoodadmeaaFracBlk
import Derived.Test.YtkcebdoodadmeaaAppendCode
import Derived.Test.YtkcebdoodadmeaaBt
import Derived.Test.YtkcebdoodadmeaaCurKit
import Derived.Test.YtkcebdoodadmeaaFracValid
import Derived.Test.YtkcebdoodadmeaaFracI
import Derived.Test.YtkcebdoodadmeaaFracISub
import Derived.Test.YtkcebdoodadmeaaFracIDiv
import Derived.Test.YtkcebdoodadmeaaFracICmp
import Derived.Test.YtkcebdoodadmeaaBelowKit
import Derived.Test.YtkcebdoodadmeaaRows
import Derived.WalkKit
import Derived.ProofKit
import Derived.OpenShut
import Derived.ShutString
import Derived.ChangeOld
import Derived.Below
namespace Go.Proofs.Ytkcebdoodadmeaa.fnFractions
open Go.ChangeShapes Go.WideShapes Go.ChangeAt Go.RowKit
open Go.ChangeMaps (open_string shut_string)
set_option linter.unusedVariables false

theorem own : ownKnob Try.prog.godebug = none := by kernel_rfl
theorem laidOut : laidOutB Try.prog = true := by kernel_rfl

/-- WHAT THE WALK IS TOLD OF A SLICE OF INTEGERS THAT CAME IN: it is nil; or it leads to a row of 'cap' cells, the numbers 'zs' (the first 'len' are its elements, the rest its spare room), each fitting its kind. -/
def IsRow (k : IntKind) (w : World) (a : Option Addr) (len cap : Nat) (zs : List Int) : Prop :=
  (a = none ∧ len = 0 ∧ cap = 0 ∧ zs = []) ∨
  ∃ x, a = some x ∧ len ≤ cap ∧ cap ≤ maxLen ∧ zs.length = cap ∧ (∀ i, i < zs.length → w.cell? (x.add i) = some (.int k (zs.getD i 0))) ∧ ∀ n ∈ zs, (Lit.int k n).wf = true

/-! ### STEP 1: THE WALK: the Go text returns true, AND WRITES NOTHING THAT WAS THERE: 'Below w.heap.size w w'' (Derived/Below.lean: '.refl', '.alloc', '.drew', '.setCell' at a new block, '.trans'). Open each 'IsRow' by 'rcases' AHEAD of 'go_enter'; part every test ahead of the walk. -/
theorem walk (a0 : Option Addr) (len0 cap0 : Nat) (z0 : List Int) (w : World) (w0 : IsRow .u8 w a0 len0 cap0 z0) :
    Calls Try.prog 3 #[.slice a0 len0 cap0] w fun e w' => e = .returned (.bool true) ∧ Below w.heap.size w w' := by
  have hnil : a0 = none → len0 = 0 ∧ cap0 = 0 := by
    rcases w0 with ⟨_, h1, h2, _⟩ | ⟨x, h, _⟩
    · exact fun _ => ⟨h1, h2⟩
    · intro h'; rw [h] at h'; cases h'
  obtain ⟨hcode, hs⟩ := CurKit.code_at w0
  clear w0
  have HN := Lib.hid hnil
  have HK := Lib.hid hcode
  have HS := Lib.hid hs
  clear hcode hnil
  unfold maxLen at hs
  by_cases hbig : 1048576 < len0
  · go_enter Try.func3, Try.ntmps3
    go_wp2
    go_ret
    exact ⟨rfl, Below.refl _ _⟩
  · go_enter Try.func3, Try.ntmps3
    go_wp2_with (go_at_call 12; go_in)
    refine (DrawFrac.draw_c _ a0 len0 cap0 HK.out HS.out).mono ?_
    rintro e w1 ⟨a, b, h1, rfl, hb1⟩
    have H1 := Lib.hid h1
    have hz1 := hb1.size
    have HB1 := Lib.hid hb1
    have HK1 := Lib.hid (AppendCode.code_below HK.out hb1)
    clear h1 hb1
    obtain ⟨hown, hcode2⟩ := AppendCode.lit_code (l := [3]) w1 (.cells #[.int .i64 a, .int .i64 b] 25) 5 HK1.out (by simp)
    have HO := Lib.hid hown
    have HC2 := Lib.hid hcode2
    clear hown hcode2
    go_wp2_with (at_builtin; refine AppendCode.wpList_append_code Bt.bt _ rfl _ _ rfl (w1.heap.size + 1) _ [3] rfl HO.out a0 len0 cap0 rfl HC2.out HN.out ?_ ?_ ?_; (simp; omega); (simp); intro v' w2 news hnl hown2 hb2)
    obtain ⟨g, cap, rfl, hg, hcd⟩ := AppendCode.own_code hown2 (by simp)
    have hln : ([3] ++ news : List UInt8).length ≤ maxLen := by simp [maxLen]; omega
    have HCD := Lib.hid (And.intro hcd hln)
    have BA := Lib.hid ((((FracBlk.FB.new w1 25 a b).alloc (.cells #[.int .u8 3] 5)).below hb2 (Nat.lt_succ_self _)))
    have hbw : Below w.heap.size w w2 := ((((HB1.out).alloc (HB1.out.size) _).alloc (by simp; omega) _)).trans (hb2.mono (by omega))
    have HB2 := Lib.hid hbw
    clear hb2 hown2 hcd hln hnl hbw HO HC2
    refine (DrawFrac.draw_c w2 (some ⟨g, 0, none⟩) _ cap HCD.out.1 HCD.out.2).mono ?_
    rintro e w3 ⟨c, d, h3, rfl, hb3⟩
    have H3 := Lib.hid h3
    have BA3 := Lib.hid (BA.out.on hb3)
    have HB3 := Lib.hid hb3
    clear h3 hb3 BA HCD
    have lA := BA3.out.lt
    have cA0 := BA3.out.c0
    have cA1 := BA3.out.c1
    obtain ⟨x, y, hx, hok, hback⟩ := FracOrder.sum_small H1.out H3.out
    obtain ⟨p, q, hm, hp0, hdv⟩ := FracOrder.mul_small H1.out H3.out
    have HX := Lib.hid hx
    have HY := Lib.hid hok
    have HD := Lib.hid hback
    have HM := Lib.hid hm
    have HP := Lib.hid hdv
    have HE := Lib.hid (FracOrder.cmp_same H1.out.ok)
    have hcase : (c = 0 ∧ p = 0) ∨ (c == 0) = false := by
      by_cases h0 : c = 0
      · exact .inl ⟨h0, hp0 h0⟩
      · exact .inr (by simpa using h0)
    clear hx hok hback hm hp0 hdv
    rcases hcase with ⟨rfl, rfl⟩ | hc0
    · skip
      go_wp2_with fail
      refine (FracI.add_i a b 0 d _).mono ?_
      rintro e w4 ⟨rfl, hb4⟩
      rw [HX.out]
      have BA4 := Lib.hid ((BA3.out.alloc _).on hb4)
      clear BA3 lA cA0 cA1
      have BC4 := Lib.hid ((FracBlk.FB.new w3 25 0 d).on hb4)
      have lA := BA4.out.lt
      have cA0 := BA4.out.c0
      have cA1 := BA4.out.c1
      have lC := BC4.out.lt
      have cC0 := BC4.out.c0
      have cC1 := BC4.out.c1
      have HB4 := Lib.hid hb4
      clear hb4
      go_wp2_with fail
      refine (FracISub.sub_i x y 0 d _).mono ?_
      rintro e w5 ⟨rfl, hb5⟩
      rw [HD.out]
      have BA5 := Lib.hid ((BA4.out.alloc _).on hb5)
      clear BA4 lA cA0 cA1
      have BC5 := Lib.hid ((BC4.out.alloc _).on hb5)
      clear BC4 lC cC0 cC1
      have BS5 := Lib.hid ((FracBlk.FB.new w4 25 x y).on hb5)
      have lA := BA5.out.lt
      have cA0 := BA5.out.c0
      have cA1 := BA5.out.c1
      have lC := BC5.out.lt
      have cC0 := BC5.out.c0
      have cC1 := BC5.out.c1
      have lS := BS5.out.lt
      have cS0 := BS5.out.c0
      have cS1 := BS5.out.c1
      have HB5 := Lib.hid hb5
      clear hb5
      go_wp2_with fail
      refine (FracI.mul_i a b 0 d _).mono ?_
      rintro e w6 ⟨rfl, hb6⟩
      rw [HM.out]
      have BA6 := Lib.hid ((BA5.out.alloc _).on hb6)
      clear BA5 lA cA0 cA1
      have BC6 := Lib.hid ((BC5.out.alloc _).on hb6)
      clear BC5 lC cC0 cC1
      have BS6 := Lib.hid ((BS5.out.alloc _).on hb6)
      clear BS5 lS cS0 cS1
      have BD6 := Lib.hid ((FracBlk.FB.new w5 25 a b).on hb6)
      have lA := BA6.out.lt
      have cA0 := BA6.out.c0
      have cA1 := BA6.out.c1
      have lC := BC6.out.lt
      have cC0 := BC6.out.c0
      have cC1 := BC6.out.c1
      have lS := BS6.out.lt
      have cS0 := BS6.out.c0
      have cS1 := BS6.out.c1
      have lD := BD6.out.lt
      have cD0 := BD6.out.c0
      have cD1 := BD6.out.c1
      have HB6 := Lib.hid hb6
      clear hb6
      go_wp2_with fail
      refine (FracValid.ok_i x y _).mono ?_
      rintro e w7 ⟨rfl, hb7⟩
      rw [HY.out]
      have BA7 := Lib.hid ((BA6.out.alloc _).on hb7)
      clear BA6 lA cA0 cA1
      have BC7 := Lib.hid ((BC6.out.alloc _).on hb7)
      clear BC6 lC cC0 cC1
      have BS7 := Lib.hid ((BS6.out.alloc _).on hb7)
      clear BS6 lS cS0 cS1
      have BD7 := Lib.hid ((BD6.out.alloc _).on hb7)
      clear BD6 lD cD0 cD1
      have BP7 := Lib.hid ((FracBlk.FB.new w6 25 0 q).on hb7)
      have lA := BA7.out.lt
      have cA0 := BA7.out.c0
      have cA1 := BA7.out.c1
      have lC := BC7.out.lt
      have cC0 := BC7.out.c0
      have cC1 := BC7.out.c1
      have lS := BS7.out.lt
      have cS0 := BS7.out.c0
      have cS1 := BS7.out.c1
      have lD := BD7.out.lt
      have cD0 := BD7.out.c0
      have cD1 := BD7.out.c1
      have lP := BP7.out.lt
      have cP0 := BP7.out.c0
      have cP1 := BP7.out.c1
      have HB7 := Lib.hid hb7
      clear hb7
      go_wp2_with fail
      refine (FracICmp.cmp_i a b a b _).mono ?_
      rintro e w8 ⟨rfl, hb8⟩
      rw [HE.out]
      have BA8 := Lib.hid ((BA7.out).on hb8)
      clear BA7 lA cA0 cA1
      have BC8 := Lib.hid ((BC7.out).on hb8)
      clear BC7 lC cC0 cC1
      have BS8 := Lib.hid ((BS7.out).on hb8)
      clear BS7 lS cS0 cS1
      have BD8 := Lib.hid ((BD7.out).on hb8)
      clear BD7 lD cD0 cD1
      have BP8 := Lib.hid ((BP7.out).on hb8)
      clear BP7 lP cP0 cP1
      have lA := BA8.out.lt
      have cA0 := BA8.out.c0
      have cA1 := BA8.out.c1
      have lC := BC8.out.lt
      have cC0 := BC8.out.c0
      have cC1 := BC8.out.c1
      have lS := BS8.out.lt
      have cS0 := BS8.out.c0
      have cS1 := BS8.out.c1
      have lD := BD8.out.lt
      have cD0 := BD8.out.c0
      have cD1 := BD8.out.c1
      have lP := BP8.out.lt
      have cP0 := BP8.out.c0
      have cP1 := BP8.out.c1
      have HB8 := Lib.hid hb8
      clear hb8
      go_wp2_with fail
      refine (FracIDiv.div_i a b 0 d _).mono ?_
      rintro e w9 ⟨rfl, hb9⟩
      rw [FracOrder.div_zero a b d]
      have BA9 := Lib.hid ((BA8.out).on hb9)
      clear BA8 lA cA0 cA1
      have BC9 := Lib.hid ((BC8.out).on hb9)
      clear BC8 lC cC0 cC1
      have BS9 := Lib.hid ((BS8.out).on hb9)
      clear BS8 lS cS0 cS1
      have BD9 := Lib.hid ((BD8.out).on hb9)
      clear BD8 lD cD0 cD1
      have BP9 := Lib.hid ((BP8.out).on hb9)
      clear BP8 lP cP0 cP1
      have lA := BA9.out.lt
      have cA0 := BA9.out.c0
      have cA1 := BA9.out.c1
      have lC := BC9.out.lt
      have cC0 := BC9.out.c0
      have cC1 := BC9.out.c1
      have lS := BS9.out.lt
      have cS0 := BS9.out.c0
      have cS1 := BS9.out.c1
      have lD := BD9.out.lt
      have cD0 := BD9.out.c0
      have cD1 := BD9.out.c1
      have lP := BP9.out.lt
      have cP0 := BP9.out.c0
      have cP1 := BP9.out.c1
      have HB9 := Lib.hid hb9
      clear hb9
      go_wp2
      go_ret
      exact ⟨rfl, by (repeat (first | exact Below.refl _ _ | apply BelowKit.bl_alloc | apply BelowKit.bl_drewN | apply BelowKit.bl_drew | (refine BelowKit.bl_set ?_ _ ?_; rotate_left; (first | omega | (simp; omega) | simp)) | (refine BelowKit.bl_trans ?_ (‹Hid (Below _ _ _)›).out)))⟩
    · skip
      go_wp2_with fail
      refine (FracI.add_i a b c d _).mono ?_
      rintro e w4 ⟨rfl, hb4⟩
      rw [HX.out]
      have BA4 := Lib.hid ((BA3.out.alloc _).on hb4)
      clear BA3 lA cA0 cA1
      have BC4 := Lib.hid ((FracBlk.FB.new w3 25 c d).on hb4)
      have lA := BA4.out.lt
      have cA0 := BA4.out.c0
      have cA1 := BA4.out.c1
      have lC := BC4.out.lt
      have cC0 := BC4.out.c0
      have cC1 := BC4.out.c1
      have HB4 := Lib.hid hb4
      clear hb4
      go_wp2_with fail
      refine (FracISub.sub_i x y c d _).mono ?_
      rintro e w5 ⟨rfl, hb5⟩
      rw [HD.out]
      have BA5 := Lib.hid ((BA4.out.alloc _).on hb5)
      clear BA4 lA cA0 cA1
      have BC5 := Lib.hid ((BC4.out.alloc _).on hb5)
      clear BC4 lC cC0 cC1
      have BS5 := Lib.hid ((FracBlk.FB.new w4 25 x y).on hb5)
      have lA := BA5.out.lt
      have cA0 := BA5.out.c0
      have cA1 := BA5.out.c1
      have lC := BC5.out.lt
      have cC0 := BC5.out.c0
      have cC1 := BC5.out.c1
      have lS := BS5.out.lt
      have cS0 := BS5.out.c0
      have cS1 := BS5.out.c1
      have HB5 := Lib.hid hb5
      clear hb5
      go_wp2_with fail
      refine (FracI.mul_i a b c d _).mono ?_
      rintro e w6 ⟨rfl, hb6⟩
      rw [HM.out]
      have BA6 := Lib.hid ((BA5.out.alloc _).on hb6)
      clear BA5 lA cA0 cA1
      have BC6 := Lib.hid ((BC5.out.alloc _).on hb6)
      clear BC5 lC cC0 cC1
      have BS6 := Lib.hid ((BS5.out.alloc _).on hb6)
      clear BS5 lS cS0 cS1
      have BD6 := Lib.hid ((FracBlk.FB.new w5 25 a b).on hb6)
      have lA := BA6.out.lt
      have cA0 := BA6.out.c0
      have cA1 := BA6.out.c1
      have lC := BC6.out.lt
      have cC0 := BC6.out.c0
      have cC1 := BC6.out.c1
      have lS := BS6.out.lt
      have cS0 := BS6.out.c0
      have cS1 := BS6.out.c1
      have lD := BD6.out.lt
      have cD0 := BD6.out.c0
      have cD1 := BD6.out.c1
      have HB6 := Lib.hid hb6
      clear hb6
      go_wp2_with fail
      refine (FracValid.ok_i x y _).mono ?_
      rintro e w7 ⟨rfl, hb7⟩
      rw [HY.out]
      have BA7 := Lib.hid ((BA6.out.alloc _).on hb7)
      clear BA6 lA cA0 cA1
      have BC7 := Lib.hid ((BC6.out.alloc _).on hb7)
      clear BC6 lC cC0 cC1
      have BS7 := Lib.hid ((BS6.out.alloc _).on hb7)
      clear BS6 lS cS0 cS1
      have BD7 := Lib.hid ((BD6.out.alloc _).on hb7)
      clear BD6 lD cD0 cD1
      have BP7 := Lib.hid ((FracBlk.FB.new w6 25 p q).on hb7)
      have lA := BA7.out.lt
      have cA0 := BA7.out.c0
      have cA1 := BA7.out.c1
      have lC := BC7.out.lt
      have cC0 := BC7.out.c0
      have cC1 := BC7.out.c1
      have lS := BS7.out.lt
      have cS0 := BS7.out.c0
      have cS1 := BS7.out.c1
      have lD := BD7.out.lt
      have cD0 := BD7.out.c0
      have cD1 := BD7.out.c1
      have lP := BP7.out.lt
      have cP0 := BP7.out.c0
      have cP1 := BP7.out.c1
      have HB7 := Lib.hid hb7
      clear hb7
      go_wp2_with fail
      refine (FracICmp.cmp_i a b a b _).mono ?_
      rintro e w8 ⟨rfl, hb8⟩
      rw [HE.out]
      have BA8 := Lib.hid ((BA7.out).on hb8)
      clear BA7 lA cA0 cA1
      have BC8 := Lib.hid ((BC7.out).on hb8)
      clear BC7 lC cC0 cC1
      have BS8 := Lib.hid ((BS7.out).on hb8)
      clear BS7 lS cS0 cS1
      have BD8 := Lib.hid ((BD7.out).on hb8)
      clear BD7 lD cD0 cD1
      have BP8 := Lib.hid ((BP7.out).on hb8)
      clear BP7 lP cP0 cP1
      have lA := BA8.out.lt
      have cA0 := BA8.out.c0
      have cA1 := BA8.out.c1
      have lC := BC8.out.lt
      have cC0 := BC8.out.c0
      have cC1 := BC8.out.c1
      have lS := BS8.out.lt
      have cS0 := BS8.out.c0
      have cS1 := BS8.out.c1
      have lD := BD8.out.lt
      have cD0 := BD8.out.c0
      have cD1 := BD8.out.c1
      have lP := BP8.out.lt
      have cP0 := BP8.out.c0
      have cP1 := BP8.out.c1
      have HB8 := Lib.hid hb8
      clear hb8
      go_wp2_with fail
      refine (FracIDiv.div_i p q c d _).mono ?_
      rintro e w9 ⟨rfl, hb9⟩
      rw [HP.out (by simpa using hc0)]
      have BA9 := Lib.hid ((BA8.out).on hb9)
      clear BA8 lA cA0 cA1
      have BC9 := Lib.hid ((BC8.out).on hb9)
      clear BC8 lC cC0 cC1
      have BS9 := Lib.hid ((BS8.out).on hb9)
      clear BS8 lS cS0 cS1
      have BD9 := Lib.hid ((BD8.out).on hb9)
      clear BD8 lD cD0 cD1
      have BP9 := Lib.hid ((BP8.out).on hb9)
      clear BP8 lP cP0 cP1
      have lA := BA9.out.lt
      have cA0 := BA9.out.c0
      have cA1 := BA9.out.c1
      have lC := BC9.out.lt
      have cC0 := BC9.out.c0
      have cC1 := BC9.out.c1
      have lS := BS9.out.lt
      have cS0 := BS9.out.c0
      have cS1 := BS9.out.c1
      have lD := BD9.out.lt
      have cD0 := BD9.out.c0
      have cD1 := BD9.out.c1
      have lP := BP9.out.lt
      have cP0 := BP9.out.c0
      have cP1 := BP9.out.c1
      have HB9 := Lib.hid hb9
      clear hb9
      go_wp2
      go_ret
      exact ⟨rfl, by (repeat (first | exact Below.refl _ _ | apply BelowKit.bl_alloc | apply BelowKit.bl_drewN | apply BelowKit.bl_drew | (refine BelowKit.bl_set ?_ _ ?_; rotate_left; (first | omega | (simp; omega) | simp)) | (refine BelowKit.bl_trans ?_ (‹Hid (Below _ _ _)›).out)))⟩

/-! ### THE ROW's STEP: WRITTEN OUT: LEAVE IT -/
set_option maxRecDepth 100000 in
theorem lifted (os : Os) (started : os.Started) (H : Type) (enc : TypeId × Value → H) :
    ReturnsInHanded {} Try.checked os 3 .any (Rows.fnFractionsSpec.pre6 enc Try.prog Try.f3 Rows.fnFractionsRow.domain false) (Rows.fnFractionsSpec.post enc Try.prog Try.f3 false true false false) := by
  refine returnsInHanded_of_change (C := Try.checked) own started (by kernel_rfl) Try.func3
    (ChangeSpec.witness6 (enc := enc) (C := Try.checked) false ⟨#[], #[.slice none 0 0], []⟩ 8 (by kernel_rfl) (by kernel_rfl) (by kernel_rfl) (by kernel_rfl)) ?_
  intro W base args ds gs before hval0 hW hcnd _
  have hval : ∀ (j : Nat) t v, Try.f3.params[j]? = some t → args[j]? = some v → Value.okWide Try.prog W .any base t v := hval0
  have hW' := hW
  obtain ⟨p, q, hA0, hV, rfl, hfz, hnd⟩ := hW
  have hA : DataW.TrodAll enc Try.prog W 0 (fun _ => true) true Try.f3.params.toList args.toList ds p := hA0
  rw [Try.params3] at hA hval
  obtain ⟨v0, vs0, d0, ds0, p0, q0, hargs, rfl, rfl, h0, r0⟩ := trodAll_cons hA
  obtain ⟨rfl, rfl, rfl⟩ := trodAll_nil r0
  obtain rfl : args = #[v0] := by cases args; simp_all
  obtain ⟨rfl, rfl⟩ := trodVars_none hV
  obtain ⟨a0, len0, cap0, rfl⟩ := okWide_slice Try.underlying22 (hval 0 22 v0 rfl rfl)
  have k0 := h0
  have lt0 : ∀ x ∈ p0, x.block < W.heap.size := by obtain ⟨m, hm⟩ := k0; exact DataW.trod_lt m _ _ _ hm
  obtain ⟨z0, w0⟩ : ∃ zs, IsRow .u8 W a0 len0 cap0 zs := by
    obtain ⟨fuel, hf⟩ := h0
    rcases open_ints Try.underlying22 Try.underlying5 (by kernel_rfl) hf with ⟨hcs, _⟩ | ⟨x, l, c, zs, hcs, _, hl, hm, hz, _, hcell, hwz⟩
    · simp [Value.cells] at hcs
      obtain ⟨rfl, rfl, rfl⟩ := hcs
      exact ⟨[], .inl ⟨rfl, rfl, rfl, rfl⟩⟩
    · simp [Value.cells] at hcs
      obtain ⟨rfl, rfl, rfl⟩ := hcs
      exact ⟨zs, .inr ⟨_, rfl, hl, hm, by simpa using hz, hcell, hwz⟩⟩
  clear hA0 hval0
  refine (walk a0 len0 cap0 z0 W w0).mono fun e W' ⟨he, bel⟩ => ?_
  subst he
  exact ⟨_, rfl, _, _, _, [], _, [], hW', trodAll_mk1 (shut_bool Try.underlying4 _), (trodAll_cons_mk (Below.trod laidOut (by kernel_rfl) (of_decide_eq_true (by kernel_rfl)) k0 bel lt0) trodAll_mk0), rfl, bel.frame _, fun h => by cases h⟩

theorem over : Rows.fnFractionsRow.holds Try.pinned (OpenSpec.ofChange Rows.fnFractionsSpec) :=
  OpenClaim.holds_of_wide 3 Try.f3 rfl rfl rfl rfl rfl rfl rfl ⟨rfl, rfl, rfl, rfl, rfl⟩ rfl rfl rfl rfl rfl (by kernel_rfl) Try.func3 (by kernel_rfl)
    (of_decide_eq_true (by kernel_rfl)) (by unfold Func.isWrapper; first | (rw [if_pos (by decide +kernel)]; kernel_rfl) | (rw [if_neg (by decide +kernel)]; exact ⟨rfl, rfl⟩))
    (fun os started H enc _ => lifted os started H enc)

theorem proved : Rows.FnFractionsSaid := over
#print axioms proved
end Go.Proofs.Ytkcebdoodadmeaa.fnFractions
