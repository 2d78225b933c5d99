/- Proves the given statement of the law FnServed: for every input that the row lets in, the law's Go function returns true and every argument reads as before; no condition of mine. -/
import Derived.Test.YtkoeodmneedjcaaSpellLaws
import Derived.Test.YtkoeodmneedjcaaSpellI
import Derived.Test.YtkoeodmneedjcaaDrawSpell
import Derived.Test.YtkoeodmneedjcaaDrawRow
import Derived.Test.YtkoeodmneedjcaaKit
import Derived.Test.YtkoeodmneedjcaaRows
import Derived.WalkKit
import Derived.ProofKit
import Derived.OpenShut
import Derived.ShutString
import Derived.ChangeOld
import Derived.Below
namespace Go.Proofs.Ytkoeodmneedjcaa.fnServed
open Go.ChangeShapes Go.WideShapes Go.ChangeAt Go.RowKit
open Go.ChangeMaps (open_string shut_string)
set_option linter.unusedVariables false

theorem own : ownKnob Try.prog.godebug = none := by kernel_rfl
theorem laidOut : laidOutB Try.prog = true := by kernel_rfl

/-- WHAT THE WALK IS TOLD OF A SLICE OF INTEGERS THAT CAME IN: it is nil; or it leads to a row of 'cap' cells, the numbers 'zs' (the first 'len' are its elements, the rest its spare room), each fitting its kind. -/
def IsRow (k : IntKind) (w : World) (a : Option Addr) (len cap : Nat) (zs : List Int) : Prop :=
  (a = none ∧ len = 0 ∧ cap = 0 ∧ zs = []) ∨
  ∃ x, a = some x ∧ len ≤ cap ∧ cap ≤ maxLen ∧ zs.length = cap ∧ (∀ i, i < zs.length → w.cell? (x.add i) = some (.int k (zs.getD i 0))) ∧ ∀ n ∈ zs, (Lit.int k n).wf = true

/-! ### STEP 1: THE WALK: the Go text returns true, AND WRITES NOTHING THAT WAS THERE: 'Below w.heap.size w w'' (Derived/Below.lean: '.refl', '.alloc', '.drew', '.setCell' at a new block, '.trans'). Open each 'IsRow' by 'rcases' AHEAD of 'go_enter'; part every test ahead of the walk. -/
set_option maxHeartbeats 8000000 in
set_option maxRecDepth 100000 in
theorem walk (a0 : Option Addr) (len0 cap0 : Nat) (z0 : List Int) (w : World) (w0 : IsRow .u8 w a0 len0 cap0 z0) :
    Calls Try.prog 3 #[.slice a0 len0 cap0] w fun e w' => e = .returned (.bool true) ∧ Below w.heap.size w w' := by
  obtain ⟨hcode, hs⟩ := CurKit.code_at w0
  clear w0
  have HK := Lib.hid hcode
  have HS := Lib.hid hs
  clear hcode
  unfold maxLen at hs
  by_cases hbig : 1048576 < len0
  · go_enter Try.func3, Try.ntmps3
    go_wp2
    go_ret
    exact ⟨rfl, Below.refl _ _⟩
  go_enter Try.func3, Try.ntmps3
  go_wp2_with (go_at_call 11; go_in)
  refine (DrawSpell.draw_c _ a0 len0 cap0 HK.out HS.out).mono ?_
  rintro e w1 ⟨l, p, c, hd, rfl, ho, hb⟩
  have HD := Lib.hid hd
  have hok := hd.ok
  have HOK := Lib.hid hok
  have HYES := Lib.hid (SpellMath.okB_yes hok)
  have hl6 := hd.len
  obtain ⟨m, hm⟩ : ∃ m, l.length = m := ⟨_, rfl⟩
  have HM := Lib.hid hm
  rw [hm] at ho hl6 ⊢
  have HO1 := Lib.hid ho
  have HC1 := Lib.hid hb
  clear hd hok ho hb hm
  go_wp2_with fail
  refine (DrawRow.places_c _ a0 len0 cap0 (fun j hj => by obtain ⟨blk, off, n, e, h1, h2, h3⟩ := HK.out j hj; exact ⟨blk, off, n, e, by have := HC1.out.size; simp; omega, ((BelowKit.bcell HC1.out).1 _ _ h1).trans h2, h3⟩) HS.out).mono ?_
  rintro e w2 ⟨l2, a2, cap2, hl2, hin, rfl, ho2, hb⟩
  obtain ⟨g2, rfl, _, hg2, c20, _⟩ := ho2.at 0 (by omega)
  have c21 := (ho2.cell 1 (by omega)).1
  have c22 := (ho2.cell 2 (by omega)).1
  have i0 := hin.get 0 (by omega)
  have i1 := hin.get 1 (by omega)
  have i2 := hin.get 2 (by omega)
  obtain ⟨t0, ht0⟩ : ∃ t, l2[0] = t := ⟨_, rfl⟩
  obtain ⟨t1, ht1⟩ : ∃ t, l2[1] = t := ⟨_, rfl⟩
  obtain ⟨t2, ht2⟩ : ∃ t, l2[2] = t := ⟨_, rfl⟩
  rw [ht0] at c20 i0
  rw [ht1] at c21 i1
  rw [ht2] at c22 i2
  obtain ⟨i00, i01⟩ := i0
  obtain ⟨i10, i11⟩ := i1
  obtain ⟨i20, i21⟩ := i2
  have HO2 := Lib.hid (HO1.out.on hb)
  have HC2 := Lib.hid (BelowKit.bl_trans HC1.out hb)
  clear ht0 ht1 ht2 hin hl2 ho2 hb HO1 HC1
  obtain ⟨A, hA⟩ : ∃ k, t0 % 100 = k := ⟨_, rfl⟩
  obtain ⟨B, hB⟩ : ∃ k, t1 % 150 = k := ⟨_, rfl⟩
  have a0 : 0 ≤ A := by omega
  have a1 : A ≤ 99 := by omega
  have b0 : 0 ≤ B := by omega
  have b1 : B ≤ 149 := by omega
  have HA := Lib.hid hA
  have HB := Lib.hid hB
  clear hA hB c22
  go_wp2
  rw [HA.out, HB.out]
  clear c20 c21 i00 i01 i10 i11 i20 i21 hg2
  go_loopw [7, 8] (fun n mo wr => ∃ (k : Nat) (s : Int), (A + (k : Int) ≤ B ∨ k = 0) ∧ mo = .int .i64 (A + (k : Int)) ∧ n = .int .i64 s ∧ Hid (s = SpellMath.svc l A (A + (k : Int))) ∧ Hid (Below w2.heap.size w2 wr)) (fun _ mo _ => (B - intOf mo).toNat)
  case atStart => exact ⟨0, 0, Or.inr rfl, by simp, rfl, Lib.hid (by rw [SpellLaws.svc_empty (by simp)]), Lib.hid (Below.refl _ _)⟩
  case round =>
    obtain ⟨k, s, hk, rfl, rfl, HV, HW⟩ := hrel
    obtain ⟨mo, hmo⟩ : ∃ x, A + (k : Int) = x := ⟨_, rfl⟩
    have HMO := Lib.hid hmo
    rw [hmo] at hk HV ⊢
    have mo0 : A ≤ mo := by omega
    have HOr := Lib.hid (HO2.out.on HW.out)
    by_cases hlt : mo < B
    · have HS1 := Lib.hid (show SpellMath.svc l A (mo + 1) = SpellMath.svc l A mo + SpellMath.pct l mo from SpellLaws.svc_succ HOK.out a0 mo0 (by omega))
      have bd := SpellLaws.svc_bd HOK.out A (mo + 1)
      have bd0 := SpellLaws.svc_bd HOK.out A mo
      rw [HS1.out, ← HV.out] at bd
      rw [← HV.out] at bd0
      obtain ⟨q, hq⟩ : ∃ q, SpellMath.pct l mo = q := ⟨_, rfl⟩
      have HQ := Lib.hid hq
      rw [hq] at bd HS1
      obtain ⟨S, hS⟩ : ∃ S, s + q = S := ⟨_, rfl⟩
      have W1 : IntKind.i64.wrap (s + q) = S := by rw [hS]; exact IntWalk.i64_in _ (by omega)
      have HSS := Lib.hid (show S = SpellMath.svc l A (A + ((k + 1 : Nat) : Int)) by rw [show A + ((k + 1 : Nat) : Int) = mo + 1 by omega, HS1.out, ← HV.out, hS])
      clear hS hq hmo bd bd0
      go_wp2_with fail
      refine (SpellI.pct_i _ p m c l mo HM.out (by omega) (RowN.reads_own TSpell.fw HOr.out)).mono ?_
      rintro e w3 ⟨rfl, hb3⟩
      rw [HQ.out]
      have HW3 := Lib.hid (BelowKit.bl_trans HW.out hb3)
      clear hb3
      go_wp2
      clear W1
      go_roundw
      case rel => exact ⟨k + 1, S, Or.inl (by have := HMO.out; omega), congrArg (Value.int .i64) (by have := HMO.out; omega), rfl, HSS, HW3⟩
      case measure => simp [intOf]; omega
    · have HE := Lib.hid (show SpellMath.svc l A B = s by
        rcases hk with h | h
        · rw [HV.out]; rw [show mo = B by omega]
        · rw [HV.out, SpellLaws.svc_empty (show B ≤ A by omega), SpellLaws.svc_empty (show mo ≤ A by omega)])
      have HF := Lib.hid (show s ≤ SpellMath.svc l 0 3600 by rw [← HE.out]; exact SpellLaws.svc_full HOK.out a0 b0 (by omega) (by omega))
      go_wp2_with fail
      refine (SpellI.svc_i _ p m c l A B HM.out (by omega) (RowN.reads_own TSpell.fw HOr.out)).mono ?_
      rintro e w3 ⟨rfl, hb3⟩
      rw [HE.out]
      have HO3 := Lib.hid (HOr.out.on hb3)
      have HW3 := Lib.hid (BelowKit.bl_trans HW.out hb3)
      clear hb3 HOr HW
      go_wp2_with fail
      refine (SpellI.ok_i _ p m c l HM.out (by omega) (RowN.reads_own TSpell.fw HO3.out)).mono ?_
      rintro e w4 ⟨rfl, hb4⟩
      rw [HYES.out]
      have HO4 := Lib.hid (HO3.out.on hb4)
      have HW4 := Lib.hid (BelowKit.bl_trans HW3.out hb4)
      clear hb4 HO3 HW3
      go_wp2_with fail
      refine (SpellI.svc_i _ p m c l 0 3600 HM.out (by omega) (RowN.reads_own TSpell.fw HO4.out)).mono ?_
      rintro e w5 ⟨rfl, hb5⟩
      have HW5 := Lib.hid (BelowKit.bl_trans HC2.out (BelowKit.bl_trans HW4.out hb5))
      obtain ⟨Z, hZ⟩ : ∃ z, SpellMath.svc l 0 3600 = z := ⟨_, rfl⟩
      have hz := HF.out
      rw [hZ] at hz ⊢
      clear hb5 HO4 HW4 hZ
      go_wp2
      go_ret
      exact ⟨rfl, HW5.out⟩

/-! ### THE ROW's STEP: WRITTEN OUT: LEAVE IT -/
set_option maxRecDepth 100000 in
theorem lifted (os : Os) (started : os.Started) (H : Type) (enc : TypeId × Value → H) :
    ReturnsInHanded {} Try.checked os 3 .any (Rows.fnServedSpec.pre6 enc Try.prog Try.f3 Rows.fnServedRow.domain false) (Rows.fnServedSpec.post enc Try.prog Try.f3 false true false false) := by
  refine returnsInHanded_of_change (C := Try.checked) own started (by kernel_rfl) Try.func3
    (ChangeSpec.witness6 (enc := enc) (C := Try.checked) false ⟨#[], #[.slice none 0 0], []⟩ 8 (by kernel_rfl) (by kernel_rfl) (by kernel_rfl) (by kernel_rfl)) ?_
  intro W base args ds gs before hval0 hW hcnd _
  have hval : ∀ (j : Nat) t v, Try.f3.params[j]? = some t → args[j]? = some v → Value.okWide Try.prog W .any base t v := hval0
  have hW' := hW
  obtain ⟨p, q, hA0, hV, rfl, hfz, hnd⟩ := hW
  have hA : DataW.TrodAll enc Try.prog W 0 (fun _ => true) true Try.f3.params.toList args.toList ds p := hA0
  rw [Try.params3] at hA hval
  obtain ⟨v0, vs0, d0, ds0, p0, q0, hargs, rfl, rfl, h0, r0⟩ := trodAll_cons hA
  obtain ⟨rfl, rfl, rfl⟩ := trodAll_nil r0
  obtain rfl : args = #[v0] := by cases args; simp_all
  obtain ⟨rfl, rfl⟩ := trodVars_none hV
  obtain ⟨a0, len0, cap0, rfl⟩ := okWide_slice Try.underlying22 (hval 0 22 v0 rfl rfl)
  have k0 := h0
  have lt0 : ∀ x ∈ p0, x.block < W.heap.size := by obtain ⟨m, hm⟩ := k0; exact DataW.trod_lt m _ _ _ hm
  obtain ⟨z0, w0⟩ : ∃ zs, IsRow .u8 W a0 len0 cap0 zs := by
    obtain ⟨fuel, hf⟩ := h0
    rcases open_ints Try.underlying22 Try.underlying5 (by kernel_rfl) hf with ⟨hcs, _⟩ | ⟨x, l, c, zs, hcs, _, hl, hm, hz, _, hcell, hwz⟩
    · simp [Value.cells] at hcs
      obtain ⟨rfl, rfl, rfl⟩ := hcs
      exact ⟨[], .inl ⟨rfl, rfl, rfl, rfl⟩⟩
    · simp [Value.cells] at hcs
      obtain ⟨rfl, rfl, rfl⟩ := hcs
      exact ⟨zs, .inr ⟨_, rfl, hl, hm, by simpa using hz, hcell, hwz⟩⟩
  clear hA0 hval0
  refine (walk a0 len0 cap0 z0 W w0).mono fun e W' ⟨he, bel⟩ => ?_
  subst he
  exact ⟨_, rfl, _, _, _, [], _, [], hW', trodAll_mk1 (shut_bool Try.underlying4 _), (trodAll_cons_mk (Below.trod laidOut (by kernel_rfl) (of_decide_eq_true (by kernel_rfl)) k0 bel lt0) trodAll_mk0), rfl, bel.frame _, fun h => by cases h⟩

theorem over : Rows.fnServedRow.holds Try.pinned (OpenSpec.ofChange Rows.fnServedSpec) :=
  OpenClaim.holds_of_wide 3 Try.f3 rfl rfl rfl rfl rfl rfl rfl ⟨rfl, rfl, rfl, rfl, rfl⟩ rfl rfl rfl rfl rfl (by kernel_rfl) Try.func3 (by kernel_rfl)
    (of_decide_eq_true (by kernel_rfl)) (by unfold Func.isWrapper; first | (rw [if_pos (by decide +kernel)]; kernel_rfl) | (rw [if_neg (by decide +kernel)]; exact ⟨rfl, rfl⟩))
    (fun os started H enc _ => lifted os started H enc)

theorem proved : Rows.FnServedSaid := over
#print axioms proved
end Go.Proofs.Ytkoeodmneedjcaa.fnServed
