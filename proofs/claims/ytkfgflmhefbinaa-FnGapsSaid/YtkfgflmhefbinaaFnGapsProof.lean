/- Proves the given statement of the law FnGaps: for every input that the row lets in, the law's Go function returns true and every argument reads as before; no condition of mine. -/
import Derived.Test.YtkfgflmhefbinaaBookRd
import Derived.Test.YtkfgflmhefbinaaGapI
import Derived.Test.YtkfgflmhefbinaaBookS
import Derived.Test.YtkfgflmhefbinaaDrawRow
import Derived.Test.YtkfgflmhefbinaaKit
import Derived.Test.YtkfgflmhefbinaaRuleC
import Derived.Test.YtkfgflmhefbinaaTInt
import Derived.Test.YtkfgflmhefbinaaRows
import Derived.WalkKit
import Derived.ProofKit
import Derived.OpenShut
import Derived.ShutString
import Derived.ChangeOld
import Derived.Below
namespace Go.Proofs.Ytkfgflmhefbinaa.fnGaps
open Go.ChangeShapes Go.WideShapes Go.ChangeAt Go.RowKit
open Go.ChangeMaps (open_string shut_string)
set_option linter.unusedVariables false

theorem own : ownKnob Try.prog.godebug = none := by kernel_rfl
theorem laidOut : laidOutB Try.prog = true := by kernel_rfl

/-- WHAT THE WALK IS TOLD OF A SLICE OF INTEGERS THAT CAME IN: it is nil; or it leads to a row of 'cap' cells, the numbers 'zs' (the first 'len' are its elements, the rest its spare room), each fitting its kind. -/
def IsRow (k : IntKind) (w : World) (a : Option Addr) (len cap : Nat) (zs : List Int) : Prop :=
  (a = none ∧ len = 0 ∧ cap = 0 ∧ zs = []) ∨
  ∃ x, a = some x ∧ len ≤ cap ∧ cap ≤ maxLen ∧ zs.length = cap ∧ (∀ i, i < zs.length → w.cell? (x.add i) = some (.int k (zs.getD i 0))) ∧ ∀ n ∈ zs, (Lit.int k n).wf = true

/-! ### STEP 1: THE WALK: the Go text returns true, AND WRITES NOTHING THAT WAS THERE: 'Below w.heap.size w w'' (Derived/Below.lean: '.refl', '.alloc', '.drew', '.setCell' at a new block, '.trans'). Open each 'IsRow' by 'rcases' AHEAD of 'go_enter'; part every test ahead of the walk. -/
set_option maxHeartbeats 8000000 in
set_option maxRecDepth 100000 in
theorem walk (a0 : Option Addr) (len0 cap0 : Nat) (z0 : List Int) (w : World) (w0 : IsRow .u8 w a0 len0 cap0 z0) :
    Calls Try.prog 7 #[.slice a0 len0 cap0] w fun e w' => e = .returned (.bool true) ∧ Below w.heap.size w w' := by
  obtain ⟨hcode, hs⟩ := CurKit.code_at w0
  clear w0
  have HK := Lib.hid hcode
  have HS := Lib.hid hs
  clear hcode
  unfold maxLen at hs
  by_cases hbig : 1048576 < len0
  · go_enter Try.func7, Try.ntmps7
    go_wp2
    go_ret
    exact ⟨rfl, Below.refl _ _⟩
  go_enter Try.func7, Try.ntmps7
  go_wp2_with (go_at_call 15; go_in)
  refine (DrawBook.draw_c _ a0 len0 cap0 HK.out HS.out).mono ?_
  rintro e w1 ⟨rs, p, n, c, m, nm, hgt, hn, hap, rfl, ho, hb⟩
  have hbk := BookRd.bk_of hgt hn hap
  have HBK := Lib.hid hbk
  have HM := Lib.hid hn
  obtain ⟨n1, n6⟩ := hbk.pos
  obtain ⟨m0, m1⟩ := hbk.mon
  obtain ⟨nm0, nm1⟩ := hbk.name
  have HO1 := Lib.hid ho
  have HC1 := Lib.hid hb
  have HCAP := Lib.hid (RuleRow.OwD.cap ho)
  clear hgt hn hap hbk ho hb
  go_wp2_with fail
  have hb12 : Below w1.heap.size w1 (w1.alloc (.cells #[.slice p n c] 26)) := by (repeat (first | exact Below.refl _ _ | apply BelowKit.bl_alloc | apply BelowKit.bl_drewN | apply BelowKit.bl_drew | (refine BelowKit.bl_set ?_ _ ?_; rotate_left; (first | omega | (simp; omega) | simp)) | (refine BelowKit.bl_trans ?_ (‹Hid (Below _ _ _)›).out)))
  refine (DrawRow.places_c _ a0 len0 cap0 (fun j hj => by obtain ⟨blk, off, n, e, h1, h2, h3⟩ := HK.out j hj; exact ⟨blk, off, n, e, by have := HC1.out.size; simp; omega, ((BelowKit.bcell (BelowKit.bl_trans HC1.out hb12)).1 _ _ h1).trans h2, h3⟩) HS.out).mono ?_
  rintro e w2 ⟨l2, a2, cap2, hl2, hin, rfl, ho2, hb⟩
  obtain ⟨g2, rfl, _, hg2, c20, _⟩ := ho2.at 0 (by omega)
  have c21 := (ho2.cell 1 (by omega)).1
  have i0 := hin.get 0 (by omega)
  have i1 := hin.get 1 (by omega)
  obtain ⟨t0, ht0⟩ : ∃ t, l2[0] = t := ⟨_, rfl⟩
  obtain ⟨t1, ht1⟩ : ∃ t, l2[1] = t := ⟨_, rfl⟩
  rw [ht0] at c20 i0
  rw [ht1] at c21 i1
  obtain ⟨i00, i01⟩ := i0
  obtain ⟨i10, i11⟩ := i1
  have cS2 : w2.cell? ⟨w1.heap.size, 0, none⟩ = some (.slice p n c) := ((BelowKit.bcell hb).1 _ _ (by simp)).trans (by simp [go_sem])
  have zS2 : w1.heap.size < w2.heap.size := by have := hb.size; simp at this; omega
  have hb2 : Below w1.heap.size w1 w2 := BelowKit.bl_trans (by (repeat (first | exact Below.refl _ _ | apply BelowKit.bl_alloc | apply BelowKit.bl_drewN | apply BelowKit.bl_drew | (refine BelowKit.bl_set ?_ _ ?_; rotate_left; (first | omega | (simp; omega) | simp)) | (refine BelowKit.bl_trans ?_ (‹Hid (Below _ _ _)›).out)))) hb
  have HO2 := Lib.hid (HO1.out.on hb2)
  have HC2 := Lib.hid (BelowKit.bl_trans HC1.out hb2)
  clear ht0 ht1 hin hl2 ho2 hb hb12 hb2 HO1 HC1
  obtain ⟨jo, hjo⟩ : ∃ k, t0 % 80 = k := ⟨_, rfl⟩
  have j0 : 0 ≤ jo := by omega
  have j1 : jo ≤ 79 := by omega
  have HJO := Lib.hid hjo
  have HL := Lib.hid (show BookMath.gaps rs nm jo 0 180 = BookMath.gapsTo rs nm jo 0 180 from BookRd.gaps_180 HBK.out.yes)
  clear hjo
  go_wp2_with fail
  rw [HJO.out]
  refine (GapI.gaps_i _ p n c rs nm jo 0 180 HM.out HCAP.out (by omega) HBK.out.few HO2.out.reads).mono ?_
  rintro e w3 ⟨p3, c3, rfl, ho3, hb⟩
  rw [HL.out] at ho3 ⊢
  obtain ⟨N, hN⟩ : ∃ n, (BookMath.gapsTo rs nm jo 0 180).length = n := ⟨_, rfl⟩
  have hN9 : N ≤ 180 := by rw [← hN]; exact BookMath.gapsTo_len ..
  rw [hN] at ho3 ⊢
  have HNN := Lib.hid hN
  have HP3 := Lib.hid ho3
  have cS3 := ((BelowKit.bcell hb).1 _ _ zS2).trans cS2
  have zS3 : w1.heap.size < w3.heap.size := Nat.lt_of_lt_of_le zS2 hb.size
  have HO3 := Lib.hid (HO2.out.on hb)
  have HC3 := Lib.hid (BelowKit.bl_trans HC2.out hb)
  clear hb cS2 zS2 HO2 HC2
  clear hN ho3 c20 c21 hg2
  go_wp2
  go_loopw [9, 10] (fun kv mo wr => ∃ (j k : Nat), j ≤ 180 ∧ mo = .int .i64 (j : Int) ∧ kv = .int .i64 (k : Int) ∧ k ≤ N ∧ Hid ((BookMath.gapsTo rs nm jo 0 j).length = k) ∧ Hid (Below w3.heap.size w3 wr)) (fun _ mo _ => 180 - (intOf mo).toNat)
  case atStart => exact ⟨0, 0, by omega, rfl, rfl, by omega, Lib.hid rfl, Lib.hid (Below.refl _ _)⟩
  case round =>
    obtain ⟨j, k, hj, rfl, rfl, hkN, HKL, HB⟩ := hrel
    have cS : wr.cell? ⟨w1.heap.size, 0, none⟩ = some (.slice p n c) := ((BelowKit.bcell HB.out).1 _ _ zS3).trans cS3
    have zS : w1.heap.size < wr.heap.size := Nat.lt_of_lt_of_le zS3 HB.out.size
    by_cases hlt : j < 180
    · have b1 : (0 : Int) ≤ (j : Int) := by omega
      obtain ⟨r, hr⟩ : ∃ r, BookMath.forB rs nm (j : Int) jo = r := ⟨_, rfl⟩
      have HRR := Lib.hid (show BookMath.ruleFor rs nm (j : Int) jo = r by rw [HBK.out.for_]; exact hr)
      have HRF := Lib.hid hr
      clear hr
      go_wp2_with fail
      refine (BookS.ruleFor_s _ p n c rs nm (j : Int) jo HM.out (by omega) HBK.out.few (HO3.out.on HB.out).reads).mono ?_
      rintro e w4 ⟨rfl, hb⟩
      rw [HRR.out]
      have HB4 := Lib.hid (BelowKit.bl_trans HB.out hb)
      clear hb cS zS HRR
      by_cases hneg : r < 0
      · have d1 : decide (0 ≤ r) = false := decide_eq_false (by omega)
        obtain ⟨hlt2, hat⟩ := BookRd.gaps_at (rs := rs) (nm := nm) (jo := jo) (N := 180) hlt (by rw [HRF.out]; exact hneg)
        have hs2 := BookRd.gaps_len_yes (rs := rs) (nm := nm) (jo := jo) (j := j) (by rw [HRF.out]; exact hneg)
        obtain ⟨g3, rfl, _, hg3, hc3⟩ := HP3.out.at TInt.fw _ hlt2
        have q0 := (hc3 0 (by omega)).1
        rw [hat] at q0
        have hkl := HKL.out
        rw [HKL.out] at q0 hlt2
        rw [HNN.out] at hlt2
        simp only [TInt.fc, Nat.mul_one, Nat.add_zero, List.getElem?_cons_zero] at q0
        have q1 := ((BelowKit.bcell HB4.out).1 _ _ hg3).trans q0
        have HK1 := Lib.hid (show (BookMath.gapsTo rs nm jo 0 (j + 1)).length = k + 1 by rw [hs2, HKL.out])
        have d2 : decide ((N : Int) ≤ (k : Int)) = false := decide_eq_false (by omega)
        have d3 : ((j : Int) == (j : Int)) = true := beq_self_eq_true _
        have d4 : ((j : Int) != (j : Int)) = false := by simp
        have d5 : decide (N ≤ k) = false := decide_eq_false (by omega)
        have b2 : (0 : Int) ≤ (k : Int) := by omega
        have b3 : (k : Int) < (N : Int) := by omega
        clear hkl hat hs2 q0 hc3
        go_wp2
        go_roundw
        case rel => exact ⟨j + 1, k + 1, by omega, by go_num, by go_num, by omega, HK1, HB4⟩
        case measure => simp [intOf]; omega
      · have d1 : decide (0 ≤ r) = true := decide_eq_true (by omega)
        have HK1 := Lib.hid (show (BookMath.gapsTo rs nm jo 0 (j + 1)).length = k by rw [BookRd.gaps_len_no (by rw [HRF.out]; exact hneg), HKL.out])
        go_wp2
        go_roundw
        case rel => exact ⟨j + 1, k, by omega, by go_num, rfl, hkN, HK1, HB4⟩
        case measure => simp [intOf]; omega
    · obtain rfl : j = 180 := by omega
      have e1 : k = N := by rw [← HKL.out, ← HNN.out]
      subst e1
      have d1 : decide ((0 : Int) ≤ m) = true := decide_eq_true m0
      have d2 : ((k : Int) == (k : Int)) = true := beq_self_eq_true _
      go_wp2
      go_ret
      exact ⟨rfl, BelowKit.bl_trans HC3.out HB.out⟩

/-! ### THE ROW's STEP: WRITTEN OUT: LEAVE IT -/
set_option maxRecDepth 100000 in
theorem lifted (os : Os) (started : os.Started) (H : Type) (enc : TypeId × Value → H) :
    ReturnsInHanded {} Try.checked os 7 .any (Rows.fnGapsSpec.pre6 enc Try.prog Try.f7 Rows.fnGapsRow.domain false) (Rows.fnGapsSpec.post enc Try.prog Try.f7 false true false false) := by
  refine returnsInHanded_of_change (C := Try.checked) own started (by kernel_rfl) Try.func7
    (ChangeSpec.witness6 (enc := enc) (C := Try.checked) false ⟨#[], #[.slice none 0 0], []⟩ 8 (by kernel_rfl) (by kernel_rfl) (by kernel_rfl) (by kernel_rfl)) ?_
  intro W base args ds gs before hval0 hW hcnd _
  have hval : ∀ (j : Nat) t v, Try.f7.params[j]? = some t → args[j]? = some v → Value.okWide Try.prog W .any base t v := hval0
  have hW' := hW
  obtain ⟨p, q, hA0, hV, rfl, hfz, hnd⟩ := hW
  have hA : DataW.TrodAll enc Try.prog W 0 (fun _ => true) true Try.f7.params.toList args.toList ds p := hA0
  rw [Try.params7] at hA hval
  obtain ⟨v0, vs0, d0, ds0, p0, q0, hargs, rfl, rfl, h0, r0⟩ := trodAll_cons hA
  obtain ⟨rfl, rfl, rfl⟩ := trodAll_nil r0
  obtain rfl : args = #[v0] := by cases args; simp_all
  obtain ⟨rfl, rfl⟩ := trodVars_none hV
  obtain ⟨a0, len0, cap0, rfl⟩ := okWide_slice Try.underlying22 (hval 0 22 v0 rfl rfl)
  have k0 := h0
  have lt0 : ∀ x ∈ p0, x.block < W.heap.size := by obtain ⟨m, hm⟩ := k0; exact DataW.trod_lt m _ _ _ hm
  obtain ⟨z0, w0⟩ : ∃ zs, IsRow .u8 W a0 len0 cap0 zs := by
    obtain ⟨fuel, hf⟩ := h0
    rcases open_ints Try.underlying22 Try.underlying5 (by kernel_rfl) hf with ⟨hcs, _⟩ | ⟨x, l, c, zs, hcs, _, hl, hm, hz, _, hcell, hwz⟩
    · simp [Value.cells] at hcs
      obtain ⟨rfl, rfl, rfl⟩ := hcs
      exact ⟨[], .inl ⟨rfl, rfl, rfl, rfl⟩⟩
    · simp [Value.cells] at hcs
      obtain ⟨rfl, rfl, rfl⟩ := hcs
      exact ⟨zs, .inr ⟨_, rfl, hl, hm, by simpa using hz, hcell, hwz⟩⟩
  clear hA0 hval0
  refine (walk a0 len0 cap0 z0 W w0).mono fun e W' ⟨he, bel⟩ => ?_
  subst he
  exact ⟨_, rfl, _, _, _, [], _, [], hW', trodAll_mk1 (shut_bool Try.underlying4 _), (trodAll_cons_mk (Below.trod laidOut (by kernel_rfl) (of_decide_eq_true (by kernel_rfl)) k0 bel lt0) trodAll_mk0), rfl, bel.frame _, fun h => by cases h⟩

theorem over : Rows.fnGapsRow.holds Try.pinned (OpenSpec.ofChange Rows.fnGapsSpec) :=
  OpenClaim.holds_of_wide 7 Try.f7 rfl rfl rfl rfl rfl rfl rfl ⟨rfl, rfl, rfl, rfl, rfl⟩ rfl rfl rfl rfl rfl (by kernel_rfl) Try.func7 (by kernel_rfl)
    (of_decide_eq_true (by kernel_rfl)) (by unfold Func.isWrapper; first | (rw [if_pos (by decide +kernel)]; kernel_rfl) | (rw [if_neg (by decide +kernel)]; exact ⟨rfl, rfl⟩))
    (fun os started H enc _ => lifted os started H enc)

theorem proved : Rows.FnGapsSaid := over
#print axioms proved
end Go.Proofs.Ytkfgflmhefbinaa.fnGaps
