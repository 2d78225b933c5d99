/- Proves the given statement of the law FnRevalued: for every input that the row lets in, the law's Go function returns true and every argument reads as before; no condition of mine. -/
import Derived.Test.YtdmkceaonfbebaaPayFacts
import Derived.Test.YtdmkceaonfbebaaPayI
import Derived.Test.YtdmkceaonfbebaaDrawPay
import Derived.Test.YtdmkceaonfbebaaDrawRow
import Derived.Test.YtdmkceaonfbebaaKit
import Derived.Test.YtdmkceaonfbebaaRows
import Derived.WalkKit
import Derived.ProofKit
import Derived.OpenShut
import Derived.ShutString
import Derived.ChangeOld
import Derived.Below
namespace Go.Proofs.Ytdmkceaonfbebaa.fnRevalued
open Go.ChangeShapes Go.WideShapes Go.ChangeAt Go.RowKit
open Go.ChangeMaps (open_string shut_string)
set_option linter.unusedVariables false

theorem own : ownKnob Try.prog.godebug = none := by kernel_rfl
theorem laidOut : laidOutB Try.prog = true := by kernel_rfl

/-- WHAT THE WALK IS TOLD OF A SLICE OF INTEGERS THAT CAME IN: it is nil; or it leads to a row of 'cap' cells, the numbers 'zs' (the first 'len' are its elements, the rest its spare room), each fitting its kind. -/
def IsRow (k : IntKind) (w : World) (a : Option Addr) (len cap : Nat) (zs : List Int) : Prop :=
  (a = none ∧ len = 0 ∧ cap = 0 ∧ zs = []) ∨
  ∃ x, a = some x ∧ len ≤ cap ∧ cap ≤ maxLen ∧ zs.length = cap ∧ (∀ i, i < zs.length → w.cell? (x.add i) = some (.int k (zs.getD i 0))) ∧ ∀ n ∈ zs, (Lit.int k n).wf = true

/-! ### STEP 1: THE WALK: the Go text returns true, AND WRITES NOTHING THAT WAS THERE: 'Below w.heap.size w w'' (Derived/Below.lean: '.refl', '.alloc', '.drew', '.setCell' at a new block, '.trans'). Open each 'IsRow' by 'rcases' AHEAD of 'go_enter'; part every test ahead of the walk. -/
set_option maxHeartbeats 4000000 in
set_option maxRecDepth 100000 in
theorem walk (a0 : Option Addr) (len0 cap0 : Nat) (z0 : List Int) (w : World) (w0 : IsRow .u8 w a0 len0 cap0 z0) :
    Calls Try.prog 4 #[.slice a0 len0 cap0] w fun e w' => e = .returned (.bool true) ∧ Below w.heap.size w w' := by
  obtain ⟨hcode, hs⟩ := CurKit.code_at w0
  clear w0
  have HK := Lib.hid hcode
  have HS := Lib.hid hs
  clear hcode
  unfold maxLen at hs
  by_cases hbig : 1048576 < len0
  · go_enter Try.func4, Try.ntmps4
    go_wp2
    go_ret
    exact ⟨rfl, Below.refl _ _⟩
  go_enter Try.func4, Try.ntmps4
  go_wp2_with (go_at_call 11; go_in)
  refine (DrawPay.pay_c _ a0 len0 cap0 HK.out HS.out).mono ?_
  rintro e w1 ⟨l, p, c, ls, p9, c9, ⟨hpd, hl10, ho⟩, _, _, rfl, _, hb⟩
  obtain ⟨m, hm⟩ : ∃ m, l.length = m := ⟨_, rfl⟩
  have HM := Lib.hid hm
  rw [hm] at ho hl10 ⊢
  obtain ⟨m9, hm9⟩ : ∃ m, ls.length = m := ⟨_, rfl⟩
  rw [hm9]
  have HP := Lib.hid hpd
  have hk99 : (0 : Int) ≤ 99 := by omega
  have hb2 := BelowKit.bl_trans hb (show Below w1.heap.size w1 ((w1.alloc (.cells #[.slice p m c] 26)).alloc (.cells #[.slice p9 m9 c9] 29)) by (repeat (first | exact Below.refl _ _ | apply BelowKit.bl_alloc | apply BelowKit.bl_drewN | apply BelowKit.bl_drew | (refine BelowKit.bl_set ?_ _ ?_; rotate_left; (first | omega | (simp; omega) | simp)) | (refine BelowKit.bl_trans ?_ (‹Hid (Below _ _ _)›).out))))
  have HO1 := Lib.hid (ho.on (show Below w1.heap.size w1 ((w1.alloc (.cells #[.slice p m c] 26)).alloc (.cells #[.slice p9 m9 c9] 29)) by (repeat (first | exact Below.refl _ _ | apply BelowKit.bl_alloc | apply BelowKit.bl_drewN | apply BelowKit.bl_drew | (refine BelowKit.bl_set ?_ _ ?_; rotate_left; (first | omega | (simp; omega) | simp)) | (refine BelowKit.bl_trans ?_ (‹Hid (Below _ _ _)›).out)))))
  have HC1 := Lib.hid hb2
  clear hpd ho hb hb2 hm hm9
  have c1 : ((w1.alloc (.cells #[.slice p m c] 26)).alloc (.cells #[.slice p9 m9 c9] 29)).cell? ⟨w1.heap.size, 0, none⟩ = some (.slice p m c) := by simp [go_sem]
  have z1 : w1.heap.size < ((w1.alloc (.cells #[.slice p m c] 26)).alloc (.cells #[.slice p9 m9 c9] 29)).heap.size := by simp; omega
  go_wp2
  obtain ⟨W0, hW⟩ : ∃ W0, W0 = ((((w1.alloc (.cells #[.slice p m c] 26)).alloc (.cells #[.slice p9 m9 c9] 29)).alloc (.cells #[.int .i64 0, .int .i64 0, .int .i64 10000] 43)).alloc (.cells #[.slice (some ⟨w1.heap.size + 1 + 1, 0, none⟩) 1 1] 29)) := ⟨_, rfl⟩
  rw [← hW]
  have hbW : Below ((w1.alloc (.cells #[.slice p m c] 26)).alloc (.cells #[.slice p9 m9 c9] 29)).heap.size ((w1.alloc (.cells #[.slice p m c] 26)).alloc (.cells #[.slice p9 m9 c9] 29)) W0 := by rw [hW]; exact BelowKit.bl_alloc (BelowKit.bl_alloc (Below.refl _ _))
  have KC := Lib.hid (((BelowKit.bcell hbW).1 _ 0 z1).trans c1)
  have KZ := Lib.hid (Nat.lt_of_lt_of_le z1 hbW.size)
  have HO2 := Lib.hid (HO1.out.on hbW)
  have HC2 := Lib.hid (BelowKit.bl_trans HC1.out hbW)
  have KX := Lib.hid (show W0.cell? ⟨w1.heap.size + 1 + 1 + 1, 0, none⟩ = some (.slice (some ⟨w1.heap.size + 1 + 1, 0, none⟩) 1 1) by rw [hW]; simp [go_sem])
  have KXZ := Lib.hid (show w1.heap.size + 1 + 1 + 1 < W0.heap.size by rw [hW]; simp)
  have HR := Lib.hid (show RowN.Reads TPoint.fc 3 W0 (some ⟨w1.heap.size + 1 + 1, 0, none⟩) [⟨0, 0, 10000⟩] from fun j hj => by
    obtain rfl : j = 0 := by simpa using hj
    refine ⟨_, 0, rfl, by rw [hW]; simp, fun i hi => ?_⟩
    rcases (show i = 0 ∨ i = 1 ∨ i = 2 by omega) with rfl | rfl | rfl <;> (rw [hW]; simp [go_sem, TPoint.fc]))
  clear hW hbW c1 z1 HO1 HC1
  go_loopw [6, 7] (fun s mo wr => ∃ j : Nat, j ≤ 30 ∧ mo = .int .i64 (j : Int) ∧ s = .int .i64 (PayMath.sumTo l 99 0 j) ∧ Hid (Below W0.heap.size W0 wr)) (fun _ mo _ => (30 - intOf mo).toNat)
  case atStart => exact ⟨0, by omega, rfl, rfl, Lib.hid (Below.refl _ _)⟩
  case round =>
    obtain ⟨j, hj, rfl, rfl, HW⟩ := hrel
    have cr := ((BelowKit.bcell HW.out).1 _ 0 KZ.out).trans KC.out
    have zr := Nat.lt_of_lt_of_le KZ.out HW.out.size
    have HOr := Lib.hid (HO2.out.on HW.out)
    by_cases hlt : j < 30
    · have sb := HP.out.sum_bd hk99 (f := 0) (by omega) j (by omega)
      obtain ⟨u, hu, u1, u2⟩ := HP.out.pv (m := (j : Int)) (kn := 99) (by omega) (by omega) hk99
      have HU := Lib.hid (show FactMath.val 1 (j : Int) 99 l = (u, true) from hu)
      have E := Lib.hid (show PayMath.sumTo l 99 0 (j + 1) = PayMath.sumTo l 99 0 j + u by rw [PayMath.sum_succ, Int.zero_add, hu]; rfl)
      obtain ⟨s, hs2⟩ : ∃ s, PayMath.sumTo l 99 0 j = s := ⟨_, rfl⟩
      rw [hs2] at E sb ⊢
      have W1 : IntKind.i64.wrap (s + u) = s + u := IntWalk.i64_in _ (by omega)
      have dK : decide ((j : Int) < 30) = true := decide_eq_true (by omega)
      clear hs2 hu
      go_wp2_with fail
      refine (ValueAt.val_s _ p m c l 1 (j : Int) 99 HM.out (by omega) (RowN.reads_own Fact.fw HOr.out)).mono ?_
      rintro e w6 ⟨rfl, hb⟩
      rw [HU.out]
      have HW6 := Lib.hid (BelowKit.bl_trans HW.out hb)
      clear hb cr zr HOr HW
      go_wp2
      clear W1
      go_roundw
      case rel => exact ⟨j + 1, by omega, by go_num, congrArg (Value.int .i64) E.out.symm, HW6⟩
      case measure => simp [intOf]; omega
    · obtain rfl : j = 30 := by omega
      have E := Lib.hid (show PayMath.rev l [⟨0, 0, 10000⟩] 0 30 99 = PayMath.sumTo l 99 0 30 from PayFacts.rev_same HP.out (n := 30) hk99 (by omega) (by omega) (by omega) (by omega))
      have E2 := Lib.hid (PayFacts.rev_none l 0 30 99)
      obtain ⟨s, hs2⟩ : ∃ s, PayMath.sumTo l 99 0 30 = s := ⟨_, rfl⟩
      rw [hs2] at E ⊢
      have HRr := Lib.hid (HR.out.on HW.out)
      have xr := ((BelowKit.bcell HW.out).1 _ 0 KXZ.out).trans KX.out
      have HCr := Lib.hid (BelowKit.bl_trans HC2.out HW.out)
      clear hs2 HW
      go_wp2_with fail
      refine (PayI.rev_i _ p m c l (some ⟨w1.heap.size + 1 + 1, 0, none⟩) 1 1 [⟨0, 0, 10000⟩] 0 30 99 HM.out (by omega) (RowN.reads_own Fact.fw HOr.out) rfl (by omega) HRr.out).mono ?_
      rintro e w6 ⟨rfl, hb⟩
      rw [E.out]
      have c6 := ((BelowKit.bcell hb).1 _ 0 zr).trans cr
      have z6 := Nat.lt_of_lt_of_le zr hb.size
      have HO6 := Lib.hid (HOr.out.on hb)
      have HC6 := Lib.hid (BelowKit.bl_trans HCr.out hb)
      clear hb cr zr HOr HCr
      go_wp2_with fail
      refine (PayI.rev_i _ p m c l none 0 0 [] 0 30 99 HM.out (by omega) (RowN.reads_own Fact.fw HO6.out) rfl (by omega) (RowN.Reads.nil _ _)).mono ?_
      rintro e w7 ⟨rfl, hb⟩
      rw [E2.out]
      have c7 := ((BelowKit.bcell hb).1 _ 0 z6).trans c6
      have z7 := Nat.lt_of_lt_of_le z6 hb.size
      have HO7 := Lib.hid (HO6.out.on hb)
      have HC7 := Lib.hid (BelowKit.bl_trans HC6.out hb)
      clear hb c6 z6 HO6 HC6
      go_wp2
      go_ret
      exact ⟨rfl, HC7.out⟩

/-! ### THE ROW's STEP: WRITTEN OUT: LEAVE IT -/
set_option maxRecDepth 100000 in
theorem lifted (os : Os) (started : os.Started) (H : Type) (enc : TypeId × Value → H) :
    ReturnsInHanded {} Try.checked os 4 .any (Rows.fnRevaluedSpec.pre6 enc Try.prog Try.f4 Rows.fnRevaluedRow.domain false) (Rows.fnRevaluedSpec.post enc Try.prog Try.f4 false true false false) := by
  refine returnsInHanded_of_change (C := Try.checked) own started (by kernel_rfl) Try.func4
    (ChangeSpec.witness6 (enc := enc) (C := Try.checked) false ⟨#[], #[.slice none 0 0], []⟩ 8 (by kernel_rfl) (by kernel_rfl) (by kernel_rfl) (by kernel_rfl)) ?_
  intro W base args ds gs before hval0 hW hcnd _
  have hval : ∀ (j : Nat) t v, Try.f4.params[j]? = some t → args[j]? = some v → Value.okWide Try.prog W .any base t v := hval0
  have hW' := hW
  obtain ⟨p, q, hA0, hV, rfl, hfz, hnd⟩ := hW
  have hA : DataW.TrodAll enc Try.prog W 0 (fun _ => true) true Try.f4.params.toList args.toList ds p := hA0
  rw [Try.params4] at hA hval
  obtain ⟨v0, vs0, d0, ds0, p0, q0, hargs, rfl, rfl, h0, r0⟩ := trodAll_cons hA
  obtain ⟨rfl, rfl, rfl⟩ := trodAll_nil r0
  obtain rfl : args = #[v0] := by cases args; simp_all
  obtain ⟨rfl, rfl⟩ := trodVars_none hV
  obtain ⟨a0, len0, cap0, rfl⟩ := okWide_slice Try.underlying22 (hval 0 22 v0 rfl rfl)
  have k0 := h0
  have lt0 : ∀ x ∈ p0, x.block < W.heap.size := by obtain ⟨m, hm⟩ := k0; exact DataW.trod_lt m _ _ _ hm
  obtain ⟨z0, w0⟩ : ∃ zs, IsRow .u8 W a0 len0 cap0 zs := by
    obtain ⟨fuel, hf⟩ := h0
    rcases open_ints Try.underlying22 Try.underlying5 (by kernel_rfl) hf with ⟨hcs, _⟩ | ⟨x, l, c, zs, hcs, _, hl, hm, hz, _, hcell, hwz⟩
    · simp [Value.cells] at hcs
      obtain ⟨rfl, rfl, rfl⟩ := hcs
      exact ⟨[], .inl ⟨rfl, rfl, rfl, rfl⟩⟩
    · simp [Value.cells] at hcs
      obtain ⟨rfl, rfl, rfl⟩ := hcs
      exact ⟨zs, .inr ⟨_, rfl, hl, hm, by simpa using hz, hcell, hwz⟩⟩
  clear hA0 hval0
  refine (walk a0 len0 cap0 z0 W w0).mono fun e W' ⟨he, bel⟩ => ?_
  subst he
  exact ⟨_, rfl, _, _, _, [], _, [], hW', trodAll_mk1 (shut_bool Try.underlying4 _), (trodAll_cons_mk (Below.trod laidOut (by kernel_rfl) (of_decide_eq_true (by kernel_rfl)) k0 bel lt0) trodAll_mk0), rfl, bel.frame _, fun h => by cases h⟩

theorem over : Rows.fnRevaluedRow.holds Try.pinned (OpenSpec.ofChange Rows.fnRevaluedSpec) :=
  OpenClaim.holds_of_wide 4 Try.f4 rfl rfl rfl rfl rfl rfl rfl ⟨rfl, rfl, rfl, rfl, rfl⟩ rfl rfl rfl rfl rfl (by kernel_rfl) Try.func4 (by kernel_rfl)
    (of_decide_eq_true (by kernel_rfl)) (by unfold Func.isWrapper; first | (rw [if_pos (by decide +kernel)]; kernel_rfl) | (rw [if_neg (by decide +kernel)]; exact ⟨rfl, rfl⟩))
    (fun os started H enc _ => lifted os started H enc)

theorem proved : Rows.FnRevaluedSaid := over
#print axioms proved
end Go.Proofs.Ytdmkceaonfbebaa.fnRevalued
