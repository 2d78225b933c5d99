/- Proves the given statement of the law FnPays: for every input that the row lets in, the law's Go function returns true and every argument reads as before; no condition of mine. -/
import Derived.Test.YtdmkceaonfbebaaPayFacts
import Derived.Test.YtdmkceaonfbebaaPayI
import Derived.Test.YtdmkceaonfbebaaDrawPay
import Derived.Test.YtdmkceaonfbebaaDrawRow
import Derived.Test.YtdmkceaonfbebaaKit
import Derived.Test.YtdmkceaonfbebaaFracSCmp
import Derived.Test.YtdmkceaonfbebaaRows
import Derived.WalkKit
import Derived.ProofKit
import Derived.OpenShut
import Derived.ShutString
import Derived.ChangeOld
import Derived.Below
namespace Go.Proofs.Ytdmkceaonfbebaa.fnPays
open Go.ChangeShapes Go.WideShapes Go.ChangeAt Go.RowKit
open Go.ChangeMaps (open_string shut_string)
set_option linter.unusedVariables false

theorem own : ownKnob Try.prog.godebug = none := by kernel_rfl
theorem laidOut : laidOutB Try.prog = true := by kernel_rfl

/-- WHAT THE WALK IS TOLD OF A SLICE OF INTEGERS THAT CAME IN: it is nil; or it leads to a row of 'cap' cells, the numbers 'zs' (the first 'len' are its elements, the rest its spare room), each fitting its kind. -/
def IsRow (k : IntKind) (w : World) (a : Option Addr) (len cap : Nat) (zs : List Int) : Prop :=
  (a = none ∧ len = 0 ∧ cap = 0 ∧ zs = []) ∨
  ∃ x, a = some x ∧ len ≤ cap ∧ cap ≤ maxLen ∧ zs.length = cap ∧ (∀ i, i < zs.length → w.cell? (x.add i) = some (.int k (zs.getD i 0))) ∧ ∀ n ∈ zs, (Lit.int k n).wf = true

/-! ### STEP 1: THE WALK: the Go text returns true, AND WRITES NOTHING THAT WAS THERE: 'Below w.heap.size w w'' (Derived/Below.lean: '.refl', '.alloc', '.drew', '.setCell' at a new block, '.trans'). Open each 'IsRow' by 'rcases' AHEAD of 'go_enter'; part every test ahead of the walk. -/
set_option maxHeartbeats 4000000 in
set_option maxRecDepth 100000 in
theorem walk (a0 : Option Addr) (len0 cap0 : Nat) (z0 : List Int) (w : World) (w0 : IsRow .u8 w a0 len0 cap0 z0) :
    Calls Try.prog 3 #[.slice a0 len0 cap0] w fun e w' => e = .returned (.bool true) ∧ Below w.heap.size w w' := by
  obtain ⟨hcode, hs⟩ := CurKit.code_at w0
  clear w0
  have HK := Lib.hid hcode
  have HS := Lib.hid hs
  clear hcode
  unfold maxLen at hs
  by_cases hbig : 1048576 < len0
  · go_enter Try.func3, Try.ntmps3
    go_wp2
    go_ret
    exact ⟨rfl, Below.refl _ _⟩
  go_enter Try.func3, Try.ntmps3
  go_wp2_with (go_at_call 11; go_in)
  refine (DrawPay.pay_c _ a0 len0 cap0 HK.out HS.out).mono ?_
  rintro e w1 ⟨l, p, c, ls, p9, c9, ⟨hpd, hl10, ho⟩, _, _, rfl, _, hb⟩
  obtain ⟨m, hm⟩ : ∃ m, l.length = m := ⟨_, rfl⟩
  have HM := Lib.hid hm
  rw [hm] at ho hl10 ⊢
  obtain ⟨m9, hm9⟩ : ∃ m, ls.length = m := ⟨_, rfl⟩
  rw [hm9]
  have HP := Lib.hid hpd
  have hk99 : (0 : Int) ≤ 99 := by omega
  have hb2 := BelowKit.bl_trans hb (show Below w1.heap.size w1 ((w1.alloc (.cells #[.slice p m c] 26)).alloc (.cells #[.slice p9 m9 c9] 29)) by (repeat (first | exact Below.refl _ _ | apply BelowKit.bl_alloc | apply BelowKit.bl_drewN | apply BelowKit.bl_drew | (refine BelowKit.bl_set ?_ _ ?_; rotate_left; (first | omega | (simp; omega) | simp)) | (refine BelowKit.bl_trans ?_ (‹Hid (Below _ _ _)›).out))))
  have HO1 := Lib.hid (ho.on (show Below w1.heap.size w1 ((w1.alloc (.cells #[.slice p m c] 26)).alloc (.cells #[.slice p9 m9 c9] 29)) by (repeat (first | exact Below.refl _ _ | apply BelowKit.bl_alloc | apply BelowKit.bl_drewN | apply BelowKit.bl_drew | (refine BelowKit.bl_set ?_ _ ?_; rotate_left; (first | omega | (simp; omega) | simp)) | (refine BelowKit.bl_trans ?_ (‹Hid (Below _ _ _)›).out)))))
  have HC1 := Lib.hid hb2
  clear hpd ho hb hb2 hm hm9
  have c1 : ((w1.alloc (.cells #[.slice p m c] 26)).alloc (.cells #[.slice p9 m9 c9] 29)).cell? ⟨w1.heap.size, 0, none⟩ = some (.slice p m c) := by simp [go_sem]
  have z1 : w1.heap.size < ((w1.alloc (.cells #[.slice p m c] 26)).alloc (.cells #[.slice p9 m9 c9] 29)).heap.size := by simp; omega
  obtain ⟨_, x, y, ex, hox, hx, hy⟩ := PayFacts.avg_paid HP.out hk99 (f := 24) (n := 12) (by omega) (by omega) (by omega)
  have ex : PayMath.avg l 24 36 99 = (x, y, true) := ex
  have hx : x * 12 = PayMath.sumTo l 99 24 12 * y := hx
  have hlead := PayFacts.best_paid HP.out hk99 (f := 0) (n := 12) (k := 24) (by omega) (by omega) (by omega) (by omega)
  have hlead : PayFacts.Lead l 99 0 12 25 (PayMath.best l 0 36 12 99) := hlead
  obtain ⟨⟨bn, bd, bp, bo⟩, hB⟩ : ∃ B, PayMath.best l 0 36 12 99 = B := ⟨_, rfl⟩
  rw [hB] at hlead
  obtain ⟨hyes, hokb, hlow, hhigh, hmost⟩ := hlead
  obtain rfl : bo = true := hyes
  simp only [] at hokb hlow hhigh
  have hm24 := hmost 24 (by omega)
  have hm24 : (PayMath.avg l 24 36 99).1 * bd ≤ bn * (PayMath.avg l 24 36 99).2.1 := hm24
  rw [ex] at hm24
  have CB := Lib.hid (show 0 ≤ FracMath.cmpI bn bd x y by rw [PayFacts.cmp_is hokb hox, PayFacts.sgn_ge, Int.neg_mul]; simp only [] at hm24; omega)
  have p24 : bp ≤ 24 := by omega
  have FA := Lib.hid (show PayMath.aver l 24 36 99 = (x, y, true) by rw [PayFacts.aver_paid HP.out (by omega) (by omega) (by omega) (by omega)]; exact ex)
  have FB := Lib.hid hB
  obtain ⟨v, hv, _⟩ := HP.out.pv (m := 35) (kn := 99) (by omega) (by omega) hk99
  have FC := Lib.hid (show PayMath.fin l 36 99 = (v, true) by rw [PayFacts.fin_paid HP.out hk99 (by omega) (by omega)]; exact hv)
  have FD := Lib.hid (show FactMath.val 1 35 99 l = (v, true) from hv)
  obtain ⟨l0, l1, l2⟩ := PayFacts.low_bd HP.out hk99 (f := 24) (by omega) 12 (by omega)
  obtain ⟨h0, h1, h2⟩ := PayFacts.high_bd HP.out hk99 (f := 24) (by omega) 12 (by omega)
  have CL := Lib.hid (PayFacts.cmp_low hox (by omega) hx l2 (by omega) (by omega))
  have CH := Lib.hid (PayFacts.cmp_high hox (by omega) hx h2 (by omega) (by omega))
  clear ex hox hx hy hB hokb hhigh hmost hm24 hv l0 l1 l2 h0 h1 h2
  go_wp2_with fail
  refine (PayI.aver_i _ p m c l 24 36 99 HM.out (by omega) (RowN.reads_own Fact.fw HO1.out)).mono ?_
  rintro e w3 ⟨rfl, hb⟩
  rw [FA.out]
  have c3 := ((BelowKit.bcell hb).1 _ 0 z1).trans c1
  have z3 := Nat.lt_of_lt_of_le z1 hb.size
  have HO3 := Lib.hid (HO1.out.on hb)
  have HC3 := Lib.hid (BelowKit.bl_trans HC1.out hb)
  clear hb c1 z1 HO1 HC1
  go_wp2_with fail
  refine (PayI.best_i _ p m c l 0 36 12 99 HM.out (by omega) (RowN.reads_own Fact.fw (HO3.out.on (BelowKit.bl_alloc (Below.refl _ _))))).mono ?_
  rintro e w4 ⟨rfl, hb⟩
  rw [FB.out]
  have x4 := ((BelowKit.bcell hb).1 w3.heap.size 0 (by simp)).trans (show _ = some (Value.int .i64 x) by simp [go_sem])
  have y4 := ((BelowKit.bcell hb).1 w3.heap.size 1 (by simp)).trans (show _ = some (Value.int .i64 y) by simp [go_sem])
  have zx4 : w3.heap.size < w4.heap.size := by have := hb.size; simp at this; omega
  replace hb := BelowKit.bl_trans (BelowKit.bl_alloc (Below.refl w3.heap.size w3)) hb
  have c4 := ((BelowKit.bcell hb).1 _ 0 z3).trans c3
  have z4 := Nat.lt_of_lt_of_le z3 hb.size
  have HO4 := Lib.hid (HO3.out.on hb)
  have HC4 := Lib.hid (BelowKit.bl_trans HC3.out hb)
  clear hb c3 z3 HO3 HC3
  go_wp2_with fail
  refine (PayI.fin_i _ p m c l 36 99 HM.out (by omega) (RowN.reads_own Fact.fw (HO4.out.on (BelowKit.bl_alloc (Below.refl _ _))))).mono ?_
  rintro e w5 ⟨rfl, hb⟩
  rw [FC.out]
  have r5 := ((BelowKit.bcell hb).1 w4.heap.size 0 (by simp)).trans (show _ = some (Value.int .i64 bn) by simp [go_sem])
  have s5 := ((BelowKit.bcell hb).1 w4.heap.size 1 (by simp)).trans (show _ = some (Value.int .i64 bd) by simp [go_sem])
  have zr5 : w4.heap.size < w5.heap.size := by have := hb.size; simp at this; omega
  replace hb := BelowKit.bl_trans (BelowKit.bl_alloc (Below.refl w4.heap.size w4)) hb
  have c5 := ((BelowKit.bcell hb).1 _ 0 z4).trans c4
  have x5 := ((BelowKit.bcell hb).1 _ 0 zx4).trans x4
  have y5 := ((BelowKit.bcell hb).1 _ 1 zx4).trans y4
  have z5 := Nat.lt_of_lt_of_le z4 hb.size
  have zx5 := Nat.lt_of_lt_of_le zx4 hb.size
  have HO5 := Lib.hid (HO4.out.on hb)
  have HC5 := Lib.hid (BelowKit.bl_trans HC4.out hb)
  clear hb c4 x4 y4 z4 zx4 HO4 HC4
  have KC := Lib.hid c5
  have KX := Lib.hid x5
  have KY := Lib.hid y5
  have KR := Lib.hid r5
  have KS := Lib.hid s5
  have KZ := Lib.hid z5
  have KZX := Lib.hid zx5
  have KZR := Lib.hid zr5
  clear c5 x5 y5 r5 s5 z5 zx5 zr5
  go_wp2
  go_loopw [12, 13, 14] (fun lo hi mo wr => ∃ j : Nat, j ≤ 12 ∧ mo = .int .i64 (24 + (j : Int)) ∧ lo = .int .i64 (PayFacts.lowTo l 99 24 j) ∧ hi = .int .i64 (PayFacts.highTo l 99 24 j) ∧ Hid (Below w5.heap.size w5 wr)) (fun _ _ mo _ => (36 - intOf mo).toNat)
  case atStart => exact ⟨0, by omega, rfl, rfl, rfl, Lib.hid (Below.refl _ _)⟩
  case round =>
    obtain ⟨j, hj, rfl, rfl, rfl, HW⟩ := hrel
    have cr := ((BelowKit.bcell HW.out).1 _ 0 KZ.out).trans KC.out
    have zr := Nat.lt_of_lt_of_le KZ.out HW.out.size
    have HOr := Lib.hid (HO5.out.on HW.out)
    by_cases hlt : j < 12
    · obtain ⟨mo, hmo⟩ : ∃ mo, 24 + (j : Int) = mo := ⟨_, rfl⟩
      have HMO := Lib.hid hmo
      obtain ⟨u, hu, _⟩ := HP.out.pv (m := mo) (kn := 99) (by omega) (by omega) hk99
      have HU := Lib.hid (show FactMath.val 1 mo 99 l = (u, true) from hu)
      have E1 := Lib.hid (show PayFacts.lowTo l 99 24 (j + 1) = min (PayFacts.lowTo l 99 24 j) u by rw [PayFacts.lowTo, hmo, hu])
      have E2 := Lib.hid (show PayFacts.highTo l 99 24 (j + 1) = max (PayFacts.highTo l 99 24 j) u by rw [PayFacts.highTo, hmo, hu])
      obtain ⟨lo, hlo⟩ : ∃ lo, PayFacts.lowTo l 99 24 j = lo := ⟨_, rfl⟩
      obtain ⟨hi, hhi⟩ : ∃ hi, PayFacts.highTo l 99 24 j = hi := ⟨_, rfl⟩
      rw [hlo] at E1 ⊢
      rw [hhi] at E2 ⊢
      rw [hmo]
      have dK : decide (mo < 36) = true := decide_eq_true (by omega)
      have W1 : IntKind.i64.wrap (mo + 1) = mo + 1 := IntWalk.i64_in _ (by omega)
      have E1 := Lib.hid (show PayFacts.lowTo l 99 24 (j + 1) = if u < lo then u else lo by rw [E1.out]; split <;> omega)
      have E2 := Lib.hid (show PayFacts.highTo l 99 24 (j + 1) = if hi < u then u else hi by rw [E2.out]; split <;> omega)
      clear hlo hhi hu hmo
      go_wp2_with fail
      refine (ValueAt.val_s _ p m c l 1 mo 99 HM.out (by omega) (RowN.reads_own Fact.fw HOr.out)).mono ?_
      rintro e w6 ⟨rfl, hb⟩
      rw [HU.out]
      have HW6 := Lib.hid (BelowKit.bl_trans HW.out hb)
      clear hb cr zr HOr HW
      go_wp2
      clear W1
      go_roundw
      case rel => exact ⟨j + 1, by omega, congrArg (Value.int .i64) (by have := HMO.out; omega), congrArg (Value.int .i64) E1.out.symm, congrArg (Value.int .i64) E2.out.symm, HW6⟩
      case measure => simp [intOf]; have := HMO.out; omega
    · obtain rfl : j = 12 := by omega
      obtain ⟨lo, hlo⟩ : ∃ lo, PayFacts.lowTo l 99 24 12 = lo := ⟨_, rfl⟩
      obtain ⟨hi, hhi⟩ : ∃ hi, PayFacts.highTo l 99 24 12 = hi := ⟨_, rfl⟩
      rw [hlo] at CL ⊢
      rw [hhi] at CH ⊢
      clear hlo hhi
      have xr := ((BelowKit.bcell HW.out).1 _ 0 KZX.out).trans KX.out
      have yr := ((BelowKit.bcell HW.out).1 _ 1 KZX.out).trans KY.out
      have rr := ((BelowKit.bcell HW.out).1 _ 0 KZR.out).trans KR.out
      have sr := ((BelowKit.bcell HW.out).1 _ 1 KZR.out).trans KS.out
      have zxr := Nat.lt_of_lt_of_le KZX.out HW.out.size
      have zrr := Nat.lt_of_lt_of_le KZR.out HW.out.size
      have HCr := Lib.hid (BelowKit.bl_trans HC5.out HW.out)
      clear HW
      obtain ⟨q1, hq1⟩ : ∃ q, FracMath.cmpI x y lo 1 = q := ⟨_, rfl⟩
      obtain ⟨q2, hq2⟩ : ∃ q, FracMath.cmpI x y hi 1 = q := ⟨_, rfl⟩
      obtain ⟨q3, hq3⟩ : ∃ q, FracMath.cmpI bn bd x y = q := ⟨_, rfl⟩
      rw [hq1] at CL
      rw [hq2] at CH
      rw [hq3] at CB
      have HQ1 := Lib.hid hq1
      have HQ2 := Lib.hid hq2
      have HQ3 := Lib.hid hq3
      have e1 : decide (0 ≤ q1) = true := decide_eq_true CL.out
      have e2 : decide (q2 ≤ 0) = true := decide_eq_true CH.out
      have e3 : decide (0 ≤ q3) = true := decide_eq_true CB.out
      have e4 : decide (0 ≤ bp) = true := decide_eq_true hlow
      have e5 : decide (bp ≤ 24) = true := decide_eq_true p24
      clear hq1 hq2 hq3
      go_wp2_with fail
      refine (ValueAt.val_s _ p m c l 1 35 99 HM.out (by omega) (RowN.reads_own Fact.fw HOr.out)).mono ?_
      rintro e w6 ⟨rfl, hb⟩
      rw [FD.out]
      have c6 := ((BelowKit.bcell hb).1 _ 0 zr).trans cr
      have x6 := ((BelowKit.bcell hb).1 _ 0 zxr).trans xr
      have y6 := ((BelowKit.bcell hb).1 _ 1 zxr).trans yr
      have r6 := ((BelowKit.bcell hb).1 _ 0 zrr).trans rr
      have s6 := ((BelowKit.bcell hb).1 _ 1 zrr).trans sr
      have z6 := Nat.lt_of_lt_of_le zr hb.size
      have zx6 := Nat.lt_of_lt_of_le zxr hb.size
      have zr6 := Nat.lt_of_lt_of_le zrr hb.size
      have HO6 := Lib.hid (HOr.out.on hb)
      have HC6 := Lib.hid (BelowKit.bl_trans HCr.out hb)
      clear hb cr xr yr rr sr zr zxr zrr HOr HCr
      go_wp2_with fail
      refine (FracSCmp.cmp_s x y lo 1 _).mono ?_
      rintro e w7 ⟨rfl, hb⟩
      rw [HQ1.out]
      have c7 := ((BelowKit.bcell hb).1 _ 0 z6).trans c6
      have x7 := ((BelowKit.bcell hb).1 _ 0 zx6).trans x6
      have y7 := ((BelowKit.bcell hb).1 _ 1 zx6).trans y6
      have r7 := ((BelowKit.bcell hb).1 _ 0 zr6).trans r6
      have s7 := ((BelowKit.bcell hb).1 _ 1 zr6).trans s6
      have z7 := Nat.lt_of_lt_of_le z6 hb.size
      have zx7 := Nat.lt_of_lt_of_le zx6 hb.size
      have zr7 := Nat.lt_of_lt_of_le zr6 hb.size
      have HO7 := Lib.hid (HO6.out.on hb)
      have HC7 := Lib.hid (BelowKit.bl_trans HC6.out hb)
      clear hb c6 x6 y6 r6 s6 z6 zx6 zr6 HO6 HC6
      go_wp2_with fail
      refine (FracSCmp.cmp_s x y hi 1 _).mono ?_
      rintro e w8 ⟨rfl, hb⟩
      rw [HQ2.out]
      have c8 := ((BelowKit.bcell hb).1 _ 0 z7).trans c7
      have x8 := ((BelowKit.bcell hb).1 _ 0 zx7).trans x7
      have y8 := ((BelowKit.bcell hb).1 _ 1 zx7).trans y7
      have r8 := ((BelowKit.bcell hb).1 _ 0 zr7).trans r7
      have s8 := ((BelowKit.bcell hb).1 _ 1 zr7).trans s7
      have z8 := Nat.lt_of_lt_of_le z7 hb.size
      have zx8 := Nat.lt_of_lt_of_le zx7 hb.size
      have zr8 := Nat.lt_of_lt_of_le zr7 hb.size
      have HO8 := Lib.hid (HO7.out.on hb)
      have HC8 := Lib.hid (BelowKit.bl_trans HC7.out hb)
      clear hb c7 x7 y7 r7 s7 z7 zx7 zr7 HO7 HC7
      go_wp2_with fail
      refine (FracSCmp.cmp_s bn bd x y _).mono ?_
      rintro e w9 ⟨rfl, hb⟩
      rw [HQ3.out]
      have c9 := ((BelowKit.bcell hb).1 _ 0 z8).trans c8
      have z9 := Nat.lt_of_lt_of_le z8 hb.size
      have HO9 := Lib.hid (HO8.out.on hb)
      have HC9 := Lib.hid (BelowKit.bl_trans HC8.out hb)
      clear hb c8 z8 HO8 HC8
      go_wp2
      go_ret
      exact ⟨rfl, HC9.out⟩

/-! ### THE ROW's STEP: WRITTEN OUT: LEAVE IT -/
set_option maxRecDepth 100000 in
theorem lifted (os : Os) (started : os.Started) (H : Type) (enc : TypeId × Value → H) :
    ReturnsInHanded {} Try.checked os 3 .any (Rows.fnPaysSpec.pre6 enc Try.prog Try.f3 Rows.fnPaysRow.domain false) (Rows.fnPaysSpec.post enc Try.prog Try.f3 false true false false) := by
  refine returnsInHanded_of_change (C := Try.checked) own started (by kernel_rfl) Try.func3
    (ChangeSpec.witness6 (enc := enc) (C := Try.checked) false ⟨#[], #[.slice none 0 0], []⟩ 8 (by kernel_rfl) (by kernel_rfl) (by kernel_rfl) (by kernel_rfl)) ?_
  intro W base args ds gs before hval0 hW hcnd _
  have hval : ∀ (j : Nat) t v, Try.f3.params[j]? = some t → args[j]? = some v → Value.okWide Try.prog W .any base t v := hval0
  have hW' := hW
  obtain ⟨p, q, hA0, hV, rfl, hfz, hnd⟩ := hW
  have hA : DataW.TrodAll enc Try.prog W 0 (fun _ => true) true Try.f3.params.toList args.toList ds p := hA0
  rw [Try.params3] at hA hval
  obtain ⟨v0, vs0, d0, ds0, p0, q0, hargs, rfl, rfl, h0, r0⟩ := trodAll_cons hA
  obtain ⟨rfl, rfl, rfl⟩ := trodAll_nil r0
  obtain rfl : args = #[v0] := by cases args; simp_all
  obtain ⟨rfl, rfl⟩ := trodVars_none hV
  obtain ⟨a0, len0, cap0, rfl⟩ := okWide_slice Try.underlying22 (hval 0 22 v0 rfl rfl)
  have k0 := h0
  have lt0 : ∀ x ∈ p0, x.block < W.heap.size := by obtain ⟨m, hm⟩ := k0; exact DataW.trod_lt m _ _ _ hm
  obtain ⟨z0, w0⟩ : ∃ zs, IsRow .u8 W a0 len0 cap0 zs := by
    obtain ⟨fuel, hf⟩ := h0
    rcases open_ints Try.underlying22 Try.underlying5 (by kernel_rfl) hf with ⟨hcs, _⟩ | ⟨x, l, c, zs, hcs, _, hl, hm, hz, _, hcell, hwz⟩
    · simp [Value.cells] at hcs
      obtain ⟨rfl, rfl, rfl⟩ := hcs
      exact ⟨[], .inl ⟨rfl, rfl, rfl, rfl⟩⟩
    · simp [Value.cells] at hcs
      obtain ⟨rfl, rfl, rfl⟩ := hcs
      exact ⟨zs, .inr ⟨_, rfl, hl, hm, by simpa using hz, hcell, hwz⟩⟩
  clear hA0 hval0
  refine (walk a0 len0 cap0 z0 W w0).mono fun e W' ⟨he, bel⟩ => ?_
  subst he
  exact ⟨_, rfl, _, _, _, [], _, [], hW', trodAll_mk1 (shut_bool Try.underlying4 _), (trodAll_cons_mk (Below.trod laidOut (by kernel_rfl) (of_decide_eq_true (by kernel_rfl)) k0 bel lt0) trodAll_mk0), rfl, bel.frame _, fun h => by cases h⟩

theorem over : Rows.fnPaysRow.holds Try.pinned (OpenSpec.ofChange Rows.fnPaysSpec) :=
  OpenClaim.holds_of_wide 3 Try.f3 rfl rfl rfl rfl rfl rfl rfl ⟨rfl, rfl, rfl, rfl, rfl⟩ rfl rfl rfl rfl rfl (by kernel_rfl) Try.func3 (by kernel_rfl)
    (of_decide_eq_true (by kernel_rfl)) (by unfold Func.isWrapper; first | (rw [if_pos (by decide +kernel)]; kernel_rfl) | (rw [if_neg (by decide +kernel)]; exact ⟨rfl, rfl⟩))
    (fun os started H enc _ => lifted os started H enc)

theorem proved : Rows.FnPaysSaid := over
#print axioms proved
end Go.Proofs.Ytdmkceaonfbebaa.fnPays
