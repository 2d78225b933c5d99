/- Proves the given statement of the law FnExactFinalPay: for every input that the row lets in, the law's Go function returns true and every argument reads as before; no condition of mine. -/
import Derived.Test.YtdmkceaonfbebaaPayS
import Derived.Test.YtdmkceaonfbebaaPayI
import Derived.Test.YtdmkceaonfbebaaStore
import Derived.Test.YtdmkceaonfbebaaTSeries
import Derived.Test.YtdmkceaonfbebaaFactMath
import Derived.Test.YtdmkceaonfbebaaPointMath
import Derived.Test.YtdmkceaonfbebaaFracLaws
import Derived.Test.YtdmkceaonfbebaaKit
import Derived.Test.YtdmkceaonfbebaaTPoint
import Derived.Test.YtdmkceaonfbebaaRows
import Derived.WalkKit
import Derived.ProofKit
import Derived.OpenShut
import Derived.ShutString
import Derived.ChangeOld
import Derived.Below
import Derived.Deep.RegionHeld3
import Derived.Deep.DeepCutAuto
import Derived.Lib.Hide
import Derived.Lib.SmallJoins
import Derived.Test.YtdmkceaonfbebaaFact
namespace Go.Proofs.Ytdmkceaonfbebaa.fnExactFinalPay
open Go.ChangeShapes Go.WideShapes Go.ChangeAt Go.RowKit
open Go.ChangeMaps (open_string shut_string)
set_option linter.unusedVariables false

theorem own : ownKnob Try.prog.godebug = none := by kernel_rfl
theorem laidOut : laidOutB Try.prog = true := by kernel_rfl

/-! ### STEP 1: the walk -/
set_option maxHeartbeats 8000000 in
theorem walk (a0_Facts : Option Addr) (len0_Facts cap0_Facts : Nat) (z0_Facts : List Fact.Fa) (a1 : Int) (a2 : Int) (w : World) (hz0_Facts : z0_Facts.length = len0_Facts) (w0_Facts : RowN.Reads Fact.fc 5 w a0_Facts z0_Facts) (hl0_Facts : len0_Facts ≤ 9223372036854775807) (g0_Facts : ∀ x ∈ z0_Facts, Fact.Wf x) (w1 : (Lit.int .i64 a1).wf = true) (w2 : (Lit.int .i64 a2).wf = true) :
    Calls Try.prog 7 #[.agg #[.slice a0_Facts len0_Facts cap0_Facts], .int .i64 a1, .int .i64 a2] w fun e w' => e = .returned (.bool true) ∧ Below w.heap.size w w' := by
  have HR0_Facts := Lib.hid w0_Facts
  have HM0_Facts := Lib.hid hz0_Facts
  clear w0_Facts hz0_Facts
  by_cases hbig : 1048576 < len0_Facts
  · go_enter Try.func7, Try.ntmps7
    go_wp2_with fail
    obtain ⟨W1, hW1⟩ : ∃ V : World, V = w.alloc (.cells #[.slice a0_Facts len0_Facts cap0_Facts] 50) := ⟨_, rfl⟩
    rw [← hW1]
    have hb : Below w.heap.size w W1 := by rw [hW1]; (repeat (first | exact Below.refl _ _ | apply BelowKit.bl_alloc | apply BelowKit.bl_drewN | apply BelowKit.bl_drew | (refine BelowKit.bl_set ?_ _ ?_; rotate_left; (first | omega | (simp; omega) | simp)) | (refine BelowKit.bl_trans ?_ (‹Hid (Below _ _ _)›).out)))
    have tW1 : w.heap.size + 1 ≤ W1.heap.size := by rw [hW1]; simp
    have uW1 : W1.heap.size ≤ w.heap.size + 1 := by rw [hW1]; simp
    have c2 : W1.cell? ⟨w.heap.size, 0, none⟩ = some (.slice a0_Facts len0_Facts cap0_Facts) := by rw [hW1]; simp [go_sem]
    have z3 : w.heap.size < W1.heap.size := by omega
    clear hW1
    have sW1 : w.heap.size ≤ W1.heap.size := hb.size
    have HC4 := Lib.hid hb
    clear hb
    refine (Store.sz_c W1 a0_Facts len0_Facts cap0_Facts 1048576 hl0_Facts (by omega) (by omega)).mono ?_
    rintro e w9 ⟨rfl, hb⟩
    rw [if_pos (by omega)]
    have HC9 := Lib.hid (BelowKit.bl_trans HC4.out hb)
    clear hb
    go_wp2
    go_ret
    exact ⟨rfl, HC9.out⟩
  have hs0_Facts : len0_Facts ≤ 1048576 := by omega
  obtain ⟨m0, hm0⟩ : ∃ v, (PayMath.fin z0_Facts a1 a2).1 = v := ⟨_, rfl⟩
  have HF0 := Lib.hid hm0
  clear hm0
  obtain ⟨m1, hm1⟩ : ∃ v, (PayMath.fin z0_Facts a1 a2).2 = v := ⟨_, rfl⟩
  have HF1 := Lib.hid hm1
  clear hm1
  go_enter Try.func7, Try.ntmps7
  go_wp2_with fail
  obtain ⟨W5, hW5⟩ : ∃ V : World, V = w.alloc (.cells #[.slice a0_Facts len0_Facts cap0_Facts] 50) := ⟨_, rfl⟩
  rw [← hW5]
  have hb : Below w.heap.size w W5 := by rw [hW5]; (repeat (first | exact Below.refl _ _ | apply BelowKit.bl_alloc | apply BelowKit.bl_drewN | apply BelowKit.bl_drew | (refine BelowKit.bl_set ?_ _ ?_; rotate_left; (first | omega | (simp; omega) | simp)) | (refine BelowKit.bl_trans ?_ (‹Hid (Below _ _ _)›).out)))
  have tW5 : w.heap.size + 1 ≤ W5.heap.size := by rw [hW5]; simp
  have uW5 : W5.heap.size ≤ w.heap.size + 1 := by rw [hW5]; simp
  have c6 : W5.cell? ⟨w.heap.size, 0, none⟩ = some (.slice a0_Facts len0_Facts cap0_Facts) := by rw [hW5]; simp [go_sem]
  have z7 : w.heap.size < W5.heap.size := by omega
  clear hW5
  have sW5 : w.heap.size ≤ W5.heap.size := hb.size
  have HC8 := Lib.hid hb
  clear hb
  refine (Store.sz_c W5 a0_Facts len0_Facts cap0_Facts 1048576 hl0_Facts (by omega) (by omega)).mono ?_
  rintro e w9 ⟨rfl, hb⟩
  rw [if_neg (by omega)]
  have sw9 : W5.heap.size ≤ w9.heap.size := hb.size
  have c10 : w9.cell? ⟨w.heap.size, 0, none⟩ = some (.slice a0_Facts len0_Facts cap0_Facts) := ((BelowKit.bcell hb).1 _ _ z7).trans c6
  have z11 : w.heap.size < w9.heap.size := by omega
  have HC12 := Lib.hid (BelowKit.bl_trans HC8.out hb)
  clear c6 z7 HC8 hb
  go_wp2_with fail
  refine (Store.to_c w9 a0_Facts len0_Facts cap0_Facts z0_Facts HM0_Facts.out (by omega) (HR0_Facts.out.on HC12.out)).mono ?_
  rintro e w16 ⟨p13, c14, rfl, ho0, hb⟩
  rw [HM0_Facts.out] at ho0 ⊢
  have sw16 : w9.heap.size ≤ w16.heap.size := hb.size
  have c17 : w16.cell? ⟨w.heap.size, 0, none⟩ = some (.slice a0_Facts len0_Facts cap0_Facts) := ((BelowKit.bcell hb).1 _ _ z11).trans c10
  have z18 : w.heap.size < w16.heap.size := by omega
  have HC19 := Lib.hid (BelowKit.bl_trans HC12.out hb)
  clear c10 z11 HC12 hb
  have HO20 := Lib.hid (Own.ow_of ho0)
  clear ho0
  go_wp2_with fail
  refine (PayS.fin_s w16 p13 len0_Facts c14 z0_Facts a1 a2 HM0_Facts.out (by omega) (HO20.out.reads Fact.fw)).mono ?_
  rintro e w21 ⟨rfl, hb⟩
  rw [HF0.out, HF1.out]
  have sw21 : w16.heap.size ≤ w21.heap.size := hb.size
  have c22 : w21.cell? ⟨w.heap.size, 0, none⟩ = some (.slice a0_Facts len0_Facts cap0_Facts) := ((BelowKit.bcell hb).1 _ _ z18).trans c17
  have z23 : w.heap.size < w21.heap.size := by omega
  have HO24 := Lib.hid (HO20.out.on hb)
  have HC25 := Lib.hid (BelowKit.bl_trans HC19.out hb)
  clear c17 z18 HO20 HC19 hb
  go_wp2_with fail
  refine (Store.to_c w21 a0_Facts len0_Facts cap0_Facts z0_Facts HM0_Facts.out (by omega) (HR0_Facts.out.on HC25.out)).mono ?_
  rintro e w29 ⟨p26, c27, rfl, ho0, hb⟩
  rw [HM0_Facts.out] at ho0 ⊢
  have sw29 : w21.heap.size ≤ w29.heap.size := hb.size
  have c30 : w29.cell? ⟨w.heap.size, 0, none⟩ = some (.slice a0_Facts len0_Facts cap0_Facts) := ((BelowKit.bcell hb).1 _ _ z23).trans c22
  have z31 : w.heap.size < w29.heap.size := by omega
  have HO32 := Lib.hid (HO24.out.on hb)
  have HC33 := Lib.hid (BelowKit.bl_trans HC25.out hb)
  clear c22 z23 HO24 HC25 hb
  have HO34 := Lib.hid (Own.ow_of ho0)
  clear ho0
  go_wp2_with fail
  obtain ⟨W35, hW35⟩ : ∃ V : World, V = w29.alloc (.cells #[.slice p26 len0_Facts c27] 26) := ⟨_, rfl⟩
  rw [← hW35]
  have hb : Below w29.heap.size w29 W35 := by rw [hW35]; (repeat (first | exact Below.refl _ _ | apply BelowKit.bl_alloc | apply BelowKit.bl_drewN | apply BelowKit.bl_drew | (refine BelowKit.bl_set ?_ _ ?_; rotate_left; (first | omega | (simp; omega) | simp)) | (refine BelowKit.bl_trans ?_ (‹Hid (Below _ _ _)›).out)))
  have tW35 : w29.heap.size + 1 ≤ W35.heap.size := by rw [hW35]; simp
  have uW35 : W35.heap.size ≤ w29.heap.size + 1 := by rw [hW35]; simp
  have c36 : W35.cell? ⟨w29.heap.size, 0, none⟩ = some (.slice p26 len0_Facts c27) := by rw [hW35]; simp [go_sem]
  have z37 : w29.heap.size < W35.heap.size := by omega
  clear hW35
  have sW35 : w29.heap.size ≤ W35.heap.size := hb.size
  have c38 : W35.cell? ⟨w.heap.size, 0, none⟩ = some (.slice a0_Facts len0_Facts cap0_Facts) := ((BelowKit.bcell hb).1 _ _ z31).trans c30
  have z39 : w.heap.size < W35.heap.size := by omega
  have HO40 := Lib.hid (HO32.out.on hb)
  have HO41 := Lib.hid (HO34.out.on hb)
  have HC42 := Lib.hid (BelowKit.bl_trans HC33.out hb)
  clear c30 z31 HO32 HO34 HC33 hb
  refine (PayI.fin_i W35 p26 len0_Facts c27 z0_Facts a1 a2 HM0_Facts.out (by omega) (HO41.out.reads Fact.fw)).mono ?_
  rintro e w43 ⟨rfl, hb⟩
  rw [HF0.out, HF1.out]
  have sw43 : W35.heap.size ≤ w43.heap.size := hb.size
  have c44 : w43.cell? ⟨w.heap.size, 0, none⟩ = some (.slice a0_Facts len0_Facts cap0_Facts) := ((BelowKit.bcell hb).1 _ _ z39).trans c38
  have z45 : w.heap.size < w43.heap.size := by omega
  have c46 : w43.cell? ⟨w29.heap.size, 0, none⟩ = some (.slice p26 len0_Facts c27) := ((BelowKit.bcell hb).1 _ _ z37).trans c36
  have z47 : w29.heap.size < w43.heap.size := by omega
  have HO48 := Lib.hid (HO40.out.on hb)
  have HO49 := Lib.hid (HO41.out.on hb)
  have HC50 := Lib.hid (BelowKit.bl_trans HC42.out hb)
  clear c38 z39 c36 z37 HO40 HO41 HC42 hb
  go_wp2_with fail
  have gc44 := Grown.G.keep c44 z45
  have gc46 := Grown.G.keep c46 z47
  refine Fresh.wp_region_grow (fun k => match k with | 2 => .grow | 3 => .grow | _ => .quiet)
    (fun k v => match k with
          | 2 => (∃ p51 c52, v = .agg #[.slice p51 len0_Facts c52])
          | 3 => (v = .bool true)
          | _ => v = undef)
    (fun k v s w1 => match k with
          | 2 => (∃ p51 c52, w43.heap.size ≤ s ∧ v = .agg #[.slice p51 len0_Facts c52] ∧ Own.Ow Fact.fc 5 71 w1 s w1.heap.size (.slice p51 len0_Facts c52) z0_Facts)
          | 3 => (w43.heap.size ≤ s ∧ v = .bool true)
          | _ => True)
    (by kernel_rfl) (by kernel_rfl) (by kernel_rfl) (by kernel_rfl) ?_
  refine Fresh.wpG_q rfl ?_
  go_big_quiet_step (fail)
  refine wpQuiet_nil ?_
  refine Fresh.wpG_q rfl ?_
  go_big_quiet_step (fail)
  refine wpQuiet_nil ?_
  refine Fresh.wpG_call #[.agg #[.slice a0_Facts len0_Facts cap0_Facts]] rfl Try.func23 (by kernel_rfl) (by kernel_rfl) rfl ⟨_, none, 0, rfl⟩ (fun X hd => ?_) ?_
  · have hX := X.bel.size
    refine (Store.to_c X.w a0_Facts len0_Facts cap0_Facts z0_Facts HM0_Facts.out (by omega) (HR0_Facts.out.on (BelowKit.bl_trans HC50.out X.bel))).mono ?_
    rintro e w8 ⟨p51, c52, rfl, ho0, hb⟩
    try rw [HM0_Facts.out] at ho0
    try rw [HM0_Facts.out]
    exact ⟨_, rfl, hb, ⟨p51, c52, rfl⟩, p51, c52, by omega, rfl, Own.ow_of ho0⟩
  rintro v ⟨p51, c52, rfl⟩
  go_big_quiet_step (fail)
  refine wpQuiet_nil ?_
  refine Fresh.wpG_call #[.agg #[.slice p26 len0_Facts c27], .agg #[.slice p51 len0_Facts c52]] rfl Try.func24 (by kernel_rfl) (by kernel_rfl) rfl ⟨_, rfl⟩ (fun X hd => ?_) ?_
  · obtain ⟨_, _, w9, ⟨p51_ , c52_, _, e9, ho_r53⟩, _, hb9⟩ := hd ⟨2, .data⟩ (by simp) rfl rfl
    have e8 : (.agg #[.slice p51 len0_Facts c52] : Value) = .agg #[.slice p51_ len0_Facts c52_] := e9
    cases e8
    replace ho_r53 := ho_r53.on hb9
    have hX := X.bel.size
    refine (Store.eq_c X.w len0_Facts c27 c52 p26 p51 z0_Facts HM0_Facts.out (by omega) ((HO49.out.on X.bel).reads Fact.fw) (ho_r53.reads Fact.fw)).mono ?_
    rintro e w8 ⟨rfl, hb⟩
    exact ⟨_, rfl, hb, rfl, by omega, rfl⟩
  rintro v rfl
  go_big_quiet_step (fail)
  refine wpQuiet_nil ?_
  refine Fresh.wpG_q rfl ?_
  go_big_quiet_step (fail)
  refine wpQuiet_nil ?_
  refine Fresh.wpG_nil fun X sN1 tN1 hk => ?_
  have hXs := X.bel.size
  have hbX := X.bel
  obtain ⟨w54, hU⟩ : ∃ U : World, U = X.w := ⟨_, rfl⟩
  rw [← hU] at hbX  ⊢
  clear hk hU hXs gc44 gc46
  have sw54 : w43.heap.size ≤ w54.heap.size := hbX.size
  have c55 : w54.cell? ⟨w.heap.size, 0, none⟩ = some (.slice a0_Facts len0_Facts cap0_Facts) := ((BelowKit.bcell hbX).1 _ _ z45).trans c44
  have z56 : w.heap.size < w54.heap.size := by omega
  have c57 : w54.cell? ⟨w29.heap.size, 0, none⟩ = some (.slice p26 len0_Facts c27) := ((BelowKit.bcell hbX).1 _ _ z47).trans c46
  have z58 : w29.heap.size < w54.heap.size := by omega
  have HO59 := Lib.hid (HO48.out.on hbX)
  have HO60 := Lib.hid (HO49.out.on hbX)
  have HC61 := Lib.hid (BelowKit.bl_trans HC50.out hbX)
  clear c44 z45 c46 z47 HO48 HO49 HC50 hbX
  go_wp2
  go_ret
  exact ⟨rfl, by (repeat (first | exact Below.refl _ _ | apply BelowKit.bl_alloc | apply BelowKit.bl_drewN | apply BelowKit.bl_drew | (refine BelowKit.bl_set ?_ _ ?_; rotate_left; (first | omega | (simp; omega) | simp)) | (refine BelowKit.bl_trans ?_ (‹Hid (Below _ _ _)›).out)))⟩

/-! ### THE ROW's STEP -/
set_option maxRecDepth 100000 in
theorem lifted (os : Os) (started : os.Started) (H : Type) (enc : TypeId × Value → H) :
    ReturnsInHanded {} Try.checked os 7 .any (Rows.fnExactFinalPaySpec.pre6 enc Try.prog Try.f7 Rows.fnExactFinalPayRow.domain false) (Rows.fnExactFinalPaySpec.post enc Try.prog Try.f7 false true false false) := by
  refine returnsInHanded_of_change (C := Try.checked) own started (by kernel_rfl) Try.func7
    (ChangeSpec.witness6 (enc := enc) (C := Try.checked) false ⟨#[], #[.agg #[.slice none 0 0], .int .i64 0, .int .i64 0], []⟩ 8 (by kernel_rfl) (by kernel_rfl) (by kernel_rfl) (by kernel_rfl)) ?_
  intro W base args ds gs before hval0 hW hcnd _
  have hval : ∀ (j : Nat) t v, Try.f7.params[j]? = some t → args[j]? = some v → Value.okWide Try.prog W .any base t v := hval0
  have hW' := hW
  obtain ⟨p, q, hA0, hV, rfl, hfz, hnd⟩ := hW
  have hA : DataW.TrodAll enc Try.prog W 0 (fun _ => true) true Try.f7.params.toList args.toList ds p := hA0
  rw [Try.params7] at hA hval
  obtain ⟨v0, vs0, d0, ds0, p0, q0, hargs, rfl, rfl, h0, r0⟩ := trodAll_cons hA
  obtain ⟨v1, vs1, d1, ds1, p1, q1, rfl, rfl, rfl, h1, r1⟩ := trodAll_cons r0
  obtain ⟨v2, vs2, d2, ds2, p2, q2, rfl, rfl, rfl, h2, r2⟩ := trodAll_cons r1
  obtain ⟨rfl, rfl, rfl⟩ := trodAll_nil r2
  obtain rfl : args = #[v0, v1, v2] := by cases args; simp_all
  obtain ⟨rfl, rfl⟩ := trodVars_none hV
  have k0 := h0
  have lt0 : ∀ x ∈ p0, x.block < W.heap.size := by obtain ⟨m, hm⟩ := k0; exact DataW.trod_lt m _ _ _ hm
  obtain ⟨⟨l0⟩, rfl, _⟩ := okWide_struct Try.underlying50 (hval 0 50 v0 rfl rfl)
  have s0 : Shape.FitL W [.sl [.int .i64, .int .i64, .int .i64, .int .i64, .int .i64]] l0 := by
    obtain ⟨fu, hfu⟩ := h0
    exact Shape.trod_fit 8 50 _ (by kernel_rfl) _ _ _ hfu
  obtain ⟨a0_Facts, len0_Facts, cap0_Facts, r0, rfl, s0_Facts, s0⟩ := Shape.fit_sl s0
  obtain ⟨z0_Facts, hz0_Facts, w0_Facts, hl0_Facts, g0_Facts⟩ := Shape.reads_of (f := Fact.fc) (c := 5) (good := Fact.Wf) rfl (fun _ h => Fact.cov h) s0_Facts
  obtain rfl := Shape.fit_nil s0
  obtain ⟨a1, rfl, rfl, rfl, w1⟩ := open_int Try.underlying3 (hval 1 3 v1 rfl rfl) h1
  obtain ⟨a2, rfl, rfl, rfl, w2⟩ := open_int Try.underlying3 (hval 2 3 v2 rfl rfl) h2
  clear hA0 hval0
  refine (walk a0_Facts len0_Facts cap0_Facts z0_Facts a1 a2 W hz0_Facts w0_Facts hl0_Facts g0_Facts w1 w2).mono fun e W' ⟨he, bel⟩ => ?_
  subst he
  exact ⟨_, rfl, _, _, _, [], _, [], hW', trodAll_mk1 (shut_bool Try.underlying4 _), (trodAll_cons_mk (Below.trod laidOut (by kernel_rfl) (of_decide_eq_true (by kernel_rfl)) k0 bel lt0) (trodAll_cons_mk (shut_int Try.underlying3 w1) (trodAll_cons_mk (shut_int Try.underlying3 w2) trodAll_mk0))), rfl, bel.frame _, fun h => by cases h⟩

theorem over : Rows.fnExactFinalPayRow.holds Try.pinned (OpenSpec.ofChange Rows.fnExactFinalPaySpec) :=
  OpenClaim.holds_of_wide 7 Try.f7 rfl rfl rfl rfl rfl rfl rfl ⟨rfl, rfl, rfl, rfl, rfl⟩ rfl rfl rfl rfl rfl (by kernel_rfl) Try.func7 (by kernel_rfl)
    (of_decide_eq_true (by kernel_rfl)) (by unfold Func.isWrapper; first | (rw [if_pos (by decide +kernel)]; kernel_rfl) | (rw [if_neg (by decide +kernel)]; exact ⟨rfl, rfl⟩))
    (fun os started H enc _ => lifted os started H enc)

theorem proved : Rows.FnExactFinalPaySaid := over
#print axioms proved
end Go.Proofs.Ytdmkceaonfbebaa.fnExactFinalPay
