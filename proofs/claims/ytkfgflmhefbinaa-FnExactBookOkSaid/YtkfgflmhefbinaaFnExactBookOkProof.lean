/- Proves the given statement of the law FnExactBookOk: for every input that the row lets in, the law's Go function returns true and every argument reads as before; no condition of mine. -/
import Derived.Test.YtkfgflmhefbinaaRuleF
import Derived.Test.YtkfgflmhefbinaaKit
import Derived.Test.YtkfgflmhefbinaaTNode
import Derived.Test.YtkfgflmhefbinaaNodeMath
import Derived.Test.YtkfgflmhefbinaaRows
import Derived.WalkKit
import Derived.ProofKit
import Derived.OpenShut
import Derived.ShutString
import Derived.ChangeOld
import Derived.Below
import Derived.Deep.RegionHeld3
import Derived.Deep.DeepCutAuto
import Derived.Lib.Hide
import Derived.Lib.SmallJoins
import Derived.Test.YtkfgflmhefbinaaRuleX
namespace Go.Proofs.Ytkfgflmhefbinaa.fnExactBookOk
open Go.ChangeShapes Go.WideShapes Go.ChangeAt Go.RowKit
open Go.ChangeMaps (open_string shut_string)
set_option linter.unusedVariables false

theorem own : ownKnob Try.prog.godebug = none := by kernel_rfl
theorem laidOut : laidOutB Try.prog = true := by kernel_rfl

/-! ### STEP 1: the walk -/
theorem walk (a0_Rules : Option Addr) (len0_Rules cap0_Rules : Nat) (z0_Rules : List TRule.Ru) (w : World) (hz0_Rules : z0_Rules.length = len0_Rules) (w0_Rules : TRule.RdD w a0_Rules z0_Rules) (hl0_Rules : len0_Rules ≤ 9223372036854775807) (g0_Rules : ∀ j (h : j < z0_Rules.length), z0_Rules[j].Nodes.length ≤ 9223372036854775807) :
    Calls Try.prog 9 #[.agg #[.slice a0_Rules len0_Rules cap0_Rules]] w fun e w' => e = .returned (.bool true) ∧ Below w.heap.size w w' := by
  have HR0_Rules := Lib.hid w0_Rules
  have HM0_Rules := Lib.hid hz0_Rules
  have HG0_Rules := Lib.hid g0_Rules
  obtain ⟨Z0_Rules, hZ0_Rules⟩ : ∃ Z, TRule.szT z0_Rules = Z := ⟨_, rfl⟩
  have HZ0_Rules := Lib.hid hZ0_Rules
  clear g0_Rules hZ0_Rules
  clear w0_Rules hz0_Rules
  by_cases hbig : 1048576 < Z0_Rules
  · go_enter Try.func9, Try.ntmps9
    go_wp2_with fail
    obtain ⟨W1, hW1⟩ : ∃ V : World, V = w.alloc (.cells #[.slice a0_Rules len0_Rules cap0_Rules] 63) := ⟨_, rfl⟩
    rw [← hW1]
    have hb : Below w.heap.size w W1 := by rw [hW1]; (repeat (first | exact Below.refl _ _ | apply BelowKit.bl_alloc | apply BelowKit.bl_drewN | apply BelowKit.bl_drew | (refine BelowKit.bl_set ?_ _ ?_; rotate_left; (first | omega | (simp; omega) | simp)) | (refine BelowKit.bl_trans ?_ (‹Hid (Below _ _ _)›).out)))
    have tW1 : w.heap.size + 1 ≤ W1.heap.size := by rw [hW1]; simp
    have uW1 : W1.heap.size ≤ w.heap.size + 1 := by rw [hW1]; simp
    have c2 : W1.cell? ⟨w.heap.size, 0, none⟩ = some (.slice a0_Rules len0_Rules cap0_Rules) := by rw [hW1]; simp [go_sem]
    have z3 : w.heap.size < W1.heap.size := by omega
    clear hW1
    have sW1 : w.heap.size ≤ W1.heap.size := hb.size
    have HC4 := Lib.hid hb
    clear hb
    refine (TBook.sz_c W1 a0_Rules len0_Rules cap0_Rules 1048576 z0_Rules HM0_Rules.out hl0_Rules HG0_Rules.out (by omega) (by omega) (HR0_Rules.out.on HC4.out)).mono ?_
    rintro e w9 ⟨rfl, hb⟩
    rw [HZ0_Rules.out, if_pos (by omega)]
    have HC9 := Lib.hid (BelowKit.bl_trans HC4.out hb)
    clear hb
    go_wp2
    go_ret
    exact ⟨rfl, HC9.out⟩
  have hs0_Rules : Z0_Rules ≤ 1048576 := by omega
  have hf0_Rules := RuleX.sz_facts HM0_Rules.out HZ0_Rules.out (by omega)
  have hn0_Rules := hf0_Rules.1
  have HFW0_Rules := Lib.hid hf0_Rules.2.1
  have HFX0_Rules := Lib.hid hf0_Rules.2.2.1
  have HT0_Rules := Lib.hid hf0_Rules.2.2.2.1
  have hp0_Rules := hf0_Rules.2.2.2.2
  clear hf0_Rules
  obtain ⟨m0, hm0⟩ : ∃ v, BookMath.bookB z0_Rules = v := ⟨_, rfl⟩
  have HF0 := Lib.hid hm0
  clear hm0
  go_enter Try.func9, Try.ntmps9
  go_wp2_with fail
  obtain ⟨W5, hW5⟩ : ∃ V : World, V = w.alloc (.cells #[.slice a0_Rules len0_Rules cap0_Rules] 63) := ⟨_, rfl⟩
  rw [← hW5]
  have hb : Below w.heap.size w W5 := by rw [hW5]; (repeat (first | exact Below.refl _ _ | apply BelowKit.bl_alloc | apply BelowKit.bl_drewN | apply BelowKit.bl_drew | (refine BelowKit.bl_set ?_ _ ?_; rotate_left; (first | omega | (simp; omega) | simp)) | (refine BelowKit.bl_trans ?_ (‹Hid (Below _ _ _)›).out)))
  have tW5 : w.heap.size + 1 ≤ W5.heap.size := by rw [hW5]; simp
  have uW5 : W5.heap.size ≤ w.heap.size + 1 := by rw [hW5]; simp
  have c6 : W5.cell? ⟨w.heap.size, 0, none⟩ = some (.slice a0_Rules len0_Rules cap0_Rules) := by rw [hW5]; simp [go_sem]
  have z7 : w.heap.size < W5.heap.size := by omega
  clear hW5
  have sW5 : w.heap.size ≤ W5.heap.size := hb.size
  have HC8 := Lib.hid hb
  clear hb
  refine (TBook.sz_c W5 a0_Rules len0_Rules cap0_Rules 1048576 z0_Rules HM0_Rules.out hl0_Rules HG0_Rules.out (by omega) (by omega) (HR0_Rules.out.on HC8.out)).mono ?_
  rintro e w9 ⟨rfl, hb⟩
  rw [HZ0_Rules.out, if_neg (by omega)]
  have sw9 : W5.heap.size ≤ w9.heap.size := hb.size
  have c10 : w9.cell? ⟨w.heap.size, 0, none⟩ = some (.slice a0_Rules len0_Rules cap0_Rules) := ((BelowKit.bcell hb).1 _ _ z7).trans c6
  have z11 : w.heap.size < w9.heap.size := by omega
  have HC12 := Lib.hid (BelowKit.bl_trans HC8.out hb)
  clear c6 z7 HC8 hb
  go_wp2_with fail
  refine (TBook.to_c w9 a0_Rules len0_Rules cap0_Rules z0_Rules HM0_Rules.out (by omega) HFW0_Rules.out (HR0_Rules.out.on HC12.out)).mono ?_
  rintro e w16 ⟨p13, c14, rfl, ho0, hb⟩
  rw [HM0_Rules.out] at ho0 ⊢
  have sw16 : w9.heap.size ≤ w16.heap.size := hb.size
  have c17 : w16.cell? ⟨w.heap.size, 0, none⟩ = some (.slice a0_Rules len0_Rules cap0_Rules) := ((BelowKit.bcell hb).1 _ _ z11).trans c10
  have z18 : w.heap.size < w16.heap.size := by omega
  have HC19 := Lib.hid (BelowKit.bl_trans HC12.out hb)
  clear c10 z11 HC12 hb
  have HO20 := Lib.hid ho0
  clear ho0
  go_wp2_with fail
  refine (RuleF.book_s w16 p13 len0_Rules c14 z0_Rules HM0_Rules.out (by omega) (RuleRow.OwD.cap HO20.out) HFW0_Rules.out HO20.out.reads).mono ?_
  rintro e w21 ⟨rfl, hb⟩
  rw [HF0.out]
  have sw21 : w16.heap.size ≤ w21.heap.size := hb.size
  have c22 : w21.cell? ⟨w.heap.size, 0, none⟩ = some (.slice a0_Rules len0_Rules cap0_Rules) := ((BelowKit.bcell hb).1 _ _ z18).trans c17
  have z23 : w.heap.size < w21.heap.size := by omega
  have HO24 := Lib.hid (HO20.out.on hb)
  have HC25 := Lib.hid (BelowKit.bl_trans HC19.out hb)
  clear c17 z18 HO20 HC19 hb
  go_wp2_with fail
  refine (TBook.to_c w21 a0_Rules len0_Rules cap0_Rules z0_Rules HM0_Rules.out (by omega) HFW0_Rules.out (HR0_Rules.out.on HC25.out)).mono ?_
  rintro e w29 ⟨p26, c27, rfl, ho0, hb⟩
  rw [HM0_Rules.out] at ho0 ⊢
  have sw29 : w21.heap.size ≤ w29.heap.size := hb.size
  have c30 : w29.cell? ⟨w.heap.size, 0, none⟩ = some (.slice a0_Rules len0_Rules cap0_Rules) := ((BelowKit.bcell hb).1 _ _ z23).trans c22
  have z31 : w.heap.size < w29.heap.size := by omega
  have HO32 := Lib.hid (HO24.out.on hb)
  have HC33 := Lib.hid (BelowKit.bl_trans HC25.out hb)
  clear c22 z23 HO24 HC25 hb
  have HO34 := Lib.hid ho0
  clear ho0
  go_wp2_with fail
  obtain ⟨W35, hW35⟩ : ∃ V : World, V = w29.alloc (.cells #[.slice p26 len0_Rules c27] 26) := ⟨_, rfl⟩
  rw [← hW35]
  have hb : Below w29.heap.size w29 W35 := by rw [hW35]; (repeat (first | exact Below.refl _ _ | apply BelowKit.bl_alloc | apply BelowKit.bl_drewN | apply BelowKit.bl_drew | (refine BelowKit.bl_set ?_ _ ?_; rotate_left; (first | omega | (simp; omega) | simp)) | (refine BelowKit.bl_trans ?_ (‹Hid (Below _ _ _)›).out)))
  have tW35 : w29.heap.size + 1 ≤ W35.heap.size := by rw [hW35]; simp
  have uW35 : W35.heap.size ≤ w29.heap.size + 1 := by rw [hW35]; simp
  have c36 : W35.cell? ⟨w29.heap.size, 0, none⟩ = some (.slice p26 len0_Rules c27) := by rw [hW35]; simp [go_sem]
  have z37 : w29.heap.size < W35.heap.size := by omega
  clear hW35
  have sW35 : w29.heap.size ≤ W35.heap.size := hb.size
  have c38 : W35.cell? ⟨w.heap.size, 0, none⟩ = some (.slice a0_Rules len0_Rules cap0_Rules) := ((BelowKit.bcell hb).1 _ _ z31).trans c30
  have z39 : w.heap.size < W35.heap.size := by omega
  have HO40 := Lib.hid (HO32.out.on hb)
  have HO41 := Lib.hid (HO34.out.on hb)
  have HC42 := Lib.hid (BelowKit.bl_trans HC33.out hb)
  clear c30 z31 HO32 HO34 HC33 hb
  refine (RuleF.book_i W35 p26 len0_Rules c27 z0_Rules HM0_Rules.out (by omega) (RuleRow.OwD.cap HO41.out) HFW0_Rules.out HO41.out.reads).mono ?_
  rintro e w43 ⟨rfl, hb⟩
  rw [HF0.out]
  have sw43 : W35.heap.size ≤ w43.heap.size := hb.size
  have c44 : w43.cell? ⟨w.heap.size, 0, none⟩ = some (.slice a0_Rules len0_Rules cap0_Rules) := ((BelowKit.bcell hb).1 _ _ z39).trans c38
  have z45 : w.heap.size < w43.heap.size := by omega
  have c46 : w43.cell? ⟨w29.heap.size, 0, none⟩ = some (.slice p26 len0_Rules c27) := ((BelowKit.bcell hb).1 _ _ z37).trans c36
  have z47 : w29.heap.size < w43.heap.size := by omega
  have HO48 := Lib.hid (HO40.out.on hb)
  have HO49 := Lib.hid (HO41.out.on hb)
  have HC50 := Lib.hid (BelowKit.bl_trans HC42.out hb)
  clear c38 z39 c36 z37 HO40 HO41 HC42 hb
  go_wp2_with fail
  have gc44 := Grown.G.keep c44 z45
  have gc46 := Grown.G.keep c46 z47
  refine Fresh.wp_region_grow (fun k => match k with | 2 => .grow | 3 => .grow | _ => .quiet)
    (fun k v => match k with
          | 2 => (∃ p51 c52, v = .agg #[.slice p51 len0_Rules c52])
          | 3 => (v = .bool true)
          | _ => v = undef)
    (fun k v s w1 => match k with
          | 2 => (∃ p51 c52, w43.heap.size ≤ s ∧ v = .agg #[.slice p51 len0_Rules c52] ∧ TRule.OwD w1 s w1.heap.size (.slice p51 len0_Rules c52) z0_Rules)
          | 3 => (w43.heap.size ≤ s ∧ v = .bool true)
          | _ => True)
    (by kernel_rfl) (by kernel_rfl) (by kernel_rfl) (by kernel_rfl) ?_
  refine Fresh.wpG_q rfl ?_
  go_big_quiet_step (fail)
  refine wpQuiet_nil ?_
  refine Fresh.wpG_q rfl ?_
  go_big_quiet_step (fail)
  refine wpQuiet_nil ?_
  refine Fresh.wpG_call #[.agg #[.slice a0_Rules len0_Rules cap0_Rules]] rfl Try.func35 (by kernel_rfl) (by kernel_rfl) rfl ⟨_, none, 0, rfl⟩ (fun X hd => ?_) ?_
  · have hX := X.bel.size
    refine (TBook.to_c X.w a0_Rules len0_Rules cap0_Rules z0_Rules HM0_Rules.out (by omega) HFW0_Rules.out (HR0_Rules.out.on (BelowKit.bl_trans HC50.out X.bel))).mono ?_
    rintro e w8 ⟨p51, c52, rfl, ho0, hb⟩
    try rw [HM0_Rules.out] at ho0
    try rw [HM0_Rules.out]
    exact ⟨_, rfl, hb, ⟨p51, c52, rfl⟩, p51, c52, by omega, rfl, ho0⟩
  rintro v ⟨p51, c52, rfl⟩
  go_big_quiet_step (fail)
  refine wpQuiet_nil ?_
  refine Fresh.wpG_call #[.agg #[.slice p26 len0_Rules c27], .agg #[.slice p51 len0_Rules c52]] rfl Try.func36 (by kernel_rfl) (by kernel_rfl) rfl ⟨_, rfl⟩ (fun X hd => ?_) ?_
  · obtain ⟨_, _, w9, ⟨p51_ , c52_, _, e9, ho_r53⟩, _, hb9⟩ := hd ⟨2, .data⟩ (by simp) rfl rfl
    have e8 : (.agg #[.slice p51 len0_Rules c52] : Value) = .agg #[.slice p51_ len0_Rules c52_] := e9
    cases e8
    replace ho_r53 := ho_r53.on hb9
    have hX := X.bel.size
    refine (TBook.eq_c X.w len0_Rules c27 c52 p26 p51 z0_Rules HM0_Rules.out (by omega) HFW0_Rules.out ((HO49.out.on X.bel).reads) (ho_r53.reads)).mono ?_
    rintro e w8 ⟨rfl, hb⟩
    exact ⟨_, rfl, hb, rfl, by omega, rfl⟩
  rintro v rfl
  go_big_quiet_step (fail)
  refine wpQuiet_nil ?_
  refine Fresh.wpG_q rfl ?_
  go_big_quiet_step (fail)
  refine wpQuiet_nil ?_
  refine Fresh.wpG_nil fun X sN1 tN1 hk => ?_
  have hXs := X.bel.size
  have hbX := X.bel
  obtain ⟨w54, hU⟩ : ∃ U : World, U = X.w := ⟨_, rfl⟩
  rw [← hU] at hbX  ⊢
  clear hk hU hXs gc44 gc46
  have sw54 : w43.heap.size ≤ w54.heap.size := hbX.size
  have c55 : w54.cell? ⟨w.heap.size, 0, none⟩ = some (.slice a0_Rules len0_Rules cap0_Rules) := ((BelowKit.bcell hbX).1 _ _ z45).trans c44
  have z56 : w.heap.size < w54.heap.size := by omega
  have c57 : w54.cell? ⟨w29.heap.size, 0, none⟩ = some (.slice p26 len0_Rules c27) := ((BelowKit.bcell hbX).1 _ _ z47).trans c46
  have z58 : w29.heap.size < w54.heap.size := by omega
  have HO59 := Lib.hid (HO48.out.on hbX)
  have HO60 := Lib.hid (HO49.out.on hbX)
  have HC61 := Lib.hid (BelowKit.bl_trans HC50.out hbX)
  clear c44 z45 c46 z47 HO48 HO49 HC50 hbX
  go_wp2
  go_ret
  exact ⟨rfl, by (repeat (first | exact Below.refl _ _ | apply BelowKit.bl_alloc | apply BelowKit.bl_drewN | apply BelowKit.bl_drew | (refine BelowKit.bl_set ?_ _ ?_; rotate_left; (first | omega | (simp; omega) | simp)) | (refine BelowKit.bl_trans ?_ (‹Hid (Below _ _ _)›).out)))⟩

/-! ### THE ROW's STEP -/
set_option maxRecDepth 100000 in
theorem lifted (os : Os) (started : os.Started) (H : Type) (enc : TypeId × Value → H) :
    ReturnsInHanded {} Try.checked os 9 .any (Rows.fnExactBookOkSpec.pre6 enc Try.prog Try.f9 Rows.fnExactBookOkRow.domain false) (Rows.fnExactBookOkSpec.post enc Try.prog Try.f9 false true false false) := by
  refine returnsInHanded_of_change (C := Try.checked) own started (by kernel_rfl) Try.func9
    (ChangeSpec.witness6 (enc := enc) (C := Try.checked) false ⟨#[], #[.agg #[.slice none 0 0]], []⟩ 8 (by kernel_rfl) (by kernel_rfl) (by kernel_rfl) (by kernel_rfl)) ?_
  intro W base args ds gs before hval0 hW hcnd _
  have hval : ∀ (j : Nat) t v, Try.f9.params[j]? = some t → args[j]? = some v → Value.okWide Try.prog W .any base t v := hval0
  have hW' := hW
  obtain ⟨p, q, hA0, hV, rfl, hfz, hnd⟩ := hW
  have hA : DataW.TrodAll enc Try.prog W 0 (fun _ => true) true Try.f9.params.toList args.toList ds p := hA0
  rw [Try.params9] at hA hval
  obtain ⟨v0, vs0, d0, ds0, p0, q0, hargs, rfl, rfl, h0, r0⟩ := trodAll_cons hA
  obtain ⟨rfl, rfl, rfl⟩ := trodAll_nil r0
  obtain rfl : args = #[v0] := by cases args; simp_all
  obtain ⟨rfl, rfl⟩ := trodVars_none hV
  have k0 := h0
  have lt0 : ∀ x ∈ p0, x.block < W.heap.size := by obtain ⟨m, hm⟩ := k0; exact DataW.trod_lt m _ _ _ hm
  obtain ⟨⟨l0⟩, rfl, _⟩ := okWide_struct Try.underlying63 (hval 0 63 v0 rfl rfl)
  have s0 : Shape.FitL W [.sl [.int .i64, .int .i64, .int .i64, .int .i64, .int .i64, .int .i64, .sl [.int .i64, .int .i64, .int .i64, .int .i64, .int .i64, .int .i64]]] l0 := by
    obtain ⟨fu, hfu⟩ := h0
    exact Shape.trod_fit 8 63 _ (by kernel_rfl) _ _ _ hfu
  obtain ⟨a0_Rules, len0_Rules, cap0_Rules, r0, rfl, s0_Rules, s0⟩ := Shape.fit_sl s0
  obtain ⟨z0_Rules, hz0_Rules, w0_Rules, hl0_Rules, g0_Rules⟩ := RuleX.rd_of s0_Rules
  obtain rfl := Shape.fit_nil s0
  clear hA0 hval0
  refine (walk a0_Rules len0_Rules cap0_Rules z0_Rules W hz0_Rules w0_Rules hl0_Rules g0_Rules).mono fun e W' ⟨he, bel⟩ => ?_
  subst he
  exact ⟨_, rfl, _, _, _, [], _, [], hW', trodAll_mk1 (shut_bool Try.underlying4 _), (trodAll_cons_mk (Below.trod laidOut (by kernel_rfl) (of_decide_eq_true (by kernel_rfl)) k0 bel lt0) trodAll_mk0), rfl, bel.frame _, fun h => by cases h⟩

theorem over : Rows.fnExactBookOkRow.holds Try.pinned (OpenSpec.ofChange Rows.fnExactBookOkSpec) :=
  OpenClaim.holds_of_wide 9 Try.f9 rfl rfl rfl rfl rfl rfl rfl ⟨rfl, rfl, rfl, rfl, rfl⟩ rfl rfl rfl rfl rfl (by kernel_rfl) Try.func9 (by kernel_rfl)
    (of_decide_eq_true (by kernel_rfl)) (by unfold Func.isWrapper; first | (rw [if_pos (by decide +kernel)]; kernel_rfl) | (rw [if_neg (by decide +kernel)]; exact ⟨rfl, rfl⟩))
    (fun os started H enc _ => lifted os started H enc)

theorem proved : Rows.FnExactBookOkSaid := over
#print axioms proved
end Go.Proofs.Ytkfgflmhefbinaa.fnExactBookOk
