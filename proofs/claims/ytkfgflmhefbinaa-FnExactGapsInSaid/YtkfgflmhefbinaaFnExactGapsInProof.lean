/- Proves the given statement of the law FnExactGapsIn: for every input that the row lets in, the law's Go function returns true and every argument reads as before; no condition of mine. -/
import Derived.Test.YtkfgflmhefbinaaRuleF
import Derived.Test.YtkfgflmhefbinaaFracLaws
import Derived.Test.YtkfgflmhefbinaaKit
import Derived.Test.YtkfgflmhefbinaaTNode
import Derived.Test.YtkfgflmhefbinaaNodeMath
import Derived.Test.YtkfgflmhefbinaaRows
import Derived.WalkKit
import Derived.ProofKit
import Derived.OpenShut
import Derived.ShutString
import Derived.ChangeOld
import Derived.Below
import Derived.Deep.RegionHeld3
import Derived.Deep.DeepCutAuto
import Derived.Lib.Hide
import Derived.Lib.SmallJoins
import Derived.Test.YtkfgflmhefbinaaRuleX
namespace Go.Proofs.Ytkfgflmhefbinaa.fnExactGapsIn
open Go.ChangeShapes Go.WideShapes Go.ChangeAt Go.RowKit
open Go.ChangeMaps (open_string shut_string)
set_option linter.unusedVariables false

theorem own : ownKnob Try.prog.godebug = none := by kernel_rfl
theorem laidOut : laidOutB Try.prog = true := by kernel_rfl

/-! ### STEP 1: the walk -/
theorem walk (a0_Rules : Option Addr) (len0_Rules cap0_Rules : Nat) (z0_Rules : List TRule.Ru) (a1 : Int) (a2 : Int) (a3 : Int) (a4 : Int) (w : World) (hz0_Rules : z0_Rules.length = len0_Rules) (w0_Rules : TRule.RdD w a0_Rules z0_Rules) (hl0_Rules : len0_Rules ≤ 9223372036854775807) (g0_Rules : ∀ j (h : j < z0_Rules.length), z0_Rules[j].Nodes.length ≤ 9223372036854775807) (w1 : (Lit.int .i64 a1).wf = true) (w2 : (Lit.int .i64 a2).wf = true) (w3 : (Lit.int .i64 a3).wf = true) (w4 : (Lit.int .i64 a4).wf = true) :
    Calls Try.prog 12 #[.agg #[.slice a0_Rules len0_Rules cap0_Rules], .int .i64 a1, .int .i64 a2, .int .i64 a3, .int .i64 a4] w fun e w' => e = .returned (.bool true) ∧ Below w.heap.size w w' := by
  have HR0_Rules := Lib.hid w0_Rules
  have HM0_Rules := Lib.hid hz0_Rules
  have HG0_Rules := Lib.hid g0_Rules
  obtain ⟨Z0_Rules, hZ0_Rules⟩ : ∃ Z, TRule.szT z0_Rules = Z := ⟨_, rfl⟩
  have HZ0_Rules := Lib.hid hZ0_Rules
  clear g0_Rules hZ0_Rules
  clear w0_Rules hz0_Rules
  by_cases hbig : 1048576 < Z0_Rules
  · go_enter Try.func12, Try.ntmps12
    go_wp2_with fail
    obtain ⟨W1, hW1⟩ : ∃ V : World, V = w.alloc (.cells #[.slice a0_Rules len0_Rules cap0_Rules] 63) := ⟨_, rfl⟩
    rw [← hW1]
    have hb : Below w.heap.size w W1 := by rw [hW1]; (repeat (first | exact Below.refl _ _ | apply BelowKit.bl_alloc | apply BelowKit.bl_drewN | apply BelowKit.bl_drew | (refine BelowKit.bl_set ?_ _ ?_; rotate_left; (first | omega | (simp; omega) | simp)) | (refine BelowKit.bl_trans ?_ (‹Hid (Below _ _ _)›).out)))
    have tW1 : w.heap.size + 1 ≤ W1.heap.size := by rw [hW1]; simp
    have uW1 : W1.heap.size ≤ w.heap.size + 1 := by rw [hW1]; simp
    have c2 : W1.cell? ⟨w.heap.size, 0, none⟩ = some (.slice a0_Rules len0_Rules cap0_Rules) := by rw [hW1]; simp [go_sem]
    have z3 : w.heap.size < W1.heap.size := by omega
    clear hW1
    have sW1 : w.heap.size ≤ W1.heap.size := hb.size
    have HC4 := Lib.hid hb
    clear hb
    refine (TBook.sz_c W1 a0_Rules len0_Rules cap0_Rules 1048576 z0_Rules HM0_Rules.out hl0_Rules HG0_Rules.out (by omega) (by omega) (HR0_Rules.out.on HC4.out)).mono ?_
    rintro e w9 ⟨rfl, hb⟩
    rw [HZ0_Rules.out, if_pos (by omega)]
    have HC9 := Lib.hid (BelowKit.bl_trans HC4.out hb)
    clear hb
    go_wp2
    go_ret
    exact ⟨rfl, HC9.out⟩
  have hs0_Rules : Z0_Rules ≤ 1048576 := by omega
  have hf0_Rules := RuleX.sz_facts HM0_Rules.out HZ0_Rules.out (by omega)
  have hn0_Rules := hf0_Rules.1
  have HFW0_Rules := Lib.hid hf0_Rules.2.1
  have HFX0_Rules := Lib.hid hf0_Rules.2.2.1
  have HT0_Rules := Lib.hid hf0_Rules.2.2.2.1
  have hp0_Rules := hf0_Rules.2.2.2.2
  clear hf0_Rules
  obtain ⟨m0, hm0⟩ : ∃ v, BookMath.gaps z0_Rules a1 a2 a3 a4 = v := ⟨_, rfl⟩
  have hbm0 : m0.length ≤ 1099511627776 := by rw [← hm0]; exact Nat.le_trans (RuleX.gaps_len _ _ _ _ _) (by omega)
  obtain ⟨nm0, hnm0⟩ : ∃ n, m0.length = n := ⟨_, rfl⟩
  rw [hnm0] at hbm0
  have HF0 := Lib.hid hm0
  have HN0 := Lib.hid hnm0
  clear hm0 hnm0
  go_enter Try.func12, Try.ntmps12
  go_wp2_with fail
  obtain ⟨W5, hW5⟩ : ∃ V : World, V = w.alloc (.cells #[.slice a0_Rules len0_Rules cap0_Rules] 63) := ⟨_, rfl⟩
  rw [← hW5]
  have hb : Below w.heap.size w W5 := by rw [hW5]; (repeat (first | exact Below.refl _ _ | apply BelowKit.bl_alloc | apply BelowKit.bl_drewN | apply BelowKit.bl_drew | (refine BelowKit.bl_set ?_ _ ?_; rotate_left; (first | omega | (simp; omega) | simp)) | (refine BelowKit.bl_trans ?_ (‹Hid (Below _ _ _)›).out)))
  have tW5 : w.heap.size + 1 ≤ W5.heap.size := by rw [hW5]; simp
  have uW5 : W5.heap.size ≤ w.heap.size + 1 := by rw [hW5]; simp
  have c6 : W5.cell? ⟨w.heap.size, 0, none⟩ = some (.slice a0_Rules len0_Rules cap0_Rules) := by rw [hW5]; simp [go_sem]
  have z7 : w.heap.size < W5.heap.size := by omega
  clear hW5
  have sW5 : w.heap.size ≤ W5.heap.size := hb.size
  have HC8 := Lib.hid hb
  clear hb
  refine (TBook.sz_c W5 a0_Rules len0_Rules cap0_Rules 1048576 z0_Rules HM0_Rules.out hl0_Rules HG0_Rules.out (by omega) (by omega) (HR0_Rules.out.on HC8.out)).mono ?_
  rintro e w9 ⟨rfl, hb⟩
  rw [HZ0_Rules.out, if_neg (by omega)]
  have sw9 : W5.heap.size ≤ w9.heap.size := hb.size
  have c10 : w9.cell? ⟨w.heap.size, 0, none⟩ = some (.slice a0_Rules len0_Rules cap0_Rules) := ((BelowKit.bcell hb).1 _ _ z7).trans c6
  have z11 : w.heap.size < w9.heap.size := by omega
  have HC12 := Lib.hid (BelowKit.bl_trans HC8.out hb)
  clear c6 z7 HC8 hb
  go_wp2_with fail
  refine (TBook.to_c w9 a0_Rules len0_Rules cap0_Rules z0_Rules HM0_Rules.out (by omega) HFW0_Rules.out (HR0_Rules.out.on HC12.out)).mono ?_
  rintro e w16 ⟨p13, c14, rfl, ho0, hb⟩
  rw [HM0_Rules.out] at ho0 ⊢
  have sw16 : w9.heap.size ≤ w16.heap.size := hb.size
  have c17 : w16.cell? ⟨w.heap.size, 0, none⟩ = some (.slice a0_Rules len0_Rules cap0_Rules) := ((BelowKit.bcell hb).1 _ _ z11).trans c10
  have z18 : w.heap.size < w16.heap.size := by omega
  have HC19 := Lib.hid (BelowKit.bl_trans HC12.out hb)
  clear c10 z11 HC12 hb
  have HO20 := Lib.hid ho0
  clear ho0
  go_wp2_with fail
  refine (RuleF.gaps_s w16 p13 len0_Rules c14 z0_Rules a1 a2 a3 a4 HM0_Rules.out (by omega) (RuleRow.OwD.cap HO20.out) HFW0_Rules.out HO20.out.reads).mono ?_
  rintro e w24 ⟨p21, c22, rfl, ho0, hb⟩
  try rw [HF0.out] at ho0
  try rw [HF0.out]
  try rw [HN0.out] at ho0
  try rw [HN0.out]
  have sw24 : w16.heap.size ≤ w24.heap.size := hb.size
  have c25 : w24.cell? ⟨w.heap.size, 0, none⟩ = some (.slice a0_Rules len0_Rules cap0_Rules) := ((BelowKit.bcell hb).1 _ _ z18).trans c17
  have z26 : w.heap.size < w24.heap.size := by omega
  have HO27 := Lib.hid (HO20.out.on hb)
  have HC28 := Lib.hid (BelowKit.bl_trans HC19.out hb)
  clear c17 z18 HO20 HC19 hb
  have HO29 := Lib.hid (Own.ow_of ho0)
  clear ho0
  go_wp2_with fail
  refine (TBook.to_c w24 a0_Rules len0_Rules cap0_Rules z0_Rules HM0_Rules.out (by omega) HFW0_Rules.out (HR0_Rules.out.on HC28.out)).mono ?_
  rintro e w33 ⟨p30, c31, rfl, ho0, hb⟩
  rw [HM0_Rules.out] at ho0 ⊢
  have sw33 : w24.heap.size ≤ w33.heap.size := hb.size
  have c34 : w33.cell? ⟨w.heap.size, 0, none⟩ = some (.slice a0_Rules len0_Rules cap0_Rules) := ((BelowKit.bcell hb).1 _ _ z26).trans c25
  have z35 : w.heap.size < w33.heap.size := by omega
  have HO36 := Lib.hid (HO27.out.on hb)
  have HO37 := Lib.hid (HO29.out.on hb)
  have HC38 := Lib.hid (BelowKit.bl_trans HC28.out hb)
  clear c25 z26 HO27 HO29 HC28 hb
  have HO39 := Lib.hid ho0
  clear ho0
  go_wp2_with fail
  obtain ⟨W40, hW40⟩ : ∃ V : World, V = w33.alloc (.cells #[.slice p30 len0_Rules c31] 26) := ⟨_, rfl⟩
  rw [← hW40]
  have hb : Below w33.heap.size w33 W40 := by rw [hW40]; (repeat (first | exact Below.refl _ _ | apply BelowKit.bl_alloc | apply BelowKit.bl_drewN | apply BelowKit.bl_drew | (refine BelowKit.bl_set ?_ _ ?_; rotate_left; (first | omega | (simp; omega) | simp)) | (refine BelowKit.bl_trans ?_ (‹Hid (Below _ _ _)›).out)))
  have tW40 : w33.heap.size + 1 ≤ W40.heap.size := by rw [hW40]; simp
  have uW40 : W40.heap.size ≤ w33.heap.size + 1 := by rw [hW40]; simp
  have c41 : W40.cell? ⟨w33.heap.size, 0, none⟩ = some (.slice p30 len0_Rules c31) := by rw [hW40]; simp [go_sem]
  have z42 : w33.heap.size < W40.heap.size := by omega
  clear hW40
  have sW40 : w33.heap.size ≤ W40.heap.size := hb.size
  have c43 : W40.cell? ⟨w.heap.size, 0, none⟩ = some (.slice a0_Rules len0_Rules cap0_Rules) := ((BelowKit.bcell hb).1 _ _ z35).trans c34
  have z44 : w.heap.size < W40.heap.size := by omega
  have HO45 := Lib.hid (HO36.out.on hb)
  have HO46 := Lib.hid (HO37.out.on hb)
  have HO47 := Lib.hid (HO39.out.on hb)
  have HC48 := Lib.hid (BelowKit.bl_trans HC38.out hb)
  clear c34 z35 HO36 HO37 HO39 HC38 hb
  refine (RuleF.gaps_i W40 p30 len0_Rules c31 z0_Rules a1 a2 a3 a4 HM0_Rules.out (by omega) (RuleRow.OwD.cap HO47.out) HFW0_Rules.out HO47.out.reads).mono ?_
  rintro e w52 ⟨p49, c50, rfl, ho0, hb⟩
  try rw [HF0.out] at ho0
  try rw [HF0.out]
  try rw [HN0.out] at ho0
  try rw [HN0.out]
  have sw52 : W40.heap.size ≤ w52.heap.size := hb.size
  have c53 : w52.cell? ⟨w.heap.size, 0, none⟩ = some (.slice a0_Rules len0_Rules cap0_Rules) := ((BelowKit.bcell hb).1 _ _ z44).trans c43
  have z54 : w.heap.size < w52.heap.size := by omega
  have c55 : w52.cell? ⟨w33.heap.size, 0, none⟩ = some (.slice p30 len0_Rules c31) := ((BelowKit.bcell hb).1 _ _ z42).trans c41
  have z56 : w33.heap.size < w52.heap.size := by omega
  have HO57 := Lib.hid (HO45.out.on hb)
  have HO58 := Lib.hid (HO46.out.on hb)
  have HO59 := Lib.hid (HO47.out.on hb)
  have HC60 := Lib.hid (BelowKit.bl_trans HC48.out hb)
  clear c43 z44 c41 z42 HO45 HO46 HO47 HC48 hb
  have HO61 := Lib.hid (Own.ow_of ho0)
  clear ho0
  go_wp2_with fail
  refine (TInt.eq_c w52 nm0 c50 c22 p49 p21 m0 HN0.out (by omega) (HO61.out.reads TInt.fw) (HO58.out.reads TInt.fw)).mono ?_
  rintro e w62 ⟨rfl, hb⟩
  have sw62 : w52.heap.size ≤ w62.heap.size := hb.size
  have c63 : w62.cell? ⟨w.heap.size, 0, none⟩ = some (.slice a0_Rules len0_Rules cap0_Rules) := ((BelowKit.bcell hb).1 _ _ z54).trans c53
  have z64 : w.heap.size < w62.heap.size := by omega
  have c65 : w62.cell? ⟨w33.heap.size, 0, none⟩ = some (.slice p30 len0_Rules c31) := ((BelowKit.bcell hb).1 _ _ z56).trans c55
  have z66 : w33.heap.size < w62.heap.size := by omega
  have HO67 := Lib.hid (HO57.out.on hb)
  have HO68 := Lib.hid (HO58.out.on hb)
  have HO69 := Lib.hid (HO59.out.on hb)
  have HO70 := Lib.hid (HO61.out.on hb)
  have HC71 := Lib.hid (BelowKit.bl_trans HC60.out hb)
  clear c53 z54 c55 z56 HO57 HO58 HO59 HO61 HC60 hb
  go_wp2_with fail
  have gc63 := Grown.G.keep c63 z64
  have gc65 := Grown.G.keep c65 z66
  refine Fresh.wp_region_grow (fun k => match k with | 2 => .grow | 3 => .grow | _ => .quiet)
    (fun k v => match k with
          | 2 => (∃ p72 c73, v = .agg #[.slice p72 len0_Rules c73])
          | 3 => (v = .bool true)
          | _ => v = undef)
    (fun k v s w1 => match k with
          | 2 => (∃ p72 c73, w62.heap.size ≤ s ∧ v = .agg #[.slice p72 len0_Rules c73] ∧ TRule.OwD w1 s w1.heap.size (.slice p72 len0_Rules c73) z0_Rules)
          | 3 => (w62.heap.size ≤ s ∧ v = .bool true)
          | _ => True)
    (by kernel_rfl) (by kernel_rfl) (by kernel_rfl) (by kernel_rfl) ?_
  refine Fresh.wpG_q rfl ?_
  go_big_quiet_step (fail)
  refine wpQuiet_nil ?_
  refine Fresh.wpG_q rfl ?_
  go_big_quiet_step (fail)
  refine wpQuiet_nil ?_
  refine Fresh.wpG_call #[.agg #[.slice a0_Rules len0_Rules cap0_Rules]] rfl Try.func35 (by kernel_rfl) (by kernel_rfl) rfl ⟨_, none, 0, rfl⟩ (fun X hd => ?_) ?_
  · have hX := X.bel.size
    refine (TBook.to_c X.w a0_Rules len0_Rules cap0_Rules z0_Rules HM0_Rules.out (by omega) HFW0_Rules.out (HR0_Rules.out.on (BelowKit.bl_trans HC71.out X.bel))).mono ?_
    rintro e w8 ⟨p72, c73, rfl, ho0, hb⟩
    try rw [HM0_Rules.out] at ho0
    try rw [HM0_Rules.out]
    exact ⟨_, rfl, hb, ⟨p72, c73, rfl⟩, p72, c73, by omega, rfl, ho0⟩
  rintro v ⟨p72, c73, rfl⟩
  go_big_quiet_step (fail)
  refine wpQuiet_nil ?_
  refine Fresh.wpG_call #[.agg #[.slice p30 len0_Rules c31], .agg #[.slice p72 len0_Rules c73]] rfl Try.func36 (by kernel_rfl) (by kernel_rfl) rfl ⟨_, rfl⟩ (fun X hd => ?_) ?_
  · obtain ⟨_, _, w9, ⟨p72_ , c73_, _, e9, ho_r74⟩, _, hb9⟩ := hd ⟨2, .data⟩ (by simp) rfl rfl
    have e8 : (.agg #[.slice p72 len0_Rules c73] : Value) = .agg #[.slice p72_ len0_Rules c73_] := e9
    cases e8
    replace ho_r74 := ho_r74.on hb9
    have hX := X.bel.size
    refine (TBook.eq_c X.w len0_Rules c31 c73 p30 p72 z0_Rules HM0_Rules.out (by omega) HFW0_Rules.out ((HO69.out.on X.bel).reads) (ho_r74.reads)).mono ?_
    rintro e w8 ⟨rfl, hb⟩
    exact ⟨_, rfl, hb, rfl, by omega, rfl⟩
  rintro v rfl
  go_big_quiet_step (fail)
  refine wpQuiet_nil ?_
  refine Fresh.wpG_q rfl ?_
  go_big_quiet_step (fail)
  refine wpQuiet_nil ?_
  refine Fresh.wpG_nil fun X sN1 tN1 hk => ?_
  have hXs := X.bel.size
  have hbX := X.bel
  obtain ⟨w75, hU⟩ : ∃ U : World, U = X.w := ⟨_, rfl⟩
  rw [← hU] at hbX  ⊢
  clear hk hU hXs gc63 gc65
  have sw75 : w62.heap.size ≤ w75.heap.size := hbX.size
  have c76 : w75.cell? ⟨w.heap.size, 0, none⟩ = some (.slice a0_Rules len0_Rules cap0_Rules) := ((BelowKit.bcell hbX).1 _ _ z64).trans c63
  have z77 : w.heap.size < w75.heap.size := by omega
  have c78 : w75.cell? ⟨w33.heap.size, 0, none⟩ = some (.slice p30 len0_Rules c31) := ((BelowKit.bcell hbX).1 _ _ z66).trans c65
  have z79 : w33.heap.size < w75.heap.size := by omega
  have HO80 := Lib.hid (HO67.out.on hbX)
  have HO81 := Lib.hid (HO68.out.on hbX)
  have HO82 := Lib.hid (HO69.out.on hbX)
  have HO83 := Lib.hid (HO70.out.on hbX)
  have HC84 := Lib.hid (BelowKit.bl_trans HC71.out hbX)
  clear c63 z64 c65 z66 HO67 HO68 HO69 HO70 HC71 hbX
  go_wp2_with fail
  refine (TBook.mark_m w75 w24.heap.size w33.heap.size p30 len0_Rules c31 z0_Rules 1 HM0_Rules.out (by omega) HFW0_Rules.out (by omega) (by rw [HT0_Rules.out]; omega) HO82.out (by omega)).mono ?_
  rintro e w87 ⟨rfl, ho, hm⟩
  rw [HT0_Rules.out]
  have sw87 : w75.heap.size ≤ w87.heap.size := hm.low.size
  have c88 : w87.cell? ⟨w.heap.size, 0, none⟩ = some (.slice a0_Rules len0_Rules cap0_Rules) := (hm.out (b := w.heap.size) (by omega) 0).trans c76
  have z89 : w.heap.size < w87.heap.size := by omega
  have c90 : w87.cell? ⟨w33.heap.size, 0, none⟩ = some (.slice p30 len0_Rules c31) := (hm.out (b := w33.heap.size) (by omega) 0).trans c78
  have z91 : w33.heap.size < w87.heap.size := by omega
  have HO92 := Lib.hid (HO80.out.mid hm (by omega))
  have HO93 := Lib.hid (HO81.out.mid hm (by omega))
  have HO95 := Lib.hid (HO83.out.mid hm (by omega))
  have HC96 := Lib.hid (HC84.out.trans (hm.low.mono (by omega)))
  clear c76 z77 c78 z79 HO80 HO81 HO83 HC84 hm
  have HO97 := Lib.hid ho
  clear ho HO82
  have HM98 : Hid ((TRule.marks 1 z0_Rules).length = len0_Rules) := Lib.hid ((TRule.marks_len _ _).trans HM0_Rules.out)
  have HFW99 := Lib.hid (RuleX.few_marks z0_Rules 1 HFW0_Rules.out)
  go_wp2_with fail
  refine (TInt.eq_c w87 nm0 c50 c22 p49 p21 m0 HN0.out (by omega) (HO95.out.reads TInt.fw) (HO93.out.reads TInt.fw)).mono ?_
  rintro e w100 ⟨rfl, hb⟩
  have sw100 : w87.heap.size ≤ w100.heap.size := hb.size
  have c101 : w100.cell? ⟨w.heap.size, 0, none⟩ = some (.slice a0_Rules len0_Rules cap0_Rules) := ((BelowKit.bcell hb).1 _ _ z89).trans c88
  have z102 : w.heap.size < w100.heap.size := by omega
  have c103 : w100.cell? ⟨w33.heap.size, 0, none⟩ = some (.slice p30 len0_Rules c31) := ((BelowKit.bcell hb).1 _ _ z91).trans c90
  have z104 : w33.heap.size < w100.heap.size := by omega
  have HO105 := Lib.hid (HO92.out.on hb)
  have HO106 := Lib.hid (HO93.out.on hb)
  have HO107 := Lib.hid (HO97.out.on hb)
  have HO108 := Lib.hid (HO95.out.on hb)
  have HC109 := Lib.hid (BelowKit.bl_trans HC96.out hb)
  clear c88 z89 c90 z91 HO92 HO93 HO97 HO95 HC96 hb
  go_wp2_with fail
  refine (TInt.mark_c w100 W40.heap.size w52.heap.size p49 nm0 c50 m0 1 HN0.out (by omega) (by omega) (by omega) HO108.out (by omega)).mono ?_
  rintro e w110 ⟨rfl, ho, hm⟩
  have sw110 : w100.heap.size ≤ w110.heap.size := hm.low.size
  have c111 : w110.cell? ⟨w.heap.size, 0, none⟩ = some (.slice a0_Rules len0_Rules cap0_Rules) := (hm.out (b := w.heap.size) (by omega) 0).trans c101
  have z112 : w.heap.size < w110.heap.size := by omega
  have c113 : w110.cell? ⟨w33.heap.size, 0, none⟩ = some (.slice p30 len0_Rules c31) := (hm.out (b := w33.heap.size) (by omega) 0).trans c103
  have z114 : w33.heap.size < w110.heap.size := by omega
  have HO115 := Lib.hid (HO105.out.mid hm (by omega))
  have HO116 := Lib.hid (HO106.out.mid hm (by omega))
  have HO117 := Lib.hid (HO107.out.mid hm (by omega))
  have HC119 := Lib.hid (HC109.out.trans (hm.low.mono (by omega)))
  clear c101 z102 c103 z104 HO105 HO106 HO107 HC109 hm
  have HO120 := Lib.hid ho
  clear ho HO108
  have HM121 : Hid ((TInt.marks 1 nm0).length = nm0) := Lib.hid (TInt.marks_len _ _)
  go_wp2_with fail
  refine (TInt.held_c w110 p49 nm0 c50 1 (by omega) (by omega) (by omega) (HO120.out.reads TInt.fw)).mono ?_
  rintro e w122 ⟨rfl, hb⟩
  have sw122 : w110.heap.size ≤ w122.heap.size := hb.size
  have c123 : w122.cell? ⟨w.heap.size, 0, none⟩ = some (.slice a0_Rules len0_Rules cap0_Rules) := ((BelowKit.bcell hb).1 _ _ z112).trans c111
  have z124 : w.heap.size < w122.heap.size := by omega
  have c125 : w122.cell? ⟨w33.heap.size, 0, none⟩ = some (.slice p30 len0_Rules c31) := ((BelowKit.bcell hb).1 _ _ z114).trans c113
  have z126 : w33.heap.size < w122.heap.size := by omega
  have HO127 := Lib.hid (HO115.out.on hb)
  have HO128 := Lib.hid (HO116.out.on hb)
  have HO129 := Lib.hid (HO117.out.on hb)
  have HO130 := Lib.hid (HO120.out.on hb)
  have HC131 := Lib.hid (BelowKit.bl_trans HC119.out hb)
  clear c111 z112 c113 z114 HO115 HO116 HO117 HO120 HC119 hb
  go_wp2_with fail
  refine (TBook.to_c w122 a0_Rules len0_Rules cap0_Rules z0_Rules HM0_Rules.out (by omega) HFW0_Rules.out (HR0_Rules.out.on HC131.out)).mono ?_
  rintro e w135 ⟨p132, c133, rfl, ho0, hb⟩
  rw [HM0_Rules.out] at ho0 ⊢
  have sw135 : w122.heap.size ≤ w135.heap.size := hb.size
  have c136 : w135.cell? ⟨w.heap.size, 0, none⟩ = some (.slice a0_Rules len0_Rules cap0_Rules) := ((BelowKit.bcell hb).1 _ _ z124).trans c123
  have z137 : w.heap.size < w135.heap.size := by omega
  have c138 : w135.cell? ⟨w33.heap.size, 0, none⟩ = some (.slice p30 len0_Rules c31) := ((BelowKit.bcell hb).1 _ _ z126).trans c125
  have z139 : w33.heap.size < w135.heap.size := by omega
  have HO140 := Lib.hid (HO127.out.on hb)
  have HO141 := Lib.hid (HO128.out.on hb)
  have HO142 := Lib.hid (HO129.out.on hb)
  have HO143 := Lib.hid (HO130.out.on hb)
  have HC144 := Lib.hid (BelowKit.bl_trans HC131.out hb)
  clear c123 z124 c125 z126 HO127 HO128 HO129 HO130 HC131 hb
  have HO145 := Lib.hid ho0
  clear ho0
  go_wp2_with fail
  refine (RuleF.gaps_i w135 p132 len0_Rules c133 z0_Rules a1 a2 a3 a4 HM0_Rules.out (by omega) (RuleRow.OwD.cap HO145.out) HFW0_Rules.out HO145.out.reads).mono ?_
  rintro e w149 ⟨p146, c147, rfl, ho0, hb⟩
  try rw [HF0.out] at ho0
  try rw [HF0.out]
  try rw [HN0.out] at ho0
  try rw [HN0.out]
  have sw149 : w135.heap.size ≤ w149.heap.size := hb.size
  have c150 : w149.cell? ⟨w.heap.size, 0, none⟩ = some (.slice a0_Rules len0_Rules cap0_Rules) := ((BelowKit.bcell hb).1 _ _ z137).trans c136
  have z151 : w.heap.size < w149.heap.size := by omega
  have c152 : w149.cell? ⟨w33.heap.size, 0, none⟩ = some (.slice p30 len0_Rules c31) := ((BelowKit.bcell hb).1 _ _ z139).trans c138
  have z153 : w33.heap.size < w149.heap.size := by omega
  have HO154 := Lib.hid (HO140.out.on hb)
  have HO155 := Lib.hid (HO141.out.on hb)
  have HO156 := Lib.hid (HO142.out.on hb)
  have HO157 := Lib.hid (HO143.out.on hb)
  have HO158 := Lib.hid (HO145.out.on hb)
  have HC159 := Lib.hid (BelowKit.bl_trans HC144.out hb)
  clear c136 z137 c138 z139 HO140 HO141 HO142 HO143 HO145 HC144 hb
  have HO160 := Lib.hid (Own.ow_of ho0)
  clear ho0
  go_wp2_with fail
  refine (TInt.eq_c w149 nm0 c147 c22 p146 p21 m0 HN0.out (by omega) (HO160.out.reads TInt.fw) (HO155.out.reads TInt.fw)).mono ?_
  rintro e w161 ⟨rfl, hb⟩
  have sw161 : w149.heap.size ≤ w161.heap.size := hb.size
  have c162 : w161.cell? ⟨w.heap.size, 0, none⟩ = some (.slice a0_Rules len0_Rules cap0_Rules) := ((BelowKit.bcell hb).1 _ _ z151).trans c150
  have z163 : w.heap.size < w161.heap.size := by omega
  have c164 : w161.cell? ⟨w33.heap.size, 0, none⟩ = some (.slice p30 len0_Rules c31) := ((BelowKit.bcell hb).1 _ _ z153).trans c152
  have z165 : w33.heap.size < w161.heap.size := by omega
  have HO166 := Lib.hid (HO154.out.on hb)
  have HO167 := Lib.hid (HO155.out.on hb)
  have HO168 := Lib.hid (HO156.out.on hb)
  have HO169 := Lib.hid (HO157.out.on hb)
  have HO170 := Lib.hid (HO158.out.on hb)
  have HO171 := Lib.hid (HO160.out.on hb)
  have HC172 := Lib.hid (BelowKit.bl_trans HC159.out hb)
  clear c150 z151 c152 z153 HO154 HO155 HO156 HO157 HO158 HO160 HC159 hb
  go_wp2_with fail
  refine (TInt.held_c w161 p49 nm0 c50 1 (by omega) (by omega) (by omega) (HO169.out.reads TInt.fw)).mono ?_
  rintro e w173 ⟨rfl, hb⟩
  have sw173 : w161.heap.size ≤ w173.heap.size := hb.size
  have c174 : w173.cell? ⟨w.heap.size, 0, none⟩ = some (.slice a0_Rules len0_Rules cap0_Rules) := ((BelowKit.bcell hb).1 _ _ z163).trans c162
  have z175 : w.heap.size < w173.heap.size := by omega
  have c176 : w173.cell? ⟨w33.heap.size, 0, none⟩ = some (.slice p30 len0_Rules c31) := ((BelowKit.bcell hb).1 _ _ z165).trans c164
  have z177 : w33.heap.size < w173.heap.size := by omega
  have HO178 := Lib.hid (HO166.out.on hb)
  have HO179 := Lib.hid (HO167.out.on hb)
  have HO180 := Lib.hid (HO168.out.on hb)
  have HO181 := Lib.hid (HO169.out.on hb)
  have HO182 := Lib.hid (HO170.out.on hb)
  have HO183 := Lib.hid (HO171.out.on hb)
  have HC184 := Lib.hid (BelowKit.bl_trans HC172.out hb)
  clear c162 z163 c164 z165 HO166 HO167 HO168 HO169 HO170 HO171 HC172 hb
  go_wp2
  go_ret
  exact ⟨rfl, by (repeat (first | exact Below.refl _ _ | apply BelowKit.bl_alloc | apply BelowKit.bl_drewN | apply BelowKit.bl_drew | (refine BelowKit.bl_set ?_ _ ?_; rotate_left; (first | omega | (simp; omega) | simp)) | (refine BelowKit.bl_trans ?_ (‹Hid (Below _ _ _)›).out)))⟩

/-! ### THE ROW's STEP -/
set_option maxRecDepth 100000 in
theorem lifted (os : Os) (started : os.Started) (H : Type) (enc : TypeId × Value → H) :
    ReturnsInHanded {} Try.checked os 12 .any (Rows.fnExactGapsInSpec.pre6 enc Try.prog Try.f12 Rows.fnExactGapsInRow.domain false) (Rows.fnExactGapsInSpec.post enc Try.prog Try.f12 false true false false) := by
  refine returnsInHanded_of_change (C := Try.checked) own started (by kernel_rfl) Try.func12
    (ChangeSpec.witness6 (enc := enc) (C := Try.checked) false ⟨#[], #[.agg #[.slice none 0 0], .int .i64 0, .int .i64 0, .int .i64 0, .int .i64 0], []⟩ 8 (by kernel_rfl) (by kernel_rfl) (by kernel_rfl) (by kernel_rfl)) ?_
  intro W base args ds gs before hval0 hW hcnd _
  have hval : ∀ (j : Nat) t v, Try.f12.params[j]? = some t → args[j]? = some v → Value.okWide Try.prog W .any base t v := hval0
  have hW' := hW
  obtain ⟨p, q, hA0, hV, rfl, hfz, hnd⟩ := hW
  have hA : DataW.TrodAll enc Try.prog W 0 (fun _ => true) true Try.f12.params.toList args.toList ds p := hA0
  rw [Try.params12] at hA hval
  obtain ⟨v0, vs0, d0, ds0, p0, q0, hargs, rfl, rfl, h0, r0⟩ := trodAll_cons hA
  obtain ⟨v1, vs1, d1, ds1, p1, q1, rfl, rfl, rfl, h1, r1⟩ := trodAll_cons r0
  obtain ⟨v2, vs2, d2, ds2, p2, q2, rfl, rfl, rfl, h2, r2⟩ := trodAll_cons r1
  obtain ⟨v3, vs3, d3, ds3, p3, q3, rfl, rfl, rfl, h3, r3⟩ := trodAll_cons r2
  obtain ⟨v4, vs4, d4, ds4, p4, q4, rfl, rfl, rfl, h4, r4⟩ := trodAll_cons r3
  obtain ⟨rfl, rfl, rfl⟩ := trodAll_nil r4
  obtain rfl : args = #[v0, v1, v2, v3, v4] := by cases args; simp_all
  obtain ⟨rfl, rfl⟩ := trodVars_none hV
  have k0 := h0
  have lt0 : ∀ x ∈ p0, x.block < W.heap.size := by obtain ⟨m, hm⟩ := k0; exact DataW.trod_lt m _ _ _ hm
  obtain ⟨⟨l0⟩, rfl, _⟩ := okWide_struct Try.underlying63 (hval 0 63 v0 rfl rfl)
  have s0 : Shape.FitL W [.sl [.int .i64, .int .i64, .int .i64, .int .i64, .int .i64, .int .i64, .sl [.int .i64, .int .i64, .int .i64, .int .i64, .int .i64, .int .i64]]] l0 := by
    obtain ⟨fu, hfu⟩ := h0
    exact Shape.trod_fit 8 63 _ (by kernel_rfl) _ _ _ hfu
  obtain ⟨a0_Rules, len0_Rules, cap0_Rules, r0, rfl, s0_Rules, s0⟩ := Shape.fit_sl s0
  obtain ⟨z0_Rules, hz0_Rules, w0_Rules, hl0_Rules, g0_Rules⟩ := RuleX.rd_of s0_Rules
  obtain rfl := Shape.fit_nil s0
  obtain ⟨a1, rfl, rfl, rfl, w1⟩ := open_int Try.underlying3 (hval 1 3 v1 rfl rfl) h1
  obtain ⟨a2, rfl, rfl, rfl, w2⟩ := open_int Try.underlying3 (hval 2 3 v2 rfl rfl) h2
  obtain ⟨a3, rfl, rfl, rfl, w3⟩ := open_int Try.underlying3 (hval 3 3 v3 rfl rfl) h3
  obtain ⟨a4, rfl, rfl, rfl, w4⟩ := open_int Try.underlying3 (hval 4 3 v4 rfl rfl) h4
  clear hA0 hval0
  refine (walk a0_Rules len0_Rules cap0_Rules z0_Rules a1 a2 a3 a4 W hz0_Rules w0_Rules hl0_Rules g0_Rules w1 w2 w3 w4).mono fun e W' ⟨he, bel⟩ => ?_
  subst he
  exact ⟨_, rfl, _, _, _, [], _, [], hW', trodAll_mk1 (shut_bool Try.underlying4 _), (trodAll_cons_mk (Below.trod laidOut (by kernel_rfl) (of_decide_eq_true (by kernel_rfl)) k0 bel lt0) (trodAll_cons_mk (shut_int Try.underlying3 w1) (trodAll_cons_mk (shut_int Try.underlying3 w2) (trodAll_cons_mk (shut_int Try.underlying3 w3) (trodAll_cons_mk (shut_int Try.underlying3 w4) trodAll_mk0))))), rfl, bel.frame _, fun h => by cases h⟩

theorem over : Rows.fnExactGapsInRow.holds Try.pinned (OpenSpec.ofChange Rows.fnExactGapsInSpec) :=
  OpenClaim.holds_of_wide 12 Try.f12 rfl rfl rfl rfl rfl rfl rfl ⟨rfl, rfl, rfl, rfl, rfl⟩ rfl rfl rfl rfl rfl (by kernel_rfl) Try.func12 (by kernel_rfl)
    (of_decide_eq_true (by kernel_rfl)) (by unfold Func.isWrapper; first | (rw [if_pos (by decide +kernel)]; kernel_rfl) | (rw [if_neg (by decide +kernel)]; exact ⟨rfl, rfl⟩))
    (fun os started H enc _ => lifted os started H enc)

theorem proved : Rows.FnExactGapsInSaid := over
#print axioms proved
end Go.Proofs.Ytkfgflmhefbinaa.fnExactGapsIn
