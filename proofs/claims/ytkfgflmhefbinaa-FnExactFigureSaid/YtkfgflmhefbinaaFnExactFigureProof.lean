/- Proves the given statement of the law FnExactFigure: for every input that the row lets in, the law's Go function returns true and every argument reads as before; no condition of mine. -/
import Derived.Test.YtkfgflmhefbinaaRuleF
import Derived.Test.YtkfgflmhefbinaaFracLaws
import Derived.Test.YtkfgflmhefbinaaKit
import Derived.Test.YtkfgflmhefbinaaTNode
import Derived.Test.YtkfgflmhefbinaaNodeMath
import Derived.Test.YtkfgflmhefbinaaRows
import Derived.WalkKit
import Derived.ProofKit
import Derived.OpenShut
import Derived.ShutString
import Derived.ChangeOld
import Derived.Below
import Derived.Deep.RegionHeld3
import Derived.Deep.DeepCutAuto
import Derived.Lib.Hide
import Derived.Lib.SmallJoins
import Derived.Test.YtkfgflmhefbinaaRuleX
import Derived.Test.YtkfgflmhefbinaaTFrac
namespace Go.Proofs.Ytkfgflmhefbinaa.fnExactFigure
open Go.ChangeShapes Go.WideShapes Go.ChangeAt Go.RowKit
open Go.ChangeMaps (open_string shut_string)
set_option linter.unusedVariables false

theorem own : ownKnob Try.prog.godebug = none := by kernel_rfl
theorem laidOut : laidOutB Try.prog = true := by kernel_rfl

/-! ### STEP 1: the walk -/
theorem walk (a0_Rules : Option Addr) (len0_Rules cap0_Rules : Nat) (z0_Rules : List TRule.Ru) (a1 : Int) (a2 : Int) (a3 : Int) (a4 : Option Addr) (len4 cap4 : Nat) (z4 : List TFrac.El) (w : World) (hz0_Rules : z0_Rules.length = len0_Rules) (w0_Rules : TRule.RdD w a0_Rules z0_Rules) (hl0_Rules : len0_Rules ≤ 9223372036854775807) (g0_Rules : ∀ j (h : j < z0_Rules.length), z0_Rules[j].Nodes.length ≤ 9223372036854775807) (w1 : (Lit.int .i64 a1).wf = true) (w2 : (Lit.int .i64 a2).wf = true) (w3 : (Lit.int .i64 a3).wf = true) (hz4 : z4.length = len4) (w4 : RowN.Reads TFrac.fc 2 w a4 z4) (hl4 : len4 ≤ 9223372036854775807) (g4 : ∀ x ∈ z4, TFrac.Wf x) :
    Calls Try.prog 14 #[.agg #[.slice a0_Rules len0_Rules cap0_Rules], .int .i64 a1, .int .i64 a2, .int .i64 a3, .slice a4 len4 cap4] w fun e w' => e = .returned (.bool true) ∧ Below w.heap.size w w' := by
  have HR0_Rules := Lib.hid w0_Rules
  have HM0_Rules := Lib.hid hz0_Rules
  have HG0_Rules := Lib.hid g0_Rules
  obtain ⟨Z0_Rules, hZ0_Rules⟩ : ∃ Z, TRule.szT z0_Rules = Z := ⟨_, rfl⟩
  have HZ0_Rules := Lib.hid hZ0_Rules
  clear g0_Rules hZ0_Rules
  have HR4 := Lib.hid w4
  have HM4 := Lib.hid hz4
  clear w0_Rules hz0_Rules w4 hz4
  by_cases hbig : 1048576 < Z0_Rules
  · go_enter Try.func14, Try.ntmps14
    go_wp2_with fail
    obtain ⟨W1, hW1⟩ : ∃ V : World, V = w.alloc (.cells #[.slice a0_Rules len0_Rules cap0_Rules] 63) := ⟨_, rfl⟩
    rw [← hW1]
    have hb : Below w.heap.size w W1 := by rw [hW1]; (repeat (first | exact Below.refl _ _ | apply BelowKit.bl_alloc | apply BelowKit.bl_drewN | apply BelowKit.bl_drew | (refine BelowKit.bl_set ?_ _ ?_; rotate_left; (first | omega | (simp; omega) | simp)) | (refine BelowKit.bl_trans ?_ (‹Hid (Below _ _ _)›).out)))
    have tW1 : w.heap.size + 1 ≤ W1.heap.size := by rw [hW1]; simp
    have uW1 : W1.heap.size ≤ w.heap.size + 1 := by rw [hW1]; simp
    have c2 : W1.cell? ⟨w.heap.size, 0, none⟩ = some (.slice a0_Rules len0_Rules cap0_Rules) := by rw [hW1]; simp [go_sem]
    have z3 : w.heap.size < W1.heap.size := by omega
    clear hW1
    have sW1 : w.heap.size ≤ W1.heap.size := hb.size
    have HC4 := Lib.hid hb
    clear hb
    refine (TBook.sz_c W1 a0_Rules len0_Rules cap0_Rules 1048576 z0_Rules HM0_Rules.out hl0_Rules HG0_Rules.out (by omega) (by omega) (HR0_Rules.out.on HC4.out)).mono ?_
    rintro e w9 ⟨rfl, hb⟩
    rw [HZ0_Rules.out, if_pos (by omega)]
    have HC9 := Lib.hid (BelowKit.bl_trans HC4.out hb)
    clear hb
    go_wp2
    go_ret
    exact ⟨rfl, HC9.out⟩
  have hs0_Rules : Z0_Rules ≤ 1048576 := by omega
  have hf0_Rules := RuleX.sz_facts HM0_Rules.out HZ0_Rules.out (by omega)
  have hn0_Rules := hf0_Rules.1
  have HFW0_Rules := Lib.hid hf0_Rules.2.1
  have HFX0_Rules := Lib.hid hf0_Rules.2.2.1
  have HT0_Rules := Lib.hid hf0_Rules.2.2.2.1
  have hp0_Rules := hf0_Rules.2.2.2.2
  clear hf0_Rules
  by_cases hbig1 : 1048576 < Z0_Rules + (len4 : Int)
  · go_enter Try.func14, Try.ntmps14
    go_wp2_with fail
    obtain ⟨W5, hW5⟩ : ∃ V : World, V = w.alloc (.cells #[.slice a0_Rules len0_Rules cap0_Rules] 63) := ⟨_, rfl⟩
    rw [← hW5]
    have hb : Below w.heap.size w W5 := by rw [hW5]; (repeat (first | exact Below.refl _ _ | apply BelowKit.bl_alloc | apply BelowKit.bl_drewN | apply BelowKit.bl_drew | (refine BelowKit.bl_set ?_ _ ?_; rotate_left; (first | omega | (simp; omega) | simp)) | (refine BelowKit.bl_trans ?_ (‹Hid (Below _ _ _)›).out)))
    have tW5 : w.heap.size + 1 ≤ W5.heap.size := by rw [hW5]; simp
    have uW5 : W5.heap.size ≤ w.heap.size + 1 := by rw [hW5]; simp
    have c6 : W5.cell? ⟨w.heap.size, 0, none⟩ = some (.slice a0_Rules len0_Rules cap0_Rules) := by rw [hW5]; simp [go_sem]
    have z7 : w.heap.size < W5.heap.size := by omega
    clear hW5
    have sW5 : w.heap.size ≤ W5.heap.size := hb.size
    have HC8 := Lib.hid hb
    clear hb
    refine (TBook.sz_c W5 a0_Rules len0_Rules cap0_Rules 1048576 z0_Rules HM0_Rules.out hl0_Rules HG0_Rules.out (by omega) (by omega) (HR0_Rules.out.on HC8.out)).mono ?_
    rintro e w9 ⟨rfl, hb⟩
    rw [HZ0_Rules.out, if_neg (by omega)]
    have sw9 : W5.heap.size ≤ w9.heap.size := hb.size
    have c10 : w9.cell? ⟨w.heap.size, 0, none⟩ = some (.slice a0_Rules len0_Rules cap0_Rules) := ((BelowKit.bcell hb).1 _ _ z7).trans c6
    have z11 : w.heap.size < w9.heap.size := by omega
    have HC12 := Lib.hid (BelowKit.bl_trans HC8.out hb)
    clear c6 z7 HC8 hb
    go_wp2_with fail
    refine (TFrac.sz_c w9 a4 len4 cap4 (1048576 - Z0_Rules) hl4 (by omega) (by omega)).mono ?_
    rintro e w9 ⟨rfl, hb⟩
    rw [if_pos (by omega)]
    have HC9 := Lib.hid (BelowKit.bl_trans HC12.out hb)
    clear hb
    go_wp2
    go_ret
    exact ⟨rfl, HC9.out⟩
  have hs4 : Z0_Rules + (len4 : Int) ≤ 1048576 := by omega
  obtain ⟨m0, hm0⟩ : ∃ v, (BookLaws.fig z0_Rules a1 a2 a3 z4).1 = v := ⟨_, rfl⟩
  have HF0 := Lib.hid hm0
  clear hm0
  obtain ⟨m1, hm1⟩ : ∃ v, (BookLaws.fig z0_Rules a1 a2 a3 z4).2.1 = v := ⟨_, rfl⟩
  have HF1 := Lib.hid hm1
  clear hm1
  obtain ⟨m2, hm2⟩ : ∃ v, (BookLaws.fig z0_Rules a1 a2 a3 z4).2.2 = v := ⟨_, rfl⟩
  have HF2 := Lib.hid hm2
  clear hm2
  go_enter Try.func14, Try.ntmps14
  go_wp2_with fail
  obtain ⟨W13, hW13⟩ : ∃ V : World, V = w.alloc (.cells #[.slice a0_Rules len0_Rules cap0_Rules] 63) := ⟨_, rfl⟩
  rw [← hW13]
  have hb : Below w.heap.size w W13 := by rw [hW13]; (repeat (first | exact Below.refl _ _ | apply BelowKit.bl_alloc | apply BelowKit.bl_drewN | apply BelowKit.bl_drew | (refine BelowKit.bl_set ?_ _ ?_; rotate_left; (first | omega | (simp; omega) | simp)) | (refine BelowKit.bl_trans ?_ (‹Hid (Below _ _ _)›).out)))
  have tW13 : w.heap.size + 1 ≤ W13.heap.size := by rw [hW13]; simp
  have uW13 : W13.heap.size ≤ w.heap.size + 1 := by rw [hW13]; simp
  have c14 : W13.cell? ⟨w.heap.size, 0, none⟩ = some (.slice a0_Rules len0_Rules cap0_Rules) := by rw [hW13]; simp [go_sem]
  have z15 : w.heap.size < W13.heap.size := by omega
  clear hW13
  have sW13 : w.heap.size ≤ W13.heap.size := hb.size
  have HC16 := Lib.hid hb
  clear hb
  refine (TBook.sz_c W13 a0_Rules len0_Rules cap0_Rules 1048576 z0_Rules HM0_Rules.out hl0_Rules HG0_Rules.out (by omega) (by omega) (HR0_Rules.out.on HC16.out)).mono ?_
  rintro e w17 ⟨rfl, hb⟩
  rw [HZ0_Rules.out, if_neg (by omega)]
  have sw17 : W13.heap.size ≤ w17.heap.size := hb.size
  have c18 : w17.cell? ⟨w.heap.size, 0, none⟩ = some (.slice a0_Rules len0_Rules cap0_Rules) := ((BelowKit.bcell hb).1 _ _ z15).trans c14
  have z19 : w.heap.size < w17.heap.size := by omega
  have HC20 := Lib.hid (BelowKit.bl_trans HC16.out hb)
  clear c14 z15 HC16 hb
  go_wp2_with fail
  refine (TFrac.sz_c w17 a4 len4 cap4 (1048576 - Z0_Rules) hl4 (by omega) (by omega)).mono ?_
  rintro e w21 ⟨rfl, hb⟩
  rw [if_neg (by omega)]
  have sw21 : w17.heap.size ≤ w21.heap.size := hb.size
  have c22 : w21.cell? ⟨w.heap.size, 0, none⟩ = some (.slice a0_Rules len0_Rules cap0_Rules) := ((BelowKit.bcell hb).1 _ _ z19).trans c18
  have z23 : w.heap.size < w21.heap.size := by omega
  have HC24 := Lib.hid (BelowKit.bl_trans HC20.out hb)
  clear c18 z19 HC20 hb
  go_wp2_with fail
  refine (TBook.to_c w21 a0_Rules len0_Rules cap0_Rules z0_Rules HM0_Rules.out (by omega) HFW0_Rules.out (HR0_Rules.out.on HC24.out)).mono ?_
  rintro e w28 ⟨p25, c26, rfl, ho0, hb⟩
  rw [HM0_Rules.out] at ho0 ⊢
  have sw28 : w21.heap.size ≤ w28.heap.size := hb.size
  have c29 : w28.cell? ⟨w.heap.size, 0, none⟩ = some (.slice a0_Rules len0_Rules cap0_Rules) := ((BelowKit.bcell hb).1 _ _ z23).trans c22
  have z30 : w.heap.size < w28.heap.size := by omega
  have HC31 := Lib.hid (BelowKit.bl_trans HC24.out hb)
  clear c22 z23 HC24 hb
  have HO32 := Lib.hid ho0
  clear ho0
  go_wp2_with fail
  refine (TFrac.to_c w28 a4 len4 cap4 z4 HM4.out (by omega) (HR4.out.on HC31.out)).mono ?_
  rintro e w36 ⟨p33, c34, rfl, ho0, hb⟩
  rw [HM4.out] at ho0 ⊢
  have sw36 : w28.heap.size ≤ w36.heap.size := hb.size
  have c37 : w36.cell? ⟨w.heap.size, 0, none⟩ = some (.slice a0_Rules len0_Rules cap0_Rules) := ((BelowKit.bcell hb).1 _ _ z30).trans c29
  have z38 : w.heap.size < w36.heap.size := by omega
  have HO39 := Lib.hid (HO32.out.on hb)
  have HC40 := Lib.hid (BelowKit.bl_trans HC31.out hb)
  clear c29 z30 HO32 HC31 hb
  have HO41 := Lib.hid (Own.ow_of ho0)
  clear ho0
  go_wp2_with fail
  refine (RuleF.fig_s w36 p25 len0_Rules c26 z0_Rules a1 a2 a3 p33 len4 c34 z4 HM0_Rules.out (by omega) (RuleRow.OwD.cap HO39.out) HFX0_Rules.out HO39.out.reads HM4.out (by omega) (HO41.out.reads TFrac.fw)).mono ?_
  rintro e w42 ⟨rfl, hb⟩
  rw [HF0.out, HF1.out, HF2.out]
  have sw42 : w36.heap.size ≤ w42.heap.size := hb.size
  have c43 : w42.cell? ⟨w.heap.size, 0, none⟩ = some (.slice a0_Rules len0_Rules cap0_Rules) := ((BelowKit.bcell hb).1 _ _ z38).trans c37
  have z44 : w.heap.size < w42.heap.size := by omega
  have HO45 := Lib.hid (HO39.out.on hb)
  have HO46 := Lib.hid (HO41.out.on hb)
  have HC47 := Lib.hid (BelowKit.bl_trans HC40.out hb)
  clear c37 z38 HO39 HO41 HC40 hb
  go_wp2_with fail
  refine (TBook.to_c w42 a0_Rules len0_Rules cap0_Rules z0_Rules HM0_Rules.out (by omega) HFW0_Rules.out (HR0_Rules.out.on HC47.out)).mono ?_
  rintro e w51 ⟨p48, c49, rfl, ho0, hb⟩
  rw [HM0_Rules.out] at ho0 ⊢
  have sw51 : w42.heap.size ≤ w51.heap.size := hb.size
  have c52 : w51.cell? ⟨w.heap.size, 0, none⟩ = some (.slice a0_Rules len0_Rules cap0_Rules) := ((BelowKit.bcell hb).1 _ _ z44).trans c43
  have z53 : w.heap.size < w51.heap.size := by omega
  have HO54 := Lib.hid (HO45.out.on hb)
  have HO55 := Lib.hid (HO46.out.on hb)
  have HC56 := Lib.hid (BelowKit.bl_trans HC47.out hb)
  clear c43 z44 HO45 HO46 HC47 hb
  have HO57 := Lib.hid ho0
  clear ho0
  go_wp2_with fail
  obtain ⟨W58, hW58⟩ : ∃ V : World, V = w51.alloc (.cells #[.slice p48 len0_Rules c49] 26) := ⟨_, rfl⟩
  rw [← hW58]
  have hb : Below w51.heap.size w51 W58 := by rw [hW58]; (repeat (first | exact Below.refl _ _ | apply BelowKit.bl_alloc | apply BelowKit.bl_drewN | apply BelowKit.bl_drew | (refine BelowKit.bl_set ?_ _ ?_; rotate_left; (first | omega | (simp; omega) | simp)) | (refine BelowKit.bl_trans ?_ (‹Hid (Below _ _ _)›).out)))
  have tW58 : w51.heap.size + 1 ≤ W58.heap.size := by rw [hW58]; simp
  have uW58 : W58.heap.size ≤ w51.heap.size + 1 := by rw [hW58]; simp
  have c59 : W58.cell? ⟨w51.heap.size, 0, none⟩ = some (.slice p48 len0_Rules c49) := by rw [hW58]; simp [go_sem]
  have z60 : w51.heap.size < W58.heap.size := by omega
  clear hW58
  have sW58 : w51.heap.size ≤ W58.heap.size := hb.size
  have c61 : W58.cell? ⟨w.heap.size, 0, none⟩ = some (.slice a0_Rules len0_Rules cap0_Rules) := ((BelowKit.bcell hb).1 _ _ z53).trans c52
  have z62 : w.heap.size < W58.heap.size := by omega
  have HO63 := Lib.hid (HO54.out.on hb)
  have HO64 := Lib.hid (HO55.out.on hb)
  have HO65 := Lib.hid (HO57.out.on hb)
  have HC66 := Lib.hid (BelowKit.bl_trans HC56.out hb)
  clear c52 z53 HO54 HO55 HO57 HC56 hb
  refine (TFrac.to_c W58 a4 len4 cap4 z4 HM4.out (by omega) (HR4.out.on HC66.out)).mono ?_
  rintro e w70 ⟨p67, c68, rfl, ho0, hb⟩
  rw [HM4.out] at ho0 ⊢
  have sw70 : W58.heap.size ≤ w70.heap.size := hb.size
  have c71 : w70.cell? ⟨w.heap.size, 0, none⟩ = some (.slice a0_Rules len0_Rules cap0_Rules) := ((BelowKit.bcell hb).1 _ _ z62).trans c61
  have z72 : w.heap.size < w70.heap.size := by omega
  have c73 : w70.cell? ⟨w51.heap.size, 0, none⟩ = some (.slice p48 len0_Rules c49) := ((BelowKit.bcell hb).1 _ _ z60).trans c59
  have z74 : w51.heap.size < w70.heap.size := by omega
  have HO75 := Lib.hid (HO63.out.on hb)
  have HO76 := Lib.hid (HO64.out.on hb)
  have HO77 := Lib.hid (HO65.out.on hb)
  have HC78 := Lib.hid (BelowKit.bl_trans HC66.out hb)
  clear c61 z62 c59 z60 HO63 HO64 HO65 HC66 hb
  have HO79 := Lib.hid (Own.ow_of ho0)
  clear ho0
  go_wp2_with fail
  refine (RuleF.fig_i w70 p48 len0_Rules c49 z0_Rules a1 a2 a3 p67 len4 c68 z4 HM0_Rules.out (by omega) (RuleRow.OwD.cap HO77.out) HFX0_Rules.out HO77.out.reads HM4.out (by omega) (HO79.out.reads TFrac.fw)).mono ?_
  rintro e w80 ⟨rfl, hb⟩
  rw [HF0.out, HF1.out, HF2.out]
  have sw80 : w70.heap.size ≤ w80.heap.size := hb.size
  have c81 : w80.cell? ⟨w.heap.size, 0, none⟩ = some (.slice a0_Rules len0_Rules cap0_Rules) := ((BelowKit.bcell hb).1 _ _ z72).trans c71
  have z82 : w.heap.size < w80.heap.size := by omega
  have c83 : w80.cell? ⟨w51.heap.size, 0, none⟩ = some (.slice p48 len0_Rules c49) := ((BelowKit.bcell hb).1 _ _ z74).trans c73
  have z84 : w51.heap.size < w80.heap.size := by omega
  have HO85 := Lib.hid (HO75.out.on hb)
  have HO86 := Lib.hid (HO76.out.on hb)
  have HO87 := Lib.hid (HO77.out.on hb)
  have HO88 := Lib.hid (HO79.out.on hb)
  have HC89 := Lib.hid (BelowKit.bl_trans HC78.out hb)
  clear c71 z72 c73 z74 HO75 HO76 HO77 HO79 HC78 hb
  go_wp2_with fail
  have gc81 := Grown.G.keep c81 z82
  have gc83 := Grown.G.keep c83 z84
  refine Fresh.wp_region_grow (fun k => match k with | 2 => .grow | 3 => .grow | _ => .quiet)
    (fun k v => match k with
          | 2 => (∃ p90 c91, v = .agg #[.slice p90 len0_Rules c91])
          | 3 => (v = .bool true)
          | _ => v = undef)
    (fun k v s w1 => match k with
          | 2 => (∃ p90 c91, w80.heap.size ≤ s ∧ v = .agg #[.slice p90 len0_Rules c91] ∧ TRule.OwD w1 s w1.heap.size (.slice p90 len0_Rules c91) z0_Rules)
          | 3 => (w80.heap.size ≤ s ∧ v = .bool true)
          | _ => True)
    (by kernel_rfl) (by kernel_rfl) (by kernel_rfl) (by kernel_rfl) ?_
  refine Fresh.wpG_q rfl ?_
  go_big_quiet_step (fail)
  refine wpQuiet_nil ?_
  refine Fresh.wpG_q rfl ?_
  go_big_quiet_step (fail)
  refine wpQuiet_nil ?_
  refine Fresh.wpG_call #[.agg #[.slice a0_Rules len0_Rules cap0_Rules]] rfl Try.func35 (by kernel_rfl) (by kernel_rfl) rfl ⟨_, none, 0, rfl⟩ (fun X hd => ?_) ?_
  · have hX := X.bel.size
    refine (TBook.to_c X.w a0_Rules len0_Rules cap0_Rules z0_Rules HM0_Rules.out (by omega) HFW0_Rules.out (HR0_Rules.out.on (BelowKit.bl_trans HC89.out X.bel))).mono ?_
    rintro e w8 ⟨p90, c91, rfl, ho0, hb⟩
    try rw [HM0_Rules.out] at ho0
    try rw [HM0_Rules.out]
    exact ⟨_, rfl, hb, ⟨p90, c91, rfl⟩, p90, c91, by omega, rfl, ho0⟩
  rintro v ⟨p90, c91, rfl⟩
  go_big_quiet_step (fail)
  refine wpQuiet_nil ?_
  refine Fresh.wpG_call #[.agg #[.slice p48 len0_Rules c49], .agg #[.slice p90 len0_Rules c91]] rfl Try.func36 (by kernel_rfl) (by kernel_rfl) rfl ⟨_, rfl⟩ (fun X hd => ?_) ?_
  · obtain ⟨_, _, w9, ⟨p90_ , c91_, _, e9, ho_r92⟩, _, hb9⟩ := hd ⟨2, .data⟩ (by simp) rfl rfl
    have e8 : (.agg #[.slice p90 len0_Rules c91] : Value) = .agg #[.slice p90_ len0_Rules c91_] := e9
    cases e8
    replace ho_r92 := ho_r92.on hb9
    have hX := X.bel.size
    refine (TBook.eq_c X.w len0_Rules c49 c91 p48 p90 z0_Rules HM0_Rules.out (by omega) HFW0_Rules.out ((HO87.out.on X.bel).reads) (ho_r92.reads)).mono ?_
    rintro e w8 ⟨rfl, hb⟩
    exact ⟨_, rfl, hb, rfl, by omega, rfl⟩
  rintro v rfl
  go_big_quiet_step (fail)
  refine wpQuiet_nil ?_
  refine Fresh.wpG_q rfl ?_
  go_big_quiet_step (fail)
  refine wpQuiet_nil ?_
  refine Fresh.wpG_nil fun X sN1 tN1 hk => ?_
  have hXs := X.bel.size
  have hbX := X.bel
  obtain ⟨w93, hU⟩ : ∃ U : World, U = X.w := ⟨_, rfl⟩
  rw [← hU] at hbX  ⊢
  clear hk hU hXs gc81 gc83
  have sw93 : w80.heap.size ≤ w93.heap.size := hbX.size
  have c94 : w93.cell? ⟨w.heap.size, 0, none⟩ = some (.slice a0_Rules len0_Rules cap0_Rules) := ((BelowKit.bcell hbX).1 _ _ z82).trans c81
  have z95 : w.heap.size < w93.heap.size := by omega
  have c96 : w93.cell? ⟨w51.heap.size, 0, none⟩ = some (.slice p48 len0_Rules c49) := ((BelowKit.bcell hbX).1 _ _ z84).trans c83
  have z97 : w51.heap.size < w93.heap.size := by omega
  have HO98 := Lib.hid (HO85.out.on hbX)
  have HO99 := Lib.hid (HO86.out.on hbX)
  have HO100 := Lib.hid (HO87.out.on hbX)
  have HO101 := Lib.hid (HO88.out.on hbX)
  have HC102 := Lib.hid (BelowKit.bl_trans HC89.out hbX)
  clear c81 z82 c83 z84 HO85 HO86 HO87 HO88 HC89 hbX
  go_wp2_with fail
  refine (TFrac.to_c w93 a4 len4 cap4 z4 HM4.out (by omega) (HR4.out.on HC102.out)).mono ?_
  rintro e w108 ⟨p105, c106, rfl, ho0, hb⟩
  rw [HM4.out] at ho0 ⊢
  have sw108 : w93.heap.size ≤ w108.heap.size := hb.size
  have c109 : w108.cell? ⟨w.heap.size, 0, none⟩ = some (.slice a0_Rules len0_Rules cap0_Rules) := ((BelowKit.bcell hb).1 _ _ z95).trans c94
  have z110 : w.heap.size < w108.heap.size := by omega
  have c111 : w108.cell? ⟨w51.heap.size, 0, none⟩ = some (.slice p48 len0_Rules c49) := ((BelowKit.bcell hb).1 _ _ z97).trans c96
  have z112 : w51.heap.size < w108.heap.size := by omega
  have HO113 := Lib.hid (HO98.out.on hb)
  have HO114 := Lib.hid (HO99.out.on hb)
  have HO115 := Lib.hid (HO100.out.on hb)
  have HO116 := Lib.hid (HO101.out.on hb)
  have HC117 := Lib.hid (BelowKit.bl_trans HC102.out hb)
  clear c94 z95 c96 z97 HO98 HO99 HO100 HO101 HC102 hb
  have HO118 := Lib.hid (Own.ow_of ho0)
  clear ho0
  go_wp2_with fail
  refine (TFrac.eq_c w108 len4 c68 c106 p67 p105 z4 HM4.out (by omega) (HO116.out.reads TFrac.fw) (HO118.out.reads TFrac.fw)).mono ?_
  rintro e w119 ⟨rfl, hb⟩
  have sw119 : w108.heap.size ≤ w119.heap.size := hb.size
  have c120 : w119.cell? ⟨w.heap.size, 0, none⟩ = some (.slice a0_Rules len0_Rules cap0_Rules) := ((BelowKit.bcell hb).1 _ _ z110).trans c109
  have z121 : w.heap.size < w119.heap.size := by omega
  have c122 : w119.cell? ⟨w51.heap.size, 0, none⟩ = some (.slice p48 len0_Rules c49) := ((BelowKit.bcell hb).1 _ _ z112).trans c111
  have z123 : w51.heap.size < w119.heap.size := by omega
  have HO124 := Lib.hid (HO113.out.on hb)
  have HO125 := Lib.hid (HO114.out.on hb)
  have HO126 := Lib.hid (HO115.out.on hb)
  have HO127 := Lib.hid (HO116.out.on hb)
  have HO128 := Lib.hid (HO118.out.on hb)
  have HC129 := Lib.hid (BelowKit.bl_trans HC117.out hb)
  clear c109 z110 c111 z112 HO113 HO114 HO115 HO116 HO118 HC117 hb
  go_wp2
  go_ret
  exact ⟨rfl, by (repeat (first | exact Below.refl _ _ | apply BelowKit.bl_alloc | apply BelowKit.bl_drewN | apply BelowKit.bl_drew | (refine BelowKit.bl_set ?_ _ ?_; rotate_left; (first | omega | (simp; omega) | simp)) | (refine BelowKit.bl_trans ?_ (‹Hid (Below _ _ _)›).out)))⟩

/-! ### THE ROW's STEP -/
set_option maxRecDepth 100000 in
theorem lifted (os : Os) (started : os.Started) (H : Type) (enc : TypeId × Value → H) :
    ReturnsInHanded {} Try.checked os 14 .any (Rows.fnExactFigureSpec.pre6 enc Try.prog Try.f14 Rows.fnExactFigureRow.domain false) (Rows.fnExactFigureSpec.post enc Try.prog Try.f14 false true false false) := by
  refine returnsInHanded_of_change (C := Try.checked) own started (by kernel_rfl) Try.func14
    (ChangeSpec.witness6 (enc := enc) (C := Try.checked) false ⟨#[], #[.agg #[.slice none 0 0], .int .i64 0, .int .i64 0, .int .i64 0, .slice none 0 0], []⟩ 8 (by kernel_rfl) (by kernel_rfl) (by kernel_rfl) (by kernel_rfl)) ?_
  intro W base args ds gs before hval0 hW hcnd _
  have hval : ∀ (j : Nat) t v, Try.f14.params[j]? = some t → args[j]? = some v → Value.okWide Try.prog W .any base t v := hval0
  have hW' := hW
  obtain ⟨p, q, hA0, hV, rfl, hfz, hnd⟩ := hW
  have hA : DataW.TrodAll enc Try.prog W 0 (fun _ => true) true Try.f14.params.toList args.toList ds p := hA0
  rw [Try.params14] at hA hval
  obtain ⟨v0, vs0, d0, ds0, p0, q0, hargs, rfl, rfl, h0, r0⟩ := trodAll_cons hA
  obtain ⟨v1, vs1, d1, ds1, p1, q1, rfl, rfl, rfl, h1, r1⟩ := trodAll_cons r0
  obtain ⟨v2, vs2, d2, ds2, p2, q2, rfl, rfl, rfl, h2, r2⟩ := trodAll_cons r1
  obtain ⟨v3, vs3, d3, ds3, p3, q3, rfl, rfl, rfl, h3, r3⟩ := trodAll_cons r2
  obtain ⟨v4, vs4, d4, ds4, p4, q4, rfl, rfl, rfl, h4, r4⟩ := trodAll_cons r3
  obtain ⟨rfl, rfl, rfl⟩ := trodAll_nil r4
  obtain rfl : args = #[v0, v1, v2, v3, v4] := by cases args; simp_all
  obtain ⟨rfl, rfl⟩ := trodVars_none hV
  have k0 := h0
  have lt0 : ∀ x ∈ p0, x.block < W.heap.size := by obtain ⟨m, hm⟩ := k0; exact DataW.trod_lt m _ _ _ hm
  obtain ⟨⟨l0⟩, rfl, _⟩ := okWide_struct Try.underlying63 (hval 0 63 v0 rfl rfl)
  have s0 : Shape.FitL W [.sl [.int .i64, .int .i64, .int .i64, .int .i64, .int .i64, .int .i64, .sl [.int .i64, .int .i64, .int .i64, .int .i64, .int .i64, .int .i64]]] l0 := by
    obtain ⟨fu, hfu⟩ := h0
    exact Shape.trod_fit 8 63 _ (by kernel_rfl) _ _ _ hfu
  obtain ⟨a0_Rules, len0_Rules, cap0_Rules, r0, rfl, s0_Rules, s0⟩ := Shape.fit_sl s0
  obtain ⟨z0_Rules, hz0_Rules, w0_Rules, hl0_Rules, g0_Rules⟩ := RuleX.rd_of s0_Rules
  obtain rfl := Shape.fit_nil s0
  obtain ⟨a1, rfl, rfl, rfl, w1⟩ := open_int Try.underlying3 (hval 1 3 v1 rfl rfl) h1
  obtain ⟨a2, rfl, rfl, rfl, w2⟩ := open_int Try.underlying3 (hval 2 3 v2 rfl rfl) h2
  obtain ⟨a3, rfl, rfl, rfl, w3⟩ := open_int Try.underlying3 (hval 3 3 v3 rfl rfl) h3
  have k4 := h4
  have lt4 : ∀ x ∈ p4, x.block < W.heap.size := by obtain ⟨m, hm⟩ := k4; exact DataW.trod_lt m _ _ _ hm
  obtain ⟨a4, len4, cap4, rfl⟩ := okWide_slice Try.underlying75 (hval 4 75 v4 rfl rfl)
  have s4 : Shape.FitL W [.sl [.int .i64, .int .i64]] [.slice a4 len4 cap4] := by
    obtain ⟨fu, hfu⟩ := h4
    exact Shape.trod_fit 8 75 _ (by kernel_rfl) _ _ _ hfu
  obtain ⟨_, _, _, _, e4, s4, _⟩ := Shape.fit_sl s4
  cases e4
  obtain ⟨z4, hz4, w4, hl4, g4⟩ := Shape.reads_of (f := TFrac.fc) (c := 2) (good := TFrac.Wf) rfl (fun _ h => TFrac.cov h) s4
  clear hA0 hval0
  refine (walk a0_Rules len0_Rules cap0_Rules z0_Rules a1 a2 a3 a4 len4 cap4 z4 W hz0_Rules w0_Rules hl0_Rules g0_Rules w1 w2 w3 hz4 w4 hl4 g4).mono fun e W' ⟨he, bel⟩ => ?_
  subst he
  exact ⟨_, rfl, _, _, _, [], _, [], hW', trodAll_mk1 (shut_bool Try.underlying4 _), (trodAll_cons_mk (Below.trod laidOut (by kernel_rfl) (of_decide_eq_true (by kernel_rfl)) k0 bel lt0) (trodAll_cons_mk (shut_int Try.underlying3 w1) (trodAll_cons_mk (shut_int Try.underlying3 w2) (trodAll_cons_mk (shut_int Try.underlying3 w3) (trodAll_cons_mk (Below.trod laidOut (by kernel_rfl) (of_decide_eq_true (by kernel_rfl)) k4 bel lt4) trodAll_mk0))))), rfl, bel.frame _, fun h => by cases h⟩

theorem over : Rows.fnExactFigureRow.holds Try.pinned (OpenSpec.ofChange Rows.fnExactFigureSpec) :=
  OpenClaim.holds_of_wide 14 Try.f14 rfl rfl rfl rfl rfl rfl rfl ⟨rfl, rfl, rfl, rfl, rfl⟩ rfl rfl rfl rfl rfl (by kernel_rfl) Try.func14 (by kernel_rfl)
    (of_decide_eq_true (by kernel_rfl)) (by unfold Func.isWrapper; first | (rw [if_pos (by decide +kernel)]; kernel_rfl) | (rw [if_neg (by decide +kernel)]; exact ⟨rfl, rfl⟩))
    (fun os started H enc _ => lifted os started H enc)

theorem proved : Rows.FnExactFigureSaid := over
#print axioms proved
end Go.Proofs.Ytkfgflmhefbinaa.fnExactFigure
