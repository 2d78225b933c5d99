/- Proves the given statement of the law FnExactEval: for every input that the row lets in, the law's Go function returns true and every argument reads as before; no condition of mine. -/
import Derived.Test.YtlljhcfiojfimaaNodeS
import Derived.Test.YtlljhcfiojfimaaFormS
import Derived.Test.YtlljhcfiojfimaaEvalS
import Derived.Test.YtlljhcfiojfimaaVarsS
import Derived.Test.YtlljhcfiojfimaaFracLaws
import Derived.Test.YtlljhcfiojfimaaNodeI
import Derived.Test.YtlljhcfiojfimaaFormI
import Derived.Test.YtlljhcfiojfimaaEvalI
import Derived.Test.YtlljhcfiojfimaaOwn
import Derived.Test.YtlljhcfiojfimaaFresh
import Derived.Test.YtlljhcfiojfimaaGrown
import Derived.Test.YtlljhcfiojfimaaBelowKit
import Derived.Test.YtlljhcfiojfimaaTNode
import Derived.Test.YtlljhcfiojfimaaTBool
import Derived.Test.YtlljhcfiojfimaaNodeMath
import Derived.Test.YtlljhcfiojfimaaRows
import Derived.WalkKit
import Derived.ProofKit
import Derived.OpenShut
import Derived.ShutString
import Derived.ChangeOld
import Derived.Below
import Derived.Deep.RegionHeld3
import Derived.Deep.DeepCutAuto
import Derived.Lib.Hide
import Derived.Lib.SmallJoins
import Derived.Test.YtlljhcfiojfimaaShape
import Derived.Test.YtlljhcfiojfimaaTFrac
import Derived.Test.YtlljhcfiojfimaaTNode
namespace Go.Proofs.Ytlljhcfiojfimaa.fnExactEval
open Go.ChangeShapes Go.WideShapes Go.ChangeAt Go.RowKit
open Go.ChangeMaps (open_string shut_string)
set_option linter.unusedVariables false

theorem own : ownKnob Try.prog.godebug = none := by kernel_rfl
theorem laidOut : laidOutB Try.prog = true := by kernel_rfl

/-! ### STEP 1: the walk -/
set_option maxHeartbeats 4000000 in
theorem walk (a0 : Option Addr) (len0 cap0 : Nat) (z0 : List TNode.El) (a1 : Option Addr) (len1 cap1 : Nat) (z1 : List TFrac.El) (w : World) (hz0 : z0.length = len0) (w0 : RowN.Reads TNode.fc 6 w a0 z0) (hl0 : len0 ≤ 9223372036854775807) (g0 : ∀ x ∈ z0, TNode.Wf x) (hz1 : z1.length = len1) (w1 : RowN.Reads TFrac.fc 2 w a1 z1) (hl1 : len1 ≤ 9223372036854775807) (g1 : ∀ x ∈ z1, TFrac.Wf x) :
    Calls Try.prog 8 #[.slice a0 len0 cap0, .slice a1 len1 cap1] w fun e w' => e = .returned (.bool true) ∧ Below w.heap.size w w' := by
  have HR0 := Lib.hid w0
  have HM0 := Lib.hid hz0
  have HR1 := Lib.hid w1
  have HM1 := Lib.hid hz1
  clear w0 hz0 w1 hz1
  by_cases hbig : 1048576 < len0
  · go_enter Try.func8, Try.ntmps8
    go_wp2_with fail
    refine (TNode.sz_c w a0 len0 cap0 1048576 hl0 (by omega) (by omega)).mono ?_
    rintro e w9 ⟨rfl, hb⟩
    rw [if_pos (by omega)]
    have HC9 := Lib.hid hb
    clear hb
    go_wp2
    go_ret
    exact ⟨rfl, HC9.out⟩
  have hs0 : len0 ≤ 1048576 := by omega
  by_cases hbig1 : 1048576 < len0 + len1
  · go_enter Try.func8, Try.ntmps8
    go_wp2_with fail
    refine (TNode.sz_c w a0 len0 cap0 1048576 hl0 (by omega) (by omega)).mono ?_
    rintro e w1 ⟨rfl, hb⟩
    rw [if_neg (by omega)]
    have sw1 : w.heap.size ≤ w1.heap.size := hb.size
    have HC2 := Lib.hid hb
    clear hb
    go_wp2_with fail
    refine (TFrac.sz_c w1 a1 len1 cap1 (1048576 - (len0 : Int)) hl1 (by omega) (by omega)).mono ?_
    rintro e w9 ⟨rfl, hb⟩
    rw [if_pos (by omega)]
    have HC9 := Lib.hid (BelowKit.bl_trans HC2.out hb)
    clear hb
    go_wp2
    go_ret
    exact ⟨rfl, HC9.out⟩
  have hs1 : len0 + len1 ≤ 1048576 := by omega
  obtain ⟨m0_0, hm0_0⟩ : ∃ v, (NodeMath.evalL z0 z1).1 = v := ⟨_, rfl⟩
  have HF0_0 := Lib.hid hm0_0
  clear hm0_0
  obtain ⟨m0_1, hm0_1⟩ : ∃ v, (NodeMath.evalL z0 z1).2.1 = v := ⟨_, rfl⟩
  have HF0_1 := Lib.hid hm0_1
  clear hm0_1
  obtain ⟨m1, hm1⟩ : ∃ v, (NodeMath.evalL z0 z1).2.2 = v := ⟨_, rfl⟩
  have HF1 := Lib.hid hm1
  clear hm1
  go_enter Try.func8, Try.ntmps8
  go_wp2_with fail
  refine (TNode.sz_c w a0 len0 cap0 1048576 hl0 (by omega) (by omega)).mono ?_
  rintro e w3 ⟨rfl, hb⟩
  rw [if_neg (by omega)]
  have sw3 : w.heap.size ≤ w3.heap.size := hb.size
  have HC4 := Lib.hid hb
  clear hb
  go_wp2_with fail
  refine (TFrac.sz_c w3 a1 len1 cap1 (1048576 - (len0 : Int)) hl1 (by omega) (by omega)).mono ?_
  rintro e w5 ⟨rfl, hb⟩
  rw [if_neg (by omega)]
  have sw5 : w3.heap.size ≤ w5.heap.size := hb.size
  have HC6 := Lib.hid (BelowKit.bl_trans HC4.out hb)
  clear HC4 hb
  go_wp2_with fail
  refine (TNode.to_c w5 a0 len0 cap0 z0 HM0.out (by omega) (HR0.out.on HC6.out)).mono ?_
  rintro e w10 ⟨p7, c8, rfl, ho0, hb⟩
  rw [HM0.out] at ho0 ⊢
  have sw10 : w5.heap.size ≤ w10.heap.size := hb.size
  have HC11 := Lib.hid (BelowKit.bl_trans HC6.out hb)
  clear HC6 hb
  have HO12 := Lib.hid (Own.ow_of ho0)
  clear ho0
  go_wp2_with fail
  refine (TFrac.to_c w10 a1 len1 cap1 z1 HM1.out (by omega) (HR1.out.on HC11.out)).mono ?_
  rintro e w16 ⟨p13, c14, rfl, ho0, hb⟩
  rw [HM1.out] at ho0 ⊢
  have sw16 : w10.heap.size ≤ w16.heap.size := hb.size
  have HO17 := Lib.hid (HO12.out.on hb)
  have HC18 := Lib.hid (BelowKit.bl_trans HC11.out hb)
  clear HO12 HC11 hb
  have HO19 := Lib.hid (Own.ow_of ho0)
  clear ho0
  go_wp2_with fail
  refine (EvalS.last_s w16 p7 len0 c8 z0 p13 len1 c14 z1 HM0.out (by omega) (HO17.out.reads TNode.fw) HM1.out (by omega) (HO19.out.reads TFrac.fw)).mono ?_
  rintro e w20 ⟨rfl, hb⟩
  rw [HF0_0.out, HF0_1.out, HF1.out]
  have sw20 : w16.heap.size ≤ w20.heap.size := hb.size
  have HO21 := Lib.hid (HO17.out.on hb)
  have HO22 := Lib.hid (HO19.out.on hb)
  have HC23 := Lib.hid (BelowKit.bl_trans HC18.out hb)
  clear HO17 HO19 HC18 hb
  go_wp2_with fail
  obtain ⟨W24, hW24⟩ : ∃ V : World, V = w20.alloc (.cells #[.int .i64 m0_0, .int .i64 m0_1] 31) := ⟨_, rfl⟩
  rw [← hW24]
  have hb : Below w20.heap.size w20 W24 := by rw [hW24]; (repeat (first | exact Below.refl _ _ | apply BelowKit.bl_alloc | apply BelowKit.bl_drewN | apply BelowKit.bl_drew | (refine BelowKit.bl_set ?_ _ ?_; rotate_left; (first | omega | (simp; omega) | simp)) | (refine BelowKit.bl_trans ?_ (‹Hid (Below _ _ _)›).out)))
  have tW24 : w20.heap.size + 1 ≤ W24.heap.size := by rw [hW24]; simp
  have uW24 : W24.heap.size ≤ w20.heap.size + 1 := by rw [hW24]; simp
  have c25 : W24.cell? ⟨w20.heap.size, 0, none⟩ = some (.int .i64 m0_0) := by rw [hW24]; simp [go_sem]
  have c26 : W24.cell? ⟨w20.heap.size, 1, none⟩ = some (.int .i64 m0_1) := by rw [hW24]; simp [go_sem]
  have z27 : w20.heap.size < W24.heap.size := by omega
  clear hW24
  have sW24 : w20.heap.size ≤ W24.heap.size := hb.size
  have HO28 := Lib.hid (HO21.out.on hb)
  have HO29 := Lib.hid (HO22.out.on hb)
  have HC30 := Lib.hid (BelowKit.bl_trans HC23.out hb)
  clear HO21 HO22 HC23 hb
  refine (TNode.to_c W24 a0 len0 cap0 z0 HM0.out (by omega) (HR0.out.on HC30.out)).mono ?_
  rintro e w34 ⟨p31, c32, rfl, ho0, hb⟩
  rw [HM0.out] at ho0 ⊢
  have sw34 : W24.heap.size ≤ w34.heap.size := hb.size
  have c35 : w34.cell? ⟨w20.heap.size, 0, none⟩ = some (.int .i64 m0_0) := ((BelowKit.bcell hb).1 _ _ z27).trans c25
  have c36 : w34.cell? ⟨w20.heap.size, 1, none⟩ = some (.int .i64 m0_1) := ((BelowKit.bcell hb).1 _ _ z27).trans c26
  have z37 : w20.heap.size < w34.heap.size := by omega
  have HO38 := Lib.hid (HO28.out.on hb)
  have HO39 := Lib.hid (HO29.out.on hb)
  have HC40 := Lib.hid (BelowKit.bl_trans HC30.out hb)
  clear c25 c26 z27 HO28 HO29 HC30 hb
  have HO41 := Lib.hid (Own.ow_of ho0)
  clear ho0
  go_wp2_with fail
  refine (TFrac.to_c w34 a1 len1 cap1 z1 HM1.out (by omega) (HR1.out.on HC40.out)).mono ?_
  rintro e w45 ⟨p42, c43, rfl, ho0, hb⟩
  rw [HM1.out] at ho0 ⊢
  have sw45 : w34.heap.size ≤ w45.heap.size := hb.size
  have c46 : w45.cell? ⟨w20.heap.size, 0, none⟩ = some (.int .i64 m0_0) := ((BelowKit.bcell hb).1 _ _ z37).trans c35
  have c47 : w45.cell? ⟨w20.heap.size, 1, none⟩ = some (.int .i64 m0_1) := ((BelowKit.bcell hb).1 _ _ z37).trans c36
  have z48 : w20.heap.size < w45.heap.size := by omega
  have HO49 := Lib.hid (HO38.out.on hb)
  have HO50 := Lib.hid (HO39.out.on hb)
  have HO51 := Lib.hid (HO41.out.on hb)
  have HC52 := Lib.hid (BelowKit.bl_trans HC40.out hb)
  clear c35 c36 z37 HO38 HO39 HO41 HC40 hb
  have HO53 := Lib.hid (Own.ow_of ho0)
  clear ho0
  go_wp2_with fail
  refine (EvalI.last_i w45 p31 len0 c32 z0 p42 len1 c43 z1 HM0.out (by omega) (HO51.out.reads TNode.fw) HM1.out (by omega) (HO53.out.reads TFrac.fw)).mono ?_
  rintro e w54 ⟨rfl, hb⟩
  rw [HF0_0.out, HF0_1.out, HF1.out]
  have sw54 : w45.heap.size ≤ w54.heap.size := hb.size
  have c55 : w54.cell? ⟨w20.heap.size, 0, none⟩ = some (.int .i64 m0_0) := ((BelowKit.bcell hb).1 _ _ z48).trans c46
  have c56 : w54.cell? ⟨w20.heap.size, 1, none⟩ = some (.int .i64 m0_1) := ((BelowKit.bcell hb).1 _ _ z48).trans c47
  have z57 : w20.heap.size < w54.heap.size := by omega
  have HO58 := Lib.hid (HO49.out.on hb)
  have HO59 := Lib.hid (HO50.out.on hb)
  have HO60 := Lib.hid (HO51.out.on hb)
  have HO61 := Lib.hid (HO53.out.on hb)
  have HC62 := Lib.hid (BelowKit.bl_trans HC52.out hb)
  clear c46 c47 z48 HO49 HO50 HO51 HO53 HC52 hb
  go_wp2_with fail
  obtain ⟨W63, hW63⟩ : ∃ V : World, V = w54.alloc (.cells #[.int .i64 m0_0, .int .i64 m0_1] 31) := ⟨_, rfl⟩
  rw [← hW63]
  have hb : Below w54.heap.size w54 W63 := by rw [hW63]; (repeat (first | exact Below.refl _ _ | apply BelowKit.bl_alloc | apply BelowKit.bl_drewN | apply BelowKit.bl_drew | (refine BelowKit.bl_set ?_ _ ?_; rotate_left; (first | omega | (simp; omega) | simp)) | (refine BelowKit.bl_trans ?_ (‹Hid (Below _ _ _)›).out)))
  have tW63 : w54.heap.size + 1 ≤ W63.heap.size := by rw [hW63]; simp
  have uW63 : W63.heap.size ≤ w54.heap.size + 1 := by rw [hW63]; simp
  have c64 : W63.cell? ⟨w54.heap.size, 0, none⟩ = some (.int .i64 m0_0) := by rw [hW63]; simp [go_sem]
  have c65 : W63.cell? ⟨w54.heap.size, 1, none⟩ = some (.int .i64 m0_1) := by rw [hW63]; simp [go_sem]
  have z66 : w54.heap.size < W63.heap.size := by omega
  clear hW63
  have sW63 : w54.heap.size ≤ W63.heap.size := hb.size
  have c67 : W63.cell? ⟨w20.heap.size, 0, none⟩ = some (.int .i64 m0_0) := ((BelowKit.bcell hb).1 _ _ z57).trans c55
  have c68 : W63.cell? ⟨w20.heap.size, 1, none⟩ = some (.int .i64 m0_1) := ((BelowKit.bcell hb).1 _ _ z57).trans c56
  have z69 : w20.heap.size < W63.heap.size := by omega
  have HO70 := Lib.hid (HO58.out.on hb)
  have HO71 := Lib.hid (HO59.out.on hb)
  have HO72 := Lib.hid (HO60.out.on hb)
  have HO73 := Lib.hid (HO61.out.on hb)
  have HC74 := Lib.hid (BelowKit.bl_trans HC62.out hb)
  clear c55 c56 z57 HO58 HO59 HO60 HO61 HC62 hb
  refine (FracLaws.eq_yes m0_0 m0_1 W63).mono ?_
  rintro e w75 ⟨rfl, hb⟩
  have sw75 : W63.heap.size ≤ w75.heap.size := hb.size
  have c76 : w75.cell? ⟨w20.heap.size, 0, none⟩ = some (.int .i64 m0_0) := ((BelowKit.bcell hb).1 _ _ z69).trans c67
  have c77 : w75.cell? ⟨w20.heap.size, 1, none⟩ = some (.int .i64 m0_1) := ((BelowKit.bcell hb).1 _ _ z69).trans c68
  have z78 : w20.heap.size < w75.heap.size := by omega
  have c79 : w75.cell? ⟨w54.heap.size, 0, none⟩ = some (.int .i64 m0_0) := ((BelowKit.bcell hb).1 _ _ z66).trans c64
  have c80 : w75.cell? ⟨w54.heap.size, 1, none⟩ = some (.int .i64 m0_1) := ((BelowKit.bcell hb).1 _ _ z66).trans c65
  have z81 : w54.heap.size < w75.heap.size := by omega
  have HO82 := Lib.hid (HO70.out.on hb)
  have HO83 := Lib.hid (HO71.out.on hb)
  have HO84 := Lib.hid (HO72.out.on hb)
  have HO85 := Lib.hid (HO73.out.on hb)
  have HC86 := Lib.hid (BelowKit.bl_trans HC74.out hb)
  clear c67 c68 z69 c64 c65 z66 HO70 HO71 HO72 HO73 HC74 hb
  go_wp2_with fail
  refine (TNode.to_c w75 a0 len0 cap0 z0 HM0.out (by omega) (HR0.out.on HC86.out)).mono ?_
  rintro e w90 ⟨p87, c88, rfl, ho0, hb⟩
  rw [HM0.out] at ho0 ⊢
  have sw90 : w75.heap.size ≤ w90.heap.size := hb.size
  have c91 : w90.cell? ⟨w20.heap.size, 0, none⟩ = some (.int .i64 m0_0) := ((BelowKit.bcell hb).1 _ _ z78).trans c76
  have c92 : w90.cell? ⟨w20.heap.size, 1, none⟩ = some (.int .i64 m0_1) := ((BelowKit.bcell hb).1 _ _ z78).trans c77
  have z93 : w20.heap.size < w90.heap.size := by omega
  have c94 : w90.cell? ⟨w54.heap.size, 0, none⟩ = some (.int .i64 m0_0) := ((BelowKit.bcell hb).1 _ _ z81).trans c79
  have c95 : w90.cell? ⟨w54.heap.size, 1, none⟩ = some (.int .i64 m0_1) := ((BelowKit.bcell hb).1 _ _ z81).trans c80
  have z96 : w54.heap.size < w90.heap.size := by omega
  have HO97 := Lib.hid (HO82.out.on hb)
  have HO98 := Lib.hid (HO83.out.on hb)
  have HO99 := Lib.hid (HO84.out.on hb)
  have HO100 := Lib.hid (HO85.out.on hb)
  have HC101 := Lib.hid (BelowKit.bl_trans HC86.out hb)
  clear c76 c77 z78 c79 c80 z81 HO82 HO83 HO84 HO85 HC86 hb
  have HO102 := Lib.hid (Own.ow_of ho0)
  clear ho0
  go_wp2_with fail
  refine (TNode.eq_c w90 len0 c32 c88 p31 p87 z0 HM0.out (by omega) (HO99.out.reads TNode.fw) (HO102.out.reads TNode.fw)).mono ?_
  rintro e w103 ⟨rfl, hb⟩
  have sw103 : w90.heap.size ≤ w103.heap.size := hb.size
  have c104 : w103.cell? ⟨w20.heap.size, 0, none⟩ = some (.int .i64 m0_0) := ((BelowKit.bcell hb).1 _ _ z93).trans c91
  have c105 : w103.cell? ⟨w20.heap.size, 1, none⟩ = some (.int .i64 m0_1) := ((BelowKit.bcell hb).1 _ _ z93).trans c92
  have z106 : w20.heap.size < w103.heap.size := by omega
  have c107 : w103.cell? ⟨w54.heap.size, 0, none⟩ = some (.int .i64 m0_0) := ((BelowKit.bcell hb).1 _ _ z96).trans c94
  have c108 : w103.cell? ⟨w54.heap.size, 1, none⟩ = some (.int .i64 m0_1) := ((BelowKit.bcell hb).1 _ _ z96).trans c95
  have z109 : w54.heap.size < w103.heap.size := by omega
  have HO110 := Lib.hid (HO97.out.on hb)
  have HO111 := Lib.hid (HO98.out.on hb)
  have HO112 := Lib.hid (HO99.out.on hb)
  have HO113 := Lib.hid (HO100.out.on hb)
  have HO114 := Lib.hid (HO102.out.on hb)
  have HC115 := Lib.hid (BelowKit.bl_trans HC101.out hb)
  clear c91 c92 z93 c94 c95 z96 HO97 HO98 HO99 HO100 HO102 HC101 hb
  go_wp2_with fail
  refine (TFrac.to_c w103 a1 len1 cap1 z1 HM1.out (by omega) (HR1.out.on HC115.out)).mono ?_
  rintro e w119 ⟨p116, c117, rfl, ho0, hb⟩
  rw [HM1.out] at ho0 ⊢
  have sw119 : w103.heap.size ≤ w119.heap.size := hb.size
  have c120 : w119.cell? ⟨w20.heap.size, 0, none⟩ = some (.int .i64 m0_0) := ((BelowKit.bcell hb).1 _ _ z106).trans c104
  have c121 : w119.cell? ⟨w20.heap.size, 1, none⟩ = some (.int .i64 m0_1) := ((BelowKit.bcell hb).1 _ _ z106).trans c105
  have z122 : w20.heap.size < w119.heap.size := by omega
  have c123 : w119.cell? ⟨w54.heap.size, 0, none⟩ = some (.int .i64 m0_0) := ((BelowKit.bcell hb).1 _ _ z109).trans c107
  have c124 : w119.cell? ⟨w54.heap.size, 1, none⟩ = some (.int .i64 m0_1) := ((BelowKit.bcell hb).1 _ _ z109).trans c108
  have z125 : w54.heap.size < w119.heap.size := by omega
  have HO126 := Lib.hid (HO110.out.on hb)
  have HO127 := Lib.hid (HO111.out.on hb)
  have HO128 := Lib.hid (HO112.out.on hb)
  have HO129 := Lib.hid (HO113.out.on hb)
  have HO130 := Lib.hid (HO114.out.on hb)
  have HC131 := Lib.hid (BelowKit.bl_trans HC115.out hb)
  clear c104 c105 z106 c107 c108 z109 HO110 HO111 HO112 HO113 HO114 HC115 hb
  have HO132 := Lib.hid (Own.ow_of ho0)
  clear ho0
  go_wp2_with fail
  refine (TFrac.eq_c w119 len1 c43 c117 p42 p116 z1 HM1.out (by omega) (HO129.out.reads TFrac.fw) (HO132.out.reads TFrac.fw)).mono ?_
  rintro e w133 ⟨rfl, hb⟩
  have sw133 : w119.heap.size ≤ w133.heap.size := hb.size
  have c134 : w133.cell? ⟨w20.heap.size, 0, none⟩ = some (.int .i64 m0_0) := ((BelowKit.bcell hb).1 _ _ z122).trans c120
  have c135 : w133.cell? ⟨w20.heap.size, 1, none⟩ = some (.int .i64 m0_1) := ((BelowKit.bcell hb).1 _ _ z122).trans c121
  have z136 : w20.heap.size < w133.heap.size := by omega
  have c137 : w133.cell? ⟨w54.heap.size, 0, none⟩ = some (.int .i64 m0_0) := ((BelowKit.bcell hb).1 _ _ z125).trans c123
  have c138 : w133.cell? ⟨w54.heap.size, 1, none⟩ = some (.int .i64 m0_1) := ((BelowKit.bcell hb).1 _ _ z125).trans c124
  have z139 : w54.heap.size < w133.heap.size := by omega
  have HO140 := Lib.hid (HO126.out.on hb)
  have HO141 := Lib.hid (HO127.out.on hb)
  have HO142 := Lib.hid (HO128.out.on hb)
  have HO143 := Lib.hid (HO129.out.on hb)
  have HO144 := Lib.hid (HO130.out.on hb)
  have HO145 := Lib.hid (HO132.out.on hb)
  have HC146 := Lib.hid (BelowKit.bl_trans HC131.out hb)
  clear c120 c121 z122 c123 c124 z125 HO126 HO127 HO128 HO129 HO130 HO132 HC131 hb
  go_wp2
  go_ret
  exact ⟨rfl, by (repeat (first | exact Below.refl _ _ | apply BelowKit.bl_alloc | apply BelowKit.bl_drewN | apply BelowKit.bl_drew | (refine BelowKit.bl_set ?_ _ ?_; rotate_left; (first | omega | (simp; omega) | simp)) | (refine BelowKit.bl_trans ?_ (‹Hid (Below _ _ _)›).out)))⟩

/-! ### THE ROW's STEP -/
set_option maxRecDepth 100000 in
theorem lifted (os : Os) (started : os.Started) (H : Type) (enc : TypeId × Value → H) :
    ReturnsInHanded {} Try.checked os 8 .any (Rows.fnExactEvalSpec.pre6 enc Try.prog Try.f8 Rows.fnExactEvalRow.domain false) (Rows.fnExactEvalSpec.post enc Try.prog Try.f8 false true false false) := by
  refine returnsInHanded_of_change (C := Try.checked) own started (by kernel_rfl) Try.func8
    (ChangeSpec.witness6 (enc := enc) (C := Try.checked) false ⟨#[], #[.slice none 0 0, .slice none 0 0], []⟩ 8 (by kernel_rfl) (by kernel_rfl) (by kernel_rfl) (by kernel_rfl)) ?_
  intro W base args ds gs before hval0 hW hcnd _
  have hval : ∀ (j : Nat) t v, Try.f8.params[j]? = some t → args[j]? = some v → Value.okWide Try.prog W .any base t v := hval0
  have hW' := hW
  obtain ⟨p, q, hA0, hV, rfl, hfz, hnd⟩ := hW
  have hA : DataW.TrodAll enc Try.prog W 0 (fun _ => true) true Try.f8.params.toList args.toList ds p := hA0
  rw [Try.params8] at hA hval
  obtain ⟨v0, vs0, d0, ds0, p0, q0, hargs, rfl, rfl, h0, r0⟩ := trodAll_cons hA
  obtain ⟨v1, vs1, d1, ds1, p1, q1, rfl, rfl, rfl, h1, r1⟩ := trodAll_cons r0
  obtain ⟨rfl, rfl, rfl⟩ := trodAll_nil r1
  obtain rfl : args = #[v0, v1] := by cases args; simp_all
  obtain ⟨rfl, rfl⟩ := trodVars_none hV
  have k0 := h0
  have lt0 : ∀ x ∈ p0, x.block < W.heap.size := by obtain ⟨m, hm⟩ := k0; exact DataW.trod_lt m _ _ _ hm
  obtain ⟨a0, len0, cap0, rfl⟩ := okWide_slice Try.underlying48 (hval 0 48 v0 rfl rfl)
  have s0 : Shape.FitL W [.sl [.int .i64, .int .i64, .int .i64, .int .i64, .int .i64, .int .i64]] [.slice a0 len0 cap0] := by
    obtain ⟨fu, hfu⟩ := h0
    exact Shape.trod_fit 8 48 _ (by kernel_rfl) _ _ _ hfu
  obtain ⟨_, _, _, _, e0, s0, _⟩ := Shape.fit_sl s0
  cases e0
  obtain ⟨z0, hz0, w0, hl0, g0⟩ := Shape.reads_of (f := TNode.fc) (c := 6) (good := TNode.Wf) rfl (fun _ h => TNode.cov h) s0
  have k1 := h1
  have lt1 : ∀ x ∈ p1, x.block < W.heap.size := by obtain ⟨m, hm⟩ := k1; exact DataW.trod_lt m _ _ _ hm
  obtain ⟨a1, len1, cap1, rfl⟩ := okWide_slice Try.underlying53 (hval 1 53 v1 rfl rfl)
  have s1 : Shape.FitL W [.sl [.int .i64, .int .i64]] [.slice a1 len1 cap1] := by
    obtain ⟨fu, hfu⟩ := h1
    exact Shape.trod_fit 8 53 _ (by kernel_rfl) _ _ _ hfu
  obtain ⟨_, _, _, _, e1, s1, _⟩ := Shape.fit_sl s1
  cases e1
  obtain ⟨z1, hz1, w1, hl1, g1⟩ := Shape.reads_of (f := TFrac.fc) (c := 2) (good := TFrac.Wf) rfl (fun _ h => TFrac.cov h) s1
  clear hA0 hval0
  refine (walk a0 len0 cap0 z0 a1 len1 cap1 z1 W hz0 w0 hl0 g0 hz1 w1 hl1 g1).mono fun e W' ⟨he, bel⟩ => ?_
  subst he
  exact ⟨_, rfl, _, _, _, [], _, [], hW', trodAll_mk1 (shut_bool Try.underlying4 _), (trodAll_cons_mk (Below.trod laidOut (by kernel_rfl) (of_decide_eq_true (by kernel_rfl)) k0 bel lt0) (trodAll_cons_mk (Below.trod laidOut (by kernel_rfl) (of_decide_eq_true (by kernel_rfl)) k1 bel lt1) trodAll_mk0)), rfl, bel.frame _, fun h => by cases h⟩

theorem over : Rows.fnExactEvalRow.holds Try.pinned (OpenSpec.ofChange Rows.fnExactEvalSpec) :=
  OpenClaim.holds_of_wide 8 Try.f8 rfl rfl rfl rfl rfl rfl rfl ⟨rfl, rfl, rfl, rfl, rfl⟩ rfl rfl rfl rfl rfl (by kernel_rfl) Try.func8 (by kernel_rfl)
    (of_decide_eq_true (by kernel_rfl)) (by unfold Func.isWrapper; first | (rw [if_pos (by decide +kernel)]; kernel_rfl) | (rw [if_neg (by decide +kernel)]; exact ⟨rfl, rfl⟩))
    (fun os started H enc _ => lifted os started H enc)

theorem proved : Rows.FnExactEvalSaid := over
#print axioms proved
end Go.Proofs.Ytlljhcfiojfimaa.fnExactEval
