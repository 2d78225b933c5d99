/- Proves the given statement of the law FnExactEvalAll: for every input that the row lets in, the law's Go function returns true and every argument reads as before; no condition of mine. -/
import Derived.Test.YtlljhcfiojfimaaNodeS
import Derived.Test.YtlljhcfiojfimaaFormS
import Derived.Test.YtlljhcfiojfimaaEvalS
import Derived.Test.YtlljhcfiojfimaaVarsS
import Derived.Test.YtlljhcfiojfimaaFracLaws
import Derived.Test.YtlljhcfiojfimaaNodeI
import Derived.Test.YtlljhcfiojfimaaFormI
import Derived.Test.YtlljhcfiojfimaaEvalI
import Derived.Test.YtlljhcfiojfimaaOwn
import Derived.Test.YtlljhcfiojfimaaFresh
import Derived.Test.YtlljhcfiojfimaaGrown
import Derived.Test.YtlljhcfiojfimaaBelowKit
import Derived.Test.YtlljhcfiojfimaaTNode
import Derived.Test.YtlljhcfiojfimaaTBool
import Derived.Test.YtlljhcfiojfimaaNodeMath
import Derived.Test.YtlljhcfiojfimaaRows
import Derived.WalkKit
import Derived.ProofKit
import Derived.OpenShut
import Derived.ShutString
import Derived.ChangeOld
import Derived.Below
import Derived.Deep.RegionHeld3
import Derived.Deep.DeepCutAuto
import Derived.Lib.Hide
import Derived.Lib.SmallJoins
import Derived.Test.YtlljhcfiojfimaaShape
import Derived.Test.YtlljhcfiojfimaaTFrac
import Derived.Test.YtlljhcfiojfimaaTNode
namespace Go.Proofs.Ytlljhcfiojfimaa.fnExactEvalAll
open Go.ChangeShapes Go.WideShapes Go.ChangeAt Go.RowKit
open Go.ChangeMaps (open_string shut_string)
set_option linter.unusedVariables false

theorem own : ownKnob Try.prog.godebug = none := by kernel_rfl
theorem laidOut : laidOutB Try.prog = true := by kernel_rfl

/-! ### STEP 1: the walk -/
set_option maxHeartbeats 4000000 in
theorem walk (a0 : Option Addr) (len0 cap0 : Nat) (z0 : List TNode.El) (a1 : Option Addr) (len1 cap1 : Nat) (z1 : List TFrac.El) (w : World) (hz0 : z0.length = len0) (w0 : RowN.Reads TNode.fc 6 w a0 z0) (hl0 : len0 ≤ 9223372036854775807) (g0 : ∀ x ∈ z0, TNode.Wf x) (hz1 : z1.length = len1) (w1 : RowN.Reads TFrac.fc 2 w a1 z1) (hl1 : len1 ≤ 9223372036854775807) (g1 : ∀ x ∈ z1, TFrac.Wf x) :
    Calls Try.prog 7 #[.slice a0 len0 cap0, .slice a1 len1 cap1] w fun e w' => e = .returned (.bool true) ∧ Below w.heap.size w w' := by
  have HR0 := Lib.hid w0
  have HM0 := Lib.hid hz0
  have HR1 := Lib.hid w1
  have HM1 := Lib.hid hz1
  clear w0 hz0 w1 hz1
  by_cases hbig : 1048576 < len0
  · go_enter Try.func7, Try.ntmps7
    go_wp2_with fail
    refine (TNode.sz_c w a0 len0 cap0 1048576 hl0 (by omega) (by omega)).mono ?_
    rintro e w9 ⟨rfl, hb⟩
    rw [if_pos (by omega)]
    have HC9 := Lib.hid hb
    clear hb
    go_wp2
    go_ret
    exact ⟨rfl, HC9.out⟩
  have hs0 : len0 ≤ 1048576 := by omega
  by_cases hbig1 : 1048576 < len0 + len1
  · go_enter Try.func7, Try.ntmps7
    go_wp2_with fail
    refine (TNode.sz_c w a0 len0 cap0 1048576 hl0 (by omega) (by omega)).mono ?_
    rintro e w1 ⟨rfl, hb⟩
    rw [if_neg (by omega)]
    have sw1 : w.heap.size ≤ w1.heap.size := hb.size
    have HC2 := Lib.hid hb
    clear hb
    go_wp2_with fail
    refine (TFrac.sz_c w1 a1 len1 cap1 (1048576 - (len0 : Int)) hl1 (by omega) (by omega)).mono ?_
    rintro e w9 ⟨rfl, hb⟩
    rw [if_pos (by omega)]
    have HC9 := Lib.hid (BelowKit.bl_trans HC2.out hb)
    clear hb
    go_wp2
    go_ret
    exact ⟨rfl, HC9.out⟩
  have hs1 : len0 + len1 ≤ 1048576 := by omega
  obtain ⟨m0, hm0⟩ : ∃ v, (NodeMath.evalAll z0 z1).1 = v := ⟨_, rfl⟩
  have hbm0 : m0.length ≤ 1099511627776 := by rw [← hm0]; exact Nat.le_trans (NodeMath.evalAll_len _ _ (by have := HM0.out; omega)) (by omega)
  obtain ⟨nm0, hnm0⟩ : ∃ n, m0.length = n := ⟨_, rfl⟩
  rw [hnm0] at hbm0
  have HF0 := Lib.hid hm0
  have HN0 := Lib.hid hnm0
  clear hm0 hnm0
  obtain ⟨m1, hm1⟩ : ∃ v, (NodeMath.evalAll z0 z1).2 = v := ⟨_, rfl⟩
  have HF1 := Lib.hid hm1
  clear hm1
  go_enter Try.func7, Try.ntmps7
  go_wp2_with fail
  refine (TNode.sz_c w a0 len0 cap0 1048576 hl0 (by omega) (by omega)).mono ?_
  rintro e w3 ⟨rfl, hb⟩
  rw [if_neg (by omega)]
  have sw3 : w.heap.size ≤ w3.heap.size := hb.size
  have HC4 := Lib.hid hb
  clear hb
  go_wp2_with fail
  refine (TFrac.sz_c w3 a1 len1 cap1 (1048576 - (len0 : Int)) hl1 (by omega) (by omega)).mono ?_
  rintro e w5 ⟨rfl, hb⟩
  rw [if_neg (by omega)]
  have sw5 : w3.heap.size ≤ w5.heap.size := hb.size
  have HC6 := Lib.hid (BelowKit.bl_trans HC4.out hb)
  clear HC4 hb
  go_wp2_with fail
  refine (TNode.to_c w5 a0 len0 cap0 z0 HM0.out (by omega) (HR0.out.on HC6.out)).mono ?_
  rintro e w10 ⟨p7, c8, rfl, ho0, hb⟩
  rw [HM0.out] at ho0 ⊢
  have sw10 : w5.heap.size ≤ w10.heap.size := hb.size
  have HC11 := Lib.hid (BelowKit.bl_trans HC6.out hb)
  clear HC6 hb
  have HO12 := Lib.hid (Own.ow_of ho0)
  clear ho0
  go_wp2_with fail
  refine (TFrac.to_c w10 a1 len1 cap1 z1 HM1.out (by omega) (HR1.out.on HC11.out)).mono ?_
  rintro e w16 ⟨p13, c14, rfl, ho0, hb⟩
  rw [HM1.out] at ho0 ⊢
  have sw16 : w10.heap.size ≤ w16.heap.size := hb.size
  have HO17 := Lib.hid (HO12.out.on hb)
  have HC18 := Lib.hid (BelowKit.bl_trans HC11.out hb)
  clear HO12 HC11 hb
  have HO19 := Lib.hid (Own.ow_of ho0)
  clear ho0
  go_wp2_with fail
  refine (EvalS.eval_s w16 p7 len0 c8 z0 p13 len1 c14 z1 HM0.out (by omega) (HO17.out.reads TNode.fw) HM1.out (by omega) (HO19.out.reads TFrac.fw)).mono ?_
  rintro e w23 ⟨p20, c21, rfl, ho0, hb⟩
  try rw [HF0.out] at ho0
  try rw [HF0.out]
  try rw [HF1.out] at ho0
  try rw [HF1.out]
  try rw [HN0.out] at ho0
  try rw [HN0.out]
  have sw23 : w16.heap.size ≤ w23.heap.size := hb.size
  have HO24 := Lib.hid (HO17.out.on hb)
  have HO25 := Lib.hid (HO19.out.on hb)
  have HC26 := Lib.hid (BelowKit.bl_trans HC18.out hb)
  clear HO17 HO19 HC18 hb
  have HO27 := Lib.hid (Own.ow_of ho0)
  clear ho0
  go_wp2_with fail
  refine (TNode.to_c w23 a0 len0 cap0 z0 HM0.out (by omega) (HR0.out.on HC26.out)).mono ?_
  rintro e w31 ⟨p28, c29, rfl, ho0, hb⟩
  rw [HM0.out] at ho0 ⊢
  have sw31 : w23.heap.size ≤ w31.heap.size := hb.size
  have HO32 := Lib.hid (HO24.out.on hb)
  have HO33 := Lib.hid (HO25.out.on hb)
  have HO34 := Lib.hid (HO27.out.on hb)
  have HC35 := Lib.hid (BelowKit.bl_trans HC26.out hb)
  clear HO24 HO25 HO27 HC26 hb
  have HO36 := Lib.hid (Own.ow_of ho0)
  clear ho0
  go_wp2_with fail
  refine (TFrac.to_c w31 a1 len1 cap1 z1 HM1.out (by omega) (HR1.out.on HC35.out)).mono ?_
  rintro e w40 ⟨p37, c38, rfl, ho0, hb⟩
  rw [HM1.out] at ho0 ⊢
  have sw40 : w31.heap.size ≤ w40.heap.size := hb.size
  have HO41 := Lib.hid (HO32.out.on hb)
  have HO42 := Lib.hid (HO33.out.on hb)
  have HO43 := Lib.hid (HO34.out.on hb)
  have HO44 := Lib.hid (HO36.out.on hb)
  have HC45 := Lib.hid (BelowKit.bl_trans HC35.out hb)
  clear HO32 HO33 HO34 HO36 HC35 hb
  have HO46 := Lib.hid (Own.ow_of ho0)
  clear ho0
  go_wp2_with fail
  refine (EvalI.eval_i w40 p28 len0 c29 z0 p37 len1 c38 z1 HM0.out (by omega) (HO44.out.reads TNode.fw) HM1.out (by omega) (HO46.out.reads TFrac.fw)).mono ?_
  rintro e w50 ⟨p47, c48, rfl, ho0, hb⟩
  try rw [HF0.out] at ho0
  try rw [HF0.out]
  try rw [HF1.out] at ho0
  try rw [HF1.out]
  try rw [HN0.out] at ho0
  try rw [HN0.out]
  have sw50 : w40.heap.size ≤ w50.heap.size := hb.size
  have HO51 := Lib.hid (HO41.out.on hb)
  have HO52 := Lib.hid (HO42.out.on hb)
  have HO53 := Lib.hid (HO43.out.on hb)
  have HO54 := Lib.hid (HO44.out.on hb)
  have HO55 := Lib.hid (HO46.out.on hb)
  have HC56 := Lib.hid (BelowKit.bl_trans HC45.out hb)
  clear HO41 HO42 HO43 HO44 HO46 HC45 hb
  have HO57 := Lib.hid (Own.ow_of ho0)
  clear ho0
  go_wp2_with fail
  refine (TFrac.eq_c w50 nm0 c48 c21 p47 p20 m0 HN0.out (by omega) (HO57.out.reads TFrac.fw) (HO53.out.reads TFrac.fw)).mono ?_
  rintro e w58 ⟨rfl, hb⟩
  have sw58 : w50.heap.size ≤ w58.heap.size := hb.size
  have HO59 := Lib.hid (HO51.out.on hb)
  have HO60 := Lib.hid (HO52.out.on hb)
  have HO61 := Lib.hid (HO53.out.on hb)
  have HO62 := Lib.hid (HO54.out.on hb)
  have HO63 := Lib.hid (HO55.out.on hb)
  have HO64 := Lib.hid (HO57.out.on hb)
  have HC65 := Lib.hid (BelowKit.bl_trans HC56.out hb)
  clear HO51 HO52 HO53 HO54 HO55 HO57 HC56 hb
  go_wp2_with fail
  refine (TNode.to_c w58 a0 len0 cap0 z0 HM0.out (by omega) (HR0.out.on HC65.out)).mono ?_
  rintro e w69 ⟨p66, c67, rfl, ho0, hb⟩
  rw [HM0.out] at ho0 ⊢
  have sw69 : w58.heap.size ≤ w69.heap.size := hb.size
  have HO70 := Lib.hid (HO59.out.on hb)
  have HO71 := Lib.hid (HO60.out.on hb)
  have HO72 := Lib.hid (HO61.out.on hb)
  have HO73 := Lib.hid (HO62.out.on hb)
  have HO74 := Lib.hid (HO63.out.on hb)
  have HO75 := Lib.hid (HO64.out.on hb)
  have HC76 := Lib.hid (BelowKit.bl_trans HC65.out hb)
  clear HO59 HO60 HO61 HO62 HO63 HO64 HC65 hb
  have HO77 := Lib.hid (Own.ow_of ho0)
  clear ho0
  go_wp2_with fail
  refine (TNode.eq_c w69 len0 c29 c67 p28 p66 z0 HM0.out (by omega) (HO73.out.reads TNode.fw) (HO77.out.reads TNode.fw)).mono ?_
  rintro e w78 ⟨rfl, hb⟩
  have sw78 : w69.heap.size ≤ w78.heap.size := hb.size
  have HO79 := Lib.hid (HO70.out.on hb)
  have HO80 := Lib.hid (HO71.out.on hb)
  have HO81 := Lib.hid (HO72.out.on hb)
  have HO82 := Lib.hid (HO73.out.on hb)
  have HO83 := Lib.hid (HO74.out.on hb)
  have HO84 := Lib.hid (HO75.out.on hb)
  have HO85 := Lib.hid (HO77.out.on hb)
  have HC86 := Lib.hid (BelowKit.bl_trans HC76.out hb)
  clear HO70 HO71 HO72 HO73 HO74 HO75 HO77 HC76 hb
  go_wp2_with fail
  refine (TFrac.to_c w78 a1 len1 cap1 z1 HM1.out (by omega) (HR1.out.on HC86.out)).mono ?_
  rintro e w90 ⟨p87, c88, rfl, ho0, hb⟩
  rw [HM1.out] at ho0 ⊢
  have sw90 : w78.heap.size ≤ w90.heap.size := hb.size
  have HO91 := Lib.hid (HO79.out.on hb)
  have HO92 := Lib.hid (HO80.out.on hb)
  have HO93 := Lib.hid (HO81.out.on hb)
  have HO94 := Lib.hid (HO82.out.on hb)
  have HO95 := Lib.hid (HO83.out.on hb)
  have HO96 := Lib.hid (HO84.out.on hb)
  have HO97 := Lib.hid (HO85.out.on hb)
  have HC98 := Lib.hid (BelowKit.bl_trans HC86.out hb)
  clear HO79 HO80 HO81 HO82 HO83 HO84 HO85 HC86 hb
  have HO99 := Lib.hid (Own.ow_of ho0)
  clear ho0
  go_wp2_with fail
  refine (TFrac.eq_c w90 len1 c38 c88 p37 p87 z1 HM1.out (by omega) (HO95.out.reads TFrac.fw) (HO99.out.reads TFrac.fw)).mono ?_
  rintro e w100 ⟨rfl, hb⟩
  have sw100 : w90.heap.size ≤ w100.heap.size := hb.size
  have HO101 := Lib.hid (HO91.out.on hb)
  have HO102 := Lib.hid (HO92.out.on hb)
  have HO103 := Lib.hid (HO93.out.on hb)
  have HO104 := Lib.hid (HO94.out.on hb)
  have HO105 := Lib.hid (HO95.out.on hb)
  have HO106 := Lib.hid (HO96.out.on hb)
  have HO107 := Lib.hid (HO97.out.on hb)
  have HO108 := Lib.hid (HO99.out.on hb)
  have HC109 := Lib.hid (BelowKit.bl_trans HC98.out hb)
  clear HO91 HO92 HO93 HO94 HO95 HO96 HO97 HO99 HC98 hb
  go_wp2_with fail
  refine (TNode.mark_c w100 w23.heap.size w31.heap.size p28 len0 c29 z0 1 HM0.out (by omega) (by omega) (by omega) HO104.out (by omega)).mono ?_
  rintro e w110 ⟨rfl, ho, hm⟩
  have sw110 : w100.heap.size ≤ w110.heap.size := hm.low.size
  have HO111 := Lib.hid (HO101.out.mid hm (by omega))
  have HO112 := Lib.hid (HO102.out.mid hm (by omega))
  have HO113 := Lib.hid (HO103.out.mid hm (by omega))
  have HO115 := Lib.hid (HO105.out.mid hm (by omega))
  have HO116 := Lib.hid (HO106.out.mid hm (by omega))
  have HO117 := Lib.hid (HO107.out.mid hm (by omega))
  have HO118 := Lib.hid (HO108.out.mid hm (by omega))
  have HC119 := Lib.hid (HC109.out.trans (hm.low.mono (by omega)))
  clear HO101 HO102 HO103 HO105 HO106 HO107 HO108 HC109 hm
  have HO120 := Lib.hid ho
  clear ho HO104
  have HM121 : Hid ((TNode.marks 1 len0).length = len0) := Lib.hid (TNode.marks_len _ _)
  go_wp2_with fail
  refine (TFrac.mark_c w110 w31.heap.size w40.heap.size p37 len1 c38 z1 (1 + 6 * (len0 : Int)) HM1.out (by omega) (by omega) (by omega) HO115.out (by omega)).mono ?_
  rintro e w122 ⟨rfl, ho, hm⟩
  have sw122 : w110.heap.size ≤ w122.heap.size := hm.low.size
  have HO123 := Lib.hid (HO111.out.mid hm (by omega))
  have HO124 := Lib.hid (HO112.out.mid hm (by omega))
  have HO125 := Lib.hid (HO113.out.mid hm (by omega))
  have HO126 := Lib.hid (HO120.out.mid hm (by omega))
  have HO128 := Lib.hid (HO116.out.mid hm (by omega))
  have HO129 := Lib.hid (HO117.out.mid hm (by omega))
  have HO130 := Lib.hid (HO118.out.mid hm (by omega))
  have HC131 := Lib.hid (HC119.out.trans (hm.low.mono (by omega)))
  clear HO111 HO112 HO113 HO120 HO116 HO117 HO118 HC119 hm
  have HO132 := Lib.hid ho
  clear ho HO115
  have HM133 : Hid ((TFrac.marks (1 + 6 * (len0 : Int)) len1).length = len1) := Lib.hid (TFrac.marks_len _ _)
  go_wp2_with fail
  refine (TFrac.eq_c w122 nm0 c48 c21 p47 p20 m0 HN0.out (by omega) (HO128.out.reads TFrac.fw) (HO125.out.reads TFrac.fw)).mono ?_
  rintro e w134 ⟨rfl, hb⟩
  have sw134 : w122.heap.size ≤ w134.heap.size := hb.size
  have HO135 := Lib.hid (HO123.out.on hb)
  have HO136 := Lib.hid (HO124.out.on hb)
  have HO137 := Lib.hid (HO125.out.on hb)
  have HO138 := Lib.hid (HO126.out.on hb)
  have HO139 := Lib.hid (HO132.out.on hb)
  have HO140 := Lib.hid (HO128.out.on hb)
  have HO141 := Lib.hid (HO129.out.on hb)
  have HO142 := Lib.hid (HO130.out.on hb)
  have HC143 := Lib.hid (BelowKit.bl_trans HC131.out hb)
  clear HO123 HO124 HO125 HO126 HO132 HO128 HO129 HO130 HC131 hb
  go_wp2_with fail
  refine (TFrac.mark_c w134 w40.heap.size w50.heap.size p47 nm0 c48 m0 1 HN0.out (by omega) (by omega) (by omega) HO140.out (by omega)).mono ?_
  rintro e w144 ⟨rfl, ho, hm⟩
  have sw144 : w134.heap.size ≤ w144.heap.size := hm.low.size
  have HO145 := Lib.hid (HO135.out.mid hm (by omega))
  have HO146 := Lib.hid (HO136.out.mid hm (by omega))
  have HO147 := Lib.hid (HO137.out.mid hm (by omega))
  have HO148 := Lib.hid (HO138.out.mid hm (by omega))
  have HO149 := Lib.hid (HO139.out.mid hm (by omega))
  have HO151 := Lib.hid (HO141.out.mid hm (by omega))
  have HO152 := Lib.hid (HO142.out.mid hm (by omega))
  have HC153 := Lib.hid (HC143.out.trans (hm.low.mono (by omega)))
  clear HO135 HO136 HO137 HO138 HO139 HO141 HO142 HC143 hm
  have HO154 := Lib.hid ho
  clear ho HO140
  have HM155 : Hid ((TFrac.marks 1 nm0).length = nm0) := Lib.hid (TFrac.marks_len _ _)
  go_wp2_with fail
  refine (TFrac.held_c w144 p47 nm0 c48 1 (by omega) (by omega) (by omega) (HO154.out.reads TFrac.fw)).mono ?_
  rintro e w156 ⟨rfl, hb⟩
  have sw156 : w144.heap.size ≤ w156.heap.size := hb.size
  have HO157 := Lib.hid (HO145.out.on hb)
  have HO158 := Lib.hid (HO146.out.on hb)
  have HO159 := Lib.hid (HO147.out.on hb)
  have HO160 := Lib.hid (HO148.out.on hb)
  have HO161 := Lib.hid (HO149.out.on hb)
  have HO162 := Lib.hid (HO154.out.on hb)
  have HO163 := Lib.hid (HO151.out.on hb)
  have HO164 := Lib.hid (HO152.out.on hb)
  have HC165 := Lib.hid (BelowKit.bl_trans HC153.out hb)
  clear HO145 HO146 HO147 HO148 HO149 HO154 HO151 HO152 HC153 hb
  go_wp2_with fail
  refine (TNode.to_c w156 a0 len0 cap0 z0 HM0.out (by omega) (HR0.out.on HC165.out)).mono ?_
  rintro e w169 ⟨p166, c167, rfl, ho0, hb⟩
  rw [HM0.out] at ho0 ⊢
  have sw169 : w156.heap.size ≤ w169.heap.size := hb.size
  have HO170 := Lib.hid (HO157.out.on hb)
  have HO171 := Lib.hid (HO158.out.on hb)
  have HO172 := Lib.hid (HO159.out.on hb)
  have HO173 := Lib.hid (HO160.out.on hb)
  have HO174 := Lib.hid (HO161.out.on hb)
  have HO175 := Lib.hid (HO162.out.on hb)
  have HO176 := Lib.hid (HO163.out.on hb)
  have HO177 := Lib.hid (HO164.out.on hb)
  have HC178 := Lib.hid (BelowKit.bl_trans HC165.out hb)
  clear HO157 HO158 HO159 HO160 HO161 HO162 HO163 HO164 HC165 hb
  have HO179 := Lib.hid (Own.ow_of ho0)
  clear ho0
  go_wp2_with fail
  refine (TFrac.to_c w169 a1 len1 cap1 z1 HM1.out (by omega) (HR1.out.on HC178.out)).mono ?_
  rintro e w183 ⟨p180, c181, rfl, ho0, hb⟩
  rw [HM1.out] at ho0 ⊢
  have sw183 : w169.heap.size ≤ w183.heap.size := hb.size
  have HO184 := Lib.hid (HO170.out.on hb)
  have HO185 := Lib.hid (HO171.out.on hb)
  have HO186 := Lib.hid (HO172.out.on hb)
  have HO187 := Lib.hid (HO173.out.on hb)
  have HO188 := Lib.hid (HO174.out.on hb)
  have HO189 := Lib.hid (HO175.out.on hb)
  have HO190 := Lib.hid (HO176.out.on hb)
  have HO191 := Lib.hid (HO177.out.on hb)
  have HO192 := Lib.hid (HO179.out.on hb)
  have HC193 := Lib.hid (BelowKit.bl_trans HC178.out hb)
  clear HO170 HO171 HO172 HO173 HO174 HO175 HO176 HO177 HO179 HC178 hb
  have HO194 := Lib.hid (Own.ow_of ho0)
  clear ho0
  go_wp2_with fail
  refine (EvalI.eval_i w183 p166 len0 c167 z0 p180 len1 c181 z1 HM0.out (by omega) (HO192.out.reads TNode.fw) HM1.out (by omega) (HO194.out.reads TFrac.fw)).mono ?_
  rintro e w198 ⟨p195, c196, rfl, ho0, hb⟩
  try rw [HF0.out] at ho0
  try rw [HF0.out]
  try rw [HF1.out] at ho0
  try rw [HF1.out]
  try rw [HN0.out] at ho0
  try rw [HN0.out]
  have sw198 : w183.heap.size ≤ w198.heap.size := hb.size
  have HO199 := Lib.hid (HO184.out.on hb)
  have HO200 := Lib.hid (HO185.out.on hb)
  have HO201 := Lib.hid (HO186.out.on hb)
  have HO202 := Lib.hid (HO187.out.on hb)
  have HO203 := Lib.hid (HO188.out.on hb)
  have HO204 := Lib.hid (HO189.out.on hb)
  have HO205 := Lib.hid (HO190.out.on hb)
  have HO206 := Lib.hid (HO191.out.on hb)
  have HO207 := Lib.hid (HO192.out.on hb)
  have HO208 := Lib.hid (HO194.out.on hb)
  have HC209 := Lib.hid (BelowKit.bl_trans HC193.out hb)
  clear HO184 HO185 HO186 HO187 HO188 HO189 HO190 HO191 HO192 HO194 HC193 hb
  have HO210 := Lib.hid (Own.ow_of ho0)
  clear ho0
  go_wp2_with fail
  refine (TFrac.eq_c w198 nm0 c196 c21 p195 p20 m0 HN0.out (by omega) (HO210.out.reads TFrac.fw) (HO201.out.reads TFrac.fw)).mono ?_
  rintro e w211 ⟨rfl, hb⟩
  have sw211 : w198.heap.size ≤ w211.heap.size := hb.size
  have HO212 := Lib.hid (HO199.out.on hb)
  have HO213 := Lib.hid (HO200.out.on hb)
  have HO214 := Lib.hid (HO201.out.on hb)
  have HO215 := Lib.hid (HO202.out.on hb)
  have HO216 := Lib.hid (HO203.out.on hb)
  have HO217 := Lib.hid (HO204.out.on hb)
  have HO218 := Lib.hid (HO205.out.on hb)
  have HO219 := Lib.hid (HO206.out.on hb)
  have HO220 := Lib.hid (HO207.out.on hb)
  have HO221 := Lib.hid (HO208.out.on hb)
  have HO222 := Lib.hid (HO210.out.on hb)
  have HC223 := Lib.hid (BelowKit.bl_trans HC209.out hb)
  clear HO199 HO200 HO201 HO202 HO203 HO204 HO205 HO206 HO207 HO208 HO210 HC209 hb
  go_wp2_with fail
  refine (TFrac.held_c w211 p47 nm0 c48 1 (by omega) (by omega) (by omega) (HO217.out.reads TFrac.fw)).mono ?_
  rintro e w224 ⟨rfl, hb⟩
  have sw224 : w211.heap.size ≤ w224.heap.size := hb.size
  have HO225 := Lib.hid (HO212.out.on hb)
  have HO226 := Lib.hid (HO213.out.on hb)
  have HO227 := Lib.hid (HO214.out.on hb)
  have HO228 := Lib.hid (HO215.out.on hb)
  have HO229 := Lib.hid (HO216.out.on hb)
  have HO230 := Lib.hid (HO217.out.on hb)
  have HO231 := Lib.hid (HO218.out.on hb)
  have HO232 := Lib.hid (HO219.out.on hb)
  have HO233 := Lib.hid (HO220.out.on hb)
  have HO234 := Lib.hid (HO221.out.on hb)
  have HO235 := Lib.hid (HO222.out.on hb)
  have HC236 := Lib.hid (BelowKit.bl_trans HC223.out hb)
  clear HO212 HO213 HO214 HO215 HO216 HO217 HO218 HO219 HO220 HO221 HO222 HC223 hb
  go_wp2
  go_ret
  exact ⟨rfl, by (repeat (first | exact Below.refl _ _ | apply BelowKit.bl_alloc | apply BelowKit.bl_drewN | apply BelowKit.bl_drew | (refine BelowKit.bl_set ?_ _ ?_; rotate_left; (first | omega | (simp; omega) | simp)) | (refine BelowKit.bl_trans ?_ (‹Hid (Below _ _ _)›).out)))⟩

/-! ### THE ROW's STEP -/
set_option maxRecDepth 100000 in
theorem lifted (os : Os) (started : os.Started) (H : Type) (enc : TypeId × Value → H) :
    ReturnsInHanded {} Try.checked os 7 .any (Rows.fnExactEvalAllSpec.pre6 enc Try.prog Try.f7 Rows.fnExactEvalAllRow.domain false) (Rows.fnExactEvalAllSpec.post enc Try.prog Try.f7 false true false false) := by
  refine returnsInHanded_of_change (C := Try.checked) own started (by kernel_rfl) Try.func7
    (ChangeSpec.witness6 (enc := enc) (C := Try.checked) false ⟨#[], #[.slice none 0 0, .slice none 0 0], []⟩ 8 (by kernel_rfl) (by kernel_rfl) (by kernel_rfl) (by kernel_rfl)) ?_
  intro W base args ds gs before hval0 hW hcnd _
  have hval : ∀ (j : Nat) t v, Try.f7.params[j]? = some t → args[j]? = some v → Value.okWide Try.prog W .any base t v := hval0
  have hW' := hW
  obtain ⟨p, q, hA0, hV, rfl, hfz, hnd⟩ := hW
  have hA : DataW.TrodAll enc Try.prog W 0 (fun _ => true) true Try.f7.params.toList args.toList ds p := hA0
  rw [Try.params7] at hA hval
  obtain ⟨v0, vs0, d0, ds0, p0, q0, hargs, rfl, rfl, h0, r0⟩ := trodAll_cons hA
  obtain ⟨v1, vs1, d1, ds1, p1, q1, rfl, rfl, rfl, h1, r1⟩ := trodAll_cons r0
  obtain ⟨rfl, rfl, rfl⟩ := trodAll_nil r1
  obtain rfl : args = #[v0, v1] := by cases args; simp_all
  obtain ⟨rfl, rfl⟩ := trodVars_none hV
  have k0 := h0
  have lt0 : ∀ x ∈ p0, x.block < W.heap.size := by obtain ⟨m, hm⟩ := k0; exact DataW.trod_lt m _ _ _ hm
  obtain ⟨a0, len0, cap0, rfl⟩ := okWide_slice Try.underlying48 (hval 0 48 v0 rfl rfl)
  have s0 : Shape.FitL W [.sl [.int .i64, .int .i64, .int .i64, .int .i64, .int .i64, .int .i64]] [.slice a0 len0 cap0] := by
    obtain ⟨fu, hfu⟩ := h0
    exact Shape.trod_fit 8 48 _ (by kernel_rfl) _ _ _ hfu
  obtain ⟨_, _, _, _, e0, s0, _⟩ := Shape.fit_sl s0
  cases e0
  obtain ⟨z0, hz0, w0, hl0, g0⟩ := Shape.reads_of (f := TNode.fc) (c := 6) (good := TNode.Wf) rfl (fun _ h => TNode.cov h) s0
  have k1 := h1
  have lt1 : ∀ x ∈ p1, x.block < W.heap.size := by obtain ⟨m, hm⟩ := k1; exact DataW.trod_lt m _ _ _ hm
  obtain ⟨a1, len1, cap1, rfl⟩ := okWide_slice Try.underlying53 (hval 1 53 v1 rfl rfl)
  have s1 : Shape.FitL W [.sl [.int .i64, .int .i64]] [.slice a1 len1 cap1] := by
    obtain ⟨fu, hfu⟩ := h1
    exact Shape.trod_fit 8 53 _ (by kernel_rfl) _ _ _ hfu
  obtain ⟨_, _, _, _, e1, s1, _⟩ := Shape.fit_sl s1
  cases e1
  obtain ⟨z1, hz1, w1, hl1, g1⟩ := Shape.reads_of (f := TFrac.fc) (c := 2) (good := TFrac.Wf) rfl (fun _ h => TFrac.cov h) s1
  clear hA0 hval0
  refine (walk a0 len0 cap0 z0 a1 len1 cap1 z1 W hz0 w0 hl0 g0 hz1 w1 hl1 g1).mono fun e W' ⟨he, bel⟩ => ?_
  subst he
  exact ⟨_, rfl, _, _, _, [], _, [], hW', trodAll_mk1 (shut_bool Try.underlying4 _), (trodAll_cons_mk (Below.trod laidOut (by kernel_rfl) (of_decide_eq_true (by kernel_rfl)) k0 bel lt0) (trodAll_cons_mk (Below.trod laidOut (by kernel_rfl) (of_decide_eq_true (by kernel_rfl)) k1 bel lt1) trodAll_mk0)), rfl, bel.frame _, fun h => by cases h⟩

theorem over : Rows.fnExactEvalAllRow.holds Try.pinned (OpenSpec.ofChange Rows.fnExactEvalAllSpec) :=
  OpenClaim.holds_of_wide 7 Try.f7 rfl rfl rfl rfl rfl rfl rfl ⟨rfl, rfl, rfl, rfl, rfl⟩ rfl rfl rfl rfl rfl (by kernel_rfl) Try.func7 (by kernel_rfl)
    (of_decide_eq_true (by kernel_rfl)) (by unfold Func.isWrapper; first | (rw [if_pos (by decide +kernel)]; kernel_rfl) | (rw [if_neg (by decide +kernel)]; exact ⟨rfl, rfl⟩))
    (fun os started H enc _ => lifted os started H enc)

theorem proved : Rows.FnExactEvalAllSaid := over
#print axioms proved
end Go.Proofs.Ytlljhcfiojfimaa.fnExactEvalAll
