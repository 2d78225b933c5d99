/- Proves the given statement of the law FnExactRevisionsOf: for every input that the row lets in, the law's Go function returns true and every argument reads as before; no condition of mine. -/
import Derived.Test.YtpgcdelmfbegpaaRevI
import Derived.Test.YtpgcdelmfbegpaaRevS
import Derived.Test.YtpgcdelmfbegpaaTInt
import Derived.Test.YtpgcdelmfbegpaaTSeries
import Derived.Test.YtpgcdelmfbegpaaPointMath
import Derived.Test.YtpgcdelmfbegpaaOwn
import Derived.Test.YtpgcdelmfbegpaaFresh
import Derived.Test.YtpgcdelmfbegpaaGrown
import Derived.Test.YtpgcdelmfbegpaaBelowKit
import Derived.Test.YtpgcdelmfbegpaaTPoint
import Derived.Test.YtpgcdelmfbegpaaRows
import Derived.WalkKit
import Derived.ProofKit
import Derived.OpenShut
import Derived.ShutString
import Derived.ChangeOld
import Derived.Below
import Derived.Deep.RegionHeld3
import Derived.Deep.DeepCutAuto
import Derived.Lib.Hide
import Derived.Lib.SmallJoins
import Derived.Test.YtpgcdelmfbegpaaShape
import Derived.Test.YtpgcdelmfbegpaaTPoint
namespace Go.Proofs.Ytpgcdelmfbegpaa.fnExactRevisionsOf
open Go.ChangeShapes Go.WideShapes Go.ChangeAt Go.RowKit
open Go.ChangeMaps (open_string shut_string)
set_option linter.unusedVariables false

theorem own : ownKnob Try.prog.godebug = none := by kernel_rfl
theorem laidOut : laidOutB Try.prog = true := by kernel_rfl

/-! ### STEP 1: the walk -/
theorem walk (a0_Points : Option Addr) (len0_Points cap0_Points : Nat) (z0_Points : List TPoint.El) (a1 : Int) (w : World) (hz0_Points : z0_Points.length = len0_Points) (w0_Points : RowN.Reads TPoint.fc 3 w a0_Points z0_Points) (hl0_Points : len0_Points ≤ 9223372036854775807) (g0_Points : ∀ x ∈ z0_Points, TPoint.Wf x) (w1 : (Lit.int .i64 a1).wf = true) :
    Calls Try.prog 9 #[.agg #[.slice a0_Points len0_Points cap0_Points], .int .i64 a1] w fun e w' => e = .returned (.bool true) ∧ Below w.heap.size w w' := by
  have HR0_Points := Lib.hid w0_Points
  have HM0_Points := Lib.hid hz0_Points
  clear w0_Points hz0_Points
  by_cases hbig : 1048576 < len0_Points
  · go_enter Try.func9, Try.ntmps9
    go_wp2_with fail
    obtain ⟨W1, hW1⟩ : ∃ V : World, V = w.alloc (.cells #[.slice a0_Points len0_Points cap0_Points] 50) := ⟨_, rfl⟩
    rw [← hW1]
    have hb : Below w.heap.size w W1 := by rw [hW1]; (repeat (first | exact Below.refl _ _ | apply BelowKit.bl_alloc | apply BelowKit.bl_drewN | apply BelowKit.bl_drew | (refine BelowKit.bl_set ?_ _ ?_; rotate_left; (first | omega | (simp; omega) | simp)) | (refine BelowKit.bl_trans ?_ (‹Hid (Below _ _ _)›).out)))
    have tW1 : w.heap.size + 1 ≤ W1.heap.size := by rw [hW1]; simp
    have uW1 : W1.heap.size ≤ w.heap.size + 1 := by rw [hW1]; simp
    have c2 : W1.cell? ⟨w.heap.size, 0, none⟩ = some (.slice a0_Points len0_Points cap0_Points) := by rw [hW1]; simp [go_sem]
    have z3 : w.heap.size < W1.heap.size := by omega
    clear hW1
    have sW1 : w.heap.size ≤ W1.heap.size := hb.size
    have HC4 := Lib.hid hb
    clear hb
    refine (TSeries.sz_c W1 a0_Points len0_Points cap0_Points 1048576 hl0_Points (by omega) (by omega)).mono ?_
    rintro e w9 ⟨rfl, hb⟩
    rw [if_pos (by omega)]
    have HC9 := Lib.hid (BelowKit.bl_trans HC4.out hb)
    clear hb
    go_wp2
    go_ret
    exact ⟨rfl, HC9.out⟩
  have hs0_Points : len0_Points ≤ 1048576 := by omega
  obtain ⟨m0, hm0⟩ : ∃ v, PointMath.revs a1 z0_Points = v := ⟨_, rfl⟩
  have hbm0 : m0.length ≤ 1099511627776 := by rw [← hm0]; exact Nat.le_trans (PointMath.revs_len _ _) (by have := HM0_Points.out; omega)
  obtain ⟨nm0, hnm0⟩ : ∃ n, m0.length = n := ⟨_, rfl⟩
  rw [hnm0] at hbm0
  have HF0 := Lib.hid hm0
  have HN0 := Lib.hid hnm0
  clear hm0 hnm0
  go_enter Try.func9, Try.ntmps9
  go_wp2_with fail
  obtain ⟨W5, hW5⟩ : ∃ V : World, V = w.alloc (.cells #[.slice a0_Points len0_Points cap0_Points] 50) := ⟨_, rfl⟩
  rw [← hW5]
  have hb : Below w.heap.size w W5 := by rw [hW5]; (repeat (first | exact Below.refl _ _ | apply BelowKit.bl_alloc | apply BelowKit.bl_drewN | apply BelowKit.bl_drew | (refine BelowKit.bl_set ?_ _ ?_; rotate_left; (first | omega | (simp; omega) | simp)) | (refine BelowKit.bl_trans ?_ (‹Hid (Below _ _ _)›).out)))
  have tW5 : w.heap.size + 1 ≤ W5.heap.size := by rw [hW5]; simp
  have uW5 : W5.heap.size ≤ w.heap.size + 1 := by rw [hW5]; simp
  have c6 : W5.cell? ⟨w.heap.size, 0, none⟩ = some (.slice a0_Points len0_Points cap0_Points) := by rw [hW5]; simp [go_sem]
  have z7 : w.heap.size < W5.heap.size := by omega
  clear hW5
  have sW5 : w.heap.size ≤ W5.heap.size := hb.size
  have HC8 := Lib.hid hb
  clear hb
  refine (TSeries.sz_c W5 a0_Points len0_Points cap0_Points 1048576 hl0_Points (by omega) (by omega)).mono ?_
  rintro e w9 ⟨rfl, hb⟩
  rw [if_neg (by omega)]
  have sw9 : W5.heap.size ≤ w9.heap.size := hb.size
  have c10 : w9.cell? ⟨w.heap.size, 0, none⟩ = some (.slice a0_Points len0_Points cap0_Points) := ((BelowKit.bcell hb).1 _ _ z7).trans c6
  have z11 : w.heap.size < w9.heap.size := by omega
  have HC12 := Lib.hid (BelowKit.bl_trans HC8.out hb)
  clear c6 z7 HC8 hb
  go_wp2_with fail
  refine (TSeries.to_c w9 a0_Points len0_Points cap0_Points z0_Points HM0_Points.out (by omega) (HR0_Points.out.on HC12.out)).mono ?_
  rintro e w16 ⟨p13, c14, rfl, ho0, hb⟩
  rw [HM0_Points.out] at ho0 ⊢
  have sw16 : w9.heap.size ≤ w16.heap.size := hb.size
  have c17 : w16.cell? ⟨w.heap.size, 0, none⟩ = some (.slice a0_Points len0_Points cap0_Points) := ((BelowKit.bcell hb).1 _ _ z11).trans c10
  have z18 : w.heap.size < w16.heap.size := by omega
  have HC19 := Lib.hid (BelowKit.bl_trans HC12.out hb)
  clear c10 z11 HC12 hb
  have HO20 := Lib.hid (Own.ow_of ho0)
  clear ho0
  go_wp2_with fail
  refine (RevS.rev_s w16 p13 len0_Points c14 z0_Points a1 HM0_Points.out (by omega) (HO20.out.reads TPoint.fw)).mono ?_
  rintro e w24 ⟨p21, c22, rfl, ho0, hb⟩
  try rw [HF0.out] at ho0
  try rw [HF0.out]
  try rw [HN0.out] at ho0
  try rw [HN0.out]
  have sw24 : w16.heap.size ≤ w24.heap.size := hb.size
  have c25 : w24.cell? ⟨w.heap.size, 0, none⟩ = some (.slice a0_Points len0_Points cap0_Points) := ((BelowKit.bcell hb).1 _ _ z18).trans c17
  have z26 : w.heap.size < w24.heap.size := by omega
  have HO27 := Lib.hid (HO20.out.on hb)
  have HC28 := Lib.hid (BelowKit.bl_trans HC19.out hb)
  clear c17 z18 HO20 HC19 hb
  have HO29 := Lib.hid (Own.ow_of ho0)
  clear ho0
  go_wp2_with fail
  refine (TSeries.to_c w24 a0_Points len0_Points cap0_Points z0_Points HM0_Points.out (by omega) (HR0_Points.out.on HC28.out)).mono ?_
  rintro e w33 ⟨p30, c31, rfl, ho0, hb⟩
  rw [HM0_Points.out] at ho0 ⊢
  have sw33 : w24.heap.size ≤ w33.heap.size := hb.size
  have c34 : w33.cell? ⟨w.heap.size, 0, none⟩ = some (.slice a0_Points len0_Points cap0_Points) := ((BelowKit.bcell hb).1 _ _ z26).trans c25
  have z35 : w.heap.size < w33.heap.size := by omega
  have HO36 := Lib.hid (HO27.out.on hb)
  have HO37 := Lib.hid (HO29.out.on hb)
  have HC38 := Lib.hid (BelowKit.bl_trans HC28.out hb)
  clear c25 z26 HO27 HO29 HC28 hb
  have HO39 := Lib.hid (Own.ow_of ho0)
  clear ho0
  go_wp2_with fail
  obtain ⟨W40, hW40⟩ : ∃ V : World, V = w33.alloc (.cells #[.slice p30 len0_Points c31] 26) := ⟨_, rfl⟩
  rw [← hW40]
  have hb : Below w33.heap.size w33 W40 := by rw [hW40]; (repeat (first | exact Below.refl _ _ | apply BelowKit.bl_alloc | apply BelowKit.bl_drewN | apply BelowKit.bl_drew | (refine BelowKit.bl_set ?_ _ ?_; rotate_left; (first | omega | (simp; omega) | simp)) | (refine BelowKit.bl_trans ?_ (‹Hid (Below _ _ _)›).out)))
  have tW40 : w33.heap.size + 1 ≤ W40.heap.size := by rw [hW40]; simp
  have uW40 : W40.heap.size ≤ w33.heap.size + 1 := by rw [hW40]; simp
  have c41 : W40.cell? ⟨w33.heap.size, 0, none⟩ = some (.slice p30 len0_Points c31) := by rw [hW40]; simp [go_sem]
  have z42 : w33.heap.size < W40.heap.size := by omega
  clear hW40
  have sW40 : w33.heap.size ≤ W40.heap.size := hb.size
  have c43 : W40.cell? ⟨w.heap.size, 0, none⟩ = some (.slice a0_Points len0_Points cap0_Points) := ((BelowKit.bcell hb).1 _ _ z35).trans c34
  have z44 : w.heap.size < W40.heap.size := by omega
  have HO45 := Lib.hid (HO36.out.on hb)
  have HO46 := Lib.hid (HO37.out.on hb)
  have HO47 := Lib.hid (HO39.out.on hb)
  have HC48 := Lib.hid (BelowKit.bl_trans HC38.out hb)
  clear c34 z35 HO36 HO37 HO39 HC38 hb
  refine (RevI.rev_i W40 p30 len0_Points c31 z0_Points a1 HM0_Points.out (by omega) (HO47.out.reads TPoint.fw)).mono ?_
  rintro e w52 ⟨p49, c50, rfl, ho0, hb⟩
  try rw [HF0.out] at ho0
  try rw [HF0.out]
  try rw [HN0.out] at ho0
  try rw [HN0.out]
  have sw52 : W40.heap.size ≤ w52.heap.size := hb.size
  have c53 : w52.cell? ⟨w.heap.size, 0, none⟩ = some (.slice a0_Points len0_Points cap0_Points) := ((BelowKit.bcell hb).1 _ _ z44).trans c43
  have z54 : w.heap.size < w52.heap.size := by omega
  have c55 : w52.cell? ⟨w33.heap.size, 0, none⟩ = some (.slice p30 len0_Points c31) := ((BelowKit.bcell hb).1 _ _ z42).trans c41
  have z56 : w33.heap.size < w52.heap.size := by omega
  have HO57 := Lib.hid (HO45.out.on hb)
  have HO58 := Lib.hid (HO46.out.on hb)
  have HO59 := Lib.hid (HO47.out.on hb)
  have HC60 := Lib.hid (BelowKit.bl_trans HC48.out hb)
  clear c43 z44 c41 z42 HO45 HO46 HO47 HC48 hb
  have HO61 := Lib.hid (Own.ow_of ho0)
  clear ho0
  go_wp2_with fail
  refine (TInt.eq_c w52 nm0 c50 c22 p49 p21 m0 HN0.out (by omega) (HO61.out.reads TInt.fw) (HO58.out.reads TInt.fw)).mono ?_
  rintro e w62 ⟨rfl, hb⟩
  have sw62 : w52.heap.size ≤ w62.heap.size := hb.size
  have c63 : w62.cell? ⟨w.heap.size, 0, none⟩ = some (.slice a0_Points len0_Points cap0_Points) := ((BelowKit.bcell hb).1 _ _ z54).trans c53
  have z64 : w.heap.size < w62.heap.size := by omega
  have c65 : w62.cell? ⟨w33.heap.size, 0, none⟩ = some (.slice p30 len0_Points c31) := ((BelowKit.bcell hb).1 _ _ z56).trans c55
  have z66 : w33.heap.size < w62.heap.size := by omega
  have HO67 := Lib.hid (HO57.out.on hb)
  have HO68 := Lib.hid (HO58.out.on hb)
  have HO69 := Lib.hid (HO59.out.on hb)
  have HO70 := Lib.hid (HO61.out.on hb)
  have HC71 := Lib.hid (BelowKit.bl_trans HC60.out hb)
  clear c53 z54 c55 z56 HO57 HO58 HO59 HO61 HC60 hb
  go_wp2_with fail
  have gc63 := Grown.G.keep c63 z64
  have gc65 := Grown.G.keep c65 z66
  refine Fresh.wp_region_grow (fun k => match k with | 2 => .grow | 3 => .grow | _ => .quiet)
    (fun k v => match k with
          | 2 => (∃ p72 c73, v = .agg #[.slice p72 len0_Points c73])
          | 3 => (v = .bool true)
          | _ => v = undef)
    (fun k v s w1 => match k with
          | 2 => (∃ p72 c73, w62.heap.size ≤ s ∧ v = .agg #[.slice p72 len0_Points c73] ∧ Own.Ow TPoint.fc 3 31 w1 s w1.heap.size (.slice p72 len0_Points c73) z0_Points)
          | 3 => (w62.heap.size ≤ s ∧ v = .bool true)
          | _ => True)
    (by kernel_rfl) (by kernel_rfl) (by kernel_rfl) (by kernel_rfl) ?_
  refine Fresh.wpG_q rfl ?_
  go_big_quiet_step (fail)
  refine wpQuiet_nil ?_
  refine Fresh.wpG_q rfl ?_
  go_big_quiet_step (fail)
  refine wpQuiet_nil ?_
  refine Fresh.wpG_call #[.agg #[.slice a0_Points len0_Points cap0_Points]] rfl Try.func23 (by kernel_rfl) (by kernel_rfl) rfl ⟨_, none, 0, rfl⟩ (fun X hd => ?_) ?_
  · have hX := X.bel.size
    refine (TSeries.to_c X.w a0_Points len0_Points cap0_Points z0_Points HM0_Points.out (by omega) (HR0_Points.out.on (BelowKit.bl_trans HC71.out X.bel))).mono ?_
    rintro e w8 ⟨p72, c73, rfl, ho0, hb⟩
    try rw [HM0_Points.out] at ho0
    try rw [HM0_Points.out]
    exact ⟨_, rfl, hb, ⟨p72, c73, rfl⟩, p72, c73, by omega, rfl, Own.ow_of ho0⟩
  rintro v ⟨p72, c73, rfl⟩
  go_big_quiet_step (fail)
  refine wpQuiet_nil ?_
  refine Fresh.wpG_call #[.agg #[.slice p30 len0_Points c31], .agg #[.slice p72 len0_Points c73]] rfl Try.func24 (by kernel_rfl) (by kernel_rfl) rfl ⟨_, rfl⟩ (fun X hd => ?_) ?_
  · obtain ⟨_, _, w9, ⟨p72_ , c73_, _, e9, ho_r74⟩, _, hb9⟩ := hd ⟨2, .data⟩ (by simp) rfl rfl
    have e8 : (.agg #[.slice p72 len0_Points c73] : Value) = .agg #[.slice p72_ len0_Points c73_] := e9
    cases e8
    replace ho_r74 := ho_r74.on hb9
    have hX := X.bel.size
    refine (TSeries.eq_c X.w len0_Points c31 c73 p30 p72 z0_Points HM0_Points.out (by omega) ((HO69.out.on X.bel).reads TPoint.fw) (ho_r74.reads TPoint.fw)).mono ?_
    rintro e w8 ⟨rfl, hb⟩
    exact ⟨_, rfl, hb, rfl, by omega, rfl⟩
  rintro v rfl
  go_big_quiet_step (fail)
  refine wpQuiet_nil ?_
  refine Fresh.wpG_q rfl ?_
  go_big_quiet_step (fail)
  refine wpQuiet_nil ?_
  refine Fresh.wpG_nil fun X sN1 tN1 hk => ?_
  have hXs := X.bel.size
  have hbX := X.bel
  obtain ⟨w75, hU⟩ : ∃ U : World, U = X.w := ⟨_, rfl⟩
  rw [← hU] at hbX  ⊢
  clear hk hU hXs gc63 gc65
  have sw75 : w62.heap.size ≤ w75.heap.size := hbX.size
  have c76 : w75.cell? ⟨w.heap.size, 0, none⟩ = some (.slice a0_Points len0_Points cap0_Points) := ((BelowKit.bcell hbX).1 _ _ z64).trans c63
  have z77 : w.heap.size < w75.heap.size := by omega
  have c78 : w75.cell? ⟨w33.heap.size, 0, none⟩ = some (.slice p30 len0_Points c31) := ((BelowKit.bcell hbX).1 _ _ z66).trans c65
  have z79 : w33.heap.size < w75.heap.size := by omega
  have HO80 := Lib.hid (HO67.out.on hbX)
  have HO81 := Lib.hid (HO68.out.on hbX)
  have HO82 := Lib.hid (HO69.out.on hbX)
  have HO83 := Lib.hid (HO70.out.on hbX)
  have HC84 := Lib.hid (BelowKit.bl_trans HC71.out hbX)
  clear c63 z64 c65 z66 HO67 HO68 HO69 HO70 HC71 hbX
  go_wp2_with fail
  refine (TSeries.mark_m w75 w24.heap.size w33.heap.size p30 len0_Points c31 z0_Points 1 HM0_Points.out (by omega) (by omega) (by omega) HO82.out (by omega)).mono ?_
  rintro e w87 ⟨rfl, ho, hm⟩
  have sw87 : w75.heap.size ≤ w87.heap.size := hm.low.size
  have c88 : w87.cell? ⟨w.heap.size, 0, none⟩ = some (.slice a0_Points len0_Points cap0_Points) := (hm.out (b := w.heap.size) (by omega) 0).trans c76
  have z89 : w.heap.size < w87.heap.size := by omega
  have c90 : w87.cell? ⟨w33.heap.size, 0, none⟩ = some (.slice p30 len0_Points c31) := (hm.out (b := w33.heap.size) (by omega) 0).trans c78
  have z91 : w33.heap.size < w87.heap.size := by omega
  have HO92 := Lib.hid (HO80.out.mid hm (by omega))
  have HO93 := Lib.hid (HO81.out.mid hm (by omega))
  have HO95 := Lib.hid (HO83.out.mid hm (by omega))
  have HC96 := Lib.hid (HC84.out.trans (hm.low.mono (by omega)))
  clear c76 z77 c78 z79 HO80 HO81 HO83 HC84 hm
  have HO97 := Lib.hid ho
  clear ho HO82
  have HM98 : Hid ((TPoint.marks 1 len0_Points).length = len0_Points) := Lib.hid (TPoint.marks_len _ _)
  go_wp2_with fail
  refine (TInt.eq_c w87 nm0 c50 c22 p49 p21 m0 HN0.out (by omega) (HO95.out.reads TInt.fw) (HO93.out.reads TInt.fw)).mono ?_
  rintro e w99 ⟨rfl, hb⟩
  have sw99 : w87.heap.size ≤ w99.heap.size := hb.size
  have c100 : w99.cell? ⟨w.heap.size, 0, none⟩ = some (.slice a0_Points len0_Points cap0_Points) := ((BelowKit.bcell hb).1 _ _ z89).trans c88
  have z101 : w.heap.size < w99.heap.size := by omega
  have c102 : w99.cell? ⟨w33.heap.size, 0, none⟩ = some (.slice p30 len0_Points c31) := ((BelowKit.bcell hb).1 _ _ z91).trans c90
  have z103 : w33.heap.size < w99.heap.size := by omega
  have HO104 := Lib.hid (HO92.out.on hb)
  have HO105 := Lib.hid (HO93.out.on hb)
  have HO106 := Lib.hid (HO97.out.on hb)
  have HO107 := Lib.hid (HO95.out.on hb)
  have HC108 := Lib.hid (BelowKit.bl_trans HC96.out hb)
  clear c88 z89 c90 z91 HO92 HO93 HO97 HO95 HC96 hb
  go_wp2_with fail
  refine (TInt.mark_c w99 W40.heap.size w52.heap.size p49 nm0 c50 m0 1 HN0.out (by omega) (by omega) (by omega) HO107.out (by omega)).mono ?_
  rintro e w109 ⟨rfl, ho, hm⟩
  have sw109 : w99.heap.size ≤ w109.heap.size := hm.low.size
  have c110 : w109.cell? ⟨w.heap.size, 0, none⟩ = some (.slice a0_Points len0_Points cap0_Points) := (hm.out (b := w.heap.size) (by omega) 0).trans c100
  have z111 : w.heap.size < w109.heap.size := by omega
  have c112 : w109.cell? ⟨w33.heap.size, 0, none⟩ = some (.slice p30 len0_Points c31) := (hm.out (b := w33.heap.size) (by omega) 0).trans c102
  have z113 : w33.heap.size < w109.heap.size := by omega
  have HO114 := Lib.hid (HO104.out.mid hm (by omega))
  have HO115 := Lib.hid (HO105.out.mid hm (by omega))
  have HO116 := Lib.hid (HO106.out.mid hm (by omega))
  have HC118 := Lib.hid (HC108.out.trans (hm.low.mono (by omega)))
  clear c100 z101 c102 z103 HO104 HO105 HO106 HC108 hm
  have HO119 := Lib.hid ho
  clear ho HO107
  have HM120 : Hid ((TInt.marks 1 nm0).length = nm0) := Lib.hid (TInt.marks_len _ _)
  go_wp2_with fail
  refine (TInt.held_c w109 p49 nm0 c50 1 (by omega) (by omega) (by omega) (HO119.out.reads TInt.fw)).mono ?_
  rintro e w121 ⟨rfl, hb⟩
  have sw121 : w109.heap.size ≤ w121.heap.size := hb.size
  have c122 : w121.cell? ⟨w.heap.size, 0, none⟩ = some (.slice a0_Points len0_Points cap0_Points) := ((BelowKit.bcell hb).1 _ _ z111).trans c110
  have z123 : w.heap.size < w121.heap.size := by omega
  have c124 : w121.cell? ⟨w33.heap.size, 0, none⟩ = some (.slice p30 len0_Points c31) := ((BelowKit.bcell hb).1 _ _ z113).trans c112
  have z125 : w33.heap.size < w121.heap.size := by omega
  have HO126 := Lib.hid (HO114.out.on hb)
  have HO127 := Lib.hid (HO115.out.on hb)
  have HO128 := Lib.hid (HO116.out.on hb)
  have HO129 := Lib.hid (HO119.out.on hb)
  have HC130 := Lib.hid (BelowKit.bl_trans HC118.out hb)
  clear c110 z111 c112 z113 HO114 HO115 HO116 HO119 HC118 hb
  go_wp2_with fail
  refine (TSeries.to_c w121 a0_Points len0_Points cap0_Points z0_Points HM0_Points.out (by omega) (HR0_Points.out.on HC130.out)).mono ?_
  rintro e w134 ⟨p131, c132, rfl, ho0, hb⟩
  rw [HM0_Points.out] at ho0 ⊢
  have sw134 : w121.heap.size ≤ w134.heap.size := hb.size
  have c135 : w134.cell? ⟨w.heap.size, 0, none⟩ = some (.slice a0_Points len0_Points cap0_Points) := ((BelowKit.bcell hb).1 _ _ z123).trans c122
  have z136 : w.heap.size < w134.heap.size := by omega
  have c137 : w134.cell? ⟨w33.heap.size, 0, none⟩ = some (.slice p30 len0_Points c31) := ((BelowKit.bcell hb).1 _ _ z125).trans c124
  have z138 : w33.heap.size < w134.heap.size := by omega
  have HO139 := Lib.hid (HO126.out.on hb)
  have HO140 := Lib.hid (HO127.out.on hb)
  have HO141 := Lib.hid (HO128.out.on hb)
  have HO142 := Lib.hid (HO129.out.on hb)
  have HC143 := Lib.hid (BelowKit.bl_trans HC130.out hb)
  clear c122 z123 c124 z125 HO126 HO127 HO128 HO129 HC130 hb
  have HO144 := Lib.hid (Own.ow_of ho0)
  clear ho0
  go_wp2_with fail
  refine (RevI.rev_i w134 p131 len0_Points c132 z0_Points a1 HM0_Points.out (by omega) (HO144.out.reads TPoint.fw)).mono ?_
  rintro e w148 ⟨p145, c146, rfl, ho0, hb⟩
  try rw [HF0.out] at ho0
  try rw [HF0.out]
  try rw [HN0.out] at ho0
  try rw [HN0.out]
  have sw148 : w134.heap.size ≤ w148.heap.size := hb.size
  have c149 : w148.cell? ⟨w.heap.size, 0, none⟩ = some (.slice a0_Points len0_Points cap0_Points) := ((BelowKit.bcell hb).1 _ _ z136).trans c135
  have z150 : w.heap.size < w148.heap.size := by omega
  have c151 : w148.cell? ⟨w33.heap.size, 0, none⟩ = some (.slice p30 len0_Points c31) := ((BelowKit.bcell hb).1 _ _ z138).trans c137
  have z152 : w33.heap.size < w148.heap.size := by omega
  have HO153 := Lib.hid (HO139.out.on hb)
  have HO154 := Lib.hid (HO140.out.on hb)
  have HO155 := Lib.hid (HO141.out.on hb)
  have HO156 := Lib.hid (HO142.out.on hb)
  have HO157 := Lib.hid (HO144.out.on hb)
  have HC158 := Lib.hid (BelowKit.bl_trans HC143.out hb)
  clear c135 z136 c137 z138 HO139 HO140 HO141 HO142 HO144 HC143 hb
  have HO159 := Lib.hid (Own.ow_of ho0)
  clear ho0
  go_wp2_with fail
  refine (TInt.eq_c w148 nm0 c146 c22 p145 p21 m0 HN0.out (by omega) (HO159.out.reads TInt.fw) (HO154.out.reads TInt.fw)).mono ?_
  rintro e w160 ⟨rfl, hb⟩
  have sw160 : w148.heap.size ≤ w160.heap.size := hb.size
  have c161 : w160.cell? ⟨w.heap.size, 0, none⟩ = some (.slice a0_Points len0_Points cap0_Points) := ((BelowKit.bcell hb).1 _ _ z150).trans c149
  have z162 : w.heap.size < w160.heap.size := by omega
  have c163 : w160.cell? ⟨w33.heap.size, 0, none⟩ = some (.slice p30 len0_Points c31) := ((BelowKit.bcell hb).1 _ _ z152).trans c151
  have z164 : w33.heap.size < w160.heap.size := by omega
  have HO165 := Lib.hid (HO153.out.on hb)
  have HO166 := Lib.hid (HO154.out.on hb)
  have HO167 := Lib.hid (HO155.out.on hb)
  have HO168 := Lib.hid (HO156.out.on hb)
  have HO169 := Lib.hid (HO157.out.on hb)
  have HO170 := Lib.hid (HO159.out.on hb)
  have HC171 := Lib.hid (BelowKit.bl_trans HC158.out hb)
  clear c149 z150 c151 z152 HO153 HO154 HO155 HO156 HO157 HO159 HC158 hb
  go_wp2_with fail
  refine (TInt.held_c w160 p49 nm0 c50 1 (by omega) (by omega) (by omega) (HO168.out.reads TInt.fw)).mono ?_
  rintro e w172 ⟨rfl, hb⟩
  have sw172 : w160.heap.size ≤ w172.heap.size := hb.size
  have c173 : w172.cell? ⟨w.heap.size, 0, none⟩ = some (.slice a0_Points len0_Points cap0_Points) := ((BelowKit.bcell hb).1 _ _ z162).trans c161
  have z174 : w.heap.size < w172.heap.size := by omega
  have c175 : w172.cell? ⟨w33.heap.size, 0, none⟩ = some (.slice p30 len0_Points c31) := ((BelowKit.bcell hb).1 _ _ z164).trans c163
  have z176 : w33.heap.size < w172.heap.size := by omega
  have HO177 := Lib.hid (HO165.out.on hb)
  have HO178 := Lib.hid (HO166.out.on hb)
  have HO179 := Lib.hid (HO167.out.on hb)
  have HO180 := Lib.hid (HO168.out.on hb)
  have HO181 := Lib.hid (HO169.out.on hb)
  have HO182 := Lib.hid (HO170.out.on hb)
  have HC183 := Lib.hid (BelowKit.bl_trans HC171.out hb)
  clear c161 z162 c163 z164 HO165 HO166 HO167 HO168 HO169 HO170 HC171 hb
  go_wp2
  go_ret
  exact ⟨rfl, by (repeat (first | exact Below.refl _ _ | apply BelowKit.bl_alloc | apply BelowKit.bl_drewN | apply BelowKit.bl_drew | (refine BelowKit.bl_set ?_ _ ?_; rotate_left; (first | omega | (simp; omega) | simp)) | (refine BelowKit.bl_trans ?_ (‹Hid (Below _ _ _)›).out)))⟩

/-! ### THE ROW's STEP -/
set_option maxRecDepth 100000 in
theorem lifted (os : Os) (started : os.Started) (H : Type) (enc : TypeId × Value → H) :
    ReturnsInHanded {} Try.checked os 9 .any (Rows.fnExactRevisionsOfSpec.pre6 enc Try.prog Try.f9 Rows.fnExactRevisionsOfRow.domain false) (Rows.fnExactRevisionsOfSpec.post enc Try.prog Try.f9 false true false false) := by
  refine returnsInHanded_of_change (C := Try.checked) own started (by kernel_rfl) Try.func9
    (ChangeSpec.witness6 (enc := enc) (C := Try.checked) false ⟨#[], #[.agg #[.slice none 0 0], .int .i64 0], []⟩ 8 (by kernel_rfl) (by kernel_rfl) (by kernel_rfl) (by kernel_rfl)) ?_
  intro W base args ds gs before hval0 hW hcnd _
  have hval : ∀ (j : Nat) t v, Try.f9.params[j]? = some t → args[j]? = some v → Value.okWide Try.prog W .any base t v := hval0
  have hW' := hW
  obtain ⟨p, q, hA0, hV, rfl, hfz, hnd⟩ := hW
  have hA : DataW.TrodAll enc Try.prog W 0 (fun _ => true) true Try.f9.params.toList args.toList ds p := hA0
  rw [Try.params9] at hA hval
  obtain ⟨v0, vs0, d0, ds0, p0, q0, hargs, rfl, rfl, h0, r0⟩ := trodAll_cons hA
  obtain ⟨v1, vs1, d1, ds1, p1, q1, rfl, rfl, rfl, h1, r1⟩ := trodAll_cons r0
  obtain ⟨rfl, rfl, rfl⟩ := trodAll_nil r1
  obtain rfl : args = #[v0, v1] := by cases args; simp_all
  obtain ⟨rfl, rfl⟩ := trodVars_none hV
  have k0 := h0
  have lt0 : ∀ x ∈ p0, x.block < W.heap.size := by obtain ⟨m, hm⟩ := k0; exact DataW.trod_lt m _ _ _ hm
  obtain ⟨⟨l0⟩, rfl, _⟩ := okWide_struct Try.underlying50 (hval 0 50 v0 rfl rfl)
  have s0 : Shape.FitL W [.sl [.int .i64, .int .i64, .int .i64]] l0 := by
    obtain ⟨fu, hfu⟩ := h0
    exact Shape.trod_fit 8 50 _ (by kernel_rfl) _ _ _ hfu
  obtain ⟨a0_Points, len0_Points, cap0_Points, r0, rfl, s0_Points, s0⟩ := Shape.fit_sl s0
  obtain ⟨z0_Points, hz0_Points, w0_Points, hl0_Points, g0_Points⟩ := Shape.reads_of (f := TPoint.fc) (c := 3) (good := TPoint.Wf) rfl (fun _ h => TPoint.cov h) s0_Points
  obtain rfl := Shape.fit_nil s0
  obtain ⟨a1, rfl, rfl, rfl, w1⟩ := open_int Try.underlying3 (hval 1 3 v1 rfl rfl) h1
  clear hA0 hval0
  refine (walk a0_Points len0_Points cap0_Points z0_Points a1 W hz0_Points w0_Points hl0_Points g0_Points w1).mono fun e W' ⟨he, bel⟩ => ?_
  subst he
  exact ⟨_, rfl, _, _, _, [], _, [], hW', trodAll_mk1 (shut_bool Try.underlying4 _), (trodAll_cons_mk (Below.trod laidOut (by kernel_rfl) (of_decide_eq_true (by kernel_rfl)) k0 bel lt0) (trodAll_cons_mk (shut_int Try.underlying3 w1) trodAll_mk0)), rfl, bel.frame _, fun h => by cases h⟩

theorem over : Rows.fnExactRevisionsOfRow.holds Try.pinned (OpenSpec.ofChange Rows.fnExactRevisionsOfSpec) :=
  OpenClaim.holds_of_wide 9 Try.f9 rfl rfl rfl rfl rfl rfl rfl ⟨rfl, rfl, rfl, rfl, rfl⟩ rfl rfl rfl rfl rfl (by kernel_rfl) Try.func9 (by kernel_rfl)
    (of_decide_eq_true (by kernel_rfl)) (by unfold Func.isWrapper; first | (rw [if_pos (by decide +kernel)]; kernel_rfl) | (rw [if_neg (by decide +kernel)]; exact ⟨rfl, rfl⟩))
    (fun os started H enc _ => lifted os started H enc)

theorem proved : Rows.FnExactRevisionsOfSaid := over
#print axioms proved
end Go.Proofs.Ytpgcdelmfbegpaa.fnExactRevisionsOf
