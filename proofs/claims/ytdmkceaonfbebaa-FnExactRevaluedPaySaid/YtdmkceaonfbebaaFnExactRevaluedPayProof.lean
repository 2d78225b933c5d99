/- Proves the given statement of the law FnExactRevaluedPay: for every input that the row lets in, the law's Go function returns true and every argument reads as before; no condition of mine. -/
import Derived.Test.YtdmkceaonfbebaaPayS
import Derived.Test.YtdmkceaonfbebaaPayI
import Derived.Test.YtdmkceaonfbebaaStore
import Derived.Test.YtdmkceaonfbebaaTSeries
import Derived.Test.YtdmkceaonfbebaaFactMath
import Derived.Test.YtdmkceaonfbebaaPointMath
import Derived.Test.YtdmkceaonfbebaaFracLaws
import Derived.Test.YtdmkceaonfbebaaKit
import Derived.Test.YtdmkceaonfbebaaTPoint
import Derived.Test.YtdmkceaonfbebaaRows
import Derived.WalkKit
import Derived.ProofKit
import Derived.OpenShut
import Derived.ShutString
import Derived.ChangeOld
import Derived.Below
import Derived.Deep.RegionHeld3
import Derived.Deep.DeepCutAuto
import Derived.Lib.Hide
import Derived.Lib.SmallJoins
import Derived.Test.YtdmkceaonfbebaaFact
namespace Go.Proofs.Ytdmkceaonfbebaa.fnExactRevaluedPay
open Go.ChangeShapes Go.WideShapes Go.ChangeAt Go.RowKit
open Go.ChangeMaps (open_string shut_string)
set_option linter.unusedVariables false

theorem own : ownKnob Try.prog.godebug = none := by kernel_rfl
theorem laidOut : laidOutB Try.prog = true := by kernel_rfl

/-! ### STEP 1: the walk -/
set_option maxHeartbeats 8000000 in
theorem walk (a0_Facts : Option Addr) (len0_Facts cap0_Facts : Nat) (z0_Facts : List Fact.Fa) (a1_Points : Option Addr) (len1_Points cap1_Points : Nat) (z1_Points : List TPoint.El) (a2 : Int) (a3 : Int) (a4 : Int) (w : World) (hz0_Facts : z0_Facts.length = len0_Facts) (w0_Facts : RowN.Reads Fact.fc 5 w a0_Facts z0_Facts) (hl0_Facts : len0_Facts ≤ 9223372036854775807) (g0_Facts : ∀ x ∈ z0_Facts, Fact.Wf x) (hz1_Points : z1_Points.length = len1_Points) (w1_Points : RowN.Reads TPoint.fc 3 w a1_Points z1_Points) (hl1_Points : len1_Points ≤ 9223372036854775807) (g1_Points : ∀ x ∈ z1_Points, TPoint.Wf x) (w2 : (Lit.int .i64 a2).wf = true) (w3 : (Lit.int .i64 a3).wf = true) (w4 : (Lit.int .i64 a4).wf = true) :
    Calls Try.prog 10 #[.agg #[.slice a0_Facts len0_Facts cap0_Facts], .agg #[.slice a1_Points len1_Points cap1_Points], .int .i64 a2, .int .i64 a3, .int .i64 a4] w fun e w' => e = .returned (.bool true) ∧ Below w.heap.size w w' := by
  have HR0_Facts := Lib.hid w0_Facts
  have HM0_Facts := Lib.hid hz0_Facts
  have HR1_Points := Lib.hid w1_Points
  have HM1_Points := Lib.hid hz1_Points
  clear w0_Facts hz0_Facts w1_Points hz1_Points
  by_cases hbig : 1048576 < len0_Facts
  · go_enter Try.func10, Try.ntmps10
    go_wp2_with fail
    obtain ⟨W1, hW1⟩ : ∃ V : World, V = (w.alloc (.cells #[.slice a0_Facts len0_Facts cap0_Facts] 50)).alloc (.cells #[.slice a1_Points len1_Points cap1_Points] 60) := ⟨_, rfl⟩
    rw [← hW1]
    have hb : Below w.heap.size w W1 := by rw [hW1]; (repeat (first | exact Below.refl _ _ | apply BelowKit.bl_alloc | apply BelowKit.bl_drewN | apply BelowKit.bl_drew | (refine BelowKit.bl_set ?_ _ ?_; rotate_left; (first | omega | (simp; omega) | simp)) | (refine BelowKit.bl_trans ?_ (‹Hid (Below _ _ _)›).out)))
    have tW1 : w.heap.size + 2 ≤ W1.heap.size := by rw [hW1]; simp
    have uW1 : W1.heap.size ≤ w.heap.size + 2 := by rw [hW1]; simp
    have c2 : W1.cell? ⟨w.heap.size, 0, none⟩ = some (.slice a0_Facts len0_Facts cap0_Facts) := by rw [hW1]; simp [go_sem]
    have z3 : w.heap.size < W1.heap.size := by omega
    have c4 : W1.cell? ⟨w.heap.size + 1, 0, none⟩ = some (.slice a1_Points len1_Points cap1_Points) := by rw [hW1]; simp [go_sem]
    have z5 : w.heap.size + 1 < W1.heap.size := by omega
    clear hW1
    have sW1 : w.heap.size ≤ W1.heap.size := hb.size
    have HC6 := Lib.hid hb
    clear hb
    refine (Store.sz_c W1 a0_Facts len0_Facts cap0_Facts 1048576 hl0_Facts (by omega) (by omega)).mono ?_
    rintro e w9 ⟨rfl, hb⟩
    rw [if_pos (by omega)]
    have HC9 := Lib.hid (BelowKit.bl_trans HC6.out hb)
    clear hb
    go_wp2
    go_ret
    exact ⟨rfl, HC9.out⟩
  have hs0_Facts : len0_Facts ≤ 1048576 := by omega
  by_cases hbig1 : 1048576 < len0_Facts + len1_Points
  · go_enter Try.func10, Try.ntmps10
    go_wp2_with fail
    obtain ⟨W7, hW7⟩ : ∃ V : World, V = (w.alloc (.cells #[.slice a0_Facts len0_Facts cap0_Facts] 50)).alloc (.cells #[.slice a1_Points len1_Points cap1_Points] 60) := ⟨_, rfl⟩
    rw [← hW7]
    have hb : Below w.heap.size w W7 := by rw [hW7]; (repeat (first | exact Below.refl _ _ | apply BelowKit.bl_alloc | apply BelowKit.bl_drewN | apply BelowKit.bl_drew | (refine BelowKit.bl_set ?_ _ ?_; rotate_left; (first | omega | (simp; omega) | simp)) | (refine BelowKit.bl_trans ?_ (‹Hid (Below _ _ _)›).out)))
    have tW7 : w.heap.size + 2 ≤ W7.heap.size := by rw [hW7]; simp
    have uW7 : W7.heap.size ≤ w.heap.size + 2 := by rw [hW7]; simp
    have c8 : W7.cell? ⟨w.heap.size, 0, none⟩ = some (.slice a0_Facts len0_Facts cap0_Facts) := by rw [hW7]; simp [go_sem]
    have z9 : w.heap.size < W7.heap.size := by omega
    have c10 : W7.cell? ⟨w.heap.size + 1, 0, none⟩ = some (.slice a1_Points len1_Points cap1_Points) := by rw [hW7]; simp [go_sem]
    have z11 : w.heap.size + 1 < W7.heap.size := by omega
    clear hW7
    have sW7 : w.heap.size ≤ W7.heap.size := hb.size
    have HC12 := Lib.hid hb
    clear hb
    refine (Store.sz_c W7 a0_Facts len0_Facts cap0_Facts 1048576 hl0_Facts (by omega) (by omega)).mono ?_
    rintro e w13 ⟨rfl, hb⟩
    rw [if_neg (by omega)]
    have sw13 : W7.heap.size ≤ w13.heap.size := hb.size
    have c14 : w13.cell? ⟨w.heap.size, 0, none⟩ = some (.slice a0_Facts len0_Facts cap0_Facts) := ((BelowKit.bcell hb).1 _ _ z9).trans c8
    have z15 : w.heap.size < w13.heap.size := by omega
    have c16 : w13.cell? ⟨w.heap.size + 1, 0, none⟩ = some (.slice a1_Points len1_Points cap1_Points) := ((BelowKit.bcell hb).1 _ _ z11).trans c10
    have z17 : w.heap.size + 1 < w13.heap.size := by omega
    have HC18 := Lib.hid (BelowKit.bl_trans HC12.out hb)
    clear c8 z9 c10 z11 HC12 hb
    go_wp2_with fail
    refine (TSeries.sz_c w13 a1_Points len1_Points cap1_Points (1048576 - (len0_Facts : Int)) hl1_Points (by omega) (by omega)).mono ?_
    rintro e w9 ⟨rfl, hb⟩
    rw [if_pos (by omega)]
    have HC9 := Lib.hid (BelowKit.bl_trans HC18.out hb)
    clear hb
    go_wp2
    go_ret
    exact ⟨rfl, HC9.out⟩
  have hs1_Points : len0_Facts + len1_Points ≤ 1048576 := by omega
  obtain ⟨m0, hm0⟩ : ∃ v, PayMath.rev z0_Facts z1_Points a2 a3 a4 = v := ⟨_, rfl⟩
  have HF0 := Lib.hid hm0
  clear hm0
  go_enter Try.func10, Try.ntmps10
  go_wp2_with fail
  obtain ⟨W19, hW19⟩ : ∃ V : World, V = (w.alloc (.cells #[.slice a0_Facts len0_Facts cap0_Facts] 50)).alloc (.cells #[.slice a1_Points len1_Points cap1_Points] 60) := ⟨_, rfl⟩
  rw [← hW19]
  have hb : Below w.heap.size w W19 := by rw [hW19]; (repeat (first | exact Below.refl _ _ | apply BelowKit.bl_alloc | apply BelowKit.bl_drewN | apply BelowKit.bl_drew | (refine BelowKit.bl_set ?_ _ ?_; rotate_left; (first | omega | (simp; omega) | simp)) | (refine BelowKit.bl_trans ?_ (‹Hid (Below _ _ _)›).out)))
  have tW19 : w.heap.size + 2 ≤ W19.heap.size := by rw [hW19]; simp
  have uW19 : W19.heap.size ≤ w.heap.size + 2 := by rw [hW19]; simp
  have c20 : W19.cell? ⟨w.heap.size, 0, none⟩ = some (.slice a0_Facts len0_Facts cap0_Facts) := by rw [hW19]; simp [go_sem]
  have z21 : w.heap.size < W19.heap.size := by omega
  have c22 : W19.cell? ⟨w.heap.size + 1, 0, none⟩ = some (.slice a1_Points len1_Points cap1_Points) := by rw [hW19]; simp [go_sem]
  have z23 : w.heap.size + 1 < W19.heap.size := by omega
  clear hW19
  have sW19 : w.heap.size ≤ W19.heap.size := hb.size
  have HC24 := Lib.hid hb
  clear hb
  refine (Store.sz_c W19 a0_Facts len0_Facts cap0_Facts 1048576 hl0_Facts (by omega) (by omega)).mono ?_
  rintro e w25 ⟨rfl, hb⟩
  rw [if_neg (by omega)]
  have sw25 : W19.heap.size ≤ w25.heap.size := hb.size
  have c26 : w25.cell? ⟨w.heap.size, 0, none⟩ = some (.slice a0_Facts len0_Facts cap0_Facts) := ((BelowKit.bcell hb).1 _ _ z21).trans c20
  have z27 : w.heap.size < w25.heap.size := by omega
  have c28 : w25.cell? ⟨w.heap.size + 1, 0, none⟩ = some (.slice a1_Points len1_Points cap1_Points) := ((BelowKit.bcell hb).1 _ _ z23).trans c22
  have z29 : w.heap.size + 1 < w25.heap.size := by omega
  have HC30 := Lib.hid (BelowKit.bl_trans HC24.out hb)
  clear c20 z21 c22 z23 HC24 hb
  go_wp2_with fail
  refine (TSeries.sz_c w25 a1_Points len1_Points cap1_Points (1048576 - (len0_Facts : Int)) hl1_Points (by omega) (by omega)).mono ?_
  rintro e w31 ⟨rfl, hb⟩
  rw [if_neg (by omega)]
  have sw31 : w25.heap.size ≤ w31.heap.size := hb.size
  have c32 : w31.cell? ⟨w.heap.size, 0, none⟩ = some (.slice a0_Facts len0_Facts cap0_Facts) := ((BelowKit.bcell hb).1 _ _ z27).trans c26
  have z33 : w.heap.size < w31.heap.size := by omega
  have c34 : w31.cell? ⟨w.heap.size + 1, 0, none⟩ = some (.slice a1_Points len1_Points cap1_Points) := ((BelowKit.bcell hb).1 _ _ z29).trans c28
  have z35 : w.heap.size + 1 < w31.heap.size := by omega
  have HC36 := Lib.hid (BelowKit.bl_trans HC30.out hb)
  clear c26 z27 c28 z29 HC30 hb
  go_wp2_with fail
  have gc32 := Grown.G.keep c32 z33
  have gc34 := Grown.G.keep c34 z35
  refine Fresh.wp_region_grow (fun k => match k with | 1 => .grow | 3 => .grow | 7 => .grow | _ => .quiet)
    (fun k v => match k with
          | 1 => (∃ p37 c38, v = .agg #[.slice p37 len0_Facts c38])
          | 3 => (∃ p40 c41, v = .agg #[.slice p40 len1_Points c41])
          | 7 => (v = .int .i64 m0)
          | _ => v = undef)
    (fun k v s w1 => match k with
          | 1 => (∃ p37 c38, w31.heap.size ≤ s ∧ v = .agg #[.slice p37 len0_Facts c38] ∧ Own.Ow Fact.fc 5 71 w1 s w1.heap.size (.slice p37 len0_Facts c38) z0_Facts)
          | 3 => (∃ p40 c41, w31.heap.size ≤ s ∧ v = .agg #[.slice p40 len1_Points c41] ∧ Own.Ow TPoint.fc 3 43 w1 s w1.heap.size (.slice p40 len1_Points c41) z1_Points)
          | 7 => (w31.heap.size ≤ s ∧ v = .int .i64 m0)
          | _ => True)
    (by kernel_rfl) (by kernel_rfl) (by kernel_rfl) (by kernel_rfl) ?_
  refine Fresh.wpG_q rfl ?_
  go_big_quiet_step (fail)
  refine wpQuiet_nil ?_
  refine Fresh.wpG_call #[.agg #[.slice a0_Facts len0_Facts cap0_Facts]] rfl Try.func23 (by kernel_rfl) (by kernel_rfl) rfl ⟨_, none, 0, rfl⟩ (fun X hd => ?_) ?_
  · have hX := X.bel.size
    refine (Store.to_c X.w a0_Facts len0_Facts cap0_Facts z0_Facts HM0_Facts.out (by omega) (HR0_Facts.out.on (BelowKit.bl_trans HC36.out X.bel))).mono ?_
    rintro e w8 ⟨p37, c38, rfl, ho0, hb⟩
    try rw [HM0_Facts.out] at ho0
    try rw [HM0_Facts.out]
    exact ⟨_, rfl, hb, ⟨p37, c38, rfl⟩, p37, c38, by omega, rfl, Own.ow_of ho0⟩
  rintro v ⟨p37, c38, rfl⟩
  go_big_quiet_step (fail)
  refine wpQuiet_nil ?_
  refine Fresh.wpG_q rfl ?_
  go_big_quiet_step (fail)
  refine wpQuiet_nil ?_
  refine Fresh.wpG_call #[.agg #[.slice a1_Points len1_Points cap1_Points]] rfl Try.func30 (by kernel_rfl) (by kernel_rfl) rfl ⟨_, none, 0, rfl⟩ (fun X hd => ?_) ?_
  · have hX := X.bel.size
    refine (TSeries.to_c X.w a1_Points len1_Points cap1_Points z1_Points HM1_Points.out (by omega) (HR1_Points.out.on (BelowKit.bl_trans HC36.out X.bel))).mono ?_
    rintro e w8 ⟨p40, c41, rfl, ho0, hb⟩
    try rw [HM1_Points.out] at ho0
    try rw [HM1_Points.out]
    exact ⟨_, rfl, hb, ⟨p40, c41, rfl⟩, p40, c41, by omega, rfl, Own.ow_of ho0⟩
  rintro v ⟨p40, c41, rfl⟩
  go_big_quiet_step (fail)
  refine wpQuiet_nil ?_
  refine Fresh.wpG_q rfl ?_
  go_big_quiet_step (fail)
  refine wpQuiet_nil ?_
  refine Fresh.wpG_q rfl ?_
  go_big_quiet_step (fail)
  refine wpQuiet_nil ?_
  refine Fresh.wpG_q rfl ?_
  go_big_quiet_step (fail)
  refine wpQuiet_nil ?_
  refine Fresh.wpG_call #[.agg #[.slice p37 len0_Facts c38], .agg #[.slice p40 len1_Points c41], .int .i64 a2, .int .i64 a3, .int .i64 a4] rfl Try.func29 (by kernel_rfl) (by kernel_rfl) rfl ⟨_, rfl⟩ (fun X hd => ?_) ?_
  · obtain ⟨_, _, w9, ⟨p37_ , c38_, _, e9, ho_r39⟩, _, hb9⟩ := hd ⟨1, .data⟩ (by simp) rfl rfl
    have e8 : (.agg #[.slice p37 len0_Facts c38] : Value) = .agg #[.slice p37_ len0_Facts c38_] := e9
    cases e8
    replace ho_r39 := ho_r39.on hb9
    obtain ⟨_, _, w9, ⟨p40_ , c41_, _, e9, ho_r42⟩, _, hb9⟩ := hd ⟨3, .data⟩ (by simp) rfl rfl
    have e8 : (.agg #[.slice p40 len1_Points c41] : Value) = .agg #[.slice p40_ len1_Points c41_] := e9
    cases e8
    replace ho_r42 := ho_r42.on hb9
    have hX := X.bel.size
    refine (PayS.rev_s X.w p37 len0_Facts c38 z0_Facts p40 len1_Points c41 z1_Points a2 a3 a4 HM0_Facts.out (by omega) (ho_r39.reads Fact.fw) HM1_Points.out (by omega) (ho_r42.reads TPoint.fw)).mono ?_
    rintro e w8 ⟨rfl, hb⟩
    rw [HF0.out]
    exact ⟨_, rfl, hb, rfl, by omega, rfl⟩
  rintro v rfl
  go_big_quiet_step (fail)
  refine wpQuiet_nil ?_
  refine Fresh.wpG_q rfl ?_
  go_big_quiet_step (fail)
  refine wpQuiet_nil ?_
  refine Fresh.wpG_nil fun X sN1 tN1 hk => ?_
  have hXs := X.bel.size
  have hbX := X.bel
  obtain ⟨w43, hU⟩ : ∃ U : World, U = X.w := ⟨_, rfl⟩
  rw [← hU] at hbX  ⊢
  clear hk hU hXs gc32 gc34
  have sw43 : w31.heap.size ≤ w43.heap.size := hbX.size
  have c44 : w43.cell? ⟨w.heap.size, 0, none⟩ = some (.slice a0_Facts len0_Facts cap0_Facts) := ((BelowKit.bcell hbX).1 _ _ z33).trans c32
  have z45 : w.heap.size < w43.heap.size := by omega
  have c46 : w43.cell? ⟨w.heap.size + 1, 0, none⟩ = some (.slice a1_Points len1_Points cap1_Points) := ((BelowKit.bcell hbX).1 _ _ z35).trans c34
  have z47 : w.heap.size + 1 < w43.heap.size := by omega
  have HC48 := Lib.hid (BelowKit.bl_trans HC36.out hbX)
  clear c32 z33 c34 z35 HC36 hbX
  go_wp2_with fail
  refine (Store.to_c w43 a0_Facts len0_Facts cap0_Facts z0_Facts HM0_Facts.out (by omega) (HR0_Facts.out.on HC48.out)).mono ?_
  rintro e w54 ⟨p51, c52, rfl, ho0, hb⟩
  rw [HM0_Facts.out] at ho0 ⊢
  have sw54 : w43.heap.size ≤ w54.heap.size := hb.size
  have c55 : w54.cell? ⟨w.heap.size, 0, none⟩ = some (.slice a0_Facts len0_Facts cap0_Facts) := ((BelowKit.bcell hb).1 _ _ z45).trans c44
  have z56 : w.heap.size < w54.heap.size := by omega
  have c57 : w54.cell? ⟨w.heap.size + 1, 0, none⟩ = some (.slice a1_Points len1_Points cap1_Points) := ((BelowKit.bcell hb).1 _ _ z47).trans c46
  have z58 : w.heap.size + 1 < w54.heap.size := by omega
  have HC59 := Lib.hid (BelowKit.bl_trans HC48.out hb)
  clear c44 z45 c46 z47 HC48 hb
  have HO60 := Lib.hid (Own.ow_of ho0)
  clear ho0
  go_wp2_with fail
  obtain ⟨W61, hW61⟩ : ∃ V : World, V = w54.alloc (.cells #[.slice p51 len0_Facts c52] 26) := ⟨_, rfl⟩
  rw [← hW61]
  have hb : Below w54.heap.size w54 W61 := by rw [hW61]; (repeat (first | exact Below.refl _ _ | apply BelowKit.bl_alloc | apply BelowKit.bl_drewN | apply BelowKit.bl_drew | (refine BelowKit.bl_set ?_ _ ?_; rotate_left; (first | omega | (simp; omega) | simp)) | (refine BelowKit.bl_trans ?_ (‹Hid (Below _ _ _)›).out)))
  have tW61 : w54.heap.size + 1 ≤ W61.heap.size := by rw [hW61]; simp
  have uW61 : W61.heap.size ≤ w54.heap.size + 1 := by rw [hW61]; simp
  have c62 : W61.cell? ⟨w54.heap.size, 0, none⟩ = some (.slice p51 len0_Facts c52) := by rw [hW61]; simp [go_sem]
  have z63 : w54.heap.size < W61.heap.size := by omega
  clear hW61
  have sW61 : w54.heap.size ≤ W61.heap.size := hb.size
  have c64 : W61.cell? ⟨w.heap.size, 0, none⟩ = some (.slice a0_Facts len0_Facts cap0_Facts) := ((BelowKit.bcell hb).1 _ _ z56).trans c55
  have z65 : w.heap.size < W61.heap.size := by omega
  have c66 : W61.cell? ⟨w.heap.size + 1, 0, none⟩ = some (.slice a1_Points len1_Points cap1_Points) := ((BelowKit.bcell hb).1 _ _ z58).trans c57
  have z67 : w.heap.size + 1 < W61.heap.size := by omega
  have HO68 := Lib.hid (HO60.out.on hb)
  have HC69 := Lib.hid (BelowKit.bl_trans HC59.out hb)
  clear c55 z56 c57 z58 HO60 HC59 hb
  refine (TSeries.to_c W61 a1_Points len1_Points cap1_Points z1_Points HM1_Points.out (by omega) (HR1_Points.out.on HC69.out)).mono ?_
  rintro e w73 ⟨p70, c71, rfl, ho0, hb⟩
  rw [HM1_Points.out] at ho0 ⊢
  have sw73 : W61.heap.size ≤ w73.heap.size := hb.size
  have c74 : w73.cell? ⟨w.heap.size, 0, none⟩ = some (.slice a0_Facts len0_Facts cap0_Facts) := ((BelowKit.bcell hb).1 _ _ z65).trans c64
  have z75 : w.heap.size < w73.heap.size := by omega
  have c76 : w73.cell? ⟨w.heap.size + 1, 0, none⟩ = some (.slice a1_Points len1_Points cap1_Points) := ((BelowKit.bcell hb).1 _ _ z67).trans c66
  have z77 : w.heap.size + 1 < w73.heap.size := by omega
  have c78 : w73.cell? ⟨w54.heap.size, 0, none⟩ = some (.slice p51 len0_Facts c52) := ((BelowKit.bcell hb).1 _ _ z63).trans c62
  have z79 : w54.heap.size < w73.heap.size := by omega
  have HO80 := Lib.hid (HO68.out.on hb)
  have HC81 := Lib.hid (BelowKit.bl_trans HC69.out hb)
  clear c64 z65 c66 z67 c62 z63 HO68 HC69 hb
  have HO82 := Lib.hid (Own.ow_of ho0)
  clear ho0
  go_wp2_with fail
  obtain ⟨W83, hW83⟩ : ∃ V : World, V = w73.alloc (.cells #[.slice p70 len1_Points c71] 29) := ⟨_, rfl⟩
  rw [← hW83]
  have hb : Below w73.heap.size w73 W83 := by rw [hW83]; (repeat (first | exact Below.refl _ _ | apply BelowKit.bl_alloc | apply BelowKit.bl_drewN | apply BelowKit.bl_drew | (refine BelowKit.bl_set ?_ _ ?_; rotate_left; (first | omega | (simp; omega) | simp)) | (refine BelowKit.bl_trans ?_ (‹Hid (Below _ _ _)›).out)))
  have tW83 : w73.heap.size + 1 ≤ W83.heap.size := by rw [hW83]; simp
  have uW83 : W83.heap.size ≤ w73.heap.size + 1 := by rw [hW83]; simp
  have c84 : W83.cell? ⟨w73.heap.size, 0, none⟩ = some (.slice p70 len1_Points c71) := by rw [hW83]; simp [go_sem]
  have z85 : w73.heap.size < W83.heap.size := by omega
  clear hW83
  have sW83 : w73.heap.size ≤ W83.heap.size := hb.size
  have c86 : W83.cell? ⟨w.heap.size, 0, none⟩ = some (.slice a0_Facts len0_Facts cap0_Facts) := ((BelowKit.bcell hb).1 _ _ z75).trans c74
  have z87 : w.heap.size < W83.heap.size := by omega
  have c88 : W83.cell? ⟨w.heap.size + 1, 0, none⟩ = some (.slice a1_Points len1_Points cap1_Points) := ((BelowKit.bcell hb).1 _ _ z77).trans c76
  have z89 : w.heap.size + 1 < W83.heap.size := by omega
  have c90 : W83.cell? ⟨w54.heap.size, 0, none⟩ = some (.slice p51 len0_Facts c52) := ((BelowKit.bcell hb).1 _ _ z79).trans c78
  have z91 : w54.heap.size < W83.heap.size := by omega
  have HO92 := Lib.hid (HO80.out.on hb)
  have HO93 := Lib.hid (HO82.out.on hb)
  have HC94 := Lib.hid (BelowKit.bl_trans HC81.out hb)
  clear c74 z75 c76 z77 c78 z79 HO80 HO82 HC81 hb
  refine (PayI.rev_i W83 p51 len0_Facts c52 z0_Facts p70 len1_Points c71 z1_Points a2 a3 a4 HM0_Facts.out (by omega) (HO92.out.reads Fact.fw) HM1_Points.out (by omega) (HO93.out.reads TPoint.fw)).mono ?_
  rintro e w95 ⟨rfl, hb⟩
  rw [HF0.out]
  have sw95 : W83.heap.size ≤ w95.heap.size := hb.size
  have c96 : w95.cell? ⟨w.heap.size, 0, none⟩ = some (.slice a0_Facts len0_Facts cap0_Facts) := ((BelowKit.bcell hb).1 _ _ z87).trans c86
  have z97 : w.heap.size < w95.heap.size := by omega
  have c98 : w95.cell? ⟨w.heap.size + 1, 0, none⟩ = some (.slice a1_Points len1_Points cap1_Points) := ((BelowKit.bcell hb).1 _ _ z89).trans c88
  have z99 : w.heap.size + 1 < w95.heap.size := by omega
  have c100 : w95.cell? ⟨w54.heap.size, 0, none⟩ = some (.slice p51 len0_Facts c52) := ((BelowKit.bcell hb).1 _ _ z91).trans c90
  have z101 : w54.heap.size < w95.heap.size := by omega
  have c102 : w95.cell? ⟨w73.heap.size, 0, none⟩ = some (.slice p70 len1_Points c71) := ((BelowKit.bcell hb).1 _ _ z85).trans c84
  have z103 : w73.heap.size < w95.heap.size := by omega
  have HO104 := Lib.hid (HO92.out.on hb)
  have HO105 := Lib.hid (HO93.out.on hb)
  have HC106 := Lib.hid (BelowKit.bl_trans HC94.out hb)
  clear c86 z87 c88 z89 c90 z91 c84 z85 HO92 HO93 HC94 hb
  go_wp2_with fail
  have gc96 := Grown.G.keep c96 z97
  have gc98 := Grown.G.keep c98 z99
  have gc100 := Grown.G.keep c100 z101
  have gc102 := Grown.G.keep c102 z103
  refine Fresh.wp_region_grow (fun k => match k with | 2 => .grow | 3 => .grow | _ => .quiet)
    (fun k v => match k with
          | 2 => (∃ p107 c108, v = .agg #[.slice p107 len0_Facts c108])
          | 3 => (v = .bool true)
          | _ => v = undef)
    (fun k v s w1 => match k with
          | 2 => (∃ p107 c108, w95.heap.size ≤ s ∧ v = .agg #[.slice p107 len0_Facts c108] ∧ Own.Ow Fact.fc 5 71 w1 s w1.heap.size (.slice p107 len0_Facts c108) z0_Facts)
          | 3 => (w95.heap.size ≤ s ∧ v = .bool true)
          | _ => True)
    (by kernel_rfl) (by kernel_rfl) (by kernel_rfl) (by kernel_rfl) ?_
  refine Fresh.wpG_q rfl ?_
  go_big_quiet_step (fail)
  refine wpQuiet_nil ?_
  refine Fresh.wpG_q rfl ?_
  go_big_quiet_step (fail)
  refine wpQuiet_nil ?_
  refine Fresh.wpG_call #[.agg #[.slice a0_Facts len0_Facts cap0_Facts]] rfl Try.func23 (by kernel_rfl) (by kernel_rfl) rfl ⟨_, none, 0, rfl⟩ (fun X hd => ?_) ?_
  · have hX := X.bel.size
    refine (Store.to_c X.w a0_Facts len0_Facts cap0_Facts z0_Facts HM0_Facts.out (by omega) (HR0_Facts.out.on (BelowKit.bl_trans HC106.out X.bel))).mono ?_
    rintro e w8 ⟨p107, c108, rfl, ho0, hb⟩
    try rw [HM0_Facts.out] at ho0
    try rw [HM0_Facts.out]
    exact ⟨_, rfl, hb, ⟨p107, c108, rfl⟩, p107, c108, by omega, rfl, Own.ow_of ho0⟩
  rintro v ⟨p107, c108, rfl⟩
  go_big_quiet_step (fail)
  refine wpQuiet_nil ?_
  refine Fresh.wpG_call #[.agg #[.slice p51 len0_Facts c52], .agg #[.slice p107 len0_Facts c108]] rfl Try.func24 (by kernel_rfl) (by kernel_rfl) rfl ⟨_, rfl⟩ (fun X hd => ?_) ?_
  · obtain ⟨_, _, w9, ⟨p107_ , c108_, _, e9, ho_r109⟩, _, hb9⟩ := hd ⟨2, .data⟩ (by simp) rfl rfl
    have e8 : (.agg #[.slice p107 len0_Facts c108] : Value) = .agg #[.slice p107_ len0_Facts c108_] := e9
    cases e8
    replace ho_r109 := ho_r109.on hb9
    have hX := X.bel.size
    refine (Store.eq_c X.w len0_Facts c52 c108 p51 p107 z0_Facts HM0_Facts.out (by omega) ((HO104.out.on X.bel).reads Fact.fw) (ho_r109.reads Fact.fw)).mono ?_
    rintro e w8 ⟨rfl, hb⟩
    exact ⟨_, rfl, hb, rfl, by omega, rfl⟩
  rintro v rfl
  go_big_quiet_step (fail)
  refine wpQuiet_nil ?_
  refine Fresh.wpG_q rfl ?_
  go_big_quiet_step (fail)
  refine wpQuiet_nil ?_
  refine Fresh.wpG_nil fun X sN2 tN2 hk => ?_
  have hXs := X.bel.size
  have hbX := X.bel
  obtain ⟨w110, hU⟩ : ∃ U : World, U = X.w := ⟨_, rfl⟩
  rw [← hU] at hbX  ⊢
  clear hk hU hXs gc96 gc98 gc100 gc102
  have sw110 : w95.heap.size ≤ w110.heap.size := hbX.size
  have c111 : w110.cell? ⟨w.heap.size, 0, none⟩ = some (.slice a0_Facts len0_Facts cap0_Facts) := ((BelowKit.bcell hbX).1 _ _ z97).trans c96
  have z112 : w.heap.size < w110.heap.size := by omega
  have c113 : w110.cell? ⟨w.heap.size + 1, 0, none⟩ = some (.slice a1_Points len1_Points cap1_Points) := ((BelowKit.bcell hbX).1 _ _ z99).trans c98
  have z114 : w.heap.size + 1 < w110.heap.size := by omega
  have c115 : w110.cell? ⟨w54.heap.size, 0, none⟩ = some (.slice p51 len0_Facts c52) := ((BelowKit.bcell hbX).1 _ _ z101).trans c100
  have z116 : w54.heap.size < w110.heap.size := by omega
  have c117 : w110.cell? ⟨w73.heap.size, 0, none⟩ = some (.slice p70 len1_Points c71) := ((BelowKit.bcell hbX).1 _ _ z103).trans c102
  have z118 : w73.heap.size < w110.heap.size := by omega
  have HO119 := Lib.hid (HO104.out.on hbX)
  have HO120 := Lib.hid (HO105.out.on hbX)
  have HC121 := Lib.hid (BelowKit.bl_trans HC106.out hbX)
  clear c96 z97 c98 z99 c100 z101 c102 z103 HO104 HO105 HC106 hbX
  go_wp2_with fail
  have gc111 := Grown.G.keep c111 z112
  have gc113 := Grown.G.keep c113 z114
  have gc115 := Grown.G.keep c115 z116
  have gc117 := Grown.G.keep c117 z118
  refine Fresh.wp_region_grow (fun k => match k with | 2 => .grow | 3 => .grow | _ => .quiet)
    (fun k v => match k with
          | 2 => (∃ p124 c125, v = .agg #[.slice p124 len1_Points c125])
          | 3 => (v = .bool true)
          | _ => v = undef)
    (fun k v s w1 => match k with
          | 2 => (∃ p124 c125, w110.heap.size ≤ s ∧ v = .agg #[.slice p124 len1_Points c125] ∧ Own.Ow TPoint.fc 3 43 w1 s w1.heap.size (.slice p124 len1_Points c125) z1_Points)
          | 3 => (w110.heap.size ≤ s ∧ v = .bool true)
          | _ => True)
    (by kernel_rfl) (by kernel_rfl) (by kernel_rfl) (by kernel_rfl) ?_
  refine Fresh.wpG_q rfl ?_
  go_big_quiet_step (fail)
  refine wpQuiet_nil ?_
  refine Fresh.wpG_q rfl ?_
  go_big_quiet_step (fail)
  refine wpQuiet_nil ?_
  refine Fresh.wpG_call #[.agg #[.slice a1_Points len1_Points cap1_Points]] rfl Try.func30 (by kernel_rfl) (by kernel_rfl) rfl ⟨_, none, 0, rfl⟩ (fun X hd => ?_) ?_
  · have hX := X.bel.size
    refine (TSeries.to_c X.w a1_Points len1_Points cap1_Points z1_Points HM1_Points.out (by omega) (HR1_Points.out.on (BelowKit.bl_trans HC121.out X.bel))).mono ?_
    rintro e w8 ⟨p124, c125, rfl, ho0, hb⟩
    try rw [HM1_Points.out] at ho0
    try rw [HM1_Points.out]
    exact ⟨_, rfl, hb, ⟨p124, c125, rfl⟩, p124, c125, by omega, rfl, Own.ow_of ho0⟩
  rintro v ⟨p124, c125, rfl⟩
  go_big_quiet_step (fail)
  refine wpQuiet_nil ?_
  refine Fresh.wpG_call #[.agg #[.slice p70 len1_Points c71], .agg #[.slice p124 len1_Points c125]] rfl Try.func31 (by kernel_rfl) (by kernel_rfl) rfl ⟨_, rfl⟩ (fun X hd => ?_) ?_
  · obtain ⟨_, _, w9, ⟨p124_ , c125_, _, e9, ho_r126⟩, _, hb9⟩ := hd ⟨2, .data⟩ (by simp) rfl rfl
    have e8 : (.agg #[.slice p124 len1_Points c125] : Value) = .agg #[.slice p124_ len1_Points c125_] := e9
    cases e8
    replace ho_r126 := ho_r126.on hb9
    have hX := X.bel.size
    refine (TSeries.eq_c X.w len1_Points c71 c125 p70 p124 z1_Points HM1_Points.out (by omega) ((HO120.out.on X.bel).reads TPoint.fw) (ho_r126.reads TPoint.fw)).mono ?_
    rintro e w8 ⟨rfl, hb⟩
    exact ⟨_, rfl, hb, rfl, by omega, rfl⟩
  rintro v rfl
  go_big_quiet_step (fail)
  refine wpQuiet_nil ?_
  refine Fresh.wpG_q rfl ?_
  go_big_quiet_step (fail)
  refine wpQuiet_nil ?_
  refine Fresh.wpG_nil fun X sN3 tN3 hk => ?_
  have hXs := X.bel.size
  have hbX := X.bel
  obtain ⟨w127, hU⟩ : ∃ U : World, U = X.w := ⟨_, rfl⟩
  rw [← hU] at hbX  ⊢
  clear hk hU hXs gc111 gc113 gc115 gc117
  have sw127 : w110.heap.size ≤ w127.heap.size := hbX.size
  have c128 : w127.cell? ⟨w.heap.size, 0, none⟩ = some (.slice a0_Facts len0_Facts cap0_Facts) := ((BelowKit.bcell hbX).1 _ _ z112).trans c111
  have z129 : w.heap.size < w127.heap.size := by omega
  have c130 : w127.cell? ⟨w.heap.size + 1, 0, none⟩ = some (.slice a1_Points len1_Points cap1_Points) := ((BelowKit.bcell hbX).1 _ _ z114).trans c113
  have z131 : w.heap.size + 1 < w127.heap.size := by omega
  have c132 : w127.cell? ⟨w54.heap.size, 0, none⟩ = some (.slice p51 len0_Facts c52) := ((BelowKit.bcell hbX).1 _ _ z116).trans c115
  have z133 : w54.heap.size < w127.heap.size := by omega
  have c134 : w127.cell? ⟨w73.heap.size, 0, none⟩ = some (.slice p70 len1_Points c71) := ((BelowKit.bcell hbX).1 _ _ z118).trans c117
  have z135 : w73.heap.size < w127.heap.size := by omega
  have HO136 := Lib.hid (HO119.out.on hbX)
  have HO137 := Lib.hid (HO120.out.on hbX)
  have HC138 := Lib.hid (BelowKit.bl_trans HC121.out hbX)
  clear c111 z112 c113 z114 c115 z116 c117 z118 HO119 HO120 HC121 hbX
  go_wp2
  go_ret
  exact ⟨rfl, by (repeat (first | exact Below.refl _ _ | apply BelowKit.bl_alloc | apply BelowKit.bl_drewN | apply BelowKit.bl_drew | (refine BelowKit.bl_set ?_ _ ?_; rotate_left; (first | omega | (simp; omega) | simp)) | (refine BelowKit.bl_trans ?_ (‹Hid (Below _ _ _)›).out)))⟩

/-! ### THE ROW's STEP -/
set_option maxRecDepth 100000 in
theorem lifted (os : Os) (started : os.Started) (H : Type) (enc : TypeId × Value → H) :
    ReturnsInHanded {} Try.checked os 10 .any (Rows.fnExactRevaluedPaySpec.pre6 enc Try.prog Try.f10 Rows.fnExactRevaluedPayRow.domain false) (Rows.fnExactRevaluedPaySpec.post enc Try.prog Try.f10 false true false false) := by
  refine returnsInHanded_of_change (C := Try.checked) own started (by kernel_rfl) Try.func10
    (ChangeSpec.witness6 (enc := enc) (C := Try.checked) false ⟨#[], #[.agg #[.slice none 0 0], .agg #[.slice none 0 0], .int .i64 0, .int .i64 0, .int .i64 0], []⟩ 8 (by kernel_rfl) (by kernel_rfl) (by kernel_rfl) (by kernel_rfl)) ?_
  intro W base args ds gs before hval0 hW hcnd _
  have hval : ∀ (j : Nat) t v, Try.f10.params[j]? = some t → args[j]? = some v → Value.okWide Try.prog W .any base t v := hval0
  have hW' := hW
  obtain ⟨p, q, hA0, hV, rfl, hfz, hnd⟩ := hW
  have hA : DataW.TrodAll enc Try.prog W 0 (fun _ => true) true Try.f10.params.toList args.toList ds p := hA0
  rw [Try.params10] at hA hval
  obtain ⟨v0, vs0, d0, ds0, p0, q0, hargs, rfl, rfl, h0, r0⟩ := trodAll_cons hA
  obtain ⟨v1, vs1, d1, ds1, p1, q1, rfl, rfl, rfl, h1, r1⟩ := trodAll_cons r0
  obtain ⟨v2, vs2, d2, ds2, p2, q2, rfl, rfl, rfl, h2, r2⟩ := trodAll_cons r1
  obtain ⟨v3, vs3, d3, ds3, p3, q3, rfl, rfl, rfl, h3, r3⟩ := trodAll_cons r2
  obtain ⟨v4, vs4, d4, ds4, p4, q4, rfl, rfl, rfl, h4, r4⟩ := trodAll_cons r3
  obtain ⟨rfl, rfl, rfl⟩ := trodAll_nil r4
  obtain rfl : args = #[v0, v1, v2, v3, v4] := by cases args; simp_all
  obtain ⟨rfl, rfl⟩ := trodVars_none hV
  have k0 := h0
  have lt0 : ∀ x ∈ p0, x.block < W.heap.size := by obtain ⟨m, hm⟩ := k0; exact DataW.trod_lt m _ _ _ hm
  obtain ⟨⟨l0⟩, rfl, _⟩ := okWide_struct Try.underlying50 (hval 0 50 v0 rfl rfl)
  have s0 : Shape.FitL W [.sl [.int .i64, .int .i64, .int .i64, .int .i64, .int .i64]] l0 := by
    obtain ⟨fu, hfu⟩ := h0
    exact Shape.trod_fit 8 50 _ (by kernel_rfl) _ _ _ hfu
  obtain ⟨a0_Facts, len0_Facts, cap0_Facts, r0, rfl, s0_Facts, s0⟩ := Shape.fit_sl s0
  obtain ⟨z0_Facts, hz0_Facts, w0_Facts, hl0_Facts, g0_Facts⟩ := Shape.reads_of (f := Fact.fc) (c := 5) (good := Fact.Wf) rfl (fun _ h => Fact.cov h) s0_Facts
  obtain rfl := Shape.fit_nil s0
  have k1 := h1
  have lt1 : ∀ x ∈ p1, x.block < W.heap.size := by obtain ⟨m, hm⟩ := k1; exact DataW.trod_lt m _ _ _ hm
  obtain ⟨⟨l1⟩, rfl, _⟩ := okWide_struct Try.underlying60 (hval 1 60 v1 rfl rfl)
  have s1 : Shape.FitL W [.sl [.int .i64, .int .i64, .int .i64]] l1 := by
    obtain ⟨fu, hfu⟩ := h1
    exact Shape.trod_fit 8 60 _ (by kernel_rfl) _ _ _ hfu
  obtain ⟨a1_Points, len1_Points, cap1_Points, r1, rfl, s1_Points, s1⟩ := Shape.fit_sl s1
  obtain ⟨z1_Points, hz1_Points, w1_Points, hl1_Points, g1_Points⟩ := Shape.reads_of (f := TPoint.fc) (c := 3) (good := TPoint.Wf) rfl (fun _ h => TPoint.cov h) s1_Points
  obtain rfl := Shape.fit_nil s1
  obtain ⟨a2, rfl, rfl, rfl, w2⟩ := open_int Try.underlying3 (hval 2 3 v2 rfl rfl) h2
  obtain ⟨a3, rfl, rfl, rfl, w3⟩ := open_int Try.underlying3 (hval 3 3 v3 rfl rfl) h3
  obtain ⟨a4, rfl, rfl, rfl, w4⟩ := open_int Try.underlying3 (hval 4 3 v4 rfl rfl) h4
  clear hA0 hval0
  refine (walk a0_Facts len0_Facts cap0_Facts z0_Facts a1_Points len1_Points cap1_Points z1_Points a2 a3 a4 W hz0_Facts w0_Facts hl0_Facts g0_Facts hz1_Points w1_Points hl1_Points g1_Points w2 w3 w4).mono fun e W' ⟨he, bel⟩ => ?_
  subst he
  exact ⟨_, rfl, _, _, _, [], _, [], hW', trodAll_mk1 (shut_bool Try.underlying4 _), (trodAll_cons_mk (Below.trod laidOut (by kernel_rfl) (of_decide_eq_true (by kernel_rfl)) k0 bel lt0) (trodAll_cons_mk (Below.trod laidOut (by kernel_rfl) (of_decide_eq_true (by kernel_rfl)) k1 bel lt1) (trodAll_cons_mk (shut_int Try.underlying3 w2) (trodAll_cons_mk (shut_int Try.underlying3 w3) (trodAll_cons_mk (shut_int Try.underlying3 w4) trodAll_mk0))))), rfl, bel.frame _, fun h => by cases h⟩

theorem over : Rows.fnExactRevaluedPayRow.holds Try.pinned (OpenSpec.ofChange Rows.fnExactRevaluedPaySpec) :=
  OpenClaim.holds_of_wide 10 Try.f10 rfl rfl rfl rfl rfl rfl rfl ⟨rfl, rfl, rfl, rfl, rfl⟩ rfl rfl rfl rfl rfl (by kernel_rfl) Try.func10 (by kernel_rfl)
    (of_decide_eq_true (by kernel_rfl)) (by unfold Func.isWrapper; first | (rw [if_pos (by decide +kernel)]; kernel_rfl) | (rw [if_neg (by decide +kernel)]; exact ⟨rfl, rfl⟩))
    (fun os started H enc _ => lifted os started H enc)

theorem proved : Rows.FnExactRevaluedPaySaid := over
#print axioms proved
end Go.Proofs.Ytdmkceaonfbebaa.fnExactRevaluedPay
