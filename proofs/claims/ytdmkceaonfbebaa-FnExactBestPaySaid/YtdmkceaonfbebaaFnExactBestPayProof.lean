/- Proves the given statement of the law FnExactBestPay: for every input that the row lets in, the law's Go function returns true and every argument reads as before; no condition of mine. -/
import Derived.Test.YtdmkceaonfbebaaPayS
import Derived.Test.YtdmkceaonfbebaaPayI
import Derived.Test.YtdmkceaonfbebaaStore
import Derived.Test.YtdmkceaonfbebaaTSeries
import Derived.Test.YtdmkceaonfbebaaFactMath
import Derived.Test.YtdmkceaonfbebaaPointMath
import Derived.Test.YtdmkceaonfbebaaFracLaws
import Derived.Test.YtdmkceaonfbebaaKit
import Derived.Test.YtdmkceaonfbebaaTPoint
import Derived.Test.YtdmkceaonfbebaaRows
import Derived.WalkKit
import Derived.ProofKit
import Derived.OpenShut
import Derived.ShutString
import Derived.ChangeOld
import Derived.Below
import Derived.Deep.RegionHeld3
import Derived.Deep.DeepCutAuto
import Derived.Lib.Hide
import Derived.Lib.SmallJoins
import Derived.Test.YtdmkceaonfbebaaFact
namespace Go.Proofs.Ytdmkceaonfbebaa.fnExactBestPay
open Go.ChangeShapes Go.WideShapes Go.ChangeAt Go.RowKit
open Go.ChangeMaps (open_string shut_string)
set_option linter.unusedVariables false

theorem own : ownKnob Try.prog.godebug = none := by kernel_rfl
theorem laidOut : laidOutB Try.prog = true := by kernel_rfl

/-! ### STEP 1: the walk -/
set_option maxHeartbeats 8000000 in
theorem walk (a0_Facts : Option Addr) (len0_Facts cap0_Facts : Nat) (z0_Facts : List Fact.Fa) (a1 : Int) (a2 : Int) (a3 : Int) (a4 : Int) (w : World) (hz0_Facts : z0_Facts.length = len0_Facts) (w0_Facts : RowN.Reads Fact.fc 5 w a0_Facts z0_Facts) (hl0_Facts : len0_Facts ≤ 9223372036854775807) (g0_Facts : ∀ x ∈ z0_Facts, Fact.Wf x) (w1 : (Lit.int .i64 a1).wf = true) (w2 : (Lit.int .i64 a2).wf = true) (w3 : (Lit.int .i64 a3).wf = true) (w4 : (Lit.int .i64 a4).wf = true) :
    Calls Try.prog 9 #[.agg #[.slice a0_Facts len0_Facts cap0_Facts], .int .i64 a1, .int .i64 a2, .int .i64 a3, .int .i64 a4] w fun e w' => e = .returned (.bool true) ∧ Below w.heap.size w w' := by
  have HR0_Facts := Lib.hid w0_Facts
  have HM0_Facts := Lib.hid hz0_Facts
  clear w0_Facts hz0_Facts
  by_cases hbig : 1048576 < len0_Facts
  · go_enter Try.func9, Try.ntmps9
    go_wp2_with fail
    obtain ⟨W1, hW1⟩ : ∃ V : World, V = w.alloc (.cells #[.slice a0_Facts len0_Facts cap0_Facts] 50) := ⟨_, rfl⟩
    rw [← hW1]
    have hb : Below w.heap.size w W1 := by rw [hW1]; (repeat (first | exact Below.refl _ _ | apply BelowKit.bl_alloc | apply BelowKit.bl_drewN | apply BelowKit.bl_drew | (refine BelowKit.bl_set ?_ _ ?_; rotate_left; (first | omega | (simp; omega) | simp)) | (refine BelowKit.bl_trans ?_ (‹Hid (Below _ _ _)›).out)))
    have tW1 : w.heap.size + 1 ≤ W1.heap.size := by rw [hW1]; simp
    have uW1 : W1.heap.size ≤ w.heap.size + 1 := by rw [hW1]; simp
    have c2 : W1.cell? ⟨w.heap.size, 0, none⟩ = some (.slice a0_Facts len0_Facts cap0_Facts) := by rw [hW1]; simp [go_sem]
    have z3 : w.heap.size < W1.heap.size := by omega
    clear hW1
    have sW1 : w.heap.size ≤ W1.heap.size := hb.size
    have HC4 := Lib.hid hb
    clear hb
    refine (Store.sz_c W1 a0_Facts len0_Facts cap0_Facts 1048576 hl0_Facts (by omega) (by omega)).mono ?_
    rintro e w9 ⟨rfl, hb⟩
    rw [if_pos (by omega)]
    have HC9 := Lib.hid (BelowKit.bl_trans HC4.out hb)
    clear hb
    go_wp2
    go_ret
    exact ⟨rfl, HC9.out⟩
  have hs0_Facts : len0_Facts ≤ 1048576 := by omega
  obtain ⟨m0_0, hm0_0⟩ : ∃ v, (PayMath.best z0_Facts a1 a2 a3 a4).n = v := ⟨_, rfl⟩
  have HF0_0 := Lib.hid hm0_0
  clear hm0_0
  obtain ⟨m0_1, hm0_1⟩ : ∃ v, (PayMath.best z0_Facts a1 a2 a3 a4).d = v := ⟨_, rfl⟩
  have HF0_1 := Lib.hid hm0_1
  clear hm0_1
  obtain ⟨m1, hm1⟩ : ∃ v, (PayMath.best z0_Facts a1 a2 a3 a4).p = v := ⟨_, rfl⟩
  have HF1 := Lib.hid hm1
  clear hm1
  obtain ⟨m2, hm2⟩ : ∃ v, (PayMath.best z0_Facts a1 a2 a3 a4).ok = v := ⟨_, rfl⟩
  have HF2 := Lib.hid hm2
  clear hm2
  go_enter Try.func9, Try.ntmps9
  go_wp2_with fail
  obtain ⟨W5, hW5⟩ : ∃ V : World, V = w.alloc (.cells #[.slice a0_Facts len0_Facts cap0_Facts] 50) := ⟨_, rfl⟩
  rw [← hW5]
  have hb : Below w.heap.size w W5 := by rw [hW5]; (repeat (first | exact Below.refl _ _ | apply BelowKit.bl_alloc | apply BelowKit.bl_drewN | apply BelowKit.bl_drew | (refine BelowKit.bl_set ?_ _ ?_; rotate_left; (first | omega | (simp; omega) | simp)) | (refine BelowKit.bl_trans ?_ (‹Hid (Below _ _ _)›).out)))
  have tW5 : w.heap.size + 1 ≤ W5.heap.size := by rw [hW5]; simp
  have uW5 : W5.heap.size ≤ w.heap.size + 1 := by rw [hW5]; simp
  have c6 : W5.cell? ⟨w.heap.size, 0, none⟩ = some (.slice a0_Facts len0_Facts cap0_Facts) := by rw [hW5]; simp [go_sem]
  have z7 : w.heap.size < W5.heap.size := by omega
  clear hW5
  have sW5 : w.heap.size ≤ W5.heap.size := hb.size
  have HC8 := Lib.hid hb
  clear hb
  refine (Store.sz_c W5 a0_Facts len0_Facts cap0_Facts 1048576 hl0_Facts (by omega) (by omega)).mono ?_
  rintro e w9 ⟨rfl, hb⟩
  rw [if_neg (by omega)]
  have sw9 : W5.heap.size ≤ w9.heap.size := hb.size
  have c10 : w9.cell? ⟨w.heap.size, 0, none⟩ = some (.slice a0_Facts len0_Facts cap0_Facts) := ((BelowKit.bcell hb).1 _ _ z7).trans c6
  have z11 : w.heap.size < w9.heap.size := by omega
  have HC12 := Lib.hid (BelowKit.bl_trans HC8.out hb)
  clear c6 z7 HC8 hb
  go_wp2_with fail
  refine (Store.to_c w9 a0_Facts len0_Facts cap0_Facts z0_Facts HM0_Facts.out (by omega) (HR0_Facts.out.on HC12.out)).mono ?_
  rintro e w16 ⟨p13, c14, rfl, ho0, hb⟩
  rw [HM0_Facts.out] at ho0 ⊢
  have sw16 : w9.heap.size ≤ w16.heap.size := hb.size
  have c17 : w16.cell? ⟨w.heap.size, 0, none⟩ = some (.slice a0_Facts len0_Facts cap0_Facts) := ((BelowKit.bcell hb).1 _ _ z11).trans c10
  have z18 : w.heap.size < w16.heap.size := by omega
  have HC19 := Lib.hid (BelowKit.bl_trans HC12.out hb)
  clear c10 z11 HC12 hb
  have HO20 := Lib.hid (Own.ow_of ho0)
  clear ho0
  go_wp2_with fail
  refine (PayS.best_s w16 p13 len0_Facts c14 z0_Facts a1 a2 a3 a4 HM0_Facts.out (by omega) (HO20.out.reads Fact.fw)).mono ?_
  rintro e w21 ⟨rfl, hb⟩
  rw [HF0_0.out, HF0_1.out, HF1.out, HF2.out]
  have sw21 : w16.heap.size ≤ w21.heap.size := hb.size
  have c22 : w21.cell? ⟨w.heap.size, 0, none⟩ = some (.slice a0_Facts len0_Facts cap0_Facts) := ((BelowKit.bcell hb).1 _ _ z18).trans c17
  have z23 : w.heap.size < w21.heap.size := by omega
  have HO24 := Lib.hid (HO20.out.on hb)
  have HC25 := Lib.hid (BelowKit.bl_trans HC19.out hb)
  clear c17 z18 HO20 HC19 hb
  go_wp2_with fail
  obtain ⟨W26, hW26⟩ : ∃ V : World, V = w21.alloc (.cells #[.int .i64 m0_0, .int .i64 m0_1] 33) := ⟨_, rfl⟩
  rw [← hW26]
  have hb : Below w21.heap.size w21 W26 := by rw [hW26]; (repeat (first | exact Below.refl _ _ | apply BelowKit.bl_alloc | apply BelowKit.bl_drewN | apply BelowKit.bl_drew | (refine BelowKit.bl_set ?_ _ ?_; rotate_left; (first | omega | (simp; omega) | simp)) | (refine BelowKit.bl_trans ?_ (‹Hid (Below _ _ _)›).out)))
  have tW26 : w21.heap.size + 1 ≤ W26.heap.size := by rw [hW26]; simp
  have uW26 : W26.heap.size ≤ w21.heap.size + 1 := by rw [hW26]; simp
  have c27 : W26.cell? ⟨w21.heap.size, 0, none⟩ = some (.int .i64 m0_0) := by rw [hW26]; simp [go_sem]
  have c28 : W26.cell? ⟨w21.heap.size, 1, none⟩ = some (.int .i64 m0_1) := by rw [hW26]; simp [go_sem]
  have z29 : w21.heap.size < W26.heap.size := by omega
  clear hW26
  have sW26 : w21.heap.size ≤ W26.heap.size := hb.size
  have c30 : W26.cell? ⟨w.heap.size, 0, none⟩ = some (.slice a0_Facts len0_Facts cap0_Facts) := ((BelowKit.bcell hb).1 _ _ z23).trans c22
  have z31 : w.heap.size < W26.heap.size := by omega
  have HO32 := Lib.hid (HO24.out.on hb)
  have HC33 := Lib.hid (BelowKit.bl_trans HC25.out hb)
  clear c22 z23 HO24 HC25 hb
  refine (Store.to_c W26 a0_Facts len0_Facts cap0_Facts z0_Facts HM0_Facts.out (by omega) (HR0_Facts.out.on HC33.out)).mono ?_
  rintro e w37 ⟨p34, c35, rfl, ho0, hb⟩
  rw [HM0_Facts.out] at ho0 ⊢
  have sw37 : W26.heap.size ≤ w37.heap.size := hb.size
  have c38 : w37.cell? ⟨w.heap.size, 0, none⟩ = some (.slice a0_Facts len0_Facts cap0_Facts) := ((BelowKit.bcell hb).1 _ _ z31).trans c30
  have z39 : w.heap.size < w37.heap.size := by omega
  have c40 : w37.cell? ⟨w21.heap.size, 0, none⟩ = some (.int .i64 m0_0) := ((BelowKit.bcell hb).1 _ _ z29).trans c27
  have c41 : w37.cell? ⟨w21.heap.size, 1, none⟩ = some (.int .i64 m0_1) := ((BelowKit.bcell hb).1 _ _ z29).trans c28
  have z42 : w21.heap.size < w37.heap.size := by omega
  have HO43 := Lib.hid (HO32.out.on hb)
  have HC44 := Lib.hid (BelowKit.bl_trans HC33.out hb)
  clear c30 z31 c27 c28 z29 HO32 HC33 hb
  have HO45 := Lib.hid (Own.ow_of ho0)
  clear ho0
  go_wp2_with fail
  obtain ⟨W46, hW46⟩ : ∃ V : World, V = w37.alloc (.cells #[.slice p34 len0_Facts c35] 26) := ⟨_, rfl⟩
  rw [← hW46]
  have hb : Below w37.heap.size w37 W46 := by rw [hW46]; (repeat (first | exact Below.refl _ _ | apply BelowKit.bl_alloc | apply BelowKit.bl_drewN | apply BelowKit.bl_drew | (refine BelowKit.bl_set ?_ _ ?_; rotate_left; (first | omega | (simp; omega) | simp)) | (refine BelowKit.bl_trans ?_ (‹Hid (Below _ _ _)›).out)))
  have tW46 : w37.heap.size + 1 ≤ W46.heap.size := by rw [hW46]; simp
  have uW46 : W46.heap.size ≤ w37.heap.size + 1 := by rw [hW46]; simp
  have c47 : W46.cell? ⟨w37.heap.size, 0, none⟩ = some (.slice p34 len0_Facts c35) := by rw [hW46]; simp [go_sem]
  have z48 : w37.heap.size < W46.heap.size := by omega
  clear hW46
  have sW46 : w37.heap.size ≤ W46.heap.size := hb.size
  have c49 : W46.cell? ⟨w.heap.size, 0, none⟩ = some (.slice a0_Facts len0_Facts cap0_Facts) := ((BelowKit.bcell hb).1 _ _ z39).trans c38
  have z50 : w.heap.size < W46.heap.size := by omega
  have c51 : W46.cell? ⟨w21.heap.size, 0, none⟩ = some (.int .i64 m0_0) := ((BelowKit.bcell hb).1 _ _ z42).trans c40
  have c52 : W46.cell? ⟨w21.heap.size, 1, none⟩ = some (.int .i64 m0_1) := ((BelowKit.bcell hb).1 _ _ z42).trans c41
  have z53 : w21.heap.size < W46.heap.size := by omega
  have HO54 := Lib.hid (HO43.out.on hb)
  have HO55 := Lib.hid (HO45.out.on hb)
  have HC56 := Lib.hid (BelowKit.bl_trans HC44.out hb)
  clear c38 z39 c40 c41 z42 HO43 HO45 HC44 hb
  refine (PayI.best_i W46 p34 len0_Facts c35 z0_Facts a1 a2 a3 a4 HM0_Facts.out (by omega) (HO55.out.reads Fact.fw)).mono ?_
  rintro e w57 ⟨rfl, hb⟩
  rw [HF0_0.out, HF0_1.out, HF1.out, HF2.out]
  have sw57 : W46.heap.size ≤ w57.heap.size := hb.size
  have c58 : w57.cell? ⟨w.heap.size, 0, none⟩ = some (.slice a0_Facts len0_Facts cap0_Facts) := ((BelowKit.bcell hb).1 _ _ z50).trans c49
  have z59 : w.heap.size < w57.heap.size := by omega
  have c60 : w57.cell? ⟨w21.heap.size, 0, none⟩ = some (.int .i64 m0_0) := ((BelowKit.bcell hb).1 _ _ z53).trans c51
  have c61 : w57.cell? ⟨w21.heap.size, 1, none⟩ = some (.int .i64 m0_1) := ((BelowKit.bcell hb).1 _ _ z53).trans c52
  have z62 : w21.heap.size < w57.heap.size := by omega
  have c63 : w57.cell? ⟨w37.heap.size, 0, none⟩ = some (.slice p34 len0_Facts c35) := ((BelowKit.bcell hb).1 _ _ z48).trans c47
  have z64 : w37.heap.size < w57.heap.size := by omega
  have HO65 := Lib.hid (HO54.out.on hb)
  have HO66 := Lib.hid (HO55.out.on hb)
  have HC67 := Lib.hid (BelowKit.bl_trans HC56.out hb)
  clear c49 z50 c51 c52 z53 c47 z48 HO54 HO55 HC56 hb
  go_wp2_with fail
  obtain ⟨W68, hW68⟩ : ∃ V : World, V = w57.alloc (.cells #[.int .i64 m0_0, .int .i64 m0_1] 33) := ⟨_, rfl⟩
  rw [← hW68]
  have hb : Below w57.heap.size w57 W68 := by rw [hW68]; (repeat (first | exact Below.refl _ _ | apply BelowKit.bl_alloc | apply BelowKit.bl_drewN | apply BelowKit.bl_drew | (refine BelowKit.bl_set ?_ _ ?_; rotate_left; (first | omega | (simp; omega) | simp)) | (refine BelowKit.bl_trans ?_ (‹Hid (Below _ _ _)›).out)))
  have tW68 : w57.heap.size + 1 ≤ W68.heap.size := by rw [hW68]; simp
  have uW68 : W68.heap.size ≤ w57.heap.size + 1 := by rw [hW68]; simp
  have c69 : W68.cell? ⟨w57.heap.size, 0, none⟩ = some (.int .i64 m0_0) := by rw [hW68]; simp [go_sem]
  have c70 : W68.cell? ⟨w57.heap.size, 1, none⟩ = some (.int .i64 m0_1) := by rw [hW68]; simp [go_sem]
  have z71 : w57.heap.size < W68.heap.size := by omega
  clear hW68
  have sW68 : w57.heap.size ≤ W68.heap.size := hb.size
  have c72 : W68.cell? ⟨w.heap.size, 0, none⟩ = some (.slice a0_Facts len0_Facts cap0_Facts) := ((BelowKit.bcell hb).1 _ _ z59).trans c58
  have z73 : w.heap.size < W68.heap.size := by omega
  have c74 : W68.cell? ⟨w21.heap.size, 0, none⟩ = some (.int .i64 m0_0) := ((BelowKit.bcell hb).1 _ _ z62).trans c60
  have c75 : W68.cell? ⟨w21.heap.size, 1, none⟩ = some (.int .i64 m0_1) := ((BelowKit.bcell hb).1 _ _ z62).trans c61
  have z76 : w21.heap.size < W68.heap.size := by omega
  have c77 : W68.cell? ⟨w37.heap.size, 0, none⟩ = some (.slice p34 len0_Facts c35) := ((BelowKit.bcell hb).1 _ _ z64).trans c63
  have z78 : w37.heap.size < W68.heap.size := by omega
  have HO79 := Lib.hid (HO65.out.on hb)
  have HO80 := Lib.hid (HO66.out.on hb)
  have HC81 := Lib.hid (BelowKit.bl_trans HC67.out hb)
  clear c58 z59 c60 c61 z62 c63 z64 HO65 HO66 HC67 hb
  refine (FracLaws.eq_yes m0_0 m0_1 W68).mono ?_
  rintro e w82 ⟨rfl, hb⟩
  have sw82 : W68.heap.size ≤ w82.heap.size := hb.size
  have c83 : w82.cell? ⟨w.heap.size, 0, none⟩ = some (.slice a0_Facts len0_Facts cap0_Facts) := ((BelowKit.bcell hb).1 _ _ z73).trans c72
  have z84 : w.heap.size < w82.heap.size := by omega
  have c85 : w82.cell? ⟨w21.heap.size, 0, none⟩ = some (.int .i64 m0_0) := ((BelowKit.bcell hb).1 _ _ z76).trans c74
  have c86 : w82.cell? ⟨w21.heap.size, 1, none⟩ = some (.int .i64 m0_1) := ((BelowKit.bcell hb).1 _ _ z76).trans c75
  have z87 : w21.heap.size < w82.heap.size := by omega
  have c88 : w82.cell? ⟨w37.heap.size, 0, none⟩ = some (.slice p34 len0_Facts c35) := ((BelowKit.bcell hb).1 _ _ z78).trans c77
  have z89 : w37.heap.size < w82.heap.size := by omega
  have c90 : w82.cell? ⟨w57.heap.size, 0, none⟩ = some (.int .i64 m0_0) := ((BelowKit.bcell hb).1 _ _ z71).trans c69
  have c91 : w82.cell? ⟨w57.heap.size, 1, none⟩ = some (.int .i64 m0_1) := ((BelowKit.bcell hb).1 _ _ z71).trans c70
  have z92 : w57.heap.size < w82.heap.size := by omega
  have HO93 := Lib.hid (HO79.out.on hb)
  have HO94 := Lib.hid (HO80.out.on hb)
  have HC95 := Lib.hid (BelowKit.bl_trans HC81.out hb)
  clear c72 z73 c74 c75 z76 c77 z78 c69 c70 z71 HO79 HO80 HC81 hb
  go_wp2_with fail
  have gc83 := Grown.G.keep c83 z84
  have gc85 := Grown.G.keep c85 z87
  have gc86 := Grown.G.keep c86 z87
  have gc88 := Grown.G.keep c88 z89
  have gc90 := Grown.G.keep c90 z92
  have gc91 := Grown.G.keep c91 z92
  refine Fresh.wp_region_grow (fun k => match k with | 2 => .grow | 3 => .grow | _ => .quiet)
    (fun k v => match k with
          | 2 => (∃ p96 c97, v = .agg #[.slice p96 len0_Facts c97])
          | 3 => (v = .bool true)
          | _ => v = undef)
    (fun k v s w1 => match k with
          | 2 => (∃ p96 c97, w82.heap.size ≤ s ∧ v = .agg #[.slice p96 len0_Facts c97] ∧ Own.Ow Fact.fc 5 71 w1 s w1.heap.size (.slice p96 len0_Facts c97) z0_Facts)
          | 3 => (w82.heap.size ≤ s ∧ v = .bool true)
          | _ => True)
    (by kernel_rfl) (by kernel_rfl) (by kernel_rfl) (by kernel_rfl) ?_
  refine Fresh.wpG_q rfl ?_
  go_big_quiet_step (fail)
  refine wpQuiet_nil ?_
  refine Fresh.wpG_q rfl ?_
  go_big_quiet_step (fail)
  refine wpQuiet_nil ?_
  refine Fresh.wpG_call #[.agg #[.slice a0_Facts len0_Facts cap0_Facts]] rfl Try.func23 (by kernel_rfl) (by kernel_rfl) rfl ⟨_, none, 0, rfl⟩ (fun X hd => ?_) ?_
  · have hX := X.bel.size
    refine (Store.to_c X.w a0_Facts len0_Facts cap0_Facts z0_Facts HM0_Facts.out (by omega) (HR0_Facts.out.on (BelowKit.bl_trans HC95.out X.bel))).mono ?_
    rintro e w8 ⟨p96, c97, rfl, ho0, hb⟩
    try rw [HM0_Facts.out] at ho0
    try rw [HM0_Facts.out]
    exact ⟨_, rfl, hb, ⟨p96, c97, rfl⟩, p96, c97, by omega, rfl, Own.ow_of ho0⟩
  rintro v ⟨p96, c97, rfl⟩
  go_big_quiet_step (fail)
  refine wpQuiet_nil ?_
  refine Fresh.wpG_call #[.agg #[.slice p34 len0_Facts c35], .agg #[.slice p96 len0_Facts c97]] rfl Try.func24 (by kernel_rfl) (by kernel_rfl) rfl ⟨_, rfl⟩ (fun X hd => ?_) ?_
  · obtain ⟨_, _, w9, ⟨p96_ , c97_, _, e9, ho_r98⟩, _, hb9⟩ := hd ⟨2, .data⟩ (by simp) rfl rfl
    have e8 : (.agg #[.slice p96 len0_Facts c97] : Value) = .agg #[.slice p96_ len0_Facts c97_] := e9
    cases e8
    replace ho_r98 := ho_r98.on hb9
    have hX := X.bel.size
    refine (Store.eq_c X.w len0_Facts c35 c97 p34 p96 z0_Facts HM0_Facts.out (by omega) ((HO94.out.on X.bel).reads Fact.fw) (ho_r98.reads Fact.fw)).mono ?_
    rintro e w8 ⟨rfl, hb⟩
    exact ⟨_, rfl, hb, rfl, by omega, rfl⟩
  rintro v rfl
  go_big_quiet_step (fail)
  refine wpQuiet_nil ?_
  refine Fresh.wpG_q rfl ?_
  go_big_quiet_step (fail)
  refine wpQuiet_nil ?_
  refine Fresh.wpG_nil fun X sN1 tN1 hk => ?_
  have hXs := X.bel.size
  have hbX := X.bel
  obtain ⟨w99, hU⟩ : ∃ U : World, U = X.w := ⟨_, rfl⟩
  rw [← hU] at hbX  ⊢
  clear hk hU hXs gc83 gc85 gc86 gc88 gc90 gc91
  have sw99 : w82.heap.size ≤ w99.heap.size := hbX.size
  have c100 : w99.cell? ⟨w.heap.size, 0, none⟩ = some (.slice a0_Facts len0_Facts cap0_Facts) := ((BelowKit.bcell hbX).1 _ _ z84).trans c83
  have z101 : w.heap.size < w99.heap.size := by omega
  have c102 : w99.cell? ⟨w21.heap.size, 0, none⟩ = some (.int .i64 m0_0) := ((BelowKit.bcell hbX).1 _ _ z87).trans c85
  have c103 : w99.cell? ⟨w21.heap.size, 1, none⟩ = some (.int .i64 m0_1) := ((BelowKit.bcell hbX).1 _ _ z87).trans c86
  have z104 : w21.heap.size < w99.heap.size := by omega
  have c105 : w99.cell? ⟨w37.heap.size, 0, none⟩ = some (.slice p34 len0_Facts c35) := ((BelowKit.bcell hbX).1 _ _ z89).trans c88
  have z106 : w37.heap.size < w99.heap.size := by omega
  have c107 : w99.cell? ⟨w57.heap.size, 0, none⟩ = some (.int .i64 m0_0) := ((BelowKit.bcell hbX).1 _ _ z92).trans c90
  have c108 : w99.cell? ⟨w57.heap.size, 1, none⟩ = some (.int .i64 m0_1) := ((BelowKit.bcell hbX).1 _ _ z92).trans c91
  have z109 : w57.heap.size < w99.heap.size := by omega
  have HO110 := Lib.hid (HO93.out.on hbX)
  have HO111 := Lib.hid (HO94.out.on hbX)
  have HC112 := Lib.hid (BelowKit.bl_trans HC95.out hbX)
  clear c83 z84 c85 c86 z87 c88 z89 c90 c91 z92 HO93 HO94 HC95 hbX
  go_wp2
  go_ret
  exact ⟨rfl, by (repeat (first | exact Below.refl _ _ | apply BelowKit.bl_alloc | apply BelowKit.bl_drewN | apply BelowKit.bl_drew | (refine BelowKit.bl_set ?_ _ ?_; rotate_left; (first | omega | (simp; omega) | simp)) | (refine BelowKit.bl_trans ?_ (‹Hid (Below _ _ _)›).out)))⟩

/-! ### THE ROW's STEP -/
set_option maxRecDepth 100000 in
theorem lifted (os : Os) (started : os.Started) (H : Type) (enc : TypeId × Value → H) :
    ReturnsInHanded {} Try.checked os 9 .any (Rows.fnExactBestPaySpec.pre6 enc Try.prog Try.f9 Rows.fnExactBestPayRow.domain false) (Rows.fnExactBestPaySpec.post enc Try.prog Try.f9 false true false false) := by
  refine returnsInHanded_of_change (C := Try.checked) own started (by kernel_rfl) Try.func9
    (ChangeSpec.witness6 (enc := enc) (C := Try.checked) false ⟨#[], #[.agg #[.slice none 0 0], .int .i64 0, .int .i64 0, .int .i64 0, .int .i64 0], []⟩ 8 (by kernel_rfl) (by kernel_rfl) (by kernel_rfl) (by kernel_rfl)) ?_
  intro W base args ds gs before hval0 hW hcnd _
  have hval : ∀ (j : Nat) t v, Try.f9.params[j]? = some t → args[j]? = some v → Value.okWide Try.prog W .any base t v := hval0
  have hW' := hW
  obtain ⟨p, q, hA0, hV, rfl, hfz, hnd⟩ := hW
  have hA : DataW.TrodAll enc Try.prog W 0 (fun _ => true) true Try.f9.params.toList args.toList ds p := hA0
  rw [Try.params9] at hA hval
  obtain ⟨v0, vs0, d0, ds0, p0, q0, hargs, rfl, rfl, h0, r0⟩ := trodAll_cons hA
  obtain ⟨v1, vs1, d1, ds1, p1, q1, rfl, rfl, rfl, h1, r1⟩ := trodAll_cons r0
  obtain ⟨v2, vs2, d2, ds2, p2, q2, rfl, rfl, rfl, h2, r2⟩ := trodAll_cons r1
  obtain ⟨v3, vs3, d3, ds3, p3, q3, rfl, rfl, rfl, h3, r3⟩ := trodAll_cons r2
  obtain ⟨v4, vs4, d4, ds4, p4, q4, rfl, rfl, rfl, h4, r4⟩ := trodAll_cons r3
  obtain ⟨rfl, rfl, rfl⟩ := trodAll_nil r4
  obtain rfl : args = #[v0, v1, v2, v3, v4] := by cases args; simp_all
  obtain ⟨rfl, rfl⟩ := trodVars_none hV
  have k0 := h0
  have lt0 : ∀ x ∈ p0, x.block < W.heap.size := by obtain ⟨m, hm⟩ := k0; exact DataW.trod_lt m _ _ _ hm
  obtain ⟨⟨l0⟩, rfl, _⟩ := okWide_struct Try.underlying50 (hval 0 50 v0 rfl rfl)
  have s0 : Shape.FitL W [.sl [.int .i64, .int .i64, .int .i64, .int .i64, .int .i64]] l0 := by
    obtain ⟨fu, hfu⟩ := h0
    exact Shape.trod_fit 8 50 _ (by kernel_rfl) _ _ _ hfu
  obtain ⟨a0_Facts, len0_Facts, cap0_Facts, r0, rfl, s0_Facts, s0⟩ := Shape.fit_sl s0
  obtain ⟨z0_Facts, hz0_Facts, w0_Facts, hl0_Facts, g0_Facts⟩ := Shape.reads_of (f := Fact.fc) (c := 5) (good := Fact.Wf) rfl (fun _ h => Fact.cov h) s0_Facts
  obtain rfl := Shape.fit_nil s0
  obtain ⟨a1, rfl, rfl, rfl, w1⟩ := open_int Try.underlying3 (hval 1 3 v1 rfl rfl) h1
  obtain ⟨a2, rfl, rfl, rfl, w2⟩ := open_int Try.underlying3 (hval 2 3 v2 rfl rfl) h2
  obtain ⟨a3, rfl, rfl, rfl, w3⟩ := open_int Try.underlying3 (hval 3 3 v3 rfl rfl) h3
  obtain ⟨a4, rfl, rfl, rfl, w4⟩ := open_int Try.underlying3 (hval 4 3 v4 rfl rfl) h4
  clear hA0 hval0
  refine (walk a0_Facts len0_Facts cap0_Facts z0_Facts a1 a2 a3 a4 W hz0_Facts w0_Facts hl0_Facts g0_Facts w1 w2 w3 w4).mono fun e W' ⟨he, bel⟩ => ?_
  subst he
  exact ⟨_, rfl, _, _, _, [], _, [], hW', trodAll_mk1 (shut_bool Try.underlying4 _), (trodAll_cons_mk (Below.trod laidOut (by kernel_rfl) (of_decide_eq_true (by kernel_rfl)) k0 bel lt0) (trodAll_cons_mk (shut_int Try.underlying3 w1) (trodAll_cons_mk (shut_int Try.underlying3 w2) (trodAll_cons_mk (shut_int Try.underlying3 w3) (trodAll_cons_mk (shut_int Try.underlying3 w4) trodAll_mk0))))), rfl, bel.frame _, fun h => by cases h⟩

theorem over : Rows.fnExactBestPayRow.holds Try.pinned (OpenSpec.ofChange Rows.fnExactBestPaySpec) :=
  OpenClaim.holds_of_wide 9 Try.f9 rfl rfl rfl rfl rfl rfl rfl ⟨rfl, rfl, rfl, rfl, rfl⟩ rfl rfl rfl rfl rfl (by kernel_rfl) Try.func9 (by kernel_rfl)
    (of_decide_eq_true (by kernel_rfl)) (by unfold Func.isWrapper; first | (rw [if_pos (by decide +kernel)]; kernel_rfl) | (rw [if_neg (by decide +kernel)]; exact ⟨rfl, rfl⟩))
    (fun os started H enc _ => lifted os started H enc)

theorem proved : Rows.FnExactBestPaySaid := over
#print axioms proved
end Go.Proofs.Ytdmkceaonfbebaa.fnExactBestPay
