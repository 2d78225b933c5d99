/- Proves the given statement of the law FnExactStoreAsOf: for every input that the row lets in, the law's Go function returns true and every argument reads as before; no condition of mine. -/
import Derived.Test.YthilfkcebbnoiaaStore
import Derived.Test.YthilfkcebbnoiaaStoreAsOf
import Derived.Test.YthilfkcebbnoiaaFactMath
import Derived.Test.YthilfkcebbnoiaaOwn
import Derived.Test.YthilfkcebbnoiaaFresh
import Derived.Test.YthilfkcebbnoiaaGrown
import Derived.Test.YthilfkcebbnoiaaBelowKit
import Derived.Test.YthilfkcebbnoiaaTInt
import Derived.Test.YthilfkcebbnoiaaRows
import Derived.WalkKit
import Derived.ProofKit
import Derived.OpenShut
import Derived.ShutString
import Derived.ChangeOld
import Derived.Below
import Derived.Deep.RegionHeld3
import Derived.Deep.DeepCutAuto
import Derived.Lib.Hide
import Derived.Lib.SmallJoins
import Derived.Test.YthilfkcebbnoiaaFact
import Derived.Test.YthilfkcebbnoiaaShape
namespace Go.Proofs.Ythilfkcebbnoiaa.fnExactStoreAsOf
open Go.ChangeShapes Go.WideShapes Go.ChangeAt Go.RowKit
open Go.ChangeMaps (open_string shut_string)
set_option linter.unusedVariables false

theorem own : ownKnob Try.prog.godebug = none := by kernel_rfl
theorem laidOut : laidOutB Try.prog = true := by kernel_rfl

/-! ### STEP 1: the walk -/
theorem walk (a0_Facts : Option Addr) (len0_Facts cap0_Facts : Nat) (z0_Facts : List Fact.Fa) (a1 : Int) (w : World) (hz0_Facts : z0_Facts.length = len0_Facts) (w0_Facts : RowN.Reads Fact.fc 5 w a0_Facts z0_Facts) (hl0_Facts : len0_Facts ≤ 9223372036854775807) (g0_Facts : ∀ x ∈ z0_Facts, Fact.Wf x) (w1 : (Lit.int .i64 a1).wf = true) :
    Calls Try.prog 10 #[.agg #[.slice a0_Facts len0_Facts cap0_Facts], .int .i64 a1] w fun e w' => e = .returned (.bool true) ∧ Below w.heap.size w w' := by
  have HR0_Facts := Lib.hid w0_Facts
  have HM0_Facts := Lib.hid hz0_Facts
  clear w0_Facts hz0_Facts
  by_cases hbig : 1048576 < len0_Facts
  · go_enter Try.func10, Try.ntmps10
    go_wp2_with fail
    obtain ⟨W1, hW1⟩ : ∃ V : World, V = w.alloc (.cells #[.slice a0_Facts len0_Facts cap0_Facts] 45) := ⟨_, rfl⟩
    rw [← hW1]
    have hb : Below w.heap.size w W1 := by rw [hW1]; (repeat (first | exact Below.refl _ _ | apply BelowKit.bl_alloc | apply BelowKit.bl_drewN | apply BelowKit.bl_drew | (refine BelowKit.bl_set ?_ _ ?_; rotate_left; (first | omega | (simp; omega) | simp)) | (refine BelowKit.bl_trans ?_ (‹Hid (Below _ _ _)›).out)))
    have tW1 : w.heap.size + 1 ≤ W1.heap.size := by rw [hW1]; simp
    have uW1 : W1.heap.size ≤ w.heap.size + 1 := by rw [hW1]; simp
    have c2 : W1.cell? ⟨w.heap.size, 0, none⟩ = some (.slice a0_Facts len0_Facts cap0_Facts) := by rw [hW1]; simp [go_sem]
    have z3 : w.heap.size < W1.heap.size := by omega
    clear hW1
    have sW1 : w.heap.size ≤ W1.heap.size := hb.size
    have HC4 := Lib.hid hb
    clear hb
    refine (Store.sz_c W1 a0_Facts len0_Facts cap0_Facts 1048576 hl0_Facts (by omega) (by omega)).mono ?_
    rintro e w9 ⟨rfl, hb⟩
    rw [if_pos (by omega)]
    have HC9 := Lib.hid (BelowKit.bl_trans HC4.out hb)
    clear hb
    go_wp2
    go_ret
    exact ⟨rfl, HC9.out⟩
  have hs0_Facts : len0_Facts ≤ 1048576 := by omega
  obtain ⟨m0, hm0⟩ : ∃ v, FactMath.keep a1 z0_Facts = v := ⟨_, rfl⟩
  have hbm0 : m0.length ≤ 1099511627776 := by rw [← hm0]; exact Nat.le_trans (FactMath.keep_len _ _) (by have := HM0_Facts.out; omega)
  obtain ⟨nm0, hnm0⟩ : ∃ n, m0.length = n := ⟨_, rfl⟩
  rw [hnm0] at hbm0
  have HF0 := Lib.hid hm0
  have HN0 := Lib.hid hnm0
  clear hm0 hnm0
  go_enter Try.func10, Try.ntmps10
  go_wp2_with fail
  obtain ⟨W5, hW5⟩ : ∃ V : World, V = w.alloc (.cells #[.slice a0_Facts len0_Facts cap0_Facts] 45) := ⟨_, rfl⟩
  rw [← hW5]
  have hb : Below w.heap.size w W5 := by rw [hW5]; (repeat (first | exact Below.refl _ _ | apply BelowKit.bl_alloc | apply BelowKit.bl_drewN | apply BelowKit.bl_drew | (refine BelowKit.bl_set ?_ _ ?_; rotate_left; (first | omega | (simp; omega) | simp)) | (refine BelowKit.bl_trans ?_ (‹Hid (Below _ _ _)›).out)))
  have tW5 : w.heap.size + 1 ≤ W5.heap.size := by rw [hW5]; simp
  have uW5 : W5.heap.size ≤ w.heap.size + 1 := by rw [hW5]; simp
  have c6 : W5.cell? ⟨w.heap.size, 0, none⟩ = some (.slice a0_Facts len0_Facts cap0_Facts) := by rw [hW5]; simp [go_sem]
  have z7 : w.heap.size < W5.heap.size := by omega
  clear hW5
  have sW5 : w.heap.size ≤ W5.heap.size := hb.size
  have HC8 := Lib.hid hb
  clear hb
  refine (Store.sz_c W5 a0_Facts len0_Facts cap0_Facts 1048576 hl0_Facts (by omega) (by omega)).mono ?_
  rintro e w9 ⟨rfl, hb⟩
  rw [if_neg (by omega)]
  have sw9 : W5.heap.size ≤ w9.heap.size := hb.size
  have c10 : w9.cell? ⟨w.heap.size, 0, none⟩ = some (.slice a0_Facts len0_Facts cap0_Facts) := ((BelowKit.bcell hb).1 _ _ z7).trans c6
  have z11 : w.heap.size < w9.heap.size := by omega
  have HC12 := Lib.hid (BelowKit.bl_trans HC8.out hb)
  clear c6 z7 HC8 hb
  go_wp2_with fail
  refine (Store.to_c w9 a0_Facts len0_Facts cap0_Facts z0_Facts HM0_Facts.out (by omega) (HR0_Facts.out.on HC12.out)).mono ?_
  rintro e w16 ⟨p13, c14, rfl, ho0, hb⟩
  rw [HM0_Facts.out] at ho0 ⊢
  have sw16 : w9.heap.size ≤ w16.heap.size := hb.size
  have c17 : w16.cell? ⟨w.heap.size, 0, none⟩ = some (.slice a0_Facts len0_Facts cap0_Facts) := ((BelowKit.bcell hb).1 _ _ z11).trans c10
  have z18 : w.heap.size < w16.heap.size := by omega
  have HC19 := Lib.hid (BelowKit.bl_trans HC12.out hb)
  clear c10 z11 HC12 hb
  have HO20 := Lib.hid (Own.ow_of ho0)
  clear ho0
  go_wp2_with fail
  refine (StoreAsOf.asof_s w16 p13 len0_Facts c14 z0_Facts a1 HM0_Facts.out (by omega) (HO20.out.reads Fact.fw)).mono ?_
  rintro e w24 ⟨p21, c22, rfl, ho0, hb⟩
  rw [HF0.out, HN0.out] at ho0 ⊢
  have sw24 : w16.heap.size ≤ w24.heap.size := hb.size
  have c25 : w24.cell? ⟨w.heap.size, 0, none⟩ = some (.slice a0_Facts len0_Facts cap0_Facts) := ((BelowKit.bcell hb).1 _ _ z18).trans c17
  have z26 : w.heap.size < w24.heap.size := by omega
  have HO27 := Lib.hid (HO20.out.on hb)
  have HC28 := Lib.hid (BelowKit.bl_trans HC19.out hb)
  clear c17 z18 HO20 HC19 hb
  have HO29 := Lib.hid (Own.ow_of ho0)
  clear ho0
  go_wp2_with fail
  obtain ⟨W30, hW30⟩ : ∃ V : World, V = w24.alloc (.cells #[.slice p21 nm0 c22] 26) := ⟨_, rfl⟩
  rw [← hW30]
  have hb : Below w24.heap.size w24 W30 := by rw [hW30]; (repeat (first | exact Below.refl _ _ | apply BelowKit.bl_alloc | apply BelowKit.bl_drewN | apply BelowKit.bl_drew | (refine BelowKit.bl_set ?_ _ ?_; rotate_left; (first | omega | (simp; omega) | simp)) | (refine BelowKit.bl_trans ?_ (‹Hid (Below _ _ _)›).out)))
  have tW30 : w24.heap.size + 1 ≤ W30.heap.size := by rw [hW30]; simp
  have uW30 : W30.heap.size ≤ w24.heap.size + 1 := by rw [hW30]; simp
  have c31 : W30.cell? ⟨w24.heap.size, 0, none⟩ = some (.slice p21 nm0 c22) := by rw [hW30]; simp [go_sem]
  have z32 : w24.heap.size < W30.heap.size := by omega
  clear hW30
  have sW30 : w24.heap.size ≤ W30.heap.size := hb.size
  have c33 : W30.cell? ⟨w.heap.size, 0, none⟩ = some (.slice a0_Facts len0_Facts cap0_Facts) := ((BelowKit.bcell hb).1 _ _ z26).trans c25
  have z34 : w.heap.size < W30.heap.size := by omega
  have HO35 := Lib.hid (HO27.out.on hb)
  have HO36 := Lib.hid (HO29.out.on hb)
  have HC37 := Lib.hid (BelowKit.bl_trans HC28.out hb)
  clear c25 z26 HO27 HO29 HC28 hb
  refine (Store.to_c W30 a0_Facts len0_Facts cap0_Facts z0_Facts HM0_Facts.out (by omega) (HR0_Facts.out.on HC37.out)).mono ?_
  rintro e w41 ⟨p38, c39, rfl, ho0, hb⟩
  rw [HM0_Facts.out] at ho0 ⊢
  have sw41 : W30.heap.size ≤ w41.heap.size := hb.size
  have c42 : w41.cell? ⟨w.heap.size, 0, none⟩ = some (.slice a0_Facts len0_Facts cap0_Facts) := ((BelowKit.bcell hb).1 _ _ z34).trans c33
  have z43 : w.heap.size < w41.heap.size := by omega
  have c44 : w41.cell? ⟨w24.heap.size, 0, none⟩ = some (.slice p21 nm0 c22) := ((BelowKit.bcell hb).1 _ _ z32).trans c31
  have z45 : w24.heap.size < w41.heap.size := by omega
  have HO46 := Lib.hid (HO35.out.on hb)
  have HO47 := Lib.hid (HO36.out.on hb)
  have HC48 := Lib.hid (BelowKit.bl_trans HC37.out hb)
  clear c33 z34 c31 z32 HO35 HO36 HC37 hb
  have HO49 := Lib.hid (Own.ow_of ho0)
  clear ho0
  go_wp2_with fail
  obtain ⟨W50, hW50⟩ : ∃ V : World, V = w41.alloc (.cells #[.slice p38 len0_Facts c39] 26) := ⟨_, rfl⟩
  rw [← hW50]
  have hb : Below w41.heap.size w41 W50 := by rw [hW50]; (repeat (first | exact Below.refl _ _ | apply BelowKit.bl_alloc | apply BelowKit.bl_drewN | apply BelowKit.bl_drew | (refine BelowKit.bl_set ?_ _ ?_; rotate_left; (first | omega | (simp; omega) | simp)) | (refine BelowKit.bl_trans ?_ (‹Hid (Below _ _ _)›).out)))
  have tW50 : w41.heap.size + 1 ≤ W50.heap.size := by rw [hW50]; simp
  have uW50 : W50.heap.size ≤ w41.heap.size + 1 := by rw [hW50]; simp
  have c51 : W50.cell? ⟨w41.heap.size, 0, none⟩ = some (.slice p38 len0_Facts c39) := by rw [hW50]; simp [go_sem]
  have z52 : w41.heap.size < W50.heap.size := by omega
  clear hW50
  have sW50 : w41.heap.size ≤ W50.heap.size := hb.size
  have c53 : W50.cell? ⟨w.heap.size, 0, none⟩ = some (.slice a0_Facts len0_Facts cap0_Facts) := ((BelowKit.bcell hb).1 _ _ z43).trans c42
  have z54 : w.heap.size < W50.heap.size := by omega
  have c55 : W50.cell? ⟨w24.heap.size, 0, none⟩ = some (.slice p21 nm0 c22) := ((BelowKit.bcell hb).1 _ _ z45).trans c44
  have z56 : w24.heap.size < W50.heap.size := by omega
  have HO57 := Lib.hid (HO46.out.on hb)
  have HO58 := Lib.hid (HO47.out.on hb)
  have HO59 := Lib.hid (HO49.out.on hb)
  have HC60 := Lib.hid (BelowKit.bl_trans HC48.out hb)
  clear c42 z43 c44 z45 HO46 HO47 HO49 HC48 hb
  refine (StoreAsOf.asof_i W50 p38 len0_Facts c39 z0_Facts a1 HM0_Facts.out (by omega) (HO59.out.reads Fact.fw)).mono ?_
  rintro e w64 ⟨p61, c62, rfl, ho0, hb⟩
  rw [HF0.out, HN0.out] at ho0 ⊢
  have sw64 : W50.heap.size ≤ w64.heap.size := hb.size
  have c65 : w64.cell? ⟨w.heap.size, 0, none⟩ = some (.slice a0_Facts len0_Facts cap0_Facts) := ((BelowKit.bcell hb).1 _ _ z54).trans c53
  have z66 : w.heap.size < w64.heap.size := by omega
  have c67 : w64.cell? ⟨w24.heap.size, 0, none⟩ = some (.slice p21 nm0 c22) := ((BelowKit.bcell hb).1 _ _ z56).trans c55
  have z68 : w24.heap.size < w64.heap.size := by omega
  have c69 : w64.cell? ⟨w41.heap.size, 0, none⟩ = some (.slice p38 len0_Facts c39) := ((BelowKit.bcell hb).1 _ _ z52).trans c51
  have z70 : w41.heap.size < w64.heap.size := by omega
  have HO71 := Lib.hid (HO57.out.on hb)
  have HO72 := Lib.hid (HO58.out.on hb)
  have HO73 := Lib.hid (HO59.out.on hb)
  have HC74 := Lib.hid (BelowKit.bl_trans HC60.out hb)
  clear c53 z54 c55 z56 c51 z52 HO57 HO58 HO59 HC60 hb
  have HO75 := Lib.hid (Own.ow_of ho0)
  clear ho0
  go_wp2_with fail
  obtain ⟨W76, hW76⟩ : ∃ V : World, V = w64.alloc (.cells #[.slice p61 nm0 c62] 26) := ⟨_, rfl⟩
  rw [← hW76]
  have hb : Below w64.heap.size w64 W76 := by rw [hW76]; (repeat (first | exact Below.refl _ _ | apply BelowKit.bl_alloc | apply BelowKit.bl_drewN | apply BelowKit.bl_drew | (refine BelowKit.bl_set ?_ _ ?_; rotate_left; (first | omega | (simp; omega) | simp)) | (refine BelowKit.bl_trans ?_ (‹Hid (Below _ _ _)›).out)))
  have tW76 : w64.heap.size + 1 ≤ W76.heap.size := by rw [hW76]; simp
  have uW76 : W76.heap.size ≤ w64.heap.size + 1 := by rw [hW76]; simp
  have c77 : W76.cell? ⟨w64.heap.size, 0, none⟩ = some (.slice p61 nm0 c62) := by rw [hW76]; simp [go_sem]
  have z78 : w64.heap.size < W76.heap.size := by omega
  clear hW76
  have sW76 : w64.heap.size ≤ W76.heap.size := hb.size
  have c79 : W76.cell? ⟨w.heap.size, 0, none⟩ = some (.slice a0_Facts len0_Facts cap0_Facts) := ((BelowKit.bcell hb).1 _ _ z66).trans c65
  have z80 : w.heap.size < W76.heap.size := by omega
  have c81 : W76.cell? ⟨w24.heap.size, 0, none⟩ = some (.slice p21 nm0 c22) := ((BelowKit.bcell hb).1 _ _ z68).trans c67
  have z82 : w24.heap.size < W76.heap.size := by omega
  have c83 : W76.cell? ⟨w41.heap.size, 0, none⟩ = some (.slice p38 len0_Facts c39) := ((BelowKit.bcell hb).1 _ _ z70).trans c69
  have z84 : w41.heap.size < W76.heap.size := by omega
  have HO85 := Lib.hid (HO71.out.on hb)
  have HO86 := Lib.hid (HO72.out.on hb)
  have HO87 := Lib.hid (HO73.out.on hb)
  have HO88 := Lib.hid (HO75.out.on hb)
  have HC89 := Lib.hid (BelowKit.bl_trans HC74.out hb)
  clear c65 z66 c67 z68 c69 z70 HO71 HO72 HO73 HO75 HC74 hb
  refine (Store.eq_c W76 nm0 c62 c22 p61 p21 m0 HN0.out (by omega) (HO88.out.reads Fact.fw) (HO86.out.reads Fact.fw)).mono ?_
  rintro e w90 ⟨rfl, hb⟩
  have sw90 : W76.heap.size ≤ w90.heap.size := hb.size
  have c91 : w90.cell? ⟨w.heap.size, 0, none⟩ = some (.slice a0_Facts len0_Facts cap0_Facts) := ((BelowKit.bcell hb).1 _ _ z80).trans c79
  have z92 : w.heap.size < w90.heap.size := by omega
  have c93 : w90.cell? ⟨w24.heap.size, 0, none⟩ = some (.slice p21 nm0 c22) := ((BelowKit.bcell hb).1 _ _ z82).trans c81
  have z94 : w24.heap.size < w90.heap.size := by omega
  have c95 : w90.cell? ⟨w41.heap.size, 0, none⟩ = some (.slice p38 len0_Facts c39) := ((BelowKit.bcell hb).1 _ _ z84).trans c83
  have z96 : w41.heap.size < w90.heap.size := by omega
  have c97 : w90.cell? ⟨w64.heap.size, 0, none⟩ = some (.slice p61 nm0 c62) := ((BelowKit.bcell hb).1 _ _ z78).trans c77
  have z98 : w64.heap.size < w90.heap.size := by omega
  have HO99 := Lib.hid (HO85.out.on hb)
  have HO100 := Lib.hid (HO86.out.on hb)
  have HO101 := Lib.hid (HO87.out.on hb)
  have HO102 := Lib.hid (HO88.out.on hb)
  have HC103 := Lib.hid (BelowKit.bl_trans HC89.out hb)
  clear c79 z80 c81 z82 c83 z84 c77 z78 HO85 HO86 HO87 HO88 HC89 hb
  go_wp2_with fail
  have gc91 := Grown.G.keep c91 z92
  have gc93 := Grown.G.keep c93 z94
  have gc95 := Grown.G.keep c95 z96
  have gc97 := Grown.G.keep c97 z98
  refine Fresh.wp_region_grow (fun k => match k with | 2 => .grow | 3 => .grow | _ => .quiet)
    (fun k v => match k with
          | 2 => (∃ p104 c105, v = .agg #[.slice p104 len0_Facts c105])
          | 3 => (v = .bool true)
          | _ => v = undef)
    (fun k v s w1 => match k with
          | 2 => (∃ p104 c105, w90.heap.size ≤ s ∧ v = .agg #[.slice p104 len0_Facts c105] ∧ Own.Ow Fact.fc 5 35 w1 s w1.heap.size (.slice p104 len0_Facts c105) z0_Facts)
          | 3 => (w90.heap.size ≤ s ∧ v = .bool true)
          | _ => True)
    (by kernel_rfl) (by kernel_rfl) (by kernel_rfl) (by kernel_rfl) ?_
  refine Fresh.wpG_q rfl ?_
  go_big_quiet_step (fail)
  refine wpQuiet_nil ?_
  refine Fresh.wpG_q rfl ?_
  go_big_quiet_step (fail)
  refine wpQuiet_nil ?_
  refine Fresh.wpG_call #[.agg #[.slice a0_Facts len0_Facts cap0_Facts]] rfl Try.func26 (by kernel_rfl) (by kernel_rfl) rfl ⟨_, none, 0, rfl⟩ (fun X hd => ?_) ?_
  · have hX := X.bel.size
    refine (Store.to_c X.w a0_Facts len0_Facts cap0_Facts z0_Facts HM0_Facts.out (by omega) (HR0_Facts.out.on (BelowKit.bl_trans HC103.out X.bel))).mono ?_
    rintro e w8 ⟨p104, c105, rfl, ho0, hb⟩
    rw [HM0_Facts.out] at ho0 ⊢
    exact ⟨_, rfl, hb, ⟨p104, c105, rfl⟩, p104, c105, by omega, rfl, Own.ow_of ho0⟩
  rintro v ⟨p104, c105, rfl⟩
  go_big_quiet_step (fail)
  refine wpQuiet_nil ?_
  refine Fresh.wpG_call #[.agg #[.slice p38 len0_Facts c39], .agg #[.slice p104 len0_Facts c105]] rfl Try.func27 (by kernel_rfl) (by kernel_rfl) rfl ⟨_, rfl⟩ (fun X hd => ?_) ?_
  · obtain ⟨_, _, w9, ⟨p104_ , c105_, _, e9, ho_r106⟩, _, hb9⟩ := hd ⟨2, .data⟩ (by simp) rfl rfl
    have e8 : (.agg #[.slice p104 len0_Facts c105] : Value) = .agg #[.slice p104_ len0_Facts c105_] := e9
    cases e8
    replace ho_r106 := ho_r106.on hb9
    have hX := X.bel.size
    refine (Store.eq_c X.w len0_Facts c39 c105 p38 p104 z0_Facts HM0_Facts.out (by omega) ((HO101.out.on X.bel).reads Fact.fw) (ho_r106.reads Fact.fw)).mono ?_
    rintro e w8 ⟨rfl, hb⟩
    exact ⟨_, rfl, hb, rfl, by omega, rfl⟩
  rintro v rfl
  go_big_quiet_step (fail)
  refine wpQuiet_nil ?_
  refine Fresh.wpG_q rfl ?_
  go_big_quiet_step (fail)
  refine wpQuiet_nil ?_
  refine Fresh.wpG_nil fun X sN1 tN1 hk => ?_
  have hXs := X.bel.size
  have hbX := X.bel
  obtain ⟨w107, hU⟩ : ∃ U : World, U = X.w := ⟨_, rfl⟩
  rw [← hU] at hbX  ⊢
  clear hk hU hXs gc91 gc93 gc95 gc97
  have sw107 : w90.heap.size ≤ w107.heap.size := hbX.size
  have c108 : w107.cell? ⟨w.heap.size, 0, none⟩ = some (.slice a0_Facts len0_Facts cap0_Facts) := ((BelowKit.bcell hbX).1 _ _ z92).trans c91
  have z109 : w.heap.size < w107.heap.size := by omega
  have c110 : w107.cell? ⟨w24.heap.size, 0, none⟩ = some (.slice p21 nm0 c22) := ((BelowKit.bcell hbX).1 _ _ z94).trans c93
  have z111 : w24.heap.size < w107.heap.size := by omega
  have c112 : w107.cell? ⟨w41.heap.size, 0, none⟩ = some (.slice p38 len0_Facts c39) := ((BelowKit.bcell hbX).1 _ _ z96).trans c95
  have z113 : w41.heap.size < w107.heap.size := by omega
  have c114 : w107.cell? ⟨w64.heap.size, 0, none⟩ = some (.slice p61 nm0 c62) := ((BelowKit.bcell hbX).1 _ _ z98).trans c97
  have z115 : w64.heap.size < w107.heap.size := by omega
  have HO116 := Lib.hid (HO99.out.on hbX)
  have HO117 := Lib.hid (HO100.out.on hbX)
  have HO118 := Lib.hid (HO101.out.on hbX)
  have HO119 := Lib.hid (HO102.out.on hbX)
  have HC120 := Lib.hid (BelowKit.bl_trans HC103.out hbX)
  clear c91 z92 c93 z94 c95 z96 c97 z98 HO99 HO100 HO101 HO102 HC103 hbX
  go_wp2_with fail
  refine (Store.mark_m w107 W30.heap.size w41.heap.size p38 len0_Facts c39 z0_Facts 1 HM0_Facts.out (by omega) (by omega) (by omega) HO118.out (by omega)).mono ?_
  rintro e w123 ⟨rfl, ho, hm⟩
  have sw123 : w107.heap.size ≤ w123.heap.size := hm.low.size
  have c124 : w123.cell? ⟨w.heap.size, 0, none⟩ = some (.slice a0_Facts len0_Facts cap0_Facts) := (hm.out (b := w.heap.size) (by omega) 0).trans c108
  have z125 : w.heap.size < w123.heap.size := by omega
  have c126 : w123.cell? ⟨w24.heap.size, 0, none⟩ = some (.slice p21 nm0 c22) := (hm.out (b := w24.heap.size) (by omega) 0).trans c110
  have z127 : w24.heap.size < w123.heap.size := by omega
  have c128 : w123.cell? ⟨w41.heap.size, 0, none⟩ = some (.slice p38 len0_Facts c39) := (hm.out (b := w41.heap.size) (by omega) 0).trans c112
  have z129 : w41.heap.size < w123.heap.size := by omega
  have c130 : w123.cell? ⟨w64.heap.size, 0, none⟩ = some (.slice p61 nm0 c62) := (hm.out (b := w64.heap.size) (by omega) 0).trans c114
  have z131 : w64.heap.size < w123.heap.size := by omega
  have HO132 := Lib.hid (HO116.out.mid hm (by omega))
  have HO133 := Lib.hid (HO117.out.mid hm (by omega))
  have HO135 := Lib.hid (HO119.out.mid hm (by omega))
  have HC136 := Lib.hid (HC120.out.trans (hm.low.mono (by omega)))
  clear c108 z109 c110 z111 c112 z113 c114 z115 HO116 HO117 HO119 HC120 hm
  have HO137 := Lib.hid ho
  clear ho HO118
  have HM138 : Hid ((FactRow.marks 1 len0_Facts).length = len0_Facts) := Lib.hid (FactRow.marks_len _ _)
  go_wp2_with fail
  refine (Store.eq_c w123 nm0 c62 c22 p61 p21 m0 HN0.out (by omega) (HO135.out.reads Fact.fw) (HO133.out.reads Fact.fw)).mono ?_
  rintro e w139 ⟨rfl, hb⟩
  have sw139 : w123.heap.size ≤ w139.heap.size := hb.size
  have c140 : w139.cell? ⟨w.heap.size, 0, none⟩ = some (.slice a0_Facts len0_Facts cap0_Facts) := ((BelowKit.bcell hb).1 _ _ z125).trans c124
  have z141 : w.heap.size < w139.heap.size := by omega
  have c142 : w139.cell? ⟨w24.heap.size, 0, none⟩ = some (.slice p21 nm0 c22) := ((BelowKit.bcell hb).1 _ _ z127).trans c126
  have z143 : w24.heap.size < w139.heap.size := by omega
  have c144 : w139.cell? ⟨w41.heap.size, 0, none⟩ = some (.slice p38 len0_Facts c39) := ((BelowKit.bcell hb).1 _ _ z129).trans c128
  have z145 : w41.heap.size < w139.heap.size := by omega
  have c146 : w139.cell? ⟨w64.heap.size, 0, none⟩ = some (.slice p61 nm0 c62) := ((BelowKit.bcell hb).1 _ _ z131).trans c130
  have z147 : w64.heap.size < w139.heap.size := by omega
  have HO148 := Lib.hid (HO132.out.on hb)
  have HO149 := Lib.hid (HO133.out.on hb)
  have HO150 := Lib.hid (HO137.out.on hb)
  have HO151 := Lib.hid (HO135.out.on hb)
  have HC152 := Lib.hid (BelowKit.bl_trans HC136.out hb)
  clear c124 z125 c126 z127 c128 z129 c130 z131 HO132 HO133 HO137 HO135 HC136 hb
  go_wp2_with fail
  refine (Store.mark_m w139 W50.heap.size w64.heap.size p61 nm0 c62 m0 1 HN0.out (by omega) (by omega) (by omega) HO151.out (by omega)).mono ?_
  rintro e w153 ⟨rfl, ho, hm⟩
  have sw153 : w139.heap.size ≤ w153.heap.size := hm.low.size
  have c154 : w153.cell? ⟨w.heap.size, 0, none⟩ = some (.slice a0_Facts len0_Facts cap0_Facts) := (hm.out (b := w.heap.size) (by omega) 0).trans c140
  have z155 : w.heap.size < w153.heap.size := by omega
  have c156 : w153.cell? ⟨w24.heap.size, 0, none⟩ = some (.slice p21 nm0 c22) := (hm.out (b := w24.heap.size) (by omega) 0).trans c142
  have z157 : w24.heap.size < w153.heap.size := by omega
  have c158 : w153.cell? ⟨w41.heap.size, 0, none⟩ = some (.slice p38 len0_Facts c39) := (hm.out (b := w41.heap.size) (by omega) 0).trans c144
  have z159 : w41.heap.size < w153.heap.size := by omega
  have c160 : w153.cell? ⟨w64.heap.size, 0, none⟩ = some (.slice p61 nm0 c62) := (hm.out (b := w64.heap.size) (by omega) 0).trans c146
  have z161 : w64.heap.size < w153.heap.size := by omega
  have HO162 := Lib.hid (HO148.out.mid hm (by omega))
  have HO163 := Lib.hid (HO149.out.mid hm (by omega))
  have HO164 := Lib.hid (HO150.out.mid hm (by omega))
  have HC166 := Lib.hid (HC152.out.trans (hm.low.mono (by omega)))
  clear c140 z141 c142 z143 c144 z145 c146 z147 HO148 HO149 HO150 HC152 hm
  have HO167 := Lib.hid ho
  clear ho HO151
  have HM168 : Hid ((FactRow.marks 1 nm0).length = nm0) := Lib.hid (FactRow.marks_len _ _)
  go_wp2_with fail
  refine (Store.held_c w153 p61 nm0 c62 1 (by omega) (by omega) (by omega) (HO167.out.reads Fact.fw)).mono ?_
  rintro e w169 ⟨rfl, hb⟩
  have sw169 : w153.heap.size ≤ w169.heap.size := hb.size
  have c170 : w169.cell? ⟨w.heap.size, 0, none⟩ = some (.slice a0_Facts len0_Facts cap0_Facts) := ((BelowKit.bcell hb).1 _ _ z155).trans c154
  have z171 : w.heap.size < w169.heap.size := by omega
  have c172 : w169.cell? ⟨w24.heap.size, 0, none⟩ = some (.slice p21 nm0 c22) := ((BelowKit.bcell hb).1 _ _ z157).trans c156
  have z173 : w24.heap.size < w169.heap.size := by omega
  have c174 : w169.cell? ⟨w41.heap.size, 0, none⟩ = some (.slice p38 len0_Facts c39) := ((BelowKit.bcell hb).1 _ _ z159).trans c158
  have z175 : w41.heap.size < w169.heap.size := by omega
  have c176 : w169.cell? ⟨w64.heap.size, 0, none⟩ = some (.slice p61 nm0 c62) := ((BelowKit.bcell hb).1 _ _ z161).trans c160
  have z177 : w64.heap.size < w169.heap.size := by omega
  have HO178 := Lib.hid (HO162.out.on hb)
  have HO179 := Lib.hid (HO163.out.on hb)
  have HO180 := Lib.hid (HO164.out.on hb)
  have HO181 := Lib.hid (HO167.out.on hb)
  have HC182 := Lib.hid (BelowKit.bl_trans HC166.out hb)
  clear c154 z155 c156 z157 c158 z159 c160 z161 HO162 HO163 HO164 HO167 HC166 hb
  go_wp2_with fail
  refine (Store.to_c w169 a0_Facts len0_Facts cap0_Facts z0_Facts HM0_Facts.out (by omega) (HR0_Facts.out.on HC182.out)).mono ?_
  rintro e w186 ⟨p183, c184, rfl, ho0, hb⟩
  rw [HM0_Facts.out] at ho0 ⊢
  have sw186 : w169.heap.size ≤ w186.heap.size := hb.size
  have c187 : w186.cell? ⟨w.heap.size, 0, none⟩ = some (.slice a0_Facts len0_Facts cap0_Facts) := ((BelowKit.bcell hb).1 _ _ z171).trans c170
  have z188 : w.heap.size < w186.heap.size := by omega
  have c189 : w186.cell? ⟨w24.heap.size, 0, none⟩ = some (.slice p21 nm0 c22) := ((BelowKit.bcell hb).1 _ _ z173).trans c172
  have z190 : w24.heap.size < w186.heap.size := by omega
  have c191 : w186.cell? ⟨w41.heap.size, 0, none⟩ = some (.slice p38 len0_Facts c39) := ((BelowKit.bcell hb).1 _ _ z175).trans c174
  have z192 : w41.heap.size < w186.heap.size := by omega
  have c193 : w186.cell? ⟨w64.heap.size, 0, none⟩ = some (.slice p61 nm0 c62) := ((BelowKit.bcell hb).1 _ _ z177).trans c176
  have z194 : w64.heap.size < w186.heap.size := by omega
  have HO195 := Lib.hid (HO178.out.on hb)
  have HO196 := Lib.hid (HO179.out.on hb)
  have HO197 := Lib.hid (HO180.out.on hb)
  have HO198 := Lib.hid (HO181.out.on hb)
  have HC199 := Lib.hid (BelowKit.bl_trans HC182.out hb)
  clear c170 z171 c172 z173 c174 z175 c176 z177 HO178 HO179 HO180 HO181 HC182 hb
  have HO200 := Lib.hid (Own.ow_of ho0)
  clear ho0
  go_wp2_with fail
  refine (StoreAsOf.asof_i w186 p183 len0_Facts c184 z0_Facts a1 HM0_Facts.out (by omega) (HO200.out.reads Fact.fw)).mono ?_
  rintro e w204 ⟨p201, c202, rfl, ho0, hb⟩
  rw [HF0.out, HN0.out] at ho0 ⊢
  have sw204 : w186.heap.size ≤ w204.heap.size := hb.size
  have c205 : w204.cell? ⟨w.heap.size, 0, none⟩ = some (.slice a0_Facts len0_Facts cap0_Facts) := ((BelowKit.bcell hb).1 _ _ z188).trans c187
  have z206 : w.heap.size < w204.heap.size := by omega
  have c207 : w204.cell? ⟨w24.heap.size, 0, none⟩ = some (.slice p21 nm0 c22) := ((BelowKit.bcell hb).1 _ _ z190).trans c189
  have z208 : w24.heap.size < w204.heap.size := by omega
  have c209 : w204.cell? ⟨w41.heap.size, 0, none⟩ = some (.slice p38 len0_Facts c39) := ((BelowKit.bcell hb).1 _ _ z192).trans c191
  have z210 : w41.heap.size < w204.heap.size := by omega
  have c211 : w204.cell? ⟨w64.heap.size, 0, none⟩ = some (.slice p61 nm0 c62) := ((BelowKit.bcell hb).1 _ _ z194).trans c193
  have z212 : w64.heap.size < w204.heap.size := by omega
  have HO213 := Lib.hid (HO195.out.on hb)
  have HO214 := Lib.hid (HO196.out.on hb)
  have HO215 := Lib.hid (HO197.out.on hb)
  have HO216 := Lib.hid (HO198.out.on hb)
  have HO217 := Lib.hid (HO200.out.on hb)
  have HC218 := Lib.hid (BelowKit.bl_trans HC199.out hb)
  clear c187 z188 c189 z190 c191 z192 c193 z194 HO195 HO196 HO197 HO198 HO200 HC199 hb
  have HO219 := Lib.hid (Own.ow_of ho0)
  clear ho0
  go_wp2_with fail
  obtain ⟨W220, hW220⟩ : ∃ V : World, V = w204.alloc (.cells #[.slice p201 nm0 c202] 26) := ⟨_, rfl⟩
  rw [← hW220]
  have hb : Below w204.heap.size w204 W220 := by rw [hW220]; (repeat (first | exact Below.refl _ _ | apply BelowKit.bl_alloc | apply BelowKit.bl_drewN | apply BelowKit.bl_drew | (refine BelowKit.bl_set ?_ _ ?_; rotate_left; (first | omega | (simp; omega) | simp)) | (refine BelowKit.bl_trans ?_ (‹Hid (Below _ _ _)›).out)))
  have tW220 : w204.heap.size + 1 ≤ W220.heap.size := by rw [hW220]; simp
  have uW220 : W220.heap.size ≤ w204.heap.size + 1 := by rw [hW220]; simp
  have c221 : W220.cell? ⟨w204.heap.size, 0, none⟩ = some (.slice p201 nm0 c202) := by rw [hW220]; simp [go_sem]
  have z222 : w204.heap.size < W220.heap.size := by omega
  clear hW220
  have sW220 : w204.heap.size ≤ W220.heap.size := hb.size
  have c223 : W220.cell? ⟨w.heap.size, 0, none⟩ = some (.slice a0_Facts len0_Facts cap0_Facts) := ((BelowKit.bcell hb).1 _ _ z206).trans c205
  have z224 : w.heap.size < W220.heap.size := by omega
  have c225 : W220.cell? ⟨w24.heap.size, 0, none⟩ = some (.slice p21 nm0 c22) := ((BelowKit.bcell hb).1 _ _ z208).trans c207
  have z226 : w24.heap.size < W220.heap.size := by omega
  have c227 : W220.cell? ⟨w41.heap.size, 0, none⟩ = some (.slice p38 len0_Facts c39) := ((BelowKit.bcell hb).1 _ _ z210).trans c209
  have z228 : w41.heap.size < W220.heap.size := by omega
  have c229 : W220.cell? ⟨w64.heap.size, 0, none⟩ = some (.slice p61 nm0 c62) := ((BelowKit.bcell hb).1 _ _ z212).trans c211
  have z230 : w64.heap.size < W220.heap.size := by omega
  have HO231 := Lib.hid (HO213.out.on hb)
  have HO232 := Lib.hid (HO214.out.on hb)
  have HO233 := Lib.hid (HO215.out.on hb)
  have HO234 := Lib.hid (HO216.out.on hb)
  have HO235 := Lib.hid (HO217.out.on hb)
  have HO236 := Lib.hid (HO219.out.on hb)
  have HC237 := Lib.hid (BelowKit.bl_trans HC218.out hb)
  clear c205 z206 c207 z208 c209 z210 c211 z212 HO213 HO214 HO215 HO216 HO217 HO219 HC218 hb
  refine (Store.eq_c W220 nm0 c202 c22 p201 p21 m0 HN0.out (by omega) (HO236.out.reads Fact.fw) (HO232.out.reads Fact.fw)).mono ?_
  rintro e w238 ⟨rfl, hb⟩
  have sw238 : W220.heap.size ≤ w238.heap.size := hb.size
  have c239 : w238.cell? ⟨w.heap.size, 0, none⟩ = some (.slice a0_Facts len0_Facts cap0_Facts) := ((BelowKit.bcell hb).1 _ _ z224).trans c223
  have z240 : w.heap.size < w238.heap.size := by omega
  have c241 : w238.cell? ⟨w24.heap.size, 0, none⟩ = some (.slice p21 nm0 c22) := ((BelowKit.bcell hb).1 _ _ z226).trans c225
  have z242 : w24.heap.size < w238.heap.size := by omega
  have c243 : w238.cell? ⟨w41.heap.size, 0, none⟩ = some (.slice p38 len0_Facts c39) := ((BelowKit.bcell hb).1 _ _ z228).trans c227
  have z244 : w41.heap.size < w238.heap.size := by omega
  have c245 : w238.cell? ⟨w64.heap.size, 0, none⟩ = some (.slice p61 nm0 c62) := ((BelowKit.bcell hb).1 _ _ z230).trans c229
  have z246 : w64.heap.size < w238.heap.size := by omega
  have c247 : w238.cell? ⟨w204.heap.size, 0, none⟩ = some (.slice p201 nm0 c202) := ((BelowKit.bcell hb).1 _ _ z222).trans c221
  have z248 : w204.heap.size < w238.heap.size := by omega
  have HO249 := Lib.hid (HO231.out.on hb)
  have HO250 := Lib.hid (HO232.out.on hb)
  have HO251 := Lib.hid (HO233.out.on hb)
  have HO252 := Lib.hid (HO234.out.on hb)
  have HO253 := Lib.hid (HO235.out.on hb)
  have HO254 := Lib.hid (HO236.out.on hb)
  have HC255 := Lib.hid (BelowKit.bl_trans HC237.out hb)
  clear c223 z224 c225 z226 c227 z228 c229 z230 c221 z222 HO231 HO232 HO233 HO234 HO235 HO236 HC237 hb
  go_wp2_with fail
  refine (Store.held_c w238 p61 nm0 c62 1 (by omega) (by omega) (by omega) (HO252.out.reads Fact.fw)).mono ?_
  rintro e w256 ⟨rfl, hb⟩
  have sw256 : w238.heap.size ≤ w256.heap.size := hb.size
  have c257 : w256.cell? ⟨w.heap.size, 0, none⟩ = some (.slice a0_Facts len0_Facts cap0_Facts) := ((BelowKit.bcell hb).1 _ _ z240).trans c239
  have z258 : w.heap.size < w256.heap.size := by omega
  have c259 : w256.cell? ⟨w24.heap.size, 0, none⟩ = some (.slice p21 nm0 c22) := ((BelowKit.bcell hb).1 _ _ z242).trans c241
  have z260 : w24.heap.size < w256.heap.size := by omega
  have c261 : w256.cell? ⟨w41.heap.size, 0, none⟩ = some (.slice p38 len0_Facts c39) := ((BelowKit.bcell hb).1 _ _ z244).trans c243
  have z262 : w41.heap.size < w256.heap.size := by omega
  have c263 : w256.cell? ⟨w64.heap.size, 0, none⟩ = some (.slice p61 nm0 c62) := ((BelowKit.bcell hb).1 _ _ z246).trans c245
  have z264 : w64.heap.size < w256.heap.size := by omega
  have c265 : w256.cell? ⟨w204.heap.size, 0, none⟩ = some (.slice p201 nm0 c202) := ((BelowKit.bcell hb).1 _ _ z248).trans c247
  have z266 : w204.heap.size < w256.heap.size := by omega
  have HO267 := Lib.hid (HO249.out.on hb)
  have HO268 := Lib.hid (HO250.out.on hb)
  have HO269 := Lib.hid (HO251.out.on hb)
  have HO270 := Lib.hid (HO252.out.on hb)
  have HO271 := Lib.hid (HO253.out.on hb)
  have HO272 := Lib.hid (HO254.out.on hb)
  have HC273 := Lib.hid (BelowKit.bl_trans HC255.out hb)
  clear c239 z240 c241 z242 c243 z244 c245 z246 c247 z248 HO249 HO250 HO251 HO252 HO253 HO254 HC255 hb
  go_wp2
  go_ret
  exact ⟨rfl, by (repeat (first | exact Below.refl _ _ | apply BelowKit.bl_alloc | apply BelowKit.bl_drewN | apply BelowKit.bl_drew | (refine BelowKit.bl_set ?_ _ ?_; rotate_left; (first | omega | (simp; omega) | simp)) | (refine BelowKit.bl_trans ?_ (‹Hid (Below _ _ _)›).out)))⟩

/-! ### THE ROW's STEP -/
set_option maxRecDepth 100000 in
theorem lifted (os : Os) (started : os.Started) (H : Type) (enc : TypeId × Value → H) :
    ReturnsInHanded {} Try.checked os 10 .any (Rows.fnExactStoreAsOfSpec.pre6 enc Try.prog Try.f10 Rows.fnExactStoreAsOfRow.domain false) (Rows.fnExactStoreAsOfSpec.post enc Try.prog Try.f10 false true false false) := by
  refine returnsInHanded_of_change (C := Try.checked) own started (by kernel_rfl) Try.func10
    (ChangeSpec.witness6 (enc := enc) (C := Try.checked) false ⟨#[], #[.agg #[.slice none 0 0], .int .i64 0], []⟩ 8 (by kernel_rfl) (by kernel_rfl) (by kernel_rfl) (by kernel_rfl)) ?_
  intro W base args ds gs before hval0 hW hcnd _
  have hval : ∀ (j : Nat) t v, Try.f10.params[j]? = some t → args[j]? = some v → Value.okWide Try.prog W .any base t v := hval0
  have hW' := hW
  obtain ⟨p, q, hA0, hV, rfl, hfz, hnd⟩ := hW
  have hA : DataW.TrodAll enc Try.prog W 0 (fun _ => true) true Try.f10.params.toList args.toList ds p := hA0
  rw [Try.params10] at hA hval
  obtain ⟨v0, vs0, d0, ds0, p0, q0, hargs, rfl, rfl, h0, r0⟩ := trodAll_cons hA
  obtain ⟨v1, vs1, d1, ds1, p1, q1, rfl, rfl, rfl, h1, r1⟩ := trodAll_cons r0
  obtain ⟨rfl, rfl, rfl⟩ := trodAll_nil r1
  obtain rfl : args = #[v0, v1] := by cases args; simp_all
  obtain ⟨rfl, rfl⟩ := trodVars_none hV
  have k0 := h0
  have lt0 : ∀ x ∈ p0, x.block < W.heap.size := by obtain ⟨m, hm⟩ := k0; exact DataW.trod_lt m _ _ _ hm
  obtain ⟨⟨l0⟩, rfl, _⟩ := okWide_struct Try.underlying45 (hval 0 45 v0 rfl rfl)
  have s0 : Shape.FitL W [.sl [.int .i64, .int .i64, .int .i64, .int .i64, .int .i64]] l0 := by
    obtain ⟨fu, hfu⟩ := h0
    exact Shape.trod_fit 8 45 _ (by kernel_rfl) _ _ _ hfu
  obtain ⟨a0_Facts, len0_Facts, cap0_Facts, r0, rfl, s0_Facts, s0⟩ := Shape.fit_sl s0
  obtain ⟨z0_Facts, hz0_Facts, w0_Facts, hl0_Facts, g0_Facts⟩ := Shape.reads_of (f := Fact.fc) (c := 5) (good := Fact.Wf) rfl (fun _ h => Fact.cov h) s0_Facts
  obtain rfl := Shape.fit_nil s0
  obtain ⟨a1, rfl, rfl, rfl, w1⟩ := open_int Try.underlying3 (hval 1 3 v1 rfl rfl) h1
  clear hA0 hval0
  refine (walk a0_Facts len0_Facts cap0_Facts z0_Facts a1 W hz0_Facts w0_Facts hl0_Facts g0_Facts w1).mono fun e W' ⟨he, bel⟩ => ?_
  subst he
  exact ⟨_, rfl, _, _, _, [], _, [], hW', trodAll_mk1 (shut_bool Try.underlying4 _), (trodAll_cons_mk (Below.trod laidOut (by kernel_rfl) (of_decide_eq_true (by kernel_rfl)) k0 bel lt0) (trodAll_cons_mk (shut_int Try.underlying3 w1) trodAll_mk0)), rfl, bel.frame _, fun h => by cases h⟩

theorem over : Rows.fnExactStoreAsOfRow.holds Try.pinned (OpenSpec.ofChange Rows.fnExactStoreAsOfSpec) :=
  OpenClaim.holds_of_wide 10 Try.f10 rfl rfl rfl rfl rfl rfl rfl ⟨rfl, rfl, rfl, rfl, rfl⟩ rfl rfl rfl rfl rfl (by kernel_rfl) Try.func10 (by kernel_rfl)
    (of_decide_eq_true (by kernel_rfl)) (by unfold Func.isWrapper; first | (rw [if_pos (by decide +kernel)]; kernel_rfl) | (rw [if_neg (by decide +kernel)]; exact ⟨rfl, rfl⟩))
    (fun os started H enc _ => lifted os started H enc)

theorem proved : Rows.FnExactStoreAsOfSaid := over
#print axioms proved
end Go.Proofs.Ythilfkcebbnoiaa.fnExactStoreAsOf
