/- Proves the given statement of the law FnExactAddFact: for every input that the row lets in, the law's Go function returns true and every argument reads as before; no condition of mine. -/
import Derived.Test.YthilfkcebbnoiaaStore
import Derived.Test.YthilfkcebbnoiaaAddFact
import Derived.Test.YthilfkcebbnoiaaFactMath
import Derived.Test.YthilfkcebbnoiaaOwn
import Derived.Test.YthilfkcebbnoiaaFresh
import Derived.Test.YthilfkcebbnoiaaGrown
import Derived.Test.YthilfkcebbnoiaaBelowKit
import Derived.Test.YthilfkcebbnoiaaTInt
import Derived.Test.YthilfkcebbnoiaaRows
import Derived.WalkKit
import Derived.ProofKit
import Derived.OpenShut
import Derived.ShutString
import Derived.ChangeOld
import Derived.Below
import Derived.Deep.RegionHeld3
import Derived.Deep.DeepCutAuto
import Derived.Lib.Hide
import Derived.Lib.SmallJoins
import Derived.Test.YthilfkcebbnoiaaFact
import Derived.Test.YthilfkcebbnoiaaShape
namespace Go.Proofs.Ythilfkcebbnoiaa.fnExactAddFact
open Go.ChangeShapes Go.WideShapes Go.ChangeAt Go.RowKit
open Go.ChangeMaps (open_string shut_string)
set_option linter.unusedVariables false

theorem own : ownKnob Try.prog.godebug = none := by kernel_rfl
theorem laidOut : laidOutB Try.prog = true := by kernel_rfl

/-! ### STEP 1: the walk -/
theorem walk (a0_Facts : Option Addr) (len0_Facts cap0_Facts : Nat) (z0_Facts : List Fact.Fa) (a1_Key : Int) (a1_From : Int) (a1_To : Int) (a1_Known : Int) (a1_Value : Int) (w : World) (hz0_Facts : z0_Facts.length = len0_Facts) (w0_Facts : RowN.Reads Fact.fc 5 w a0_Facts z0_Facts) (hl0_Facts : len0_Facts ≤ 9223372036854775807) (g0_Facts : ∀ x ∈ z0_Facts, Fact.Wf x) (w1_Key : (Lit.int .i64 a1_Key).wf = true) (w1_From : (Lit.int .i64 a1_From).wf = true) (w1_To : (Lit.int .i64 a1_To).wf = true) (w1_Known : (Lit.int .i64 a1_Known).wf = true) (w1_Value : (Lit.int .i64 a1_Value).wf = true) :
    Calls Try.prog 8 #[.agg #[.slice a0_Facts len0_Facts cap0_Facts], .agg #[.int .i64 a1_Key, .int .i64 a1_From, .int .i64 a1_To, .int .i64 a1_Known, .int .i64 a1_Value]] w fun e w' => e = .returned (.bool true) ∧ Below w.heap.size w w' := by
  have HR0_Facts := Lib.hid w0_Facts
  have HM0_Facts := Lib.hid hz0_Facts
  clear w0_Facts hz0_Facts
  by_cases hbig : 1048576 < len0_Facts
  · go_enter Try.func8, Try.ntmps8
    go_wp2_with fail
    obtain ⟨W1, hW1⟩ : ∃ V : World, V = (w.alloc (.cells #[.slice a0_Facts len0_Facts cap0_Facts] 45)).alloc (.cells #[.int .i64 a1_Key, .int .i64 a1_From, .int .i64 a1_To, .int .i64 a1_Known, .int .i64 a1_Value] 39) := ⟨_, rfl⟩
    rw [← hW1]
    have hb : Below w.heap.size w W1 := by rw [hW1]; (repeat (first | exact Below.refl _ _ | apply BelowKit.bl_alloc | apply BelowKit.bl_drewN | apply BelowKit.bl_drew | (refine BelowKit.bl_set ?_ _ ?_; rotate_left; (first | omega | (simp; omega) | simp)) | (refine BelowKit.bl_trans ?_ (‹Hid (Below _ _ _)›).out)))
    have tW1 : w.heap.size + 2 ≤ W1.heap.size := by rw [hW1]; simp
    have uW1 : W1.heap.size ≤ w.heap.size + 2 := by rw [hW1]; simp
    have c2 : W1.cell? ⟨w.heap.size, 0, none⟩ = some (.slice a0_Facts len0_Facts cap0_Facts) := by rw [hW1]; simp [go_sem]
    have z3 : w.heap.size < W1.heap.size := by omega
    have c4 : W1.cell? ⟨w.heap.size + 1, 0, none⟩ = some (.int .i64 a1_Key) := by rw [hW1]; simp [go_sem]
    have c5 : W1.cell? ⟨w.heap.size + 1, 1, none⟩ = some (.int .i64 a1_From) := by rw [hW1]; simp [go_sem]
    have c6 : W1.cell? ⟨w.heap.size + 1, 2, none⟩ = some (.int .i64 a1_To) := by rw [hW1]; simp [go_sem]
    have c7 : W1.cell? ⟨w.heap.size + 1, 3, none⟩ = some (.int .i64 a1_Known) := by rw [hW1]; simp [go_sem]
    have c8 : W1.cell? ⟨w.heap.size + 1, 4, none⟩ = some (.int .i64 a1_Value) := by rw [hW1]; simp [go_sem]
    have z9 : w.heap.size + 1 < W1.heap.size := by omega
    clear hW1
    have sW1 : w.heap.size ≤ W1.heap.size := hb.size
    have HC10 := Lib.hid hb
    clear hb
    refine (Store.sz_c W1 a0_Facts len0_Facts cap0_Facts 1048576 hl0_Facts (by omega) (by omega)).mono ?_
    rintro e w9 ⟨rfl, hb⟩
    rw [if_pos (by omega)]
    have HC9 := Lib.hid (BelowKit.bl_trans HC10.out hb)
    clear hb
    go_wp2
    go_ret
    exact ⟨rfl, HC9.out⟩
  have hs0_Facts : len0_Facts ≤ 1048576 := by omega
  obtain ⟨m0, hm0⟩ : ∃ v, (FactMath.added z0_Facts ⟨a1_Key, a1_From, a1_To, a1_Known, a1_Value⟩).1 = v := ⟨_, rfl⟩
  have hbm0 : m0.length ≤ 1099511627776 := by rw [← hm0]; exact FactMath.added_le _ _ (by have := HM0_Facts.out; omega)
  obtain ⟨nm0, hnm0⟩ : ∃ n, m0.length = n := ⟨_, rfl⟩
  rw [hnm0] at hbm0
  have HF0 := Lib.hid hm0
  have HN0 := Lib.hid hnm0
  clear hm0 hnm0
  obtain ⟨m1, hm1⟩ : ∃ v, (FactMath.added z0_Facts ⟨a1_Key, a1_From, a1_To, a1_Known, a1_Value⟩).2 = v := ⟨_, rfl⟩
  have HF1 := Lib.hid hm1
  clear hm1
  go_enter Try.func8, Try.ntmps8
  go_wp2_with fail
  obtain ⟨W11, hW11⟩ : ∃ V : World, V = (w.alloc (.cells #[.slice a0_Facts len0_Facts cap0_Facts] 45)).alloc (.cells #[.int .i64 a1_Key, .int .i64 a1_From, .int .i64 a1_To, .int .i64 a1_Known, .int .i64 a1_Value] 39) := ⟨_, rfl⟩
  rw [← hW11]
  have hb : Below w.heap.size w W11 := by rw [hW11]; (repeat (first | exact Below.refl _ _ | apply BelowKit.bl_alloc | apply BelowKit.bl_drewN | apply BelowKit.bl_drew | (refine BelowKit.bl_set ?_ _ ?_; rotate_left; (first | omega | (simp; omega) | simp)) | (refine BelowKit.bl_trans ?_ (‹Hid (Below _ _ _)›).out)))
  have tW11 : w.heap.size + 2 ≤ W11.heap.size := by rw [hW11]; simp
  have uW11 : W11.heap.size ≤ w.heap.size + 2 := by rw [hW11]; simp
  have c12 : W11.cell? ⟨w.heap.size, 0, none⟩ = some (.slice a0_Facts len0_Facts cap0_Facts) := by rw [hW11]; simp [go_sem]
  have z13 : w.heap.size < W11.heap.size := by omega
  have c14 : W11.cell? ⟨w.heap.size + 1, 0, none⟩ = some (.int .i64 a1_Key) := by rw [hW11]; simp [go_sem]
  have c15 : W11.cell? ⟨w.heap.size + 1, 1, none⟩ = some (.int .i64 a1_From) := by rw [hW11]; simp [go_sem]
  have c16 : W11.cell? ⟨w.heap.size + 1, 2, none⟩ = some (.int .i64 a1_To) := by rw [hW11]; simp [go_sem]
  have c17 : W11.cell? ⟨w.heap.size + 1, 3, none⟩ = some (.int .i64 a1_Known) := by rw [hW11]; simp [go_sem]
  have c18 : W11.cell? ⟨w.heap.size + 1, 4, none⟩ = some (.int .i64 a1_Value) := by rw [hW11]; simp [go_sem]
  have z19 : w.heap.size + 1 < W11.heap.size := by omega
  clear hW11
  have sW11 : w.heap.size ≤ W11.heap.size := hb.size
  have HC20 := Lib.hid hb
  clear hb
  refine (Store.sz_c W11 a0_Facts len0_Facts cap0_Facts 1048576 hl0_Facts (by omega) (by omega)).mono ?_
  rintro e w21 ⟨rfl, hb⟩
  rw [if_neg (by omega)]
  have sw21 : W11.heap.size ≤ w21.heap.size := hb.size
  have c22 : w21.cell? ⟨w.heap.size, 0, none⟩ = some (.slice a0_Facts len0_Facts cap0_Facts) := ((BelowKit.bcell hb).1 _ _ z13).trans c12
  have z23 : w.heap.size < w21.heap.size := by omega
  have c24 : w21.cell? ⟨w.heap.size + 1, 0, none⟩ = some (.int .i64 a1_Key) := ((BelowKit.bcell hb).1 _ _ z19).trans c14
  have c25 : w21.cell? ⟨w.heap.size + 1, 1, none⟩ = some (.int .i64 a1_From) := ((BelowKit.bcell hb).1 _ _ z19).trans c15
  have c26 : w21.cell? ⟨w.heap.size + 1, 2, none⟩ = some (.int .i64 a1_To) := ((BelowKit.bcell hb).1 _ _ z19).trans c16
  have c27 : w21.cell? ⟨w.heap.size + 1, 3, none⟩ = some (.int .i64 a1_Known) := ((BelowKit.bcell hb).1 _ _ z19).trans c17
  have c28 : w21.cell? ⟨w.heap.size + 1, 4, none⟩ = some (.int .i64 a1_Value) := ((BelowKit.bcell hb).1 _ _ z19).trans c18
  have z29 : w.heap.size + 1 < w21.heap.size := by omega
  have HC30 := Lib.hid (BelowKit.bl_trans HC20.out hb)
  clear c12 z13 c14 c15 c16 c17 c18 z19 HC20 hb
  go_wp2_with fail
  have gc22 := Grown.G.keep c22 z23
  have gc24 := Grown.G.keep c24 z29
  have gc25 := Grown.G.keep c25 z29
  have gc26 := Grown.G.keep c26 z29
  have gc27 := Grown.G.keep c27 z29
  have gc28 := Grown.G.keep c28 z29
  refine Fresh.wp_region_store (fun k => match k with | 1 => .grow | 3 => .grow | 4 => .grow | 8 => .grow | 9 => .write | _ => .quiet)
    (fun k v => match k with
          | 1 => (∃ p31 c32, v = .agg #[.slice p31 len0_Facts c32])
          | 3 => (v = .agg #[.int .i64 a1_Key, .int .i64 a1_From, .int .i64 a1_To, .int .i64 a1_Known, .int .i64 a1_Value])
          | 4 => (∃ p34 c35, v = .tuple #[.agg #[.slice p34 nm0 c35], .bool m1])
          | 8 => (∃ g : Nat, w21.heap.size ≤ g ∧ v = .pointer (some ⟨g, 0, none⟩))
          | _ => v = undef)
    (fun k v s w1 => match k with
          | 1 => (∃ p31 c32, w21.heap.size ≤ s ∧ v = .agg #[.slice p31 len0_Facts c32] ∧ Own.Ow Fact.fc 5 35 w1 s w1.heap.size (.slice p31 len0_Facts c32) z0_Facts)
          | 3 => (w21.heap.size ≤ s ∧ v = .agg #[.int .i64 a1_Key, .int .i64 a1_From, .int .i64 a1_To, .int .i64 a1_Known, .int .i64 a1_Value])
          | 4 => (∃ p34 c35, w21.heap.size ≤ s ∧ v = .tuple #[.agg #[.slice p34 nm0 c35], .bool m1] ∧ Own.Ow Fact.fc 5 35 w1 s w1.heap.size (.slice p34 nm0 c35) m0)
          | 8 => (w21.heap.size ≤ s ∧ v = .pointer (some ⟨s, 0, none⟩) ∧ w1.heap.size = s + 1 ∧ w1.cell? ⟨s, 0, none⟩ = some (.slice none 0 0) ∧ w1.frozen? ⟨s, 0, none⟩ = false)
          | _ => True)
    9 (by kernel_rfl) (by kernel_rfl) (by kernel_rfl) rfl (of_decide_eq_true (by kernel_rfl)) (by kernel_rfl) ?_
  refine Fresh.wpG_q rfl ?_
  go_big_quiet_step (fail)
  refine wpQuiet_nil ?_
  refine Fresh.wpG_call #[.agg #[.slice a0_Facts len0_Facts cap0_Facts]] rfl Try.func26 (by kernel_rfl) (by kernel_rfl) rfl ⟨_, none, 0, rfl⟩ (fun X hd => ?_) ?_
  · have hX := X.bel.size
    refine (Store.to_c X.w a0_Facts len0_Facts cap0_Facts z0_Facts HM0_Facts.out (by omega) (HR0_Facts.out.on (BelowKit.bl_trans HC30.out X.bel))).mono ?_
    rintro e w8 ⟨p31, c32, rfl, ho0, hb⟩
    try rw [HM0_Facts.out] at ho0
    try rw [HM0_Facts.out]
    exact ⟨_, rfl, hb, ⟨p31, c32, rfl⟩, p31, c32, by omega, rfl, Own.ow_of ho0⟩
  rintro v ⟨p31, c32, rfl⟩
  go_big_quiet_step (fail)
  refine wpQuiet_nil ?_
  refine Fresh.wpG_q rfl ?_
  go_big_quiet_step (fail)
  refine wpQuiet_nil ?_
  refine Fresh.wpG_call #[.agg #[.int .i64 a1_Key, .int .i64 a1_From, .int .i64 a1_To, .int .i64 a1_Known, .int .i64 a1_Value]] rfl Try.func22 (by kernel_rfl) (by kernel_rfl) rfl ⟨_, rfl⟩ (fun X hd => ?_) ?_
  · have hX := X.bel.size
    refine (Fact.to_c ⟨a1_Key, a1_From, a1_To, a1_Known, a1_Value⟩ X.w).mono ?_
    rintro e w8 ⟨rfl, hb⟩
    exact ⟨_, rfl, hb, rfl, by omega, rfl⟩
  rintro v rfl
  go_big_quiet_step (fail)
  refine wpQuiet_nil ?_
  refine Fresh.wpG_call #[.agg #[.slice p31 len0_Facts c32], .agg #[.int .i64 a1_Key, .int .i64 a1_From, .int .i64 a1_To, .int .i64 a1_Known, .int .i64 a1_Value]] rfl Try.func28 (by kernel_rfl) (by kernel_rfl) rfl ⟨_, none, 0, rfl⟩ (fun X hd => ?_) ?_
  · obtain ⟨_, _, w9, ⟨p31_ , c32_, _, e9, ho_r33⟩, _, hb9⟩ := hd ⟨1, .data⟩ (by simp) rfl rfl
    have e8 : (.agg #[.slice p31 len0_Facts c32] : Value) = .agg #[.slice p31_ len0_Facts c32_] := e9
    cases e8
    replace ho_r33 := ho_r33.on hb9
    have hX := X.bel.size
    refine (AddFact.add_s X.w p31 len0_Facts c32 z0_Facts ⟨a1_Key, a1_From, a1_To, a1_Known, a1_Value⟩ HM0_Facts.out (by omega) (ho_r33.reads Fact.fw)).mono ?_
    rintro e w8 ⟨p34, c35, rfl, ho0, hb⟩
    try rw [HF0.out] at ho0
    try rw [HF0.out]
    try rw [HF1.out] at ho0
    try rw [HF1.out]
    try rw [HN0.out] at ho0
    try rw [HN0.out]
    exact ⟨_, rfl, hb, ⟨p34, c35, rfl⟩, p34, c35, by omega, rfl, Own.ow_of ho0⟩
  rintro v ⟨p34, c35, rfl⟩
  go_big_quiet_step (fail)
  refine wpQuiet_nil ?_
  refine Fresh.wpG_q rfl ?_
  go_big_quiet_step (fail)
  refine wpQuiet_nil ?_
  refine Fresh.wpG_q rfl ?_
  go_big_quiet_step (fail)
  refine wpQuiet_nil ?_
  refine Fresh.wpG_q rfl ?_
  go_big_quiet_step (fail)
  refine wpQuiet_nil ?_
  refine Fresh.wpG_own rfl ⟨_, w21.heap.size, Nat.le_refl _, rfl⟩ (fun X _ => ?_) ?_
  · go_simp
    have hX := X.bel.size
    exact ⟨_, _, ⟨rfl, rfl⟩, by (repeat (first | exact Below.refl _ _ | apply BelowKit.bl_alloc | apply BelowKit.bl_drewN | apply BelowKit.bl_drew | (refine BelowKit.bl_set ?_ _ ?_; rotate_left; (first | omega | (simp; omega) | simp)) | (refine BelowKit.bl_trans ?_ (‹Hid (Below _ _ _)›).out))), ⟨_, hX, rfl⟩, hX, rfl, by simp, by simp [go_sem], by simp [go_sem]⟩
  rintro v ⟨g37, hg37, rfl⟩
  go_big_quiet_step (fail)
  refine wpQuiet_nil ?_
  refine Fresh.wpG_store rfl rfl (fun X hd => ?_) ?_
  · obtain ⟨_, _, w7, ⟨_, eg, hg, hc0, hf0⟩, _, hb7⟩ := hd ⟨8, .data⟩ (by simp) rfl rfl
    have eg' : (Value.pointer (some ⟨g37, 0, none⟩)) = .pointer (some ⟨_, 0, none⟩) := eg
    cases eg'
    have q0 := ((BelowKit.bcell hb7).1 g37 0 (by omega)).trans hc0
    have r0 := ((BelowKit.bcell hb7).2 g37 0 (by omega)).trans hf0
    refine ⟨⟨X.w.setCell ⟨g37, 0, none⟩ (.slice p34 nm0 c35), BelowKit.bl_set (X.bel) (a := ⟨g37, 0, none⟩) _ hg37⟩, ?_⟩
    go_simp
    rfl
  refine Fresh.wpG_q rfl ?_
  go_big_quiet_step (fail)
  refine wpQuiet_nil ?_
  refine Fresh.wpG_nil fun X1 X sN1 tN1 hk hrun => ?_
  obtain ⟨⟨w4_, ⟨p34_ , c35_, lo4, e9, ho_r36⟩, ht4, hb4⟩, st4, _⟩ := hk.1 4 (by decide) rfl
  have e8 : (.tuple #[.agg #[.slice p34 nm0 c35], .bool m1] : Value) = .tuple #[.agg #[.slice p34_ nm0 c35_], .bool m1] := e9
  cases e8
  replace ho_r36 := Own.Ow.to_hi (ho_r36.on hb4) ht4
  have hXs := X1.bel.size
  obtain ⟨⟨w7, ⟨hlo7, eg, hg7, hc0, hf0⟩, ht7, hb7⟩, st7, hl7⟩ := hk.1 8 (by decide) rfl
  have eg' : (Value.pointer (some ⟨g37, 0, none⟩)) = .pointer (some ⟨sN1 8, 0, none⟩) := eg
  obtain rfl : g37 = sN1 8 := by simpa using eg'
  clear eg eg'
  have hd4 := hk.2 4 8 (by decide) (by decide) rfl rfl (by decide)
  have q0 := ((BelowKit.bcell hb7).1 (sN1 8) 0 (by omega)).trans hc0
  have r0 := ((BelowKit.bcell hb7).2 (sN1 8) 0 (by omega)).trans hf0
  have hX : X.w = X1.w.setCell ⟨sN1 8, 0, none⟩ (.slice p34 nm0 c35) := by
    simp [go_sem, q0, r0] at hrun
    exact hrun.symm
  replace ho_r36 := ho_r36.box (o := 0) (b := sN1 8) (by omega) (.slice p34 nm0 c35)
  rw [← hX] at ho_r36
  have c39 : X.w.cell? ⟨sN1 8, 0, none⟩ = some (.slice p34 nm0 c35) := by rw [hX]; simp [go_sem, q0]
  have z40 : sN1 8 < X.w.heap.size := by rw [hX]; simp; omega
  have hbX := X.bel
  obtain ⟨w38, hU⟩ : ∃ U : World, U = X.w := ⟨_, rfl⟩
  rw [← hU] at hbX ho_r36 c39 z40 ⊢
  have lo4' : w21.heap.size ≤ sN1 4 := lo4
  have hi4' : tN1 4 ≤ w38.heap.size := ho_r36.lim
  have tj : tN1 8 = sN1 8 + 1 := by rw [← ht7, hg7]
  have tj1 : tN1 8 ≤ sN1 8 + 1 := by omega
  have tj2 : sN1 8 + 1 ≤ tN1 8 := by omega
  have lo7 : w21.heap.size ≤ sN1 8 := hlo7
  clear hk hU hXs gc22 gc24 gc25 gc26 gc27 gc28 hb4 ht4 e9 lo4 hrun hX hb7 hl7 tj ht7 hg7 hlo7 hc0 hf0 q0 r0
  have sw38 : w21.heap.size ≤ w38.heap.size := hbX.size
  have c41 : w38.cell? ⟨w.heap.size, 0, none⟩ = some (.slice a0_Facts len0_Facts cap0_Facts) := ((BelowKit.bcell hbX).1 _ _ z23).trans c22
  have z42 : w.heap.size < w38.heap.size := by omega
  have c43 : w38.cell? ⟨w.heap.size + 1, 0, none⟩ = some (.int .i64 a1_Key) := ((BelowKit.bcell hbX).1 _ _ z29).trans c24
  have c44 : w38.cell? ⟨w.heap.size + 1, 1, none⟩ = some (.int .i64 a1_From) := ((BelowKit.bcell hbX).1 _ _ z29).trans c25
  have c45 : w38.cell? ⟨w.heap.size + 1, 2, none⟩ = some (.int .i64 a1_To) := ((BelowKit.bcell hbX).1 _ _ z29).trans c26
  have c46 : w38.cell? ⟨w.heap.size + 1, 3, none⟩ = some (.int .i64 a1_Known) := ((BelowKit.bcell hbX).1 _ _ z29).trans c27
  have c47 : w38.cell? ⟨w.heap.size + 1, 4, none⟩ = some (.int .i64 a1_Value) := ((BelowKit.bcell hbX).1 _ _ z29).trans c28
  have z48 : w.heap.size + 1 < w38.heap.size := by omega
  have HC49 := Lib.hid (BelowKit.bl_trans HC30.out hbX)
  clear c22 z23 c24 c25 c26 c27 c28 z29 HC30 hbX
  have HO50 := Lib.hid ho_r36
  clear ho_r36
  have pz40 := z40
  go_wp2_with fail
  refine (Store.to_c w38 a0_Facts len0_Facts cap0_Facts z0_Facts HM0_Facts.out (by omega) (HR0_Facts.out.on HC49.out)).mono ?_
  rintro e w56 ⟨p53, c54, rfl, ho0, hb⟩
  rw [HM0_Facts.out] at ho0 ⊢
  have sw56 : w38.heap.size ≤ w56.heap.size := hb.size
  have c57 : w56.cell? ⟨w.heap.size, 0, none⟩ = some (.slice a0_Facts len0_Facts cap0_Facts) := ((BelowKit.bcell hb).1 _ _ z42).trans c41
  have z58 : w.heap.size < w56.heap.size := by omega
  have c59 : w56.cell? ⟨w.heap.size + 1, 0, none⟩ = some (.int .i64 a1_Key) := ((BelowKit.bcell hb).1 _ _ z48).trans c43
  have c60 : w56.cell? ⟨w.heap.size + 1, 1, none⟩ = some (.int .i64 a1_From) := ((BelowKit.bcell hb).1 _ _ z48).trans c44
  have c61 : w56.cell? ⟨w.heap.size + 1, 2, none⟩ = some (.int .i64 a1_To) := ((BelowKit.bcell hb).1 _ _ z48).trans c45
  have c62 : w56.cell? ⟨w.heap.size + 1, 3, none⟩ = some (.int .i64 a1_Known) := ((BelowKit.bcell hb).1 _ _ z48).trans c46
  have c63 : w56.cell? ⟨w.heap.size + 1, 4, none⟩ = some (.int .i64 a1_Value) := ((BelowKit.bcell hb).1 _ _ z48).trans c47
  have z64 : w.heap.size + 1 < w56.heap.size := by omega
  have c65 : w56.cell? ⟨sN1 8, 0, none⟩ = some (.slice p34 nm0 c35) := ((BelowKit.bcell hb).1 _ _ z40).trans c39
  have z66 : sN1 8 < w56.heap.size := by omega
  have HO67 := Lib.hid (HO50.out.on hb)
  have HC68 := Lib.hid (BelowKit.bl_trans HC49.out hb)
  clear c41 z42 c43 c44 c45 c46 c47 z48 c39 z40 HO50 HC49 hb
  have HO69 := Lib.hid (Own.ow_of ho0)
  clear ho0
  go_wp2_with fail
  obtain ⟨W70, hW70⟩ : ∃ V : World, V = w56.alloc (.cells #[.slice p53 len0_Facts c54] 26) := ⟨_, rfl⟩
  rw [← hW70]
  have hb : Below w56.heap.size w56 W70 := by rw [hW70]; (repeat (first | exact Below.refl _ _ | apply BelowKit.bl_alloc | apply BelowKit.bl_drewN | apply BelowKit.bl_drew | (refine BelowKit.bl_set ?_ _ ?_; rotate_left; (first | omega | (simp; omega) | simp)) | (refine BelowKit.bl_trans ?_ (‹Hid (Below _ _ _)›).out)))
  have tW70 : w56.heap.size + 1 ≤ W70.heap.size := by rw [hW70]; simp
  have uW70 : W70.heap.size ≤ w56.heap.size + 1 := by rw [hW70]; simp
  have c71 : W70.cell? ⟨w56.heap.size, 0, none⟩ = some (.slice p53 len0_Facts c54) := by rw [hW70]; simp [go_sem]
  have z72 : w56.heap.size < W70.heap.size := by omega
  clear hW70
  have sW70 : w56.heap.size ≤ W70.heap.size := hb.size
  have c73 : W70.cell? ⟨w.heap.size, 0, none⟩ = some (.slice a0_Facts len0_Facts cap0_Facts) := ((BelowKit.bcell hb).1 _ _ z58).trans c57
  have z74 : w.heap.size < W70.heap.size := by omega
  have c75 : W70.cell? ⟨w.heap.size + 1, 0, none⟩ = some (.int .i64 a1_Key) := ((BelowKit.bcell hb).1 _ _ z64).trans c59
  have c76 : W70.cell? ⟨w.heap.size + 1, 1, none⟩ = some (.int .i64 a1_From) := ((BelowKit.bcell hb).1 _ _ z64).trans c60
  have c77 : W70.cell? ⟨w.heap.size + 1, 2, none⟩ = some (.int .i64 a1_To) := ((BelowKit.bcell hb).1 _ _ z64).trans c61
  have c78 : W70.cell? ⟨w.heap.size + 1, 3, none⟩ = some (.int .i64 a1_Known) := ((BelowKit.bcell hb).1 _ _ z64).trans c62
  have c79 : W70.cell? ⟨w.heap.size + 1, 4, none⟩ = some (.int .i64 a1_Value) := ((BelowKit.bcell hb).1 _ _ z64).trans c63
  have z80 : w.heap.size + 1 < W70.heap.size := by omega
  have c81 : W70.cell? ⟨sN1 8, 0, none⟩ = some (.slice p34 nm0 c35) := ((BelowKit.bcell hb).1 _ _ z66).trans c65
  have z82 : sN1 8 < W70.heap.size := by omega
  have HO83 := Lib.hid (HO67.out.on hb)
  have HO84 := Lib.hid (HO69.out.on hb)
  have HC85 := Lib.hid (BelowKit.bl_trans HC68.out hb)
  clear c57 z58 c59 c60 c61 c62 c63 z64 c65 z66 HO67 HO69 HC68 hb
  have gc73 := Grown.G.keep c73 z74
  have gc75 := Grown.G.keep c75 z80
  have gc76 := Grown.G.keep c76 z80
  have gc77 := Grown.G.keep c77 z80
  have gc78 := Grown.G.keep c78 z80
  have gc79 := Grown.G.keep c79 z80
  have gc81 := Grown.G.keep c81 z82
  have gc71 := Grown.G.keep c71 z72
  refine Fresh.wp_region_store (fun k => match k with | 2 => .grow | 3 => .grow | 7 => .grow | 8 => .write | _ => .quiet)
    (fun k v => match k with
          | 2 => (v = .agg #[.int .i64 a1_Key, .int .i64 a1_From, .int .i64 a1_To, .int .i64 a1_Known, .int .i64 a1_Value])
          | 3 => (∃ p86 c87, v = .tuple #[.agg #[.slice p86 nm0 c87], .bool m1])
          | 7 => (∃ g : Nat, W70.heap.size ≤ g ∧ v = .pointer (some ⟨g, 0, none⟩))
          | _ => v = undef)
    (fun k v s w1 => match k with
          | 2 => (W70.heap.size ≤ s ∧ v = .agg #[.int .i64 a1_Key, .int .i64 a1_From, .int .i64 a1_To, .int .i64 a1_Known, .int .i64 a1_Value])
          | 3 => (∃ p86 c87, W70.heap.size ≤ s ∧ v = .tuple #[.agg #[.slice p86 nm0 c87], .bool m1] ∧ Own.Ow Fact.fc 5 35 w1 s w1.heap.size (.slice p86 nm0 c87) m0)
          | 7 => (W70.heap.size ≤ s ∧ v = .pointer (some ⟨s, 0, none⟩) ∧ w1.heap.size = s + 1 ∧ w1.cell? ⟨s, 0, none⟩ = some (.slice none 0 0) ∧ w1.frozen? ⟨s, 0, none⟩ = false)
          | _ => True)
    8 (by kernel_rfl) (by kernel_rfl) (by kernel_rfl) rfl (of_decide_eq_true (by kernel_rfl)) (by kernel_rfl) ?_
  refine Fresh.wpG_q rfl ?_
  go_big_quiet_step (fail)
  refine wpQuiet_nil ?_
  refine Fresh.wpG_q rfl ?_
  go_big_quiet_step (fail)
  refine wpQuiet_nil ?_
  refine Fresh.wpG_call #[.agg #[.int .i64 a1_Key, .int .i64 a1_From, .int .i64 a1_To, .int .i64 a1_Known, .int .i64 a1_Value]] rfl Try.func22 (by kernel_rfl) (by kernel_rfl) rfl ⟨_, rfl⟩ (fun X hd => ?_) ?_
  · have hX := X.bel.size
    refine (Fact.to_c ⟨a1_Key, a1_From, a1_To, a1_Known, a1_Value⟩ X.w).mono ?_
    rintro e w8 ⟨rfl, hb⟩
    exact ⟨_, rfl, hb, rfl, by omega, rfl⟩
  rintro v rfl
  go_big_quiet_step (fail)
  refine wpQuiet_nil ?_
  refine Fresh.wpG_call #[.agg #[.slice p53 len0_Facts c54], .agg #[.int .i64 a1_Key, .int .i64 a1_From, .int .i64 a1_To, .int .i64 a1_Known, .int .i64 a1_Value]] rfl Try.func18 (by kernel_rfl) (by kernel_rfl) rfl ⟨_, none, 0, rfl⟩ (fun X hd => ?_) ?_
  · have hX := X.bel.size
    refine (AddFact.add_i X.w p53 len0_Facts c54 z0_Facts ⟨a1_Key, a1_From, a1_To, a1_Known, a1_Value⟩ HM0_Facts.out (by omega) ((HO84.out.on X.bel).reads Fact.fw)).mono ?_
    rintro e w8 ⟨p86, c87, rfl, ho0, hb⟩
    try rw [HF0.out] at ho0
    try rw [HF0.out]
    try rw [HF1.out] at ho0
    try rw [HF1.out]
    try rw [HN0.out] at ho0
    try rw [HN0.out]
    exact ⟨_, rfl, hb, ⟨p86, c87, rfl⟩, p86, c87, by omega, rfl, Own.ow_of ho0⟩
  rintro v ⟨p86, c87, rfl⟩
  go_big_quiet_step (fail)
  refine wpQuiet_nil ?_
  refine Fresh.wpG_q rfl ?_
  go_big_quiet_step (fail)
  refine wpQuiet_nil ?_
  refine Fresh.wpG_q rfl ?_
  go_big_quiet_step (fail)
  refine wpQuiet_nil ?_
  refine Fresh.wpG_q rfl ?_
  go_big_quiet_step (fail)
  refine wpQuiet_nil ?_
  refine Fresh.wpG_own rfl ⟨_, W70.heap.size, Nat.le_refl _, rfl⟩ (fun X _ => ?_) ?_
  · go_simp
    have hX := X.bel.size
    exact ⟨_, _, ⟨rfl, rfl⟩, by (repeat (first | exact Below.refl _ _ | apply BelowKit.bl_alloc | apply BelowKit.bl_drewN | apply BelowKit.bl_drew | (refine BelowKit.bl_set ?_ _ ?_; rotate_left; (first | omega | (simp; omega) | simp)) | (refine BelowKit.bl_trans ?_ (‹Hid (Below _ _ _)›).out))), ⟨_, hX, rfl⟩, hX, rfl, by simp, by simp [go_sem], by simp [go_sem]⟩
  rintro v ⟨g89, hg89, rfl⟩
  go_big_quiet_step (fail)
  refine wpQuiet_nil ?_
  refine Fresh.wpG_store rfl rfl (fun X hd => ?_) ?_
  · obtain ⟨_, _, w7, ⟨_, eg, hg, hc0, hf0⟩, _, hb7⟩ := hd ⟨7, .data⟩ (by simp) rfl rfl
    have eg' : (Value.pointer (some ⟨g89, 0, none⟩)) = .pointer (some ⟨_, 0, none⟩) := eg
    cases eg'
    have q0 := ((BelowKit.bcell hb7).1 g89 0 (by omega)).trans hc0
    have r0 := ((BelowKit.bcell hb7).2 g89 0 (by omega)).trans hf0
    refine ⟨⟨X.w.setCell ⟨g89, 0, none⟩ (.slice p86 nm0 c87), BelowKit.bl_set (X.bel) (a := ⟨g89, 0, none⟩) _ hg89⟩, ?_⟩
    go_simp
    rfl
  refine Fresh.wpG_q rfl ?_
  go_big_quiet_step (fail)
  refine wpQuiet_nil ?_
  refine Fresh.wpG_nil fun X1 X sN2 tN2 hk hrun => ?_
  obtain ⟨⟨w3_, ⟨p86_ , c87_, lo3, e9, ho_r88⟩, ht3, hb3⟩, st3, _⟩ := hk.1 3 (by decide) rfl
  have e8 : (.tuple #[.agg #[.slice p86 nm0 c87], .bool m1] : Value) = .tuple #[.agg #[.slice p86_ nm0 c87_], .bool m1] := e9
  cases e8
  replace ho_r88 := Own.Ow.to_hi (ho_r88.on hb3) ht3
  have hXs := X1.bel.size
  obtain ⟨⟨w7, ⟨hlo7, eg, hg7, hc0, hf0⟩, ht7, hb7⟩, st7, hl7⟩ := hk.1 7 (by decide) rfl
  have eg' : (Value.pointer (some ⟨g89, 0, none⟩)) = .pointer (some ⟨sN2 7, 0, none⟩) := eg
  obtain rfl : g89 = sN2 7 := by simpa using eg'
  clear eg eg'
  have hd3 := hk.2 3 7 (by decide) (by decide) rfl rfl (by decide)
  have q0 := ((BelowKit.bcell hb7).1 (sN2 7) 0 (by omega)).trans hc0
  have r0 := ((BelowKit.bcell hb7).2 (sN2 7) 0 (by omega)).trans hf0
  have hX : X.w = X1.w.setCell ⟨sN2 7, 0, none⟩ (.slice p86 nm0 c87) := by
    simp [go_sem, q0, r0] at hrun
    exact hrun.symm
  replace ho_r88 := ho_r88.box (o := 0) (b := sN2 7) (by omega) (.slice p86 nm0 c87)
  rw [← hX] at ho_r88
  have c91 : X.w.cell? ⟨sN2 7, 0, none⟩ = some (.slice p86 nm0 c87) := by rw [hX]; simp [go_sem, q0]
  have z92 : sN2 7 < X.w.heap.size := by rw [hX]; simp; omega
  have hbX := X.bel
  obtain ⟨w90, hU⟩ : ∃ U : World, U = X.w := ⟨_, rfl⟩
  rw [← hU] at hbX ho_r88 c91 z92 ⊢
  have lo3' : W70.heap.size ≤ sN2 3 := lo3
  have hi3' : tN2 3 ≤ w90.heap.size := ho_r88.lim
  have tj : tN2 7 = sN2 7 + 1 := by rw [← ht7, hg7]
  have tj1 : tN2 7 ≤ sN2 7 + 1 := by omega
  have tj2 : sN2 7 + 1 ≤ tN2 7 := by omega
  have lo7 : W70.heap.size ≤ sN2 7 := hlo7
  clear hk hU hXs gc73 gc75 gc76 gc77 gc78 gc79 gc81 gc71 hb3 ht3 e9 lo3 hrun hX hb7 hl7 tj ht7 hg7 hlo7 hc0 hf0 q0 r0
  have sw90 : W70.heap.size ≤ w90.heap.size := hbX.size
  have c93 : w90.cell? ⟨w.heap.size, 0, none⟩ = some (.slice a0_Facts len0_Facts cap0_Facts) := ((BelowKit.bcell hbX).1 _ _ z74).trans c73
  have z94 : w.heap.size < w90.heap.size := by omega
  have c95 : w90.cell? ⟨w.heap.size + 1, 0, none⟩ = some (.int .i64 a1_Key) := ((BelowKit.bcell hbX).1 _ _ z80).trans c75
  have c96 : w90.cell? ⟨w.heap.size + 1, 1, none⟩ = some (.int .i64 a1_From) := ((BelowKit.bcell hbX).1 _ _ z80).trans c76
  have c97 : w90.cell? ⟨w.heap.size + 1, 2, none⟩ = some (.int .i64 a1_To) := ((BelowKit.bcell hbX).1 _ _ z80).trans c77
  have c98 : w90.cell? ⟨w.heap.size + 1, 3, none⟩ = some (.int .i64 a1_Known) := ((BelowKit.bcell hbX).1 _ _ z80).trans c78
  have c99 : w90.cell? ⟨w.heap.size + 1, 4, none⟩ = some (.int .i64 a1_Value) := ((BelowKit.bcell hbX).1 _ _ z80).trans c79
  have z100 : w.heap.size + 1 < w90.heap.size := by omega
  have c101 : w90.cell? ⟨sN1 8, 0, none⟩ = some (.slice p34 nm0 c35) := ((BelowKit.bcell hbX).1 _ _ z82).trans c81
  have z102 : sN1 8 < w90.heap.size := by omega
  have c103 : w90.cell? ⟨w56.heap.size, 0, none⟩ = some (.slice p53 len0_Facts c54) := ((BelowKit.bcell hbX).1 _ _ z72).trans c71
  have z104 : w56.heap.size < w90.heap.size := by omega
  have HO105 := Lib.hid (HO83.out.on hbX)
  have HO106 := Lib.hid (HO84.out.on hbX)
  have HC107 := Lib.hid (BelowKit.bl_trans HC85.out hbX)
  clear c73 z74 c75 c76 c77 c78 c79 z80 c81 z82 c71 z72 HO83 HO84 HC85 hbX
  have HO108 := Lib.hid ho_r88
  clear ho_r88
  have pz92 := z92
  go_wp2_with fail
  refine (Store.eq_c w90 nm0 c87 c35 p86 p34 m0 HN0.out (by omega) (HO108.out.reads Fact.fw) (HO105.out.reads Fact.fw)).mono ?_
  rintro e w111 ⟨rfl, hb⟩
  have sw111 : w90.heap.size ≤ w111.heap.size := hb.size
  have c112 : w111.cell? ⟨w.heap.size, 0, none⟩ = some (.slice a0_Facts len0_Facts cap0_Facts) := ((BelowKit.bcell hb).1 _ _ z94).trans c93
  have z113 : w.heap.size < w111.heap.size := by omega
  have c114 : w111.cell? ⟨w.heap.size + 1, 0, none⟩ = some (.int .i64 a1_Key) := ((BelowKit.bcell hb).1 _ _ z100).trans c95
  have c115 : w111.cell? ⟨w.heap.size + 1, 1, none⟩ = some (.int .i64 a1_From) := ((BelowKit.bcell hb).1 _ _ z100).trans c96
  have c116 : w111.cell? ⟨w.heap.size + 1, 2, none⟩ = some (.int .i64 a1_To) := ((BelowKit.bcell hb).1 _ _ z100).trans c97
  have c117 : w111.cell? ⟨w.heap.size + 1, 3, none⟩ = some (.int .i64 a1_Known) := ((BelowKit.bcell hb).1 _ _ z100).trans c98
  have c118 : w111.cell? ⟨w.heap.size + 1, 4, none⟩ = some (.int .i64 a1_Value) := ((BelowKit.bcell hb).1 _ _ z100).trans c99
  have z119 : w.heap.size + 1 < w111.heap.size := by omega
  have c120 : w111.cell? ⟨sN1 8, 0, none⟩ = some (.slice p34 nm0 c35) := ((BelowKit.bcell hb).1 _ _ z102).trans c101
  have z121 : sN1 8 < w111.heap.size := by omega
  have c122 : w111.cell? ⟨w56.heap.size, 0, none⟩ = some (.slice p53 len0_Facts c54) := ((BelowKit.bcell hb).1 _ _ z104).trans c103
  have z123 : w56.heap.size < w111.heap.size := by omega
  have c124 : w111.cell? ⟨sN2 7, 0, none⟩ = some (.slice p86 nm0 c87) := ((BelowKit.bcell hb).1 _ _ z92).trans c91
  have z125 : sN2 7 < w111.heap.size := by omega
  have HO126 := Lib.hid (HO105.out.on hb)
  have HO127 := Lib.hid (HO106.out.on hb)
  have HO128 := Lib.hid (HO108.out.on hb)
  have HC129 := Lib.hid (BelowKit.bl_trans HC107.out hb)
  clear c93 z94 c95 c96 c97 c98 c99 z100 c101 z102 c103 z104 c91 z92 HO105 HO106 HO108 HC107 hb
  go_wp2_with fail
  have gc112 := Grown.G.keep c112 z113
  have gc114 := Grown.G.keep c114 z119
  have gc115 := Grown.G.keep c115 z119
  have gc116 := Grown.G.keep c116 z119
  have gc117 := Grown.G.keep c117 z119
  have gc118 := Grown.G.keep c118 z119
  have gc120 := Grown.G.keep c120 z121
  have gc122 := Grown.G.keep c122 z123
  have gc124 := Grown.G.keep c124 z125
  refine Fresh.wp_region_grow (fun k => match k with | 2 => .grow | 3 => .grow | _ => .quiet)
    (fun k v => match k with
          | 2 => (∃ p130 c131, v = .agg #[.slice p130 len0_Facts c131])
          | 3 => (v = .bool true)
          | _ => v = undef)
    (fun k v s w1 => match k with
          | 2 => (∃ p130 c131, w111.heap.size ≤ s ∧ v = .agg #[.slice p130 len0_Facts c131] ∧ Own.Ow Fact.fc 5 35 w1 s w1.heap.size (.slice p130 len0_Facts c131) z0_Facts)
          | 3 => (w111.heap.size ≤ s ∧ v = .bool true)
          | _ => True)
    (by kernel_rfl) (by kernel_rfl) (by kernel_rfl) (by kernel_rfl) ?_
  refine Fresh.wpG_q rfl ?_
  go_big_quiet_step (fail)
  refine wpQuiet_nil ?_
  refine Fresh.wpG_q rfl ?_
  go_big_quiet_step (fail)
  refine wpQuiet_nil ?_
  refine Fresh.wpG_call #[.agg #[.slice a0_Facts len0_Facts cap0_Facts]] rfl Try.func26 (by kernel_rfl) (by kernel_rfl) rfl ⟨_, none, 0, rfl⟩ (fun X hd => ?_) ?_
  · have hX := X.bel.size
    refine (Store.to_c X.w a0_Facts len0_Facts cap0_Facts z0_Facts HM0_Facts.out (by omega) (HR0_Facts.out.on (BelowKit.bl_trans HC129.out X.bel))).mono ?_
    rintro e w8 ⟨p130, c131, rfl, ho0, hb⟩
    try rw [HM0_Facts.out] at ho0
    try rw [HM0_Facts.out]
    exact ⟨_, rfl, hb, ⟨p130, c131, rfl⟩, p130, c131, by omega, rfl, Own.ow_of ho0⟩
  rintro v ⟨p130, c131, rfl⟩
  go_big_quiet_step (fail)
  refine wpQuiet_nil ?_
  refine Fresh.wpG_call #[.agg #[.slice p53 len0_Facts c54], .agg #[.slice p130 len0_Facts c131]] rfl Try.func27 (by kernel_rfl) (by kernel_rfl) rfl ⟨_, rfl⟩ (fun X hd => ?_) ?_
  · obtain ⟨_, _, w9, ⟨p130_ , c131_, _, e9, ho_r132⟩, _, hb9⟩ := hd ⟨2, .data⟩ (by simp) rfl rfl
    have e8 : (.agg #[.slice p130 len0_Facts c131] : Value) = .agg #[.slice p130_ len0_Facts c131_] := e9
    cases e8
    replace ho_r132 := ho_r132.on hb9
    have hX := X.bel.size
    refine (Store.eq_c X.w len0_Facts c54 c131 p53 p130 z0_Facts HM0_Facts.out (by omega) ((HO127.out.on X.bel).reads Fact.fw) (ho_r132.reads Fact.fw)).mono ?_
    rintro e w8 ⟨rfl, hb⟩
    exact ⟨_, rfl, hb, rfl, by omega, rfl⟩
  rintro v rfl
  go_big_quiet_step (fail)
  refine wpQuiet_nil ?_
  refine Fresh.wpG_q rfl ?_
  go_big_quiet_step (fail)
  refine wpQuiet_nil ?_
  refine Fresh.wpG_nil fun X sN3 tN3 hk => ?_
  have hXs := X.bel.size
  have hbX := X.bel
  obtain ⟨w133, hU⟩ : ∃ U : World, U = X.w := ⟨_, rfl⟩
  rw [← hU] at hbX  ⊢
  clear hk hU hXs gc112 gc114 gc115 gc116 gc117 gc118 gc120 gc122 gc124
  have sw133 : w111.heap.size ≤ w133.heap.size := hbX.size
  have c134 : w133.cell? ⟨w.heap.size, 0, none⟩ = some (.slice a0_Facts len0_Facts cap0_Facts) := ((BelowKit.bcell hbX).1 _ _ z113).trans c112
  have z135 : w.heap.size < w133.heap.size := by omega
  have c136 : w133.cell? ⟨w.heap.size + 1, 0, none⟩ = some (.int .i64 a1_Key) := ((BelowKit.bcell hbX).1 _ _ z119).trans c114
  have c137 : w133.cell? ⟨w.heap.size + 1, 1, none⟩ = some (.int .i64 a1_From) := ((BelowKit.bcell hbX).1 _ _ z119).trans c115
  have c138 : w133.cell? ⟨w.heap.size + 1, 2, none⟩ = some (.int .i64 a1_To) := ((BelowKit.bcell hbX).1 _ _ z119).trans c116
  have c139 : w133.cell? ⟨w.heap.size + 1, 3, none⟩ = some (.int .i64 a1_Known) := ((BelowKit.bcell hbX).1 _ _ z119).trans c117
  have c140 : w133.cell? ⟨w.heap.size + 1, 4, none⟩ = some (.int .i64 a1_Value) := ((BelowKit.bcell hbX).1 _ _ z119).trans c118
  have z141 : w.heap.size + 1 < w133.heap.size := by omega
  have c142 : w133.cell? ⟨sN1 8, 0, none⟩ = some (.slice p34 nm0 c35) := ((BelowKit.bcell hbX).1 _ _ z121).trans c120
  have z143 : sN1 8 < w133.heap.size := by omega
  have c144 : w133.cell? ⟨w56.heap.size, 0, none⟩ = some (.slice p53 len0_Facts c54) := ((BelowKit.bcell hbX).1 _ _ z123).trans c122
  have z145 : w56.heap.size < w133.heap.size := by omega
  have c146 : w133.cell? ⟨sN2 7, 0, none⟩ = some (.slice p86 nm0 c87) := ((BelowKit.bcell hbX).1 _ _ z125).trans c124
  have z147 : sN2 7 < w133.heap.size := by omega
  have HO148 := Lib.hid (HO126.out.on hbX)
  have HO149 := Lib.hid (HO127.out.on hbX)
  have HO150 := Lib.hid (HO128.out.on hbX)
  have HC151 := Lib.hid (BelowKit.bl_trans HC129.out hbX)
  clear c112 z113 c114 c115 c116 c117 c118 z119 c120 z121 c122 z123 c124 z125 HO126 HO127 HO128 HC129 hbX
  go_wp2_with fail
  refine (Store.mark_m w133 w38.heap.size w56.heap.size p53 len0_Facts c54 z0_Facts 1 HM0_Facts.out (by omega) (by omega) (by omega) HO149.out (by omega)).mono ?_
  rintro e w154 ⟨rfl, ho, hm⟩
  have sw154 : w133.heap.size ≤ w154.heap.size := hm.low.size
  have c155 : w154.cell? ⟨w.heap.size, 0, none⟩ = some (.slice a0_Facts len0_Facts cap0_Facts) := (hm.out (b := w.heap.size) (by omega) 0).trans c134
  have z156 : w.heap.size < w154.heap.size := by omega
  have c157 : w154.cell? ⟨w.heap.size + 1, 0, none⟩ = some (.int .i64 a1_Key) := (hm.out (b := w.heap.size + 1) (by omega) 0).trans c136
  have c158 : w154.cell? ⟨w.heap.size + 1, 1, none⟩ = some (.int .i64 a1_From) := (hm.out (b := w.heap.size + 1) (by omega) 1).trans c137
  have c159 : w154.cell? ⟨w.heap.size + 1, 2, none⟩ = some (.int .i64 a1_To) := (hm.out (b := w.heap.size + 1) (by omega) 2).trans c138
  have c160 : w154.cell? ⟨w.heap.size + 1, 3, none⟩ = some (.int .i64 a1_Known) := (hm.out (b := w.heap.size + 1) (by omega) 3).trans c139
  have c161 : w154.cell? ⟨w.heap.size + 1, 4, none⟩ = some (.int .i64 a1_Value) := (hm.out (b := w.heap.size + 1) (by omega) 4).trans c140
  have z162 : w.heap.size + 1 < w154.heap.size := by omega
  have c163 : w154.cell? ⟨sN1 8, 0, none⟩ = some (.slice p34 nm0 c35) := (hm.out (b := sN1 8) (by omega) 0).trans c142
  have z164 : sN1 8 < w154.heap.size := by omega
  have c165 : w154.cell? ⟨w56.heap.size, 0, none⟩ = some (.slice p53 len0_Facts c54) := (hm.out (b := w56.heap.size) (by omega) 0).trans c144
  have z166 : w56.heap.size < w154.heap.size := by omega
  have c167 : w154.cell? ⟨sN2 7, 0, none⟩ = some (.slice p86 nm0 c87) := (hm.out (b := sN2 7) (by omega) 0).trans c146
  have z168 : sN2 7 < w154.heap.size := by omega
  have HO169 := Lib.hid (HO148.out.mid hm (by omega))
  have HO171 := Lib.hid (HO150.out.mid hm (by omega))
  have HC172 := Lib.hid (HC151.out.trans (hm.low.mono (by omega)))
  clear c134 z135 c136 c137 c138 c139 c140 z141 c142 z143 c144 z145 c146 z147 HO148 HO150 HC151 hm
  have HO173 := Lib.hid ho
  clear ho HO149
  have HM174 : Hid ((FactRow.marks 1 len0_Facts).length = len0_Facts) := Lib.hid (FactRow.marks_len _ _)
  go_wp2_with fail
  refine (Store.eq_c w154 nm0 c87 c35 p86 p34 m0 HN0.out (by omega) (HO171.out.reads Fact.fw) (HO169.out.reads Fact.fw)).mono ?_
  rintro e w175 ⟨rfl, hb⟩
  have sw175 : w154.heap.size ≤ w175.heap.size := hb.size
  have c176 : w175.cell? ⟨w.heap.size, 0, none⟩ = some (.slice a0_Facts len0_Facts cap0_Facts) := ((BelowKit.bcell hb).1 _ _ z156).trans c155
  have z177 : w.heap.size < w175.heap.size := by omega
  have c178 : w175.cell? ⟨w.heap.size + 1, 0, none⟩ = some (.int .i64 a1_Key) := ((BelowKit.bcell hb).1 _ _ z162).trans c157
  have c179 : w175.cell? ⟨w.heap.size + 1, 1, none⟩ = some (.int .i64 a1_From) := ((BelowKit.bcell hb).1 _ _ z162).trans c158
  have c180 : w175.cell? ⟨w.heap.size + 1, 2, none⟩ = some (.int .i64 a1_To) := ((BelowKit.bcell hb).1 _ _ z162).trans c159
  have c181 : w175.cell? ⟨w.heap.size + 1, 3, none⟩ = some (.int .i64 a1_Known) := ((BelowKit.bcell hb).1 _ _ z162).trans c160
  have c182 : w175.cell? ⟨w.heap.size + 1, 4, none⟩ = some (.int .i64 a1_Value) := ((BelowKit.bcell hb).1 _ _ z162).trans c161
  have z183 : w.heap.size + 1 < w175.heap.size := by omega
  have c184 : w175.cell? ⟨sN1 8, 0, none⟩ = some (.slice p34 nm0 c35) := ((BelowKit.bcell hb).1 _ _ z164).trans c163
  have z185 : sN1 8 < w175.heap.size := by omega
  have c186 : w175.cell? ⟨w56.heap.size, 0, none⟩ = some (.slice p53 len0_Facts c54) := ((BelowKit.bcell hb).1 _ _ z166).trans c165
  have z187 : w56.heap.size < w175.heap.size := by omega
  have c188 : w175.cell? ⟨sN2 7, 0, none⟩ = some (.slice p86 nm0 c87) := ((BelowKit.bcell hb).1 _ _ z168).trans c167
  have z189 : sN2 7 < w175.heap.size := by omega
  have HO190 := Lib.hid (HO169.out.on hb)
  have HO191 := Lib.hid (HO173.out.on hb)
  have HO192 := Lib.hid (HO171.out.on hb)
  have HC193 := Lib.hid (BelowKit.bl_trans HC172.out hb)
  clear c155 z156 c157 c158 c159 c160 c161 z162 c163 z164 c165 z166 c167 z168 HO169 HO173 HO171 HC172 hb
  go_wp2_with fail
  refine (Store.mark_m w175 (sN2 3) (tN2 3) p86 nm0 c87 m0 1 HN0.out (by omega) (by omega) (by omega) HO192.out (by omega)).mono ?_
  rintro e w194 ⟨rfl, ho, hm⟩
  have sw194 : w175.heap.size ≤ w194.heap.size := hm.low.size
  have c195 : w194.cell? ⟨w.heap.size, 0, none⟩ = some (.slice a0_Facts len0_Facts cap0_Facts) := (hm.out (b := w.heap.size) (by omega) 0).trans c176
  have z196 : w.heap.size < w194.heap.size := by omega
  have c197 : w194.cell? ⟨w.heap.size + 1, 0, none⟩ = some (.int .i64 a1_Key) := (hm.out (b := w.heap.size + 1) (by omega) 0).trans c178
  have c198 : w194.cell? ⟨w.heap.size + 1, 1, none⟩ = some (.int .i64 a1_From) := (hm.out (b := w.heap.size + 1) (by omega) 1).trans c179
  have c199 : w194.cell? ⟨w.heap.size + 1, 2, none⟩ = some (.int .i64 a1_To) := (hm.out (b := w.heap.size + 1) (by omega) 2).trans c180
  have c200 : w194.cell? ⟨w.heap.size + 1, 3, none⟩ = some (.int .i64 a1_Known) := (hm.out (b := w.heap.size + 1) (by omega) 3).trans c181
  have c201 : w194.cell? ⟨w.heap.size + 1, 4, none⟩ = some (.int .i64 a1_Value) := (hm.out (b := w.heap.size + 1) (by omega) 4).trans c182
  have z202 : w.heap.size + 1 < w194.heap.size := by omega
  have c203 : w194.cell? ⟨sN1 8, 0, none⟩ = some (.slice p34 nm0 c35) := (hm.out (b := sN1 8) (by omega) 0).trans c184
  have z204 : sN1 8 < w194.heap.size := by omega
  have c205 : w194.cell? ⟨w56.heap.size, 0, none⟩ = some (.slice p53 len0_Facts c54) := (hm.out (b := w56.heap.size) (by omega) 0).trans c186
  have z206 : w56.heap.size < w194.heap.size := by omega
  have c207 : w194.cell? ⟨sN2 7, 0, none⟩ = some (.slice p86 nm0 c87) := (hm.out (b := sN2 7) (by omega) 0).trans c188
  have z208 : sN2 7 < w194.heap.size := by omega
  have HO209 := Lib.hid (HO190.out.mid hm (by omega))
  have HO210 := Lib.hid (HO191.out.mid hm (by omega))
  have HC212 := Lib.hid (HC193.out.trans (hm.low.mono (by omega)))
  clear c176 z177 c178 c179 c180 c181 c182 z183 c184 z185 c186 z187 c188 z189 HO190 HO191 HC193 hm
  have HO213 := Lib.hid ho
  clear ho HO192
  have HM214 : Hid ((FactRow.marks 1 nm0).length = nm0) := Lib.hid (FactRow.marks_len _ _)
  go_wp2_with fail
  refine (Store.held_c w194 p86 nm0 c87 1 (by omega) (by omega) (by omega) (HO213.out.reads Fact.fw)).mono ?_
  rintro e w215 ⟨rfl, hb⟩
  have sw215 : w194.heap.size ≤ w215.heap.size := hb.size
  have c216 : w215.cell? ⟨w.heap.size, 0, none⟩ = some (.slice a0_Facts len0_Facts cap0_Facts) := ((BelowKit.bcell hb).1 _ _ z196).trans c195
  have z217 : w.heap.size < w215.heap.size := by omega
  have c218 : w215.cell? ⟨w.heap.size + 1, 0, none⟩ = some (.int .i64 a1_Key) := ((BelowKit.bcell hb).1 _ _ z202).trans c197
  have c219 : w215.cell? ⟨w.heap.size + 1, 1, none⟩ = some (.int .i64 a1_From) := ((BelowKit.bcell hb).1 _ _ z202).trans c198
  have c220 : w215.cell? ⟨w.heap.size + 1, 2, none⟩ = some (.int .i64 a1_To) := ((BelowKit.bcell hb).1 _ _ z202).trans c199
  have c221 : w215.cell? ⟨w.heap.size + 1, 3, none⟩ = some (.int .i64 a1_Known) := ((BelowKit.bcell hb).1 _ _ z202).trans c200
  have c222 : w215.cell? ⟨w.heap.size + 1, 4, none⟩ = some (.int .i64 a1_Value) := ((BelowKit.bcell hb).1 _ _ z202).trans c201
  have z223 : w.heap.size + 1 < w215.heap.size := by omega
  have c224 : w215.cell? ⟨sN1 8, 0, none⟩ = some (.slice p34 nm0 c35) := ((BelowKit.bcell hb).1 _ _ z204).trans c203
  have z225 : sN1 8 < w215.heap.size := by omega
  have c226 : w215.cell? ⟨w56.heap.size, 0, none⟩ = some (.slice p53 len0_Facts c54) := ((BelowKit.bcell hb).1 _ _ z206).trans c205
  have z227 : w56.heap.size < w215.heap.size := by omega
  have c228 : w215.cell? ⟨sN2 7, 0, none⟩ = some (.slice p86 nm0 c87) := ((BelowKit.bcell hb).1 _ _ z208).trans c207
  have z229 : sN2 7 < w215.heap.size := by omega
  have HO230 := Lib.hid (HO209.out.on hb)
  have HO231 := Lib.hid (HO210.out.on hb)
  have HO232 := Lib.hid (HO213.out.on hb)
  have HC233 := Lib.hid (BelowKit.bl_trans HC212.out hb)
  clear c195 z196 c197 c198 c199 c200 c201 z202 c203 z204 c205 z206 c207 z208 HO209 HO210 HO213 HC212 hb
  go_wp2_with fail
  have gc216 := Grown.G.keep c216 z217
  have gc218 := Grown.G.keep c218 z223
  have gc219 := Grown.G.keep c219 z223
  have gc220 := Grown.G.keep c220 z223
  have gc221 := Grown.G.keep c221 z223
  have gc222 := Grown.G.keep c222 z223
  have gc224 := Grown.G.keep c224 z225
  have gc226 := Grown.G.keep c226 z227
  have gc228 := Grown.G.keep c228 z229
  refine Fresh.wp_region_store (fun k => match k with | 1 => .grow | 3 => .grow | 4 => .grow | 8 => .grow | 9 => .write | _ => .quiet)
    (fun k v => match k with
          | 1 => (∃ p234 c235, v = .agg #[.slice p234 len0_Facts c235])
          | 3 => (v = .agg #[.int .i64 a1_Key, .int .i64 a1_From, .int .i64 a1_To, .int .i64 a1_Known, .int .i64 a1_Value])
          | 4 => (∃ p237 c238, v = .tuple #[.agg #[.slice p237 nm0 c238], .bool m1])
          | 8 => (∃ g : Nat, w215.heap.size ≤ g ∧ v = .pointer (some ⟨g, 0, none⟩))
          | _ => v = undef)
    (fun k v s w1 => match k with
          | 1 => (∃ p234 c235, w215.heap.size ≤ s ∧ v = .agg #[.slice p234 len0_Facts c235] ∧ Own.Ow Fact.fc 5 35 w1 s w1.heap.size (.slice p234 len0_Facts c235) z0_Facts)
          | 3 => (w215.heap.size ≤ s ∧ v = .agg #[.int .i64 a1_Key, .int .i64 a1_From, .int .i64 a1_To, .int .i64 a1_Known, .int .i64 a1_Value])
          | 4 => (∃ p237 c238, w215.heap.size ≤ s ∧ v = .tuple #[.agg #[.slice p237 nm0 c238], .bool m1] ∧ Own.Ow Fact.fc 5 35 w1 s w1.heap.size (.slice p237 nm0 c238) m0)
          | 8 => (w215.heap.size ≤ s ∧ v = .pointer (some ⟨s, 0, none⟩) ∧ w1.heap.size = s + 1 ∧ w1.cell? ⟨s, 0, none⟩ = some (.slice none 0 0) ∧ w1.frozen? ⟨s, 0, none⟩ = false)
          | _ => True)
    9 (by kernel_rfl) (by kernel_rfl) (by kernel_rfl) rfl (of_decide_eq_true (by kernel_rfl)) (by kernel_rfl) ?_
  refine Fresh.wpG_q rfl ?_
  go_big_quiet_step (fail)
  refine wpQuiet_nil ?_
  refine Fresh.wpG_call #[.agg #[.slice a0_Facts len0_Facts cap0_Facts]] rfl Try.func26 (by kernel_rfl) (by kernel_rfl) rfl ⟨_, none, 0, rfl⟩ (fun X hd => ?_) ?_
  · have hX := X.bel.size
    refine (Store.to_c X.w a0_Facts len0_Facts cap0_Facts z0_Facts HM0_Facts.out (by omega) (HR0_Facts.out.on (BelowKit.bl_trans HC233.out X.bel))).mono ?_
    rintro e w8 ⟨p234, c235, rfl, ho0, hb⟩
    try rw [HM0_Facts.out] at ho0
    try rw [HM0_Facts.out]
    exact ⟨_, rfl, hb, ⟨p234, c235, rfl⟩, p234, c235, by omega, rfl, Own.ow_of ho0⟩
  rintro v ⟨p234, c235, rfl⟩
  go_big_quiet_step (fail)
  refine wpQuiet_nil ?_
  refine Fresh.wpG_q rfl ?_
  go_big_quiet_step (fail)
  refine wpQuiet_nil ?_
  refine Fresh.wpG_call #[.agg #[.int .i64 a1_Key, .int .i64 a1_From, .int .i64 a1_To, .int .i64 a1_Known, .int .i64 a1_Value]] rfl Try.func22 (by kernel_rfl) (by kernel_rfl) rfl ⟨_, rfl⟩ (fun X hd => ?_) ?_
  · have hX := X.bel.size
    refine (Fact.to_c ⟨a1_Key, a1_From, a1_To, a1_Known, a1_Value⟩ X.w).mono ?_
    rintro e w8 ⟨rfl, hb⟩
    exact ⟨_, rfl, hb, rfl, by omega, rfl⟩
  rintro v rfl
  go_big_quiet_step (fail)
  refine wpQuiet_nil ?_
  refine Fresh.wpG_call #[.agg #[.slice p234 len0_Facts c235], .agg #[.int .i64 a1_Key, .int .i64 a1_From, .int .i64 a1_To, .int .i64 a1_Known, .int .i64 a1_Value]] rfl Try.func18 (by kernel_rfl) (by kernel_rfl) rfl ⟨_, none, 0, rfl⟩ (fun X hd => ?_) ?_
  · obtain ⟨_, _, w9, ⟨p234_ , c235_, _, e9, ho_r236⟩, _, hb9⟩ := hd ⟨1, .data⟩ (by simp) rfl rfl
    have e8 : (.agg #[.slice p234 len0_Facts c235] : Value) = .agg #[.slice p234_ len0_Facts c235_] := e9
    cases e8
    replace ho_r236 := ho_r236.on hb9
    have hX := X.bel.size
    refine (AddFact.add_i X.w p234 len0_Facts c235 z0_Facts ⟨a1_Key, a1_From, a1_To, a1_Known, a1_Value⟩ HM0_Facts.out (by omega) (ho_r236.reads Fact.fw)).mono ?_
    rintro e w8 ⟨p237, c238, rfl, ho0, hb⟩
    try rw [HF0.out] at ho0
    try rw [HF0.out]
    try rw [HF1.out] at ho0
    try rw [HF1.out]
    try rw [HN0.out] at ho0
    try rw [HN0.out]
    exact ⟨_, rfl, hb, ⟨p237, c238, rfl⟩, p237, c238, by omega, rfl, Own.ow_of ho0⟩
  rintro v ⟨p237, c238, rfl⟩
  go_big_quiet_step (fail)
  refine wpQuiet_nil ?_
  refine Fresh.wpG_q rfl ?_
  go_big_quiet_step (fail)
  refine wpQuiet_nil ?_
  refine Fresh.wpG_q rfl ?_
  go_big_quiet_step (fail)
  refine wpQuiet_nil ?_
  refine Fresh.wpG_q rfl ?_
  go_big_quiet_step (fail)
  refine wpQuiet_nil ?_
  refine Fresh.wpG_own rfl ⟨_, w215.heap.size, Nat.le_refl _, rfl⟩ (fun X _ => ?_) ?_
  · go_simp
    have hX := X.bel.size
    exact ⟨_, _, ⟨rfl, rfl⟩, by (repeat (first | exact Below.refl _ _ | apply BelowKit.bl_alloc | apply BelowKit.bl_drewN | apply BelowKit.bl_drew | (refine BelowKit.bl_set ?_ _ ?_; rotate_left; (first | omega | (simp; omega) | simp)) | (refine BelowKit.bl_trans ?_ (‹Hid (Below _ _ _)›).out))), ⟨_, hX, rfl⟩, hX, rfl, by simp, by simp [go_sem], by simp [go_sem]⟩
  rintro v ⟨g240, hg240, rfl⟩
  go_big_quiet_step (fail)
  refine wpQuiet_nil ?_
  refine Fresh.wpG_store rfl rfl (fun X hd => ?_) ?_
  · obtain ⟨_, _, w7, ⟨_, eg, hg, hc0, hf0⟩, _, hb7⟩ := hd ⟨8, .data⟩ (by simp) rfl rfl
    have eg' : (Value.pointer (some ⟨g240, 0, none⟩)) = .pointer (some ⟨_, 0, none⟩) := eg
    cases eg'
    have q0 := ((BelowKit.bcell hb7).1 g240 0 (by omega)).trans hc0
    have r0 := ((BelowKit.bcell hb7).2 g240 0 (by omega)).trans hf0
    refine ⟨⟨X.w.setCell ⟨g240, 0, none⟩ (.slice p237 nm0 c238), BelowKit.bl_set (X.bel) (a := ⟨g240, 0, none⟩) _ hg240⟩, ?_⟩
    go_simp
    rfl
  refine Fresh.wpG_q rfl ?_
  go_big_quiet_step (fail)
  refine wpQuiet_nil ?_
  refine Fresh.wpG_nil fun X1 X sN4 tN4 hk hrun => ?_
  obtain ⟨⟨w4_, ⟨p237_ , c238_, lo4, e9, ho_r239⟩, ht4, hb4⟩, st4, _⟩ := hk.1 4 (by decide) rfl
  have e8 : (.tuple #[.agg #[.slice p237 nm0 c238], .bool m1] : Value) = .tuple #[.agg #[.slice p237_ nm0 c238_], .bool m1] := e9
  cases e8
  replace ho_r239 := Own.Ow.to_hi (ho_r239.on hb4) ht4
  have hXs := X1.bel.size
  obtain ⟨⟨w7, ⟨hlo7, eg, hg7, hc0, hf0⟩, ht7, hb7⟩, st7, hl7⟩ := hk.1 8 (by decide) rfl
  have eg' : (Value.pointer (some ⟨g240, 0, none⟩)) = .pointer (some ⟨sN4 8, 0, none⟩) := eg
  obtain rfl : g240 = sN4 8 := by simpa using eg'
  clear eg eg'
  have hd4 := hk.2 4 8 (by decide) (by decide) rfl rfl (by decide)
  have q0 := ((BelowKit.bcell hb7).1 (sN4 8) 0 (by omega)).trans hc0
  have r0 := ((BelowKit.bcell hb7).2 (sN4 8) 0 (by omega)).trans hf0
  have hX : X.w = X1.w.setCell ⟨sN4 8, 0, none⟩ (.slice p237 nm0 c238) := by
    simp [go_sem, q0, r0] at hrun
    exact hrun.symm
  replace ho_r239 := ho_r239.box (o := 0) (b := sN4 8) (by omega) (.slice p237 nm0 c238)
  rw [← hX] at ho_r239
  have c242 : X.w.cell? ⟨sN4 8, 0, none⟩ = some (.slice p237 nm0 c238) := by rw [hX]; simp [go_sem, q0]
  have z243 : sN4 8 < X.w.heap.size := by rw [hX]; simp; omega
  have hbX := X.bel
  obtain ⟨w241, hU⟩ : ∃ U : World, U = X.w := ⟨_, rfl⟩
  rw [← hU] at hbX ho_r239 c242 z243 ⊢
  have lo4' : w215.heap.size ≤ sN4 4 := lo4
  have hi4' : tN4 4 ≤ w241.heap.size := ho_r239.lim
  have tj : tN4 8 = sN4 8 + 1 := by rw [← ht7, hg7]
  have tj1 : tN4 8 ≤ sN4 8 + 1 := by omega
  have tj2 : sN4 8 + 1 ≤ tN4 8 := by omega
  have lo7 : w215.heap.size ≤ sN4 8 := hlo7
  clear hk hU hXs gc216 gc218 gc219 gc220 gc221 gc222 gc224 gc226 gc228 hb4 ht4 e9 lo4 hrun hX hb7 hl7 tj ht7 hg7 hlo7 hc0 hf0 q0 r0
  have sw241 : w215.heap.size ≤ w241.heap.size := hbX.size
  have c244 : w241.cell? ⟨w.heap.size, 0, none⟩ = some (.slice a0_Facts len0_Facts cap0_Facts) := ((BelowKit.bcell hbX).1 _ _ z217).trans c216
  have z245 : w.heap.size < w241.heap.size := by omega
  have c246 : w241.cell? ⟨w.heap.size + 1, 0, none⟩ = some (.int .i64 a1_Key) := ((BelowKit.bcell hbX).1 _ _ z223).trans c218
  have c247 : w241.cell? ⟨w.heap.size + 1, 1, none⟩ = some (.int .i64 a1_From) := ((BelowKit.bcell hbX).1 _ _ z223).trans c219
  have c248 : w241.cell? ⟨w.heap.size + 1, 2, none⟩ = some (.int .i64 a1_To) := ((BelowKit.bcell hbX).1 _ _ z223).trans c220
  have c249 : w241.cell? ⟨w.heap.size + 1, 3, none⟩ = some (.int .i64 a1_Known) := ((BelowKit.bcell hbX).1 _ _ z223).trans c221
  have c250 : w241.cell? ⟨w.heap.size + 1, 4, none⟩ = some (.int .i64 a1_Value) := ((BelowKit.bcell hbX).1 _ _ z223).trans c222
  have z251 : w.heap.size + 1 < w241.heap.size := by omega
  have c252 : w241.cell? ⟨sN1 8, 0, none⟩ = some (.slice p34 nm0 c35) := ((BelowKit.bcell hbX).1 _ _ z225).trans c224
  have z253 : sN1 8 < w241.heap.size := by omega
  have c254 : w241.cell? ⟨w56.heap.size, 0, none⟩ = some (.slice p53 len0_Facts c54) := ((BelowKit.bcell hbX).1 _ _ z227).trans c226
  have z255 : w56.heap.size < w241.heap.size := by omega
  have c256 : w241.cell? ⟨sN2 7, 0, none⟩ = some (.slice p86 nm0 c87) := ((BelowKit.bcell hbX).1 _ _ z229).trans c228
  have z257 : sN2 7 < w241.heap.size := by omega
  have HO258 := Lib.hid (HO230.out.on hbX)
  have HO259 := Lib.hid (HO231.out.on hbX)
  have HO260 := Lib.hid (HO232.out.on hbX)
  have HC261 := Lib.hid (BelowKit.bl_trans HC233.out hbX)
  clear c216 z217 c218 c219 c220 c221 c222 z223 c224 z225 c226 z227 c228 z229 HO230 HO231 HO232 HC233 hbX
  have HO262 := Lib.hid ho_r239
  clear ho_r239
  have pz243 := z243
  go_wp2_with fail
  refine (Store.eq_c w241 nm0 c238 c35 p237 p34 m0 HN0.out (by omega) (HO262.out.reads Fact.fw) (HO258.out.reads Fact.fw)).mono ?_
  rintro e w265 ⟨rfl, hb⟩
  have sw265 : w241.heap.size ≤ w265.heap.size := hb.size
  have c266 : w265.cell? ⟨w.heap.size, 0, none⟩ = some (.slice a0_Facts len0_Facts cap0_Facts) := ((BelowKit.bcell hb).1 _ _ z245).trans c244
  have z267 : w.heap.size < w265.heap.size := by omega
  have c268 : w265.cell? ⟨w.heap.size + 1, 0, none⟩ = some (.int .i64 a1_Key) := ((BelowKit.bcell hb).1 _ _ z251).trans c246
  have c269 : w265.cell? ⟨w.heap.size + 1, 1, none⟩ = some (.int .i64 a1_From) := ((BelowKit.bcell hb).1 _ _ z251).trans c247
  have c270 : w265.cell? ⟨w.heap.size + 1, 2, none⟩ = some (.int .i64 a1_To) := ((BelowKit.bcell hb).1 _ _ z251).trans c248
  have c271 : w265.cell? ⟨w.heap.size + 1, 3, none⟩ = some (.int .i64 a1_Known) := ((BelowKit.bcell hb).1 _ _ z251).trans c249
  have c272 : w265.cell? ⟨w.heap.size + 1, 4, none⟩ = some (.int .i64 a1_Value) := ((BelowKit.bcell hb).1 _ _ z251).trans c250
  have z273 : w.heap.size + 1 < w265.heap.size := by omega
  have c274 : w265.cell? ⟨sN1 8, 0, none⟩ = some (.slice p34 nm0 c35) := ((BelowKit.bcell hb).1 _ _ z253).trans c252
  have z275 : sN1 8 < w265.heap.size := by omega
  have c276 : w265.cell? ⟨w56.heap.size, 0, none⟩ = some (.slice p53 len0_Facts c54) := ((BelowKit.bcell hb).1 _ _ z255).trans c254
  have z277 : w56.heap.size < w265.heap.size := by omega
  have c278 : w265.cell? ⟨sN2 7, 0, none⟩ = some (.slice p86 nm0 c87) := ((BelowKit.bcell hb).1 _ _ z257).trans c256
  have z279 : sN2 7 < w265.heap.size := by omega
  have c280 : w265.cell? ⟨sN4 8, 0, none⟩ = some (.slice p237 nm0 c238) := ((BelowKit.bcell hb).1 _ _ z243).trans c242
  have z281 : sN4 8 < w265.heap.size := by omega
  have HO282 := Lib.hid (HO258.out.on hb)
  have HO283 := Lib.hid (HO259.out.on hb)
  have HO284 := Lib.hid (HO260.out.on hb)
  have HO285 := Lib.hid (HO262.out.on hb)
  have HC286 := Lib.hid (BelowKit.bl_trans HC261.out hb)
  clear c244 z245 c246 c247 c248 c249 c250 z251 c252 z253 c254 z255 c256 z257 c242 z243 HO258 HO259 HO260 HO262 HC261 hb
  go_wp2_with fail
  refine (Store.held_c w265 p86 nm0 c87 1 (by omega) (by omega) (by omega) (HO284.out.reads Fact.fw)).mono ?_
  rintro e w287 ⟨rfl, hb⟩
  have sw287 : w265.heap.size ≤ w287.heap.size := hb.size
  have c288 : w287.cell? ⟨w.heap.size, 0, none⟩ = some (.slice a0_Facts len0_Facts cap0_Facts) := ((BelowKit.bcell hb).1 _ _ z267).trans c266
  have z289 : w.heap.size < w287.heap.size := by omega
  have c290 : w287.cell? ⟨w.heap.size + 1, 0, none⟩ = some (.int .i64 a1_Key) := ((BelowKit.bcell hb).1 _ _ z273).trans c268
  have c291 : w287.cell? ⟨w.heap.size + 1, 1, none⟩ = some (.int .i64 a1_From) := ((BelowKit.bcell hb).1 _ _ z273).trans c269
  have c292 : w287.cell? ⟨w.heap.size + 1, 2, none⟩ = some (.int .i64 a1_To) := ((BelowKit.bcell hb).1 _ _ z273).trans c270
  have c293 : w287.cell? ⟨w.heap.size + 1, 3, none⟩ = some (.int .i64 a1_Known) := ((BelowKit.bcell hb).1 _ _ z273).trans c271
  have c294 : w287.cell? ⟨w.heap.size + 1, 4, none⟩ = some (.int .i64 a1_Value) := ((BelowKit.bcell hb).1 _ _ z273).trans c272
  have z295 : w.heap.size + 1 < w287.heap.size := by omega
  have c296 : w287.cell? ⟨sN1 8, 0, none⟩ = some (.slice p34 nm0 c35) := ((BelowKit.bcell hb).1 _ _ z275).trans c274
  have z297 : sN1 8 < w287.heap.size := by omega
  have c298 : w287.cell? ⟨w56.heap.size, 0, none⟩ = some (.slice p53 len0_Facts c54) := ((BelowKit.bcell hb).1 _ _ z277).trans c276
  have z299 : w56.heap.size < w287.heap.size := by omega
  have c300 : w287.cell? ⟨sN2 7, 0, none⟩ = some (.slice p86 nm0 c87) := ((BelowKit.bcell hb).1 _ _ z279).trans c278
  have z301 : sN2 7 < w287.heap.size := by omega
  have c302 : w287.cell? ⟨sN4 8, 0, none⟩ = some (.slice p237 nm0 c238) := ((BelowKit.bcell hb).1 _ _ z281).trans c280
  have z303 : sN4 8 < w287.heap.size := by omega
  have HO304 := Lib.hid (HO282.out.on hb)
  have HO305 := Lib.hid (HO283.out.on hb)
  have HO306 := Lib.hid (HO284.out.on hb)
  have HO307 := Lib.hid (HO285.out.on hb)
  have HC308 := Lib.hid (BelowKit.bl_trans HC286.out hb)
  clear c266 z267 c268 c269 c270 c271 c272 z273 c274 z275 c276 z277 c278 z279 c280 z281 HO282 HO283 HO284 HO285 HC286 hb
  go_wp2
  go_ret
  exact ⟨rfl, by (repeat (first | exact Below.refl _ _ | apply BelowKit.bl_alloc | apply BelowKit.bl_drewN | apply BelowKit.bl_drew | (refine BelowKit.bl_set ?_ _ ?_; rotate_left; (first | omega | (simp; omega) | simp)) | (refine BelowKit.bl_trans ?_ (‹Hid (Below _ _ _)›).out)))⟩

/-! ### THE ROW's STEP -/
set_option maxRecDepth 100000 in
theorem lifted (os : Os) (started : os.Started) (H : Type) (enc : TypeId × Value → H) :
    ReturnsInHanded {} Try.checked os 8 .any (Rows.fnExactAddFactSpec.pre6 enc Try.prog Try.f8 Rows.fnExactAddFactRow.domain false) (Rows.fnExactAddFactSpec.post enc Try.prog Try.f8 false true false false) := by
  refine returnsInHanded_of_change (C := Try.checked) own started (by kernel_rfl) Try.func8
    (ChangeSpec.witness6 (enc := enc) (C := Try.checked) false ⟨#[], #[.agg #[.slice none 0 0], .agg #[.int .i64 0, .int .i64 0, .int .i64 0, .int .i64 0, .int .i64 0]], []⟩ 8 (by kernel_rfl) (by kernel_rfl) (by kernel_rfl) (by kernel_rfl)) ?_
  intro W base args ds gs before hval0 hW hcnd _
  have hval : ∀ (j : Nat) t v, Try.f8.params[j]? = some t → args[j]? = some v → Value.okWide Try.prog W .any base t v := hval0
  have hW' := hW
  obtain ⟨p, q, hA0, hV, rfl, hfz, hnd⟩ := hW
  have hA : DataW.TrodAll enc Try.prog W 0 (fun _ => true) true Try.f8.params.toList args.toList ds p := hA0
  rw [Try.params8] at hA hval
  obtain ⟨v0, vs0, d0, ds0, p0, q0, hargs, rfl, rfl, h0, r0⟩ := trodAll_cons hA
  obtain ⟨v1, vs1, d1, ds1, p1, q1, rfl, rfl, rfl, h1, r1⟩ := trodAll_cons r0
  obtain ⟨rfl, rfl, rfl⟩ := trodAll_nil r1
  obtain rfl : args = #[v0, v1] := by cases args; simp_all
  obtain ⟨rfl, rfl⟩ := trodVars_none hV
  have k0 := h0
  have lt0 : ∀ x ∈ p0, x.block < W.heap.size := by obtain ⟨m, hm⟩ := k0; exact DataW.trod_lt m _ _ _ hm
  obtain ⟨⟨l0⟩, rfl, _⟩ := okWide_struct Try.underlying45 (hval 0 45 v0 rfl rfl)
  have s0 : Shape.FitL W [.sl [.int .i64, .int .i64, .int .i64, .int .i64, .int .i64]] l0 := by
    obtain ⟨fu, hfu⟩ := h0
    exact Shape.trod_fit 8 45 _ (by kernel_rfl) _ _ _ hfu
  obtain ⟨a0_Facts, len0_Facts, cap0_Facts, r0, rfl, s0_Facts, s0⟩ := Shape.fit_sl s0
  obtain ⟨z0_Facts, hz0_Facts, w0_Facts, hl0_Facts, g0_Facts⟩ := Shape.reads_of (f := Fact.fc) (c := 5) (good := Fact.Wf) rfl (fun _ h => Fact.cov h) s0_Facts
  obtain rfl := Shape.fit_nil s0
  have k1 := h1
  have lt1 : ∀ x ∈ p1, x.block < W.heap.size := by obtain ⟨m, hm⟩ := k1; exact DataW.trod_lt m _ _ _ hm
  obtain ⟨⟨l1⟩, rfl, _⟩ := okWide_struct Try.underlying39 (hval 1 39 v1 rfl rfl)
  have s1 : Shape.FitL W [.int .i64, .int .i64, .int .i64, .int .i64, .int .i64] l1 := by
    obtain ⟨fu, hfu⟩ := h1
    exact Shape.trod_fit 8 39 _ (by kernel_rfl) _ _ _ hfu
  obtain ⟨a1_Key, r1, rfl, w1_Key, s1⟩ := Shape.fit_int s1
  obtain ⟨a1_From, r1, rfl, w1_From, s1⟩ := Shape.fit_int s1
  obtain ⟨a1_To, r1, rfl, w1_To, s1⟩ := Shape.fit_int s1
  obtain ⟨a1_Known, r1, rfl, w1_Known, s1⟩ := Shape.fit_int s1
  obtain ⟨a1_Value, r1, rfl, w1_Value, s1⟩ := Shape.fit_int s1
  obtain rfl := Shape.fit_nil s1
  clear hA0 hval0
  refine (walk a0_Facts len0_Facts cap0_Facts z0_Facts a1_Key a1_From a1_To a1_Known a1_Value W hz0_Facts w0_Facts hl0_Facts g0_Facts w1_Key w1_From w1_To w1_Known w1_Value).mono fun e W' ⟨he, bel⟩ => ?_
  subst he
  exact ⟨_, rfl, _, _, _, [], _, [], hW', trodAll_mk1 (shut_bool Try.underlying4 _), (trodAll_cons_mk (Below.trod laidOut (by kernel_rfl) (of_decide_eq_true (by kernel_rfl)) k0 bel lt0) (trodAll_cons_mk (Below.trod laidOut (by kernel_rfl) (of_decide_eq_true (by kernel_rfl)) k1 bel lt1) trodAll_mk0)), rfl, bel.frame _, fun h => by cases h⟩

theorem over : Rows.fnExactAddFactRow.holds Try.pinned (OpenSpec.ofChange Rows.fnExactAddFactSpec) :=
  OpenClaim.holds_of_wide 8 Try.f8 rfl rfl rfl rfl rfl rfl rfl ⟨rfl, rfl, rfl, rfl, rfl⟩ rfl rfl rfl rfl rfl (by kernel_rfl) Try.func8 (by kernel_rfl)
    (of_decide_eq_true (by kernel_rfl)) (by unfold Func.isWrapper; first | (rw [if_pos (by decide +kernel)]; kernel_rfl) | (rw [if_neg (by decide +kernel)]; exact ⟨rfl, rfl⟩))
    (fun os started H enc _ => lifted os started H enc)

theorem proved : Rows.FnExactAddFactSaid := over
#print axioms proved
end Go.Proofs.Ythilfkcebbnoiaa.fnExactAddFact
