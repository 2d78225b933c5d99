/- Proves the given statement of the law FnExactAddSpell: for every input that the row lets in, the law's Go function returns true and every argument reads as before; no condition of mine. -/
import Derived.Test.YtkoeodmneedjcaaSpellS
import Derived.Test.YtkoeodmneedjcaaSpellI
import Derived.Test.YtkoeodmneedjcaaSpAddS
import Derived.Test.YtkoeodmneedjcaaSpAddI
import Derived.Test.YtkoeodmneedjcaaTSpell
import Derived.Test.YtkoeodmneedjcaaTSegment
import Derived.Test.YtkoeodmneedjcaaSpellMath
import Derived.Test.YtkoeodmneedjcaaKit
import Derived.Test.YtkoeodmneedjcaaRows
import Derived.WalkKit
import Derived.ProofKit
import Derived.OpenShut
import Derived.ShutString
import Derived.ChangeOld
import Derived.Below
import Derived.Deep.RegionHeld3
import Derived.Deep.DeepCutAuto
import Derived.Lib.Hide
import Derived.Lib.SmallJoins
namespace Go.Proofs.Ytkoeodmneedjcaa.fnExactAddSpell
open Go.ChangeShapes Go.WideShapes Go.ChangeAt Go.RowKit
open Go.ChangeMaps (open_string shut_string)
set_option linter.unusedVariables false

theorem own : ownKnob Try.prog.godebug = none := by kernel_rfl
theorem laidOut : laidOutB Try.prog = true := by kernel_rfl

/-! ### STEP 1: the walk -/
set_option maxHeartbeats 8000000 in
theorem walk (a0 : Option Addr) (len0 cap0 : Nat) (z0 : List TSpell.El) (a1_From : Int) (a1_To : Int) (a1_Percent : Int) (a1_Leave : Bool) (w : World) (hz0 : z0.length = len0) (w0 : RowN.Reads TSpell.fc 4 w a0 z0) (hl0 : len0 ≤ 9223372036854775807) (g0 : ∀ x ∈ z0, TSpell.Wf x) (w1_From : (Lit.int .i64 a1_From).wf = true) (w1_To : (Lit.int .i64 a1_To).wf = true) (w1_Percent : (Lit.int .i64 a1_Percent).wf = true) :
    Calls Try.prog 7 #[.slice a0 len0 cap0, .agg #[.int .i64 a1_From, .int .i64 a1_To, .int .i64 a1_Percent, .bool a1_Leave]] w fun e w' => e = .returned (.bool true) ∧ Below w.heap.size w w' := by
  have HR0 := Lib.hid w0
  have HM0 := Lib.hid hz0
  clear w0 hz0
  by_cases hbig : 1048576 < len0
  · go_enter Try.func7, Try.ntmps7
    go_wp2_with fail
    obtain ⟨W1, hW1⟩ : ∃ V : World, V = w.alloc (.cells #[.int .i64 a1_From, .int .i64 a1_To, .int .i64 a1_Percent, .bool a1_Leave] 44) := ⟨_, rfl⟩
    rw [← hW1]
    have hb : Below w.heap.size w W1 := by rw [hW1]; (repeat (first | exact Below.refl _ _ | apply BelowKit.bl_alloc | apply BelowKit.bl_drewN | apply BelowKit.bl_drew | (refine BelowKit.bl_set ?_ _ ?_; rotate_left; (first | omega | (simp; omega) | simp)) | (refine BelowKit.bl_trans ?_ (‹Hid (Below _ _ _)›).out)))
    have tW1 : w.heap.size + 1 ≤ W1.heap.size := by rw [hW1]; simp
    have uW1 : W1.heap.size ≤ w.heap.size + 1 := by rw [hW1]; simp
    have c2 : W1.cell? ⟨w.heap.size, 0, none⟩ = some (.int .i64 a1_From) := by rw [hW1]; simp [go_sem]
    have c3 : W1.cell? ⟨w.heap.size, 1, none⟩ = some (.int .i64 a1_To) := by rw [hW1]; simp [go_sem]
    have c4 : W1.cell? ⟨w.heap.size, 2, none⟩ = some (.int .i64 a1_Percent) := by rw [hW1]; simp [go_sem]
    have c5 : W1.cell? ⟨w.heap.size, 3, none⟩ = some (.bool a1_Leave) := by rw [hW1]; simp [go_sem]
    have z6 : w.heap.size < W1.heap.size := by omega
    clear hW1
    have sW1 : w.heap.size ≤ W1.heap.size := hb.size
    have HC7 := Lib.hid hb
    clear hb
    refine (TSpell.sz_c W1 a0 len0 cap0 1048576 hl0 (by omega) (by omega)).mono ?_
    rintro e w9 ⟨rfl, hb⟩
    rw [if_pos (by omega)]
    have HC9 := Lib.hid (BelowKit.bl_trans HC7.out hb)
    clear hb
    go_wp2
    go_ret
    exact ⟨rfl, HC9.out⟩
  have hs0 : len0 ≤ 1048576 := by omega
  obtain ⟨m0, hm0⟩ : ∃ v, (SpellMath.added z0 ⟨a1_From, a1_To, a1_Percent, a1_Leave⟩).1 = v := ⟨_, rfl⟩
  have hbm0 : m0.length ≤ 1099511627776 := by rw [← hm0]; exact Nat.le_trans (SpellMath.added_le _ _) (by have := HM0.out; omega)
  obtain ⟨nm0, hnm0⟩ : ∃ n, m0.length = n := ⟨_, rfl⟩
  rw [hnm0] at hbm0
  have HF0 := Lib.hid hm0
  have HN0 := Lib.hid hnm0
  clear hm0 hnm0
  obtain ⟨m1, hm1⟩ : ∃ v, (SpellMath.added z0 ⟨a1_From, a1_To, a1_Percent, a1_Leave⟩).2 = v := ⟨_, rfl⟩
  have HF1 := Lib.hid hm1
  clear hm1
  go_enter Try.func7, Try.ntmps7
  go_wp2_with fail
  obtain ⟨W8, hW8⟩ : ∃ V : World, V = w.alloc (.cells #[.int .i64 a1_From, .int .i64 a1_To, .int .i64 a1_Percent, .bool a1_Leave] 44) := ⟨_, rfl⟩
  rw [← hW8]
  have hb : Below w.heap.size w W8 := by rw [hW8]; (repeat (first | exact Below.refl _ _ | apply BelowKit.bl_alloc | apply BelowKit.bl_drewN | apply BelowKit.bl_drew | (refine BelowKit.bl_set ?_ _ ?_; rotate_left; (first | omega | (simp; omega) | simp)) | (refine BelowKit.bl_trans ?_ (‹Hid (Below _ _ _)›).out)))
  have tW8 : w.heap.size + 1 ≤ W8.heap.size := by rw [hW8]; simp
  have uW8 : W8.heap.size ≤ w.heap.size + 1 := by rw [hW8]; simp
  have c9 : W8.cell? ⟨w.heap.size, 0, none⟩ = some (.int .i64 a1_From) := by rw [hW8]; simp [go_sem]
  have c10 : W8.cell? ⟨w.heap.size, 1, none⟩ = some (.int .i64 a1_To) := by rw [hW8]; simp [go_sem]
  have c11 : W8.cell? ⟨w.heap.size, 2, none⟩ = some (.int .i64 a1_Percent) := by rw [hW8]; simp [go_sem]
  have c12 : W8.cell? ⟨w.heap.size, 3, none⟩ = some (.bool a1_Leave) := by rw [hW8]; simp [go_sem]
  have z13 : w.heap.size < W8.heap.size := by omega
  clear hW8
  have sW8 : w.heap.size ≤ W8.heap.size := hb.size
  have HC14 := Lib.hid hb
  clear hb
  refine (TSpell.sz_c W8 a0 len0 cap0 1048576 hl0 (by omega) (by omega)).mono ?_
  rintro e w15 ⟨rfl, hb⟩
  rw [if_neg (by omega)]
  have sw15 : W8.heap.size ≤ w15.heap.size := hb.size
  have c16 : w15.cell? ⟨w.heap.size, 0, none⟩ = some (.int .i64 a1_From) := ((BelowKit.bcell hb).1 _ _ z13).trans c9
  have c17 : w15.cell? ⟨w.heap.size, 1, none⟩ = some (.int .i64 a1_To) := ((BelowKit.bcell hb).1 _ _ z13).trans c10
  have c18 : w15.cell? ⟨w.heap.size, 2, none⟩ = some (.int .i64 a1_Percent) := ((BelowKit.bcell hb).1 _ _ z13).trans c11
  have c19 : w15.cell? ⟨w.heap.size, 3, none⟩ = some (.bool a1_Leave) := ((BelowKit.bcell hb).1 _ _ z13).trans c12
  have z20 : w.heap.size < w15.heap.size := by omega
  have HC21 := Lib.hid (BelowKit.bl_trans HC14.out hb)
  clear c9 c10 c11 c12 z13 HC14 hb
  go_wp2_with fail
  have gc16 := Grown.G.keep c16 z20
  have gc17 := Grown.G.keep c17 z20
  have gc18 := Grown.G.keep c18 z20
  have gc19 := Grown.G.keep c19 z20
  refine Fresh.wp_region_grow (fun k => match k with | 1 => .grow | 3 => .grow | 4 => .grow | _ => .quiet)
    (fun k v => match k with
          | 1 => (∃ p22 c23, v = .slice p22 len0 c23)
          | 3 => (v = .agg #[.int .i64 a1_From, .int .i64 a1_To, .int .i64 a1_Percent, .bool a1_Leave])
          | 4 => (∃ p25 c26, v = .tuple #[.slice p25 nm0 c26, .bool m1])
          | _ => v = undef)
    (fun k v s w1 => match k with
          | 1 => (∃ p22 c23, w15.heap.size ≤ s ∧ v = .slice p22 len0 c23 ∧ Own.Ow TSpell.fc 4 34 w1 s w1.heap.size (.slice p22 len0 c23) z0)
          | 3 => (w15.heap.size ≤ s ∧ v = .agg #[.int .i64 a1_From, .int .i64 a1_To, .int .i64 a1_Percent, .bool a1_Leave])
          | 4 => (∃ p25 c26, w15.heap.size ≤ s ∧ v = .tuple #[.slice p25 nm0 c26, .bool m1] ∧ Own.Ow TSpell.fc 4 34 w1 s w1.heap.size (.slice p25 nm0 c26) m0)
          | _ => True)
    (by kernel_rfl) (by kernel_rfl) (by kernel_rfl) (by kernel_rfl) ?_
  refine Fresh.wpG_q rfl ?_
  go_big_quiet_step (fail)
  refine wpQuiet_nil ?_
  refine Fresh.wpG_call #[.slice a0 len0 cap0] rfl Try.func22 (by kernel_rfl) (by kernel_rfl) rfl ⟨_, none, 0, rfl⟩ (fun X hd => ?_) ?_
  · have hX := X.bel.size
    refine (TSpell.to_c X.w a0 len0 cap0 z0 HM0.out (by omega) (HR0.out.on (BelowKit.bl_trans HC21.out X.bel))).mono ?_
    rintro e w8 ⟨p22, c23, rfl, ho0, hb⟩
    try rw [HM0.out] at ho0
    try rw [HM0.out]
    exact ⟨_, rfl, hb, ⟨p22, c23, rfl⟩, p22, c23, by omega, rfl, Own.ow_of ho0⟩
  rintro v ⟨p22, c23, rfl⟩
  go_big_quiet_step (fail)
  refine wpQuiet_nil ?_
  refine Fresh.wpG_q rfl ?_
  go_big_quiet_step (fail)
  refine wpQuiet_nil ?_
  refine Fresh.wpG_call #[.agg #[.int .i64 a1_From, .int .i64 a1_To, .int .i64 a1_Percent, .bool a1_Leave]] rfl Try.func25 (by kernel_rfl) (by kernel_rfl) rfl ⟨_, rfl⟩ (fun X hd => ?_) ?_
  · have hX := X.bel.size
    refine (TSpell.to1 ⟨a1_From, a1_To, a1_Percent, a1_Leave⟩ X.w).mono ?_
    rintro e w8 ⟨rfl, hb⟩
    exact ⟨_, rfl, hb, rfl, by omega, rfl⟩
  rintro v rfl
  go_big_quiet_step (fail)
  refine wpQuiet_nil ?_
  refine Fresh.wpG_call #[.slice p22 len0 c23, .agg #[.int .i64 a1_From, .int .i64 a1_To, .int .i64 a1_Percent, .bool a1_Leave]] rfl Try.func24 (by kernel_rfl) (by kernel_rfl) rfl ⟨_, none, 0, rfl⟩ (fun X hd => ?_) ?_
  · obtain ⟨_, _, w9, ⟨p22_ , c23_, _, e9, ho_r24⟩, _, hb9⟩ := hd ⟨1, .data⟩ (by simp) rfl rfl
    have e8 : (.slice p22 len0 c23 : Value) = .slice p22_ len0 c23_ := e9
    cases e8
    replace ho_r24 := ho_r24.on hb9
    have hX := X.bel.size
    refine (SpAddS.add_s X.w p22 len0 c23 z0 ⟨a1_From, a1_To, a1_Percent, a1_Leave⟩ HM0.out (by omega) (ho_r24.reads TSpell.fw)).mono ?_
    rintro e w8 ⟨p25, c26, rfl, ho0, hb⟩
    try rw [HF0.out] at ho0
    try rw [HF0.out]
    try rw [HF1.out] at ho0
    try rw [HF1.out]
    try rw [HN0.out] at ho0
    try rw [HN0.out]
    exact ⟨_, rfl, hb, ⟨p25, c26, rfl⟩, p25, c26, by omega, rfl, Own.ow_of ho0⟩
  rintro v ⟨p25, c26, rfl⟩
  go_big_quiet_step (fail)
  refine wpQuiet_nil ?_
  refine Fresh.wpG_q rfl ?_
  go_big_quiet_step (fail)
  refine wpQuiet_nil ?_
  refine Fresh.wpG_q rfl ?_
  go_big_quiet_step (fail)
  refine wpQuiet_nil ?_
  refine Fresh.wpG_q rfl ?_
  go_big_quiet_step (fail)
  refine wpQuiet_nil ?_
  refine Fresh.wpG_q rfl ?_
  go_big_quiet_step (fail)
  refine wpQuiet_nil ?_
  refine Fresh.wpG_q rfl ?_
  go_big_quiet_step (fail)
  refine wpQuiet_nil ?_
  refine Fresh.wpG_nil fun X sN1 tN1 hk => ?_
  obtain ⟨⟨w4_, ⟨p25_ , c26_, lo4, e9, ho_r27⟩, ht4, hb4⟩, st4, _⟩ := hk.1 4 (by decide) rfl
  have e8 : (.tuple #[.slice p25 nm0 c26, .bool m1] : Value) = .tuple #[.slice p25_ nm0 c26_, .bool m1] := e9
  cases e8
  replace ho_r27 := Own.Ow.to_hi (ho_r27.on hb4) ht4
  have hXs := X.bel.size
  have hbX := X.bel
  obtain ⟨w28, hU⟩ : ∃ U : World, U = X.w := ⟨_, rfl⟩
  rw [← hU] at hbX ho_r27 ⊢
  have lo4' : w15.heap.size ≤ sN1 4 := lo4
  have hi4' : tN1 4 ≤ w28.heap.size := ho_r27.lim
  clear hk hU hXs gc16 gc17 gc18 gc19 hb4 ht4 e9 lo4
  have sw28 : w15.heap.size ≤ w28.heap.size := hbX.size
  have c29 : w28.cell? ⟨w.heap.size, 0, none⟩ = some (.int .i64 a1_From) := ((BelowKit.bcell hbX).1 _ _ z20).trans c16
  have c30 : w28.cell? ⟨w.heap.size, 1, none⟩ = some (.int .i64 a1_To) := ((BelowKit.bcell hbX).1 _ _ z20).trans c17
  have c31 : w28.cell? ⟨w.heap.size, 2, none⟩ = some (.int .i64 a1_Percent) := ((BelowKit.bcell hbX).1 _ _ z20).trans c18
  have c32 : w28.cell? ⟨w.heap.size, 3, none⟩ = some (.bool a1_Leave) := ((BelowKit.bcell hbX).1 _ _ z20).trans c19
  have z33 : w.heap.size < w28.heap.size := by omega
  have HC34 := Lib.hid (BelowKit.bl_trans HC21.out hbX)
  clear c16 c17 c18 c19 z20 HC21 hbX
  have HO35 := Lib.hid ho_r27
  clear ho_r27
  go_wp2_with fail
  refine (TSpell.to_c w28 a0 len0 cap0 z0 HM0.out (by omega) (HR0.out.on HC34.out)).mono ?_
  rintro e w41 ⟨p38, c39, rfl, ho0, hb⟩
  rw [HM0.out] at ho0 ⊢
  have sw41 : w28.heap.size ≤ w41.heap.size := hb.size
  have c42 : w41.cell? ⟨w.heap.size, 0, none⟩ = some (.int .i64 a1_From) := ((BelowKit.bcell hb).1 _ _ z33).trans c29
  have c43 : w41.cell? ⟨w.heap.size, 1, none⟩ = some (.int .i64 a1_To) := ((BelowKit.bcell hb).1 _ _ z33).trans c30
  have c44 : w41.cell? ⟨w.heap.size, 2, none⟩ = some (.int .i64 a1_Percent) := ((BelowKit.bcell hb).1 _ _ z33).trans c31
  have c45 : w41.cell? ⟨w.heap.size, 3, none⟩ = some (.bool a1_Leave) := ((BelowKit.bcell hb).1 _ _ z33).trans c32
  have z46 : w.heap.size < w41.heap.size := by omega
  have HO47 := Lib.hid (HO35.out.on hb)
  have HC48 := Lib.hid (BelowKit.bl_trans HC34.out hb)
  clear c29 c30 c31 c32 z33 HO35 HC34 hb
  have HO49 := Lib.hid (Own.ow_of ho0)
  clear ho0
  go_wp2_with fail
  refine (TSpell.to1 ⟨a1_From, a1_To, a1_Percent, a1_Leave⟩ w41).mono ?_
  rintro e w50 ⟨rfl, hb⟩
  unfold TSpell.fv
  have sw50 : w41.heap.size ≤ w50.heap.size := hb.size
  have c51 : w50.cell? ⟨w.heap.size, 0, none⟩ = some (.int .i64 a1_From) := ((BelowKit.bcell hb).1 _ _ z46).trans c42
  have c52 : w50.cell? ⟨w.heap.size, 1, none⟩ = some (.int .i64 a1_To) := ((BelowKit.bcell hb).1 _ _ z46).trans c43
  have c53 : w50.cell? ⟨w.heap.size, 2, none⟩ = some (.int .i64 a1_Percent) := ((BelowKit.bcell hb).1 _ _ z46).trans c44
  have c54 : w50.cell? ⟨w.heap.size, 3, none⟩ = some (.bool a1_Leave) := ((BelowKit.bcell hb).1 _ _ z46).trans c45
  have z55 : w.heap.size < w50.heap.size := by omega
  have HO56 := Lib.hid (HO47.out.on hb)
  have HO57 := Lib.hid (HO49.out.on hb)
  have HC58 := Lib.hid (BelowKit.bl_trans HC48.out hb)
  clear c42 c43 c44 c45 z46 HO47 HO49 HC48 hb
  go_wp2_with fail
  refine (SpAddI.add_i w50 p38 len0 c39 z0 ⟨a1_From, a1_To, a1_Percent, a1_Leave⟩ HM0.out (by omega) (RowRoom.ow_cap HO57.out) (HO57.out.reads TSpell.fw)).mono ?_
  rintro e w62 ⟨p59, c60, rfl, ho0, hb⟩
  try rw [HF0.out] at ho0
  try rw [HF0.out]
  try rw [HF1.out] at ho0
  try rw [HF1.out]
  try rw [HN0.out] at ho0
  try rw [HN0.out]
  have sw62 : w50.heap.size ≤ w62.heap.size := hb.size
  have c63 : w62.cell? ⟨w.heap.size, 0, none⟩ = some (.int .i64 a1_From) := ((BelowKit.bcell hb).1 _ _ z55).trans c51
  have c64 : w62.cell? ⟨w.heap.size, 1, none⟩ = some (.int .i64 a1_To) := ((BelowKit.bcell hb).1 _ _ z55).trans c52
  have c65 : w62.cell? ⟨w.heap.size, 2, none⟩ = some (.int .i64 a1_Percent) := ((BelowKit.bcell hb).1 _ _ z55).trans c53
  have c66 : w62.cell? ⟨w.heap.size, 3, none⟩ = some (.bool a1_Leave) := ((BelowKit.bcell hb).1 _ _ z55).trans c54
  have z67 : w.heap.size < w62.heap.size := by omega
  have HO68 := Lib.hid (HO56.out.on hb)
  have HO69 := Lib.hid (HO57.out.on hb)
  have HC70 := Lib.hid (BelowKit.bl_trans HC58.out hb)
  clear c51 c52 c53 c54 z55 HO56 HO57 HC58 hb
  have HO71 := Lib.hid (Own.ow_of ho0)
  clear ho0
  go_wp2_with fail
  refine (TSpell.eq_c w62 nm0 c60 c26 p59 p25 m0 HN0.out (by omega) (HO71.out.reads TSpell.fw) (HO68.out.reads TSpell.fw)).mono ?_
  rintro e w72 ⟨rfl, hb⟩
  have sw72 : w62.heap.size ≤ w72.heap.size := hb.size
  have c73 : w72.cell? ⟨w.heap.size, 0, none⟩ = some (.int .i64 a1_From) := ((BelowKit.bcell hb).1 _ _ z67).trans c63
  have c74 : w72.cell? ⟨w.heap.size, 1, none⟩ = some (.int .i64 a1_To) := ((BelowKit.bcell hb).1 _ _ z67).trans c64
  have c75 : w72.cell? ⟨w.heap.size, 2, none⟩ = some (.int .i64 a1_Percent) := ((BelowKit.bcell hb).1 _ _ z67).trans c65
  have c76 : w72.cell? ⟨w.heap.size, 3, none⟩ = some (.bool a1_Leave) := ((BelowKit.bcell hb).1 _ _ z67).trans c66
  have z77 : w.heap.size < w72.heap.size := by omega
  have HO78 := Lib.hid (HO68.out.on hb)
  have HO79 := Lib.hid (HO69.out.on hb)
  have HO80 := Lib.hid (HO71.out.on hb)
  have HC81 := Lib.hid (BelowKit.bl_trans HC70.out hb)
  clear c63 c64 c65 c66 z67 HO68 HO69 HO71 HC70 hb
  go_wp2_with fail
  refine (TSpell.to_c w72 a0 len0 cap0 z0 HM0.out (by omega) (HR0.out.on HC81.out)).mono ?_
  rintro e w85 ⟨p82, c83, rfl, ho0, hb⟩
  rw [HM0.out] at ho0 ⊢
  have sw85 : w72.heap.size ≤ w85.heap.size := hb.size
  have c86 : w85.cell? ⟨w.heap.size, 0, none⟩ = some (.int .i64 a1_From) := ((BelowKit.bcell hb).1 _ _ z77).trans c73
  have c87 : w85.cell? ⟨w.heap.size, 1, none⟩ = some (.int .i64 a1_To) := ((BelowKit.bcell hb).1 _ _ z77).trans c74
  have c88 : w85.cell? ⟨w.heap.size, 2, none⟩ = some (.int .i64 a1_Percent) := ((BelowKit.bcell hb).1 _ _ z77).trans c75
  have c89 : w85.cell? ⟨w.heap.size, 3, none⟩ = some (.bool a1_Leave) := ((BelowKit.bcell hb).1 _ _ z77).trans c76
  have z90 : w.heap.size < w85.heap.size := by omega
  have HO91 := Lib.hid (HO78.out.on hb)
  have HO92 := Lib.hid (HO79.out.on hb)
  have HO93 := Lib.hid (HO80.out.on hb)
  have HC94 := Lib.hid (BelowKit.bl_trans HC81.out hb)
  clear c73 c74 c75 c76 z77 HO78 HO79 HO80 HC81 hb
  have HO95 := Lib.hid (Own.ow_of ho0)
  clear ho0
  go_wp2_with fail
  refine (TSpell.eq_c w85 len0 c39 c83 p38 p82 z0 HM0.out (by omega) (HO92.out.reads TSpell.fw) (HO95.out.reads TSpell.fw)).mono ?_
  rintro e w96 ⟨rfl, hb⟩
  have sw96 : w85.heap.size ≤ w96.heap.size := hb.size
  have c97 : w96.cell? ⟨w.heap.size, 0, none⟩ = some (.int .i64 a1_From) := ((BelowKit.bcell hb).1 _ _ z90).trans c86
  have c98 : w96.cell? ⟨w.heap.size, 1, none⟩ = some (.int .i64 a1_To) := ((BelowKit.bcell hb).1 _ _ z90).trans c87
  have c99 : w96.cell? ⟨w.heap.size, 2, none⟩ = some (.int .i64 a1_Percent) := ((BelowKit.bcell hb).1 _ _ z90).trans c88
  have c100 : w96.cell? ⟨w.heap.size, 3, none⟩ = some (.bool a1_Leave) := ((BelowKit.bcell hb).1 _ _ z90).trans c89
  have z101 : w.heap.size < w96.heap.size := by omega
  have HO102 := Lib.hid (HO91.out.on hb)
  have HO103 := Lib.hid (HO92.out.on hb)
  have HO104 := Lib.hid (HO93.out.on hb)
  have HO105 := Lib.hid (HO95.out.on hb)
  have HC106 := Lib.hid (BelowKit.bl_trans HC94.out hb)
  clear c86 c87 c88 c89 z90 HO91 HO92 HO93 HO95 HC94 hb
  go_wp2_with fail
  refine (TSpell.mark_c w96 w28.heap.size w41.heap.size p38 len0 c39 z0 1 HM0.out (by omega) (by omega) (by omega) HO103.out (by omega)).mono ?_
  rintro e w107 ⟨rfl, ho, hm⟩
  have sw107 : w96.heap.size ≤ w107.heap.size := hm.low.size
  have c108 : w107.cell? ⟨w.heap.size, 0, none⟩ = some (.int .i64 a1_From) := (hm.out (b := w.heap.size) (by omega) 0).trans c97
  have c109 : w107.cell? ⟨w.heap.size, 1, none⟩ = some (.int .i64 a1_To) := (hm.out (b := w.heap.size) (by omega) 1).trans c98
  have c110 : w107.cell? ⟨w.heap.size, 2, none⟩ = some (.int .i64 a1_Percent) := (hm.out (b := w.heap.size) (by omega) 2).trans c99
  have c111 : w107.cell? ⟨w.heap.size, 3, none⟩ = some (.bool a1_Leave) := (hm.out (b := w.heap.size) (by omega) 3).trans c100
  have z112 : w.heap.size < w107.heap.size := by omega
  have HO113 := Lib.hid (HO102.out.mid hm (by omega))
  have HO115 := Lib.hid (HO104.out.mid hm (by omega))
  have HO116 := Lib.hid (HO105.out.mid hm (by omega))
  have HC117 := Lib.hid (HC106.out.trans (hm.low.mono (by omega)))
  clear c97 c98 c99 c100 z101 HO102 HO104 HO105 HC106 hm
  have HO118 := Lib.hid ho
  clear ho HO103
  have HM119 : Hid ((TSpell.marks 1 len0).length = len0) := Lib.hid (TSpell.marks_len _ _)
  go_wp2_with fail
  refine (TSpell.eq_c w107 nm0 c60 c26 p59 p25 m0 HN0.out (by omega) (HO115.out.reads TSpell.fw) (HO113.out.reads TSpell.fw)).mono ?_
  rintro e w120 ⟨rfl, hb⟩
  have sw120 : w107.heap.size ≤ w120.heap.size := hb.size
  have c121 : w120.cell? ⟨w.heap.size, 0, none⟩ = some (.int .i64 a1_From) := ((BelowKit.bcell hb).1 _ _ z112).trans c108
  have c122 : w120.cell? ⟨w.heap.size, 1, none⟩ = some (.int .i64 a1_To) := ((BelowKit.bcell hb).1 _ _ z112).trans c109
  have c123 : w120.cell? ⟨w.heap.size, 2, none⟩ = some (.int .i64 a1_Percent) := ((BelowKit.bcell hb).1 _ _ z112).trans c110
  have c124 : w120.cell? ⟨w.heap.size, 3, none⟩ = some (.bool a1_Leave) := ((BelowKit.bcell hb).1 _ _ z112).trans c111
  have z125 : w.heap.size < w120.heap.size := by omega
  have HO126 := Lib.hid (HO113.out.on hb)
  have HO127 := Lib.hid (HO118.out.on hb)
  have HO128 := Lib.hid (HO115.out.on hb)
  have HO129 := Lib.hid (HO116.out.on hb)
  have HC130 := Lib.hid (BelowKit.bl_trans HC117.out hb)
  clear c108 c109 c110 c111 z112 HO113 HO118 HO115 HO116 HC117 hb
  go_wp2_with fail
  refine (TSpell.mark_c w120 w50.heap.size w62.heap.size p59 nm0 c60 m0 1 HN0.out (by omega) (by omega) (by omega) HO128.out (by omega)).mono ?_
  rintro e w131 ⟨rfl, ho, hm⟩
  have sw131 : w120.heap.size ≤ w131.heap.size := hm.low.size
  have c132 : w131.cell? ⟨w.heap.size, 0, none⟩ = some (.int .i64 a1_From) := (hm.out (b := w.heap.size) (by omega) 0).trans c121
  have c133 : w131.cell? ⟨w.heap.size, 1, none⟩ = some (.int .i64 a1_To) := (hm.out (b := w.heap.size) (by omega) 1).trans c122
  have c134 : w131.cell? ⟨w.heap.size, 2, none⟩ = some (.int .i64 a1_Percent) := (hm.out (b := w.heap.size) (by omega) 2).trans c123
  have c135 : w131.cell? ⟨w.heap.size, 3, none⟩ = some (.bool a1_Leave) := (hm.out (b := w.heap.size) (by omega) 3).trans c124
  have z136 : w.heap.size < w131.heap.size := by omega
  have HO137 := Lib.hid (HO126.out.mid hm (by omega))
  have HO138 := Lib.hid (HO127.out.mid hm (by omega))
  have HO140 := Lib.hid (HO129.out.mid hm (by omega))
  have HC141 := Lib.hid (HC130.out.trans (hm.low.mono (by omega)))
  clear c121 c122 c123 c124 z125 HO126 HO127 HO129 HC130 hm
  have HO142 := Lib.hid ho
  clear ho HO128
  have HM143 : Hid ((TSpell.marks 1 nm0).length = nm0) := Lib.hid (TSpell.marks_len _ _)
  go_wp2_with fail
  refine (TSpell.held_c w131 p59 nm0 c60 1 (by omega) (by omega) (by omega) (HO142.out.reads TSpell.fw)).mono ?_
  rintro e w144 ⟨rfl, hb⟩
  have sw144 : w131.heap.size ≤ w144.heap.size := hb.size
  have c145 : w144.cell? ⟨w.heap.size, 0, none⟩ = some (.int .i64 a1_From) := ((BelowKit.bcell hb).1 _ _ z136).trans c132
  have c146 : w144.cell? ⟨w.heap.size, 1, none⟩ = some (.int .i64 a1_To) := ((BelowKit.bcell hb).1 _ _ z136).trans c133
  have c147 : w144.cell? ⟨w.heap.size, 2, none⟩ = some (.int .i64 a1_Percent) := ((BelowKit.bcell hb).1 _ _ z136).trans c134
  have c148 : w144.cell? ⟨w.heap.size, 3, none⟩ = some (.bool a1_Leave) := ((BelowKit.bcell hb).1 _ _ z136).trans c135
  have z149 : w.heap.size < w144.heap.size := by omega
  have HO150 := Lib.hid (HO137.out.on hb)
  have HO151 := Lib.hid (HO138.out.on hb)
  have HO152 := Lib.hid (HO142.out.on hb)
  have HO153 := Lib.hid (HO140.out.on hb)
  have HC154 := Lib.hid (BelowKit.bl_trans HC141.out hb)
  clear c132 c133 c134 c135 z136 HO137 HO138 HO142 HO140 HC141 hb
  go_wp2_with fail
  have gc145 := Grown.G.keep c145 z149
  have gc146 := Grown.G.keep c146 z149
  have gc147 := Grown.G.keep c147 z149
  have gc148 := Grown.G.keep c148 z149
  refine Fresh.wp_region_grow (fun k => match k with | 1 => .grow | 3 => .grow | 4 => .grow | _ => .quiet)
    (fun k v => match k with
          | 1 => (∃ p155 c156, v = .slice p155 len0 c156)
          | 3 => (v = .agg #[.int .i64 a1_From, .int .i64 a1_To, .int .i64 a1_Percent, .bool a1_Leave])
          | 4 => (∃ p158 c159, v = .tuple #[.slice p158 nm0 c159, .bool m1])
          | _ => v = undef)
    (fun k v s w1 => match k with
          | 1 => (∃ p155 c156, w144.heap.size ≤ s ∧ v = .slice p155 len0 c156 ∧ Own.Ow TSpell.fc 4 34 w1 s w1.heap.size (.slice p155 len0 c156) z0)
          | 3 => (w144.heap.size ≤ s ∧ v = .agg #[.int .i64 a1_From, .int .i64 a1_To, .int .i64 a1_Percent, .bool a1_Leave])
          | 4 => (∃ p158 c159, w144.heap.size ≤ s ∧ v = .tuple #[.slice p158 nm0 c159, .bool m1] ∧ Own.Ow TSpell.fc 4 34 w1 s w1.heap.size (.slice p158 nm0 c159) m0)
          | _ => True)
    (by kernel_rfl) (by kernel_rfl) (by kernel_rfl) (by kernel_rfl) ?_
  refine Fresh.wpG_q rfl ?_
  go_big_quiet_step (fail)
  refine wpQuiet_nil ?_
  refine Fresh.wpG_call #[.slice a0 len0 cap0] rfl Try.func22 (by kernel_rfl) (by kernel_rfl) rfl ⟨_, none, 0, rfl⟩ (fun X hd => ?_) ?_
  · have hX := X.bel.size
    refine (TSpell.to_c X.w a0 len0 cap0 z0 HM0.out (by omega) (HR0.out.on (BelowKit.bl_trans HC154.out X.bel))).mono ?_
    rintro e w8 ⟨p155, c156, rfl, ho0, hb⟩
    try rw [HM0.out] at ho0
    try rw [HM0.out]
    exact ⟨_, rfl, hb, ⟨p155, c156, rfl⟩, p155, c156, by omega, rfl, Own.ow_of ho0⟩
  rintro v ⟨p155, c156, rfl⟩
  go_big_quiet_step (fail)
  refine wpQuiet_nil ?_
  refine Fresh.wpG_q rfl ?_
  go_big_quiet_step (fail)
  refine wpQuiet_nil ?_
  refine Fresh.wpG_call #[.agg #[.int .i64 a1_From, .int .i64 a1_To, .int .i64 a1_Percent, .bool a1_Leave]] rfl Try.func25 (by kernel_rfl) (by kernel_rfl) rfl ⟨_, rfl⟩ (fun X hd => ?_) ?_
  · have hX := X.bel.size
    refine (TSpell.to1 ⟨a1_From, a1_To, a1_Percent, a1_Leave⟩ X.w).mono ?_
    rintro e w8 ⟨rfl, hb⟩
    exact ⟨_, rfl, hb, rfl, by omega, rfl⟩
  rintro v rfl
  go_big_quiet_step (fail)
  refine wpQuiet_nil ?_
  refine Fresh.wpG_call #[.slice p155 len0 c156, .agg #[.int .i64 a1_From, .int .i64 a1_To, .int .i64 a1_Percent, .bool a1_Leave]] rfl Try.func18 (by kernel_rfl) (by kernel_rfl) rfl ⟨_, none, 0, rfl⟩ (fun X hd => ?_) ?_
  · obtain ⟨_, _, w9, ⟨p155_ , c156_, _, e9, ho_r157⟩, _, hb9⟩ := hd ⟨1, .data⟩ (by simp) rfl rfl
    have e8 : (.slice p155 len0 c156 : Value) = .slice p155_ len0 c156_ := e9
    cases e8
    replace ho_r157 := ho_r157.on hb9
    have hX := X.bel.size
    refine (SpAddI.add_i X.w p155 len0 c156 z0 ⟨a1_From, a1_To, a1_Percent, a1_Leave⟩ HM0.out (by omega) (RowRoom.ow_cap ho_r157) (ho_r157.reads TSpell.fw)).mono ?_
    rintro e w8 ⟨p158, c159, rfl, ho0, hb⟩
    try rw [HF0.out] at ho0
    try rw [HF0.out]
    try rw [HF1.out] at ho0
    try rw [HF1.out]
    try rw [HN0.out] at ho0
    try rw [HN0.out]
    exact ⟨_, rfl, hb, ⟨p158, c159, rfl⟩, p158, c159, by omega, rfl, Own.ow_of ho0⟩
  rintro v ⟨p158, c159, rfl⟩
  go_big_quiet_step (fail)
  refine wpQuiet_nil ?_
  refine Fresh.wpG_q rfl ?_
  go_big_quiet_step (fail)
  refine wpQuiet_nil ?_
  refine Fresh.wpG_q rfl ?_
  go_big_quiet_step (fail)
  refine wpQuiet_nil ?_
  refine Fresh.wpG_q rfl ?_
  go_big_quiet_step (fail)
  refine wpQuiet_nil ?_
  refine Fresh.wpG_q rfl ?_
  go_big_quiet_step (fail)
  refine wpQuiet_nil ?_
  refine Fresh.wpG_q rfl ?_
  go_big_quiet_step (fail)
  refine wpQuiet_nil ?_
  refine Fresh.wpG_nil fun X sN2 tN2 hk => ?_
  obtain ⟨⟨w4_, ⟨p158_ , c159_, lo4, e9, ho_r160⟩, ht4, hb4⟩, st4, _⟩ := hk.1 4 (by decide) rfl
  have e8 : (.tuple #[.slice p158 nm0 c159, .bool m1] : Value) = .tuple #[.slice p158_ nm0 c159_, .bool m1] := e9
  cases e8
  replace ho_r160 := Own.Ow.to_hi (ho_r160.on hb4) ht4
  have hXs := X.bel.size
  have hbX := X.bel
  obtain ⟨w161, hU⟩ : ∃ U : World, U = X.w := ⟨_, rfl⟩
  rw [← hU] at hbX ho_r160 ⊢
  have lo4' : w144.heap.size ≤ sN2 4 := lo4
  have hi4' : tN2 4 ≤ w161.heap.size := ho_r160.lim
  clear hk hU hXs gc145 gc146 gc147 gc148 hb4 ht4 e9 lo4
  have sw161 : w144.heap.size ≤ w161.heap.size := hbX.size
  have c162 : w161.cell? ⟨w.heap.size, 0, none⟩ = some (.int .i64 a1_From) := ((BelowKit.bcell hbX).1 _ _ z149).trans c145
  have c163 : w161.cell? ⟨w.heap.size, 1, none⟩ = some (.int .i64 a1_To) := ((BelowKit.bcell hbX).1 _ _ z149).trans c146
  have c164 : w161.cell? ⟨w.heap.size, 2, none⟩ = some (.int .i64 a1_Percent) := ((BelowKit.bcell hbX).1 _ _ z149).trans c147
  have c165 : w161.cell? ⟨w.heap.size, 3, none⟩ = some (.bool a1_Leave) := ((BelowKit.bcell hbX).1 _ _ z149).trans c148
  have z166 : w.heap.size < w161.heap.size := by omega
  have HO167 := Lib.hid (HO150.out.on hbX)
  have HO168 := Lib.hid (HO151.out.on hbX)
  have HO169 := Lib.hid (HO152.out.on hbX)
  have HO170 := Lib.hid (HO153.out.on hbX)
  have HC171 := Lib.hid (BelowKit.bl_trans HC154.out hbX)
  clear c145 c146 c147 c148 z149 HO150 HO151 HO152 HO153 HC154 hbX
  have HO172 := Lib.hid ho_r160
  clear ho_r160
  go_wp2_with fail
  refine (TSpell.eq_c w161 nm0 c159 c26 p158 p25 m0 HN0.out (by omega) (HO172.out.reads TSpell.fw) (HO167.out.reads TSpell.fw)).mono ?_
  rintro e w175 ⟨rfl, hb⟩
  have sw175 : w161.heap.size ≤ w175.heap.size := hb.size
  have c176 : w175.cell? ⟨w.heap.size, 0, none⟩ = some (.int .i64 a1_From) := ((BelowKit.bcell hb).1 _ _ z166).trans c162
  have c177 : w175.cell? ⟨w.heap.size, 1, none⟩ = some (.int .i64 a1_To) := ((BelowKit.bcell hb).1 _ _ z166).trans c163
  have c178 : w175.cell? ⟨w.heap.size, 2, none⟩ = some (.int .i64 a1_Percent) := ((BelowKit.bcell hb).1 _ _ z166).trans c164
  have c179 : w175.cell? ⟨w.heap.size, 3, none⟩ = some (.bool a1_Leave) := ((BelowKit.bcell hb).1 _ _ z166).trans c165
  have z180 : w.heap.size < w175.heap.size := by omega
  have HO181 := Lib.hid (HO167.out.on hb)
  have HO182 := Lib.hid (HO168.out.on hb)
  have HO183 := Lib.hid (HO169.out.on hb)
  have HO184 := Lib.hid (HO170.out.on hb)
  have HO185 := Lib.hid (HO172.out.on hb)
  have HC186 := Lib.hid (BelowKit.bl_trans HC171.out hb)
  clear c162 c163 c164 c165 z166 HO167 HO168 HO169 HO170 HO172 HC171 hb
  go_wp2_with fail
  refine (TSpell.held_c w175 p59 nm0 c60 1 (by omega) (by omega) (by omega) (HO183.out.reads TSpell.fw)).mono ?_
  rintro e w187 ⟨rfl, hb⟩
  have sw187 : w175.heap.size ≤ w187.heap.size := hb.size
  have c188 : w187.cell? ⟨w.heap.size, 0, none⟩ = some (.int .i64 a1_From) := ((BelowKit.bcell hb).1 _ _ z180).trans c176
  have c189 : w187.cell? ⟨w.heap.size, 1, none⟩ = some (.int .i64 a1_To) := ((BelowKit.bcell hb).1 _ _ z180).trans c177
  have c190 : w187.cell? ⟨w.heap.size, 2, none⟩ = some (.int .i64 a1_Percent) := ((BelowKit.bcell hb).1 _ _ z180).trans c178
  have c191 : w187.cell? ⟨w.heap.size, 3, none⟩ = some (.bool a1_Leave) := ((BelowKit.bcell hb).1 _ _ z180).trans c179
  have z192 : w.heap.size < w187.heap.size := by omega
  have HO193 := Lib.hid (HO181.out.on hb)
  have HO194 := Lib.hid (HO182.out.on hb)
  have HO195 := Lib.hid (HO183.out.on hb)
  have HO196 := Lib.hid (HO184.out.on hb)
  have HO197 := Lib.hid (HO185.out.on hb)
  have HC198 := Lib.hid (BelowKit.bl_trans HC186.out hb)
  clear c176 c177 c178 c179 z180 HO181 HO182 HO183 HO184 HO185 HC186 hb
  go_wp2
  go_ret
  exact ⟨rfl, by (repeat (first | exact Below.refl _ _ | apply BelowKit.bl_alloc | apply BelowKit.bl_drewN | apply BelowKit.bl_drew | (refine BelowKit.bl_set ?_ _ ?_; rotate_left; (first | omega | (simp; omega) | simp)) | (refine BelowKit.bl_trans ?_ (‹Hid (Below _ _ _)›).out)))⟩

/-! ### THE ROW's STEP -/
set_option maxRecDepth 100000 in
theorem lifted (os : Os) (started : os.Started) (H : Type) (enc : TypeId × Value → H) :
    ReturnsInHanded {} Try.checked os 7 .any (Rows.fnExactAddSpellSpec.pre6 enc Try.prog Try.f7 Rows.fnExactAddSpellRow.domain false) (Rows.fnExactAddSpellSpec.post enc Try.prog Try.f7 false true false false) := by
  refine returnsInHanded_of_change (C := Try.checked) own started (by kernel_rfl) Try.func7
    (ChangeSpec.witness6 (enc := enc) (C := Try.checked) false ⟨#[], #[.slice none 0 0, .agg #[.int .i64 0, .int .i64 0, .int .i64 0, .bool false]], []⟩ 8 (by kernel_rfl) (by kernel_rfl) (by kernel_rfl) (by kernel_rfl)) ?_
  intro W base args ds gs before hval0 hW hcnd _
  have hval : ∀ (j : Nat) t v, Try.f7.params[j]? = some t → args[j]? = some v → Value.okWide Try.prog W .any base t v := hval0
  have hW' := hW
  obtain ⟨p, q, hA0, hV, rfl, hfz, hnd⟩ := hW
  have hA : DataW.TrodAll enc Try.prog W 0 (fun _ => true) true Try.f7.params.toList args.toList ds p := hA0
  rw [Try.params7] at hA hval
  obtain ⟨v0, vs0, d0, ds0, p0, q0, hargs, rfl, rfl, h0, r0⟩ := trodAll_cons hA
  obtain ⟨v1, vs1, d1, ds1, p1, q1, rfl, rfl, rfl, h1, r1⟩ := trodAll_cons r0
  obtain ⟨rfl, rfl, rfl⟩ := trodAll_nil r1
  obtain rfl : args = #[v0, v1] := by cases args; simp_all
  obtain ⟨rfl, rfl⟩ := trodVars_none hV
  have k0 := h0
  have lt0 : ∀ x ∈ p0, x.block < W.heap.size := by obtain ⟨m, hm⟩ := k0; exact DataW.trod_lt m _ _ _ hm
  obtain ⟨a0, len0, cap0, rfl⟩ := okWide_slice Try.underlying39 (hval 0 39 v0 rfl rfl)
  have s0 : Shape.FitL W [.sl [.int .i64, .int .i64, .int .i64, .bool]] [.slice a0 len0 cap0] := by
    obtain ⟨fu, hfu⟩ := h0
    exact Shape.trod_fit 8 39 _ (by kernel_rfl) _ _ _ hfu
  obtain ⟨_, _, _, _, e0, s0, _⟩ := Shape.fit_sl s0
  cases e0
  obtain ⟨z0, hz0, w0, hl0, g0⟩ := Shape.reads_of (f := TSpell.fc) (c := 4) (good := TSpell.Wf) rfl (fun _ h => TSpell.cov h) s0
  have k1 := h1
  have lt1 : ∀ x ∈ p1, x.block < W.heap.size := by obtain ⟨m, hm⟩ := k1; exact DataW.trod_lt m _ _ _ hm
  obtain ⟨⟨l1⟩, rfl, _⟩ := okWide_struct Try.underlying44 (hval 1 44 v1 rfl rfl)
  have s1 : Shape.FitL W [.int .i64, .int .i64, .int .i64, .bool] l1 := by
    obtain ⟨fu, hfu⟩ := h1
    exact Shape.trod_fit 8 44 _ (by kernel_rfl) _ _ _ hfu
  obtain ⟨a1_From, r1, rfl, w1_From, s1⟩ := Shape.fit_int s1
  obtain ⟨a1_To, r1, rfl, w1_To, s1⟩ := Shape.fit_int s1
  obtain ⟨a1_Percent, r1, rfl, w1_Percent, s1⟩ := Shape.fit_int s1
  obtain ⟨a1_Leave, r1, q1, y1⟩ := Shape.fit_bool s1
  subst q1
  clear s1
  have s1 := y1
  clear y1
  obtain rfl := Shape.fit_nil s1
  clear hA0 hval0
  refine (walk a0 len0 cap0 z0 a1_From a1_To a1_Percent a1_Leave W hz0 w0 hl0 g0 w1_From w1_To w1_Percent).mono fun e W' ⟨he, bel⟩ => ?_
  subst he
  exact ⟨_, rfl, _, _, _, [], _, [], hW', trodAll_mk1 (shut_bool Try.underlying4 _), (trodAll_cons_mk (Below.trod laidOut (by kernel_rfl) (of_decide_eq_true (by kernel_rfl)) k0 bel lt0) (trodAll_cons_mk (Below.trod laidOut (by kernel_rfl) (of_decide_eq_true (by kernel_rfl)) k1 bel lt1) trodAll_mk0)), rfl, bel.frame _, fun h => by cases h⟩

theorem over : Rows.fnExactAddSpellRow.holds Try.pinned (OpenSpec.ofChange Rows.fnExactAddSpellSpec) :=
  OpenClaim.holds_of_wide 7 Try.f7 rfl rfl rfl rfl rfl rfl rfl ⟨rfl, rfl, rfl, rfl, rfl⟩ rfl rfl rfl rfl rfl (by kernel_rfl) Try.func7 (by kernel_rfl)
    (of_decide_eq_true (by kernel_rfl)) (by unfold Func.isWrapper; first | (rw [if_pos (by decide +kernel)]; kernel_rfl) | (rw [if_neg (by decide +kernel)]; exact ⟨rfl, rfl⟩))
    (fun os started H enc _ => lifted os started H enc)

theorem proved : Rows.FnExactAddSpellSaid := over
#print axioms proved
end Go.Proofs.Ytkoeodmneedjcaa.fnExactAddSpell
