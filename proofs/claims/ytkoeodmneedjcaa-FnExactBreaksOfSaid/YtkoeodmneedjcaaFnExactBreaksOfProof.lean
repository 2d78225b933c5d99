/- Proves the given statement of the law FnExactBreaksOf: for every input that the row lets in, the law's Go function returns true and every argument reads as before; no condition of mine. -/
import Derived.Test.YtkoeodmneedjcaaSpellS
import Derived.Test.YtkoeodmneedjcaaSpellI
import Derived.Test.YtkoeodmneedjcaaTSpell
import Derived.Test.YtkoeodmneedjcaaTSegment
import Derived.Test.YtkoeodmneedjcaaSpellMath
import Derived.Test.YtkoeodmneedjcaaKit
import Derived.Test.YtkoeodmneedjcaaRows
import Derived.WalkKit
import Derived.ProofKit
import Derived.OpenShut
import Derived.ShutString
import Derived.ChangeOld
import Derived.Below
import Derived.Deep.RegionHeld3
import Derived.Deep.DeepCutAuto
import Derived.Lib.Hide
import Derived.Lib.SmallJoins
namespace Go.Proofs.Ytkoeodmneedjcaa.fnExactBreaksOf
open Go.ChangeShapes Go.WideShapes Go.ChangeAt Go.RowKit
open Go.ChangeMaps (open_string shut_string)
set_option linter.unusedVariables false

theorem own : ownKnob Try.prog.godebug = none := by kernel_rfl
theorem laidOut : laidOutB Try.prog = true := by kernel_rfl

/-! ### STEP 1: the walk -/
set_option maxHeartbeats 8000000 in
theorem walk (a0 : Option Addr) (len0 cap0 : Nat) (z0 : List TSpell.El) (w : World) (hz0 : z0.length = len0) (w0 : RowN.Reads TSpell.fc 4 w a0 z0) (hl0 : len0 ≤ 9223372036854775807) (g0 : ∀ x ∈ z0, TSpell.Wf x) :
    Calls Try.prog 10 #[.slice a0 len0 cap0] w fun e w' => e = .returned (.bool true) ∧ Below w.heap.size w w' := by
  have HR0 := Lib.hid w0
  have HM0 := Lib.hid hz0
  clear w0 hz0
  by_cases hbig : 1048576 < len0
  · go_enter Try.func10, Try.ntmps10
    go_wp2_with fail
    refine (TSpell.sz_c w a0 len0 cap0 1048576 hl0 (by omega) (by omega)).mono ?_
    rintro e w9 ⟨rfl, hb⟩
    rw [if_pos (by omega)]
    have HC9 := Lib.hid hb
    clear hb
    go_wp2
    go_ret
    exact ⟨rfl, HC9.out⟩
  have hs0 : len0 ≤ 1048576 := by omega
  obtain ⟨m0, hm0⟩ : ∃ v, SpellMath.breaks z0 = v := ⟨_, rfl⟩
  have hbm0 : m0.length ≤ 1099511627776 := by rw [← hm0]; exact Nat.le_trans (SpellMath.breaks_len _) (by have := HM0.out; omega)
  obtain ⟨nm0, hnm0⟩ : ∃ n, m0.length = n := ⟨_, rfl⟩
  rw [hnm0] at hbm0
  have HF0 := Lib.hid hm0
  have HN0 := Lib.hid hnm0
  clear hm0 hnm0
  go_enter Try.func10, Try.ntmps10
  go_wp2_with fail
  refine (TSpell.sz_c w a0 len0 cap0 1048576 hl0 (by omega) (by omega)).mono ?_
  rintro e w1 ⟨rfl, hb⟩
  rw [if_neg (by omega)]
  have sw1 : w.heap.size ≤ w1.heap.size := hb.size
  have HC2 := Lib.hid hb
  clear hb
  go_wp2_with fail
  refine (TSpell.to_c w1 a0 len0 cap0 z0 HM0.out (by omega) (HR0.out.on HC2.out)).mono ?_
  rintro e w6 ⟨p3, c4, rfl, ho0, hb⟩
  rw [HM0.out] at ho0 ⊢
  have sw6 : w1.heap.size ≤ w6.heap.size := hb.size
  have HC7 := Lib.hid (BelowKit.bl_trans HC2.out hb)
  clear HC2 hb
  have HO8 := Lib.hid (Own.ow_of ho0)
  clear ho0
  go_wp2_with fail
  refine (SpellS.brk_s w6 p3 len0 c4 z0 HM0.out (by omega) (HO8.out.reads TSpell.fw)).mono ?_
  rintro e w12 ⟨p9, c10, rfl, ho0, hb⟩
  try rw [HF0.out] at ho0
  try rw [HF0.out]
  try rw [HN0.out] at ho0
  try rw [HN0.out]
  have sw12 : w6.heap.size ≤ w12.heap.size := hb.size
  have HO13 := Lib.hid (HO8.out.on hb)
  have HC14 := Lib.hid (BelowKit.bl_trans HC7.out hb)
  clear HO8 HC7 hb
  have HO15 := Lib.hid (Own.ow_of ho0)
  clear ho0
  go_wp2_with fail
  refine (TSpell.to_c w12 a0 len0 cap0 z0 HM0.out (by omega) (HR0.out.on HC14.out)).mono ?_
  rintro e w19 ⟨p16, c17, rfl, ho0, hb⟩
  rw [HM0.out] at ho0 ⊢
  have sw19 : w12.heap.size ≤ w19.heap.size := hb.size
  have HO20 := Lib.hid (HO13.out.on hb)
  have HO21 := Lib.hid (HO15.out.on hb)
  have HC22 := Lib.hid (BelowKit.bl_trans HC14.out hb)
  clear HO13 HO15 HC14 hb
  have HO23 := Lib.hid (Own.ow_of ho0)
  clear ho0
  go_wp2_with fail
  refine (SpellI.brk_i w19 p16 len0 c17 z0 HM0.out (by omega) (HO23.out.reads TSpell.fw)).mono ?_
  rintro e w27 ⟨p24, c25, rfl, ho0, hb⟩
  try rw [HF0.out] at ho0
  try rw [HF0.out]
  try rw [HN0.out] at ho0
  try rw [HN0.out]
  have sw27 : w19.heap.size ≤ w27.heap.size := hb.size
  have HO28 := Lib.hid (HO20.out.on hb)
  have HO29 := Lib.hid (HO21.out.on hb)
  have HO30 := Lib.hid (HO23.out.on hb)
  have HC31 := Lib.hid (BelowKit.bl_trans HC22.out hb)
  clear HO20 HO21 HO23 HC22 hb
  have HO32 := Lib.hid (Own.ow_of ho0)
  clear ho0
  go_wp2_with fail
  refine (TSegment.eq_c w27 nm0 c25 c10 p24 p9 m0 HN0.out (by omega) (HO32.out.reads TSegment.fw) (HO29.out.reads TSegment.fw)).mono ?_
  rintro e w33 ⟨rfl, hb⟩
  have sw33 : w27.heap.size ≤ w33.heap.size := hb.size
  have HO34 := Lib.hid (HO28.out.on hb)
  have HO35 := Lib.hid (HO29.out.on hb)
  have HO36 := Lib.hid (HO30.out.on hb)
  have HO37 := Lib.hid (HO32.out.on hb)
  have HC38 := Lib.hid (BelowKit.bl_trans HC31.out hb)
  clear HO28 HO29 HO30 HO32 HC31 hb
  go_wp2_with fail
  refine (TSpell.to_c w33 a0 len0 cap0 z0 HM0.out (by omega) (HR0.out.on HC38.out)).mono ?_
  rintro e w42 ⟨p39, c40, rfl, ho0, hb⟩
  rw [HM0.out] at ho0 ⊢
  have sw42 : w33.heap.size ≤ w42.heap.size := hb.size
  have HO43 := Lib.hid (HO34.out.on hb)
  have HO44 := Lib.hid (HO35.out.on hb)
  have HO45 := Lib.hid (HO36.out.on hb)
  have HO46 := Lib.hid (HO37.out.on hb)
  have HC47 := Lib.hid (BelowKit.bl_trans HC38.out hb)
  clear HO34 HO35 HO36 HO37 HC38 hb
  have HO48 := Lib.hid (Own.ow_of ho0)
  clear ho0
  go_wp2_with fail
  refine (TSpell.eq_c w42 len0 c17 c40 p16 p39 z0 HM0.out (by omega) (HO45.out.reads TSpell.fw) (HO48.out.reads TSpell.fw)).mono ?_
  rintro e w49 ⟨rfl, hb⟩
  have sw49 : w42.heap.size ≤ w49.heap.size := hb.size
  have HO50 := Lib.hid (HO43.out.on hb)
  have HO51 := Lib.hid (HO44.out.on hb)
  have HO52 := Lib.hid (HO45.out.on hb)
  have HO53 := Lib.hid (HO46.out.on hb)
  have HO54 := Lib.hid (HO48.out.on hb)
  have HC55 := Lib.hid (BelowKit.bl_trans HC47.out hb)
  clear HO43 HO44 HO45 HO46 HO48 HC47 hb
  go_wp2_with fail
  refine (TSpell.mark_c w49 w12.heap.size w19.heap.size p16 len0 c17 z0 1 HM0.out (by omega) (by omega) (by omega) HO52.out (by omega)).mono ?_
  rintro e w56 ⟨rfl, ho, hm⟩
  have sw56 : w49.heap.size ≤ w56.heap.size := hm.low.size
  have HO57 := Lib.hid (HO50.out.mid hm (by omega))
  have HO58 := Lib.hid (HO51.out.mid hm (by omega))
  have HO60 := Lib.hid (HO53.out.mid hm (by omega))
  have HO61 := Lib.hid (HO54.out.mid hm (by omega))
  have HC62 := Lib.hid (HC55.out.trans (hm.low.mono (by omega)))
  clear HO50 HO51 HO53 HO54 HC55 hm
  have HO63 := Lib.hid ho
  clear ho HO52
  have HM64 : Hid ((TSpell.marks 1 len0).length = len0) := Lib.hid (TSpell.marks_len _ _)
  go_wp2_with fail
  refine (TSegment.eq_c w56 nm0 c25 c10 p24 p9 m0 HN0.out (by omega) (HO60.out.reads TSegment.fw) (HO58.out.reads TSegment.fw)).mono ?_
  rintro e w65 ⟨rfl, hb⟩
  have sw65 : w56.heap.size ≤ w65.heap.size := hb.size
  have HO66 := Lib.hid (HO57.out.on hb)
  have HO67 := Lib.hid (HO58.out.on hb)
  have HO68 := Lib.hid (HO63.out.on hb)
  have HO69 := Lib.hid (HO60.out.on hb)
  have HO70 := Lib.hid (HO61.out.on hb)
  have HC71 := Lib.hid (BelowKit.bl_trans HC62.out hb)
  clear HO57 HO58 HO63 HO60 HO61 HC62 hb
  go_wp2_with fail
  refine (TSegment.mark_c w65 w19.heap.size w27.heap.size p24 nm0 c25 m0 1 HN0.out (by omega) (by omega) (by omega) HO69.out (by omega)).mono ?_
  rintro e w72 ⟨rfl, ho, hm⟩
  have sw72 : w65.heap.size ≤ w72.heap.size := hm.low.size
  have HO73 := Lib.hid (HO66.out.mid hm (by omega))
  have HO74 := Lib.hid (HO67.out.mid hm (by omega))
  have HO75 := Lib.hid (HO68.out.mid hm (by omega))
  have HO77 := Lib.hid (HO70.out.mid hm (by omega))
  have HC78 := Lib.hid (HC71.out.trans (hm.low.mono (by omega)))
  clear HO66 HO67 HO68 HO70 HC71 hm
  have HO79 := Lib.hid ho
  clear ho HO69
  have HM80 : Hid ((TSegment.marks 1 nm0).length = nm0) := Lib.hid (TSegment.marks_len _ _)
  go_wp2_with fail
  refine (TSegment.held_c w72 p24 nm0 c25 1 (by omega) (by omega) (by omega) (HO79.out.reads TSegment.fw)).mono ?_
  rintro e w81 ⟨rfl, hb⟩
  have sw81 : w72.heap.size ≤ w81.heap.size := hb.size
  have HO82 := Lib.hid (HO73.out.on hb)
  have HO83 := Lib.hid (HO74.out.on hb)
  have HO84 := Lib.hid (HO75.out.on hb)
  have HO85 := Lib.hid (HO79.out.on hb)
  have HO86 := Lib.hid (HO77.out.on hb)
  have HC87 := Lib.hid (BelowKit.bl_trans HC78.out hb)
  clear HO73 HO74 HO75 HO79 HO77 HC78 hb
  go_wp2_with fail
  refine (TSpell.to_c w81 a0 len0 cap0 z0 HM0.out (by omega) (HR0.out.on HC87.out)).mono ?_
  rintro e w91 ⟨p88, c89, rfl, ho0, hb⟩
  rw [HM0.out] at ho0 ⊢
  have sw91 : w81.heap.size ≤ w91.heap.size := hb.size
  have HO92 := Lib.hid (HO82.out.on hb)
  have HO93 := Lib.hid (HO83.out.on hb)
  have HO94 := Lib.hid (HO84.out.on hb)
  have HO95 := Lib.hid (HO85.out.on hb)
  have HO96 := Lib.hid (HO86.out.on hb)
  have HC97 := Lib.hid (BelowKit.bl_trans HC87.out hb)
  clear HO82 HO83 HO84 HO85 HO86 HC87 hb
  have HO98 := Lib.hid (Own.ow_of ho0)
  clear ho0
  go_wp2_with fail
  refine (SpellI.brk_i w91 p88 len0 c89 z0 HM0.out (by omega) (HO98.out.reads TSpell.fw)).mono ?_
  rintro e w102 ⟨p99, c100, rfl, ho0, hb⟩
  try rw [HF0.out] at ho0
  try rw [HF0.out]
  try rw [HN0.out] at ho0
  try rw [HN0.out]
  have sw102 : w91.heap.size ≤ w102.heap.size := hb.size
  have HO103 := Lib.hid (HO92.out.on hb)
  have HO104 := Lib.hid (HO93.out.on hb)
  have HO105 := Lib.hid (HO94.out.on hb)
  have HO106 := Lib.hid (HO95.out.on hb)
  have HO107 := Lib.hid (HO96.out.on hb)
  have HO108 := Lib.hid (HO98.out.on hb)
  have HC109 := Lib.hid (BelowKit.bl_trans HC97.out hb)
  clear HO92 HO93 HO94 HO95 HO96 HO98 HC97 hb
  have HO110 := Lib.hid (Own.ow_of ho0)
  clear ho0
  go_wp2_with fail
  refine (TSegment.eq_c w102 nm0 c100 c10 p99 p9 m0 HN0.out (by omega) (HO110.out.reads TSegment.fw) (HO104.out.reads TSegment.fw)).mono ?_
  rintro e w111 ⟨rfl, hb⟩
  have sw111 : w102.heap.size ≤ w111.heap.size := hb.size
  have HO112 := Lib.hid (HO103.out.on hb)
  have HO113 := Lib.hid (HO104.out.on hb)
  have HO114 := Lib.hid (HO105.out.on hb)
  have HO115 := Lib.hid (HO106.out.on hb)
  have HO116 := Lib.hid (HO107.out.on hb)
  have HO117 := Lib.hid (HO108.out.on hb)
  have HO118 := Lib.hid (HO110.out.on hb)
  have HC119 := Lib.hid (BelowKit.bl_trans HC109.out hb)
  clear HO103 HO104 HO105 HO106 HO107 HO108 HO110 HC109 hb
  go_wp2_with fail
  refine (TSegment.held_c w111 p24 nm0 c25 1 (by omega) (by omega) (by omega) (HO115.out.reads TSegment.fw)).mono ?_
  rintro e w120 ⟨rfl, hb⟩
  have sw120 : w111.heap.size ≤ w120.heap.size := hb.size
  have HO121 := Lib.hid (HO112.out.on hb)
  have HO122 := Lib.hid (HO113.out.on hb)
  have HO123 := Lib.hid (HO114.out.on hb)
  have HO124 := Lib.hid (HO115.out.on hb)
  have HO125 := Lib.hid (HO116.out.on hb)
  have HO126 := Lib.hid (HO117.out.on hb)
  have HO127 := Lib.hid (HO118.out.on hb)
  have HC128 := Lib.hid (BelowKit.bl_trans HC119.out hb)
  clear HO112 HO113 HO114 HO115 HO116 HO117 HO118 HC119 hb
  go_wp2
  go_ret
  exact ⟨rfl, by (repeat (first | exact Below.refl _ _ | apply BelowKit.bl_alloc | apply BelowKit.bl_drewN | apply BelowKit.bl_drew | (refine BelowKit.bl_set ?_ _ ?_; rotate_left; (first | omega | (simp; omega) | simp)) | (refine BelowKit.bl_trans ?_ (‹Hid (Below _ _ _)›).out)))⟩

/-! ### THE ROW's STEP -/
set_option maxRecDepth 100000 in
theorem lifted (os : Os) (started : os.Started) (H : Type) (enc : TypeId × Value → H) :
    ReturnsInHanded {} Try.checked os 10 .any (Rows.fnExactBreaksOfSpec.pre6 enc Try.prog Try.f10 Rows.fnExactBreaksOfRow.domain false) (Rows.fnExactBreaksOfSpec.post enc Try.prog Try.f10 false true false false) := by
  refine returnsInHanded_of_change (C := Try.checked) own started (by kernel_rfl) Try.func10
    (ChangeSpec.witness6 (enc := enc) (C := Try.checked) false ⟨#[], #[.slice none 0 0], []⟩ 8 (by kernel_rfl) (by kernel_rfl) (by kernel_rfl) (by kernel_rfl)) ?_
  intro W base args ds gs before hval0 hW hcnd _
  have hval : ∀ (j : Nat) t v, Try.f10.params[j]? = some t → args[j]? = some v → Value.okWide Try.prog W .any base t v := hval0
  have hW' := hW
  obtain ⟨p, q, hA0, hV, rfl, hfz, hnd⟩ := hW
  have hA : DataW.TrodAll enc Try.prog W 0 (fun _ => true) true Try.f10.params.toList args.toList ds p := hA0
  rw [Try.params10] at hA hval
  obtain ⟨v0, vs0, d0, ds0, p0, q0, hargs, rfl, rfl, h0, r0⟩ := trodAll_cons hA
  obtain ⟨rfl, rfl, rfl⟩ := trodAll_nil r0
  obtain rfl : args = #[v0] := by cases args; simp_all
  obtain ⟨rfl, rfl⟩ := trodVars_none hV
  have k0 := h0
  have lt0 : ∀ x ∈ p0, x.block < W.heap.size := by obtain ⟨m, hm⟩ := k0; exact DataW.trod_lt m _ _ _ hm
  obtain ⟨a0, len0, cap0, rfl⟩ := okWide_slice Try.underlying39 (hval 0 39 v0 rfl rfl)
  have s0 : Shape.FitL W [.sl [.int .i64, .int .i64, .int .i64, .bool]] [.slice a0 len0 cap0] := by
    obtain ⟨fu, hfu⟩ := h0
    exact Shape.trod_fit 8 39 _ (by kernel_rfl) _ _ _ hfu
  obtain ⟨_, _, _, _, e0, s0, _⟩ := Shape.fit_sl s0
  cases e0
  obtain ⟨z0, hz0, w0, hl0, g0⟩ := Shape.reads_of (f := TSpell.fc) (c := 4) (good := TSpell.Wf) rfl (fun _ h => TSpell.cov h) s0
  clear hA0 hval0
  refine (walk a0 len0 cap0 z0 W hz0 w0 hl0 g0).mono fun e W' ⟨he, bel⟩ => ?_
  subst he
  exact ⟨_, rfl, _, _, _, [], _, [], hW', trodAll_mk1 (shut_bool Try.underlying4 _), (trodAll_cons_mk (Below.trod laidOut (by kernel_rfl) (of_decide_eq_true (by kernel_rfl)) k0 bel lt0) trodAll_mk0), rfl, bel.frame _, fun h => by cases h⟩

theorem over : Rows.fnExactBreaksOfRow.holds Try.pinned (OpenSpec.ofChange Rows.fnExactBreaksOfSpec) :=
  OpenClaim.holds_of_wide 10 Try.f10 rfl rfl rfl rfl rfl rfl rfl ⟨rfl, rfl, rfl, rfl, rfl⟩ rfl rfl rfl rfl rfl (by kernel_rfl) Try.func10 (by kernel_rfl)
    (of_decide_eq_true (by kernel_rfl)) (by unfold Func.isWrapper; first | (rw [if_pos (by decide +kernel)]; kernel_rfl) | (rw [if_neg (by decide +kernel)]; exact ⟨rfl, rfl⟩))
    (fun os started H enc _ => lifted os started H enc)

theorem proved : Rows.FnExactBreaksOfSaid := over
#print axioms proved
end Go.Proofs.Ytkoeodmneedjcaa.fnExactBreaksOf
