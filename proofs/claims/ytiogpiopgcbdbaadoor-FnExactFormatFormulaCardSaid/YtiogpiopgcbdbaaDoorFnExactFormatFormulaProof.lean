/- Proves the given statement of the law FnExactFormatFormula: for every input that the row lets in, the law's Go function returns true and every argument reads as before; no condition of mine; the card ties the listed tables of the library to the program's text. -/
import Derived.Test.YtiogpiopgcbdbaaDoorTextS
import Derived.Test.YtiogpiopgcbdbaaDoorTextI
import Derived.Test.YtiogpiopgcbdbaaDoorFracLaws
import Derived.Test.YtiogpiopgcbdbaaDoorKit
import Derived.Test.YtiogpiopgcbdbaaDoorTNode
import Derived.Test.YtiogpiopgcbdbaaDoorNodeMath
import Derived.Test.YtiogpiopgcbdbaaDoorCards
import Derived.Test.YtiogpiopgcbdbaaDoorTie
import Derived.WalkKit
import Derived.ProofKit
import Derived.OpenShut
import Derived.ChangeOld
import Derived.Below
import Derived.Deep.DeepHandedRow
import Derived.Deep.DeepCutAuto
import Derived.Lib.LaidTab
import Derived.Lib.ItoaNum
import Derived.Stop.LaidErr
import Derived.ShutString
import Derived.Deep.RegionHeld3
import Derived.Lib.Hide
import Derived.Lib.SmallJoins
namespace Go.Proofs.YtiogpiopgcbdbaaDoor.fnExactFormatFormula
open Go.ChangeShapes Go.WideShapes Go.ChangeAt Go.RowKit
open Go.ChangeMaps (open_string shut_string)
set_option linter.unusedVariables false

theorem own : ownKnob Tryd.prog.godebug = none := by kernel_rfl
theorem laidOut : laidOutB Tryd.prog = true := by kernel_rfl

theorem gTab : Tryd.prog.globalNamed "internal/strconv.uint64pow10" = some 3 := by kernel_rfl
theorem gTabType : (Tryd.prog.globals[3]?).map (fun x => x.type) = some 161 := by kernel_rfl
theorem cellsTab : Tryd.prog.cellsOf 161 = 20 := by kernel_rfl
theorem cellsElem : Tryd.prog.cellsOf 134 = 1 := by kernel_rfl
/-- What the row's list gives: the table of powers of ten. -/
theorem table {W : World} (h : laidMetH Tryd.prog Rows.fnExactFormatFormulaRow.laid W) : Lib.TabIs Tryd.prog W "internal/strconv.uint64pow10" .u64 Lib.pow10Tab := by
  have h2 : laidMet Tryd.prog Rows.fnExactFormatFormulaRow.laid W := h
  have e : Lib.pow10Tab = [1, 10, 100, 1000, 10000, 100000, 1000000, 10000000, 100000000, 1000000000, 10000000000, 100000000000, 1000000000000, 10000000000000, 100000000000000, 1000000000000000, 10000000000000000, 100000000000000000, 1000000000000000000, 10000000000000000000] := by decide
  rw [e]
  exact Lib.tabIs_of_head (rest := []) gTab gTabType Tryd.underlying161 Tryd.underlying134 cellsElem cellsTab (h2.tail.tail)

/-! ### STEP 1: the walk -/
set_option maxHeartbeats 4000000 in
theorem walk (a0 : Option Addr) (len0 cap0 : Nat) (z0 : List TNode.El) (w : World) (htab : Lib.TabIs Tryd.prog w "internal/strconv.uint64pow10" .u64 Lib.pow10Tab) (hz0 : z0.length = len0) (w0 : RowN.Reads TNode.fc 6 w a0 z0) (hl0 : len0 ≤ 9223372036854775807) (g0 : ∀ x ∈ z0, TNode.Wf x) :
    Calls Tryd.prog 4 #[.slice a0 len0 cap0] w fun e w' => e = .returned (.bool true) ∧ Below w.heap.size w w' := by
  have HR0 := Lib.hid w0
  have HM0 := Lib.hid hz0
  have HT := Lib.hid htab
  clear w0 hz0 htab g0
  by_cases hbig : 1048576 < len0
  · go_enter Tryd.func4, Tryd.ntmps4
    go_wp2_with fail
    refine (TNode.sz_c w a0 len0 cap0 1048576 hl0 (by omega) (by omega)).mono ?_
    rintro e w9 ⟨rfl, hb⟩
    rw [if_pos (by omega)]
    have HC9 := Lib.hid hb
    clear hb
    go_wp2
    go_ret
    exact ⟨rfl, HC9.out⟩
  have hs0 : len0 ≤ 1048576 := by omega
  obtain ⟨m0, hm0⟩ : ∃ v, SizeM.textF z0 = v := ⟨_, rfl⟩
  have HF0 := Lib.hid hm0
  clear hm0
  go_enter Tryd.func4, Tryd.ntmps4
  go_wp2_with fail
  refine (TNode.sz_c w a0 len0 cap0 1048576 hl0 (by omega) (by omega)).mono ?_
  rintro e w1 ⟨rfl, hb⟩
  rw [if_neg (by omega)]
  have sw1 : w.heap.size ≤ w1.heap.size := hb.size
  have HC2 := Lib.hid hb
  clear hb
  go_wp2_with fail
  refine (TNode.to_c w1 a0 len0 cap0 z0 HM0.out (by omega) (HR0.out.on HC2.out)).mono ?_
  rintro e w6 ⟨p3, c4, rfl, ho0, hb⟩
  rw [HM0.out] at ho0 ⊢
  have sw6 : w1.heap.size ≤ w6.heap.size := hb.size
  have HC7 := Lib.hid (BelowKit.bl_trans HC2.out hb)
  clear HC2 hb
  have HO8 := Lib.hid (Own.ow_of ho0)
  clear ho0
  go_wp2_with fail
  refine (TextS.formula_s w6 p3 len0 c4 z0 HM0.out (by omega) (HO8.out.reads TNode.fw)).mono ?_
  rintro e w9 ⟨rfl, hb⟩
  rw [HF0.out]
  have sw9 : w6.heap.size ≤ w9.heap.size := hb.size
  have HO10 := Lib.hid (HO8.out.on hb)
  have HC11 := Lib.hid (BelowKit.bl_trans HC7.out hb)
  clear HO8 HC7 hb
  go_wp2_with fail
  refine (TNode.to_c w9 a0 len0 cap0 z0 HM0.out (by omega) (HR0.out.on HC11.out)).mono ?_
  rintro e w15 ⟨p12, c13, rfl, ho0, hb⟩
  rw [HM0.out] at ho0 ⊢
  have sw15 : w9.heap.size ≤ w15.heap.size := hb.size
  have HO16 := Lib.hid (HO10.out.on hb)
  have HC17 := Lib.hid (BelowKit.bl_trans HC11.out hb)
  clear HO10 HC11 hb
  have HO18 := Lib.hid (Own.ow_of ho0)
  clear ho0
  go_wp2_with fail
  refine (TextI.formula_i w15 p12 len0 c13 z0 HM0.out (by omega) (HO18.out.reads TNode.fw) (ItoaC.tab_below HT.out HC17.out)).mono ?_
  rintro e w19 ⟨rfl, hb⟩
  rw [HF0.out]
  have sw19 : w15.heap.size ≤ w19.heap.size := hb.size
  have HO20 := Lib.hid (HO16.out.on hb)
  have HO21 := Lib.hid (HO18.out.on hb)
  have HC22 := Lib.hid (BelowKit.bl_trans HC17.out hb)
  clear HO16 HO18 HC17 hb
  go_wp2_with fail
  refine (TNode.to_c w19 a0 len0 cap0 z0 HM0.out (by omega) (HR0.out.on HC22.out)).mono ?_
  rintro e w26 ⟨p23, c24, rfl, ho0, hb⟩
  rw [HM0.out] at ho0 ⊢
  have sw26 : w19.heap.size ≤ w26.heap.size := hb.size
  have HO27 := Lib.hid (HO20.out.on hb)
  have HO28 := Lib.hid (HO21.out.on hb)
  have HC29 := Lib.hid (BelowKit.bl_trans HC22.out hb)
  clear HO20 HO21 HC22 hb
  have HO30 := Lib.hid (Own.ow_of ho0)
  clear ho0
  go_wp2_with fail
  refine (TNode.eq_c w26 len0 c13 c24 p12 p23 z0 HM0.out (by omega) (HO28.out.reads TNode.fw) (HO30.out.reads TNode.fw)).mono ?_
  rintro e w31 ⟨rfl, hb⟩
  have sw31 : w26.heap.size ≤ w31.heap.size := hb.size
  have HO32 := Lib.hid (HO27.out.on hb)
  have HO33 := Lib.hid (HO28.out.on hb)
  have HO34 := Lib.hid (HO30.out.on hb)
  have HC35 := Lib.hid (BelowKit.bl_trans HC29.out hb)
  clear HO27 HO28 HO30 HC29 hb
  go_wp2
  go_ret
  exact ⟨rfl, by (repeat (first | exact Below.refl _ _ | apply BelowKit.bl_alloc | apply BelowKit.bl_drewN | apply BelowKit.bl_drew | (refine BelowKit.bl_set ?_ _ ?_; rotate_left; (first | omega | (simp; omega) | simp)) | (refine BelowKit.bl_trans ?_ (‹Hid (Below _ _ _)›).out)))⟩

set_option maxRecDepth 100000 in
/-- What the walk gives, for every argument and every world that holds the listed tables. -/
theorem contract (H : Type) (enc : TypeId × Value → H) (W : World) (base : Nat) (args : Array Value) (ds gs : List (DataW H)) (before : List MemPlace)
    (hval0 : ∀ (j : Nat) t v, Tryd.f4.params[j]? = some t → args[j]? = some v → Value.okWide Tryd.prog W .any base t v)
    (hW : DataW.Whole enc Tryd.prog Tryd.f4.params.toList Rows.fnExactFormatFormulaSpec.vars false W args.toList ds gs before) (hL : laidMetH Tryd.prog Rows.fnExactFormatFormulaRow.laid W) :
    Calls Tryd.prog 4 args W fun e W' => ∃ v, e = .returned v ∧ Rows.fnExactFormatFormulaSpec.post enc Tryd.prog Tryd.f4 false true false false W args v W' := by
  have hval : ∀ (j : Nat) t v, Tryd.f4.params[j]? = some t → args[j]? = some v → Value.okWide Tryd.prog W .any base t v := hval0
  have hW' := hW
  obtain ⟨p, q, hA0, hV, rfl, hfz, hnd⟩ := hW
  have hA : DataW.TrodAll enc Tryd.prog W 0 (fun _ => true) true Tryd.f4.params.toList args.toList ds p := hA0
  rw [Tryd.params4] at hA hval
  obtain ⟨v0, vs0, d0, ds0, p0, q0, hargs, rfl, rfl, h0, r0⟩ := trodAll_cons hA
  obtain ⟨rfl, rfl, rfl⟩ := trodAll_nil r0
  obtain rfl : args = #[v0] := by cases args; simp_all
  obtain ⟨rfl, rfl⟩ := trodVars_none hV
  have k0 := h0
  have lt0 : ∀ x ∈ p0, x.block < W.heap.size := by obtain ⟨m, hm⟩ := k0; exact DataW.trod_lt m _ _ _ hm
  obtain ⟨a0, len0, cap0, rfl⟩ := okWide_slice Tryd.underlying30 (hval 0 30 v0 rfl rfl)
  have s0 : Shape.FitL W [.sl [.int .i64, .int .i64, .int .i64, .int .i64, .int .i64, .int .i64]] [.slice a0 len0 cap0] := by
    obtain ⟨fu, hfu⟩ := h0
    exact Shape.trod_fit 8 30 _ (by kernel_rfl) _ _ _ hfu
  obtain ⟨_, _, _, _, e0, s0, _⟩ := Shape.fit_sl s0
  cases e0
  obtain ⟨z0, hz0, w0, hl0, g0⟩ := Shape.reads_of (f := TNode.fc) (c := 6) (good := TNode.Wf) rfl (fun _ h => TNode.cov h) s0
  clear hA0 hval0
  refine (walk a0 len0 cap0 z0 W (table hL) hz0 w0 hl0 g0).mono fun e W' ⟨he, bel⟩ => ?_
  subst he
  exact ⟨_, rfl, _, _, _, [], _, [], hW', trodAll_mk1 (shut_bool Tryd.underlying4 _), (trodAll_cons_mk (Below.trod laidOut (by kernel_rfl) (of_decide_eq_true (by kernel_rfl)) k0 bel lt0) trodAll_mk0), rfl, bel.frame _, fun h => by cases h⟩

/-- A world for the witness: the settled one, the listed variables holding what their initialisers lay. -/
noncomputable def laidWorld (os : Os) : World :=
  { World.holding Tryd.prog os ⟨#[], #[], []⟩ with heap := (World.holding Tryd.prog os ⟨#[], #[], []⟩).heap |>.modify 4 (fun | .cells _ t frozen => .cells #[.int .u8 0, .int .u8 1, .int .u8 28, .int .u8 2, .int .u8 29, .int .u8 14, .int .u8 24, .int .u8 3, .int .u8 30, .int .u8 22, .int .u8 20, .int .u8 15, .int .u8 25, .int .u8 17, .int .u8 4, .int .u8 8, .int .u8 31, .int .u8 27, .int .u8 13, .int .u8 23, .int .u8 21, .int .u8 19, .int .u8 16, .int .u8 7, .int .u8 26, .int .u8 12, .int .u8 18, .int .u8 6, .int .u8 11, .int .u8 5, .int .u8 10, .int .u8 9] t frozen | o => o)|>.modify 5 (fun | .cells _ t frozen => .cells #[.int .u8 0, .int .u8 1, .int .u8 56, .int .u8 2, .int .u8 57, .int .u8 49, .int .u8 28, .int .u8 3, .int .u8 61, .int .u8 58, .int .u8 42, .int .u8 50, .int .u8 38, .int .u8 29, .int .u8 17, .int .u8 4, .int .u8 62, .int .u8 47, .int .u8 59, .int .u8 36, .int .u8 45, .int .u8 43, .int .u8 51, .int .u8 22, .int .u8 53, .int .u8 39, .int .u8 33, .int .u8 30, .int .u8 24, .int .u8 18, .int .u8 12, .int .u8 5, .int .u8 63, .int .u8 55, .int .u8 48, .int .u8 27, .int .u8 60, .int .u8 41, .int .u8 37, .int .u8 16, .int .u8 46, .int .u8 35, .int .u8 44, .int .u8 21, .int .u8 52, .int .u8 32, .int .u8 23, .int .u8 11, .int .u8 54, .int .u8 26, .int .u8 40, .int .u8 15, .int .u8 34, .int .u8 20, .int .u8 31, .int .u8 10, .int .u8 25, .int .u8 14, .int .u8 19, .int .u8 9, .int .u8 13, .int .u8 8, .int .u8 7, .int .u8 6] t frozen | o => o)|>.modify 3 (fun | .cells _ t frozen => .cells #[.int .u64 1, .int .u64 10, .int .u64 100, .int .u64 1000, .int .u64 10000, .int .u64 100000, .int .u64 1000000, .int .u64 10000000, .int .u64 100000000, .int .u64 1000000000, .int .u64 10000000000, .int .u64 100000000000, .int .u64 1000000000000, .int .u64 10000000000000, .int .u64 100000000000000, .int .u64 1000000000000000, .int .u64 10000000000000000, .int .u64 100000000000000000, .int .u64 1000000000000000000, .int .u64 10000000000000000000] t frozen | o => o) }
theorem laid_met (os : Os) : laidMet Tryd.prog Rows.fnExactFormatFormulaRow.laid ((laidWorld os).forCall (fun _ _ => 0) ⟨#[], #[.slice none 0 0], []⟩).memory :=
  laidMet_of_run' 8 (by kernel_rfl) (by kernel_rfl)
theorem reads (os : Os) {H : Type} (enc : TypeId × Value → H) : ∃ places, DataW.whole enc Tryd.prog ((laidWorld os).forCall (fun _ _ => 0) ⟨#[], #[.slice none 0 0], []⟩).memory Tryd.f4.params.toList Rows.fnExactFormatFormulaSpec.vars false #[Value.slice none 0 0].toList 8 = some ([.nil], [], places) :=
  ⟨[], by kernel_rfl⟩

set_option maxRecDepth 100000 in
theorem lifted (os : Os) (started : os.Started) (H : Type) (enc : TypeId × Value → H) (F : Stop.Interp) :
    ReturnsInHanded {} Tryd.checked os 4 .any ((OpenSpec.ofChange Rows.fnExactFormatFormulaSpec).preRow enc Tryd.prog Tryd.f4 Rows.fnExactFormatFormulaRow.domain false Rows.fnExactFormatFormulaRow.laid) (((OpenSpec.ofChange Rows.fnExactFormatFormulaSpec).at F).post enc Tryd.prog Tryd.f4 false true false false) := by
  obtain ⟨places, hx⟩ := reads os enc
  refine returnsInHanded_of_row (C := Tryd.checked) (s := OpenSpec.ofChange Rows.fnExactFormatFormulaSpec) own started (by kernel_rfl) Tryd.func4
    (witness_row_at (enc := enc) (C := Tryd.checked) false (laidWorld os) #[.slice none 0 0] rfl (by kernel_rfl) (by kernel_rfl) (by kernel_rfl)
      (OpenSpec.preRow_of_cond 8 hx (by kernel_rfl) (fun k hk => by cases hk) (by kernel_rfl) (laid_met os))) ?_
  intro W base args ds gs before hval hW _ _ _ hL _ _
  exact contract H enc W base args ds gs before hval hW hL

theorem said : Rows.FnExactFormatFormulaSaid :=
  OpenClaim.holds_of_cond 4 Tryd.f4 rfl rfl rfl rfl rfl rfl rfl ⟨rfl, rfl, rfl, rfl, rfl⟩ rfl rfl rfl rfl rfl (by kernel_rfl) Tryd.func4 (by kernel_rfl)
    (of_decide_eq_true (by kernel_rfl)) (by unfold Func.isWrapper; first | (rw [if_pos (by decide +kernel)]; kernel_rfl) | (rw [if_neg (by decide +kernel)]; exact ⟨rfl, rfl⟩))
    (fun os started H enc _ F => by rw [OpenClaim.pre_eq_preRow]; exact lifted os started H enc F)

theorem plain (f : FuncId) (fn : Func) (hf : Tryd.pinned.checked.prog.funcNamed "loop.example/g00980/laws.FnExactFormatFormula" = some f) (hfn : Tryd.pinned.checked.prog.funcs[f]? = some fn) :
    true = Tryd.pinned.checked.prog.looks [] ∧ ∀ (j : Nat) t, fn.params[j]? = some t → Tryd.pinned.checked.prog.wantsStandIn t = false := by
  obtain rfl : f = 4 := Option.some.inj ((show Tryd.prog.funcNamed "loop.example/g00980/laws.FnExactFormatFormula" = some 4 by kernel_rfl).symm.trans hf) |>.symm
  obtain rfl : fn = Tryd.f4 := (Option.some.inj (Tryd.func4.symm.trans hfn)).symm
  refine ⟨by kernel_rfl, fun j t ht => ?_⟩
  rw [Tryd.params4] at ht
  obtain rfl : t = 30 := by simpa using Array.mem_of_getElem? ht
  exact (show Tryd.prog.wantsStandIn 30 = false by kernel_rfl)

theorem proved : Rows.FnExactFormatFormulaCardSaid :=
  Claim7.holds_tied_plain_at .later [] _ _ _ _ said (fun _ h => by cases h) (by kernel_rfl) (fun _ h => by cases h) fnExactFormatFormula_row_tie rfl ⟨rfl, rfl⟩ (by kernel_rfl) rfl plain (by kernel_rfl)
#print axioms proved
end Go.Proofs.YtiogpiopgcbdbaaDoor.fnExactFormatFormula
