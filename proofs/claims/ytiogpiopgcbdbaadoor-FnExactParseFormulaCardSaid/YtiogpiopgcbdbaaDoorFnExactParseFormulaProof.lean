/- Proves the given statement of the law FnExactParseFormula: for every input that the row lets in, the law's Go function returns true and every argument reads as before; no condition of mine; the card ties the listed tables of the library to the program's text. -/
import Derived.Test.YtiogpiopgcbdbaaDoorFormP
import Derived.Test.YtiogpiopgcbdbaaDoorFormPI
import Derived.Test.YtiogpiopgcbdbaaDoorErrsLaid
import Derived.Test.YtiogpiopgcbdbaaDoorKit
import Derived.Test.YtiogpiopgcbdbaaDoorTNode
import Derived.Test.YtiogpiopgcbdbaaDoorNodeMath
import Derived.Test.YtiogpiopgcbdbaaDoorCards
import Derived.Test.YtiogpiopgcbdbaaDoorTie
import Derived.WalkKit
import Derived.ProofKit
import Derived.OpenShut
import Derived.ChangeOld
import Derived.Below
import Derived.Deep.DeepHandedRow
import Derived.Deep.DeepCutAuto
import Derived.Lib.LaidTab
import Derived.Lib.ItoaNum
import Derived.Stop.LaidErr
import Derived.ShutString
namespace Go.Proofs.YtiogpiopgcbdbaaDoor.fnExactParseFormula
open Go.ChangeShapes Go.WideShapes Go.ChangeAt Go.RowKit
open Go.ChangeMaps (open_string shut_string)
set_option linter.unusedVariables false      -- a walk need not use every 'w<i>' (that an integer argument fits its kind)

theorem own : ownKnob Tryd.prog.godebug = none := by kernel_rfl

theorem gTab : Tryd.prog.globalNamed "internal/strconv.uint64pow10" = some 3 := by kernel_rfl
theorem gTabType : (Tryd.prog.globals[3]?).map (fun x => x.type) = some 161 := by kernel_rfl
theorem cellsTab : Tryd.prog.cellsOf 161 = 20 := by kernel_rfl
theorem cellsElem : Tryd.prog.cellsOf 134 = 1 := by kernel_rfl
/-- What the row's list gives: the table of powers of ten. -/
theorem table {W : World} (h : laidMetH Tryd.prog Rows.fnExactParseFormulaRow.laid W) : Lib.TabIs Tryd.prog W "internal/strconv.uint64pow10" .u64 Lib.pow10Tab := by
  have h2 : laidMet Tryd.prog Rows.fnExactParseFormulaRow.laid W := h
  have e : Lib.pow10Tab = [1, 10, 100, 1000, 10000, 100000, 1000000, 10000000, 100000000, 1000000000, 10000000000, 100000000000, 1000000000000, 10000000000000, 100000000000000, 1000000000000000, 10000000000000000, 100000000000000000, 1000000000000000000, 10000000000000000000] := by decide
  rw [e]
  exact Lib.tabIs_of_head (rest := [("strconv.ErrRange", Rows.laid_strconv_ErrRange), ("strconv.ErrSyntax", Rows.laid_strconv_ErrSyntax)]) gTab gTabType Tryd.underlying161 Tryd.underlying134 cellsElem cellsTab (h2.tail.tail)

/-- What the row's list and the shapes give: the library's variables. -/
theorem vars {W : World} (h : laidMetH Tryd.prog Rows.fnExactParseFormulaRow.laid W) (hs : W.ShapedOpen Tryd.prog) : ParseFI.Vars W := by
  have h2 : laidMet Tryd.prog Rows.fnExactParseFormulaRow.laid W := h
  exact ⟨table h, ErrsLaid.syn_of (h2.tail.tail.tail.tail), ErrsLaid.rng_of (h2.tail.tail.tail), Tryd.laysM145.s1_3 W hs⟩

/-! ### STEP 1: THE WALK: the Go text returns true. 'Grown w w'': the world has at most new blocks (Derived/RowKit3.lean). Part the cases AHEAD of 'go_enter' where a test parts the walk; take each callee by a contract of your own. -/
set_option maxHeartbeats 4000000 in
theorem walk (a0 : ByteArray) (w0 : a0.size ≤ maxLen) (w : World) (hvars : ParseFI.Vars w) :
    Calls Tryd.prog 7 #[.string a0] w fun e w' => e = .returned (.bool true) ∧ Below w.heap.size w w' := by
  by_cases hbig : 1048576 < a0.size
  · unfold maxLen at w0
    clear hvars
    go_enter Tryd.func7, Tryd.ntmps7
    go_wp2
    go_ret
    exact ⟨rfl, Below.refl _ _⟩
  · have hbig' : a0.size ≤ 1048576 := by omega
    clear hbig
    have hl30 : (ParseM.parseF a0).1.length ≤ 30 := by
      unfold ParseM.parseF
      split
      · simp
      · split
        · split
          · rename_i h; exact (NodeMath.okF_of h).1.2
          · simp
        · simp
    obtain ⟨⟨o, ok⟩, hx⟩ : ∃ x, ParseM.parseF a0 = x := ⟨_, rfl⟩
    have H1 := Lib.hid (fun w => FormP.parse_f a0 w hbig')
    have H2 := Lib.hid (fun w h => FormPI.parse_fi a0 w hbig' h)
    rw [hx] at H1 H2 hl30
    simp only [] at hl30
    obtain ⟨m, hm⟩ : ∃ m, o.length = m := ⟨_, rfl⟩
    rw [hm] at hl30
    have HM := Lib.hid hm
    have HV := Lib.hid hvars
    clear hvars hx hm
    go_enter Tryd.func7, Tryd.ntmps7
    go_wp2_with fail
    refine (H1.out _).mono ?_
    rintro e w1 ⟨p1, c1, rfl, ho, hb⟩
    simp only [] at ho
    rw [HM.out] at ho ⊢
    have sw1 : w.heap.size ≤ w1.heap.size := hb.size
    have B1 := Lib.hid hb
    have O1 := Lib.hid (Own.ow_of ho)
    clear ho hb
    go_wp2_with fail
    refine (H2.out _ (HV.out.on B1.out)).mono ?_
    rintro e w2 ⟨p2, c2, rfl, ho, hb⟩
    simp only [] at ho
    rw [HM.out] at ho ⊢
    have sw2 : w1.heap.size ≤ w2.heap.size := hb.size
    have B2 := Lib.hid (BelowKit.bl_trans B1.out hb)
    have O1b := Lib.hid (O1.out.on hb)
    have O2 := Lib.hid (Own.ow_of ho)
    clear ho hb O1
    go_wp2_with fail
    refine (TNode.eq_c w2 m c2 c1 p2 p1 o HM.out (by omega) (O2.out.reads TNode.fw) (O1b.out.reads TNode.fw)).mono ?_
    rintro e w3 ⟨rfl, hb⟩
    have sw3 : w2.heap.size ≤ w3.heap.size := hb.size
    have B3 := Lib.hid (BelowKit.bl_trans B2.out hb)
    have O1c := Lib.hid (O1b.out.on hb)
    have O2b := Lib.hid (O2.out.on hb)
    clear hb O1b O2 B2 B1
    obtain ⟨bo, hbo⟩ : ∃ b, ok = b := ⟨_, rfl⟩
    rw [hbo] at H1 H2 ⊢
    clear hbo
    have hbb : bo = true ∨ bo = false := by cases bo <;> simp
    rcases hbb with rfl | rfl
    all_goals
      go_wp2_with fail
      refine (TNode.mark_c w3 w1.heap.size w2.heap.size p2 m c2 o 1 HM.out (by omega) (by omega) (by omega) O2b.out (by omega)).mono ?_
      rintro e w4 ⟨rfl, ho, hmi⟩
      have sw4 : w3.heap.size ≤ w4.heap.size := hmi.low.size
      have O1d := Lib.hid (O1c.out.mid hmi (by omega))
      have B4 := Lib.hid (B3.out.trans (hmi.low.mono (by omega)))
      have O3 := Lib.hid ho
      clear ho hmi O1c O2b
      go_wp2_with fail
      refine (TNode.held_c w4 p2 m c2 1 (by omega) (by omega) (by omega) (O3.out.reads TNode.fw)).mono ?_
      rintro e w5 ⟨rfl, hb⟩
      have sw5 : w4.heap.size ≤ w5.heap.size := hb.size
      have O1e := Lib.hid (O1d.out.on hb)
      have O3b := Lib.hid (O3.out.on hb)
      have B5 := Lib.hid (BelowKit.bl_trans B4.out hb)
      clear hb O1d O3 B4 B3
      go_wp2_with fail
      refine (H2.out _ (HV.out.on B5.out)).mono ?_
      rintro e w6 ⟨p6, c6, rfl, ho, hb⟩
      simp only [] at ho
      rw [HM.out] at ho ⊢
      have sw6 : w5.heap.size ≤ w6.heap.size := hb.size
      have O1f := Lib.hid (O1e.out.on hb)
      have O3c := Lib.hid (O3b.out.on hb)
      have B6 := Lib.hid (BelowKit.bl_trans B5.out hb)
      have O6 := Lib.hid (Own.ow_of ho)
      clear hb ho O1e O3b B5
      go_wp2_with fail
      refine (TNode.eq_c w6 m c6 c1 p6 p1 o HM.out (by omega) (O6.out.reads TNode.fw) (O1f.out.reads TNode.fw)).mono ?_
      rintro e w7 ⟨rfl, hb⟩
      have O3d := Lib.hid (O3c.out.on hb)
      have B7 := Lib.hid (BelowKit.bl_trans B6.out hb)
      clear hb O1f O6 O3c B6
      go_wp2_with fail
      refine (TNode.held_c w7 p2 m c2 1 (by omega) (by omega) (by omega) (O3d.out.reads TNode.fw)).mono ?_
      rintro e w8 ⟨rfl, hb⟩
      have B8 := Lib.hid (BelowKit.bl_trans B7.out hb)
      clear hb
      go_wp2
      go_ret
      exact ⟨rfl, B8.out⟩

set_option maxRecDepth 100000 in
/-- What the walk gives, for every argument and every world that holds the listed tables. -/
theorem contract (H : Type) (enc : TypeId × Value → H) (W : World) (base : Nat) (args : Array Value) (ds gs : List (DataW H)) (before : List MemPlace)
    (hval0 : ∀ (j : Nat) t v, Tryd.f7.params[j]? = some t → args[j]? = some v → Value.okWide Tryd.prog W .any base t v)
    (hW : DataW.Whole enc Tryd.prog Tryd.f7.params.toList Rows.fnExactParseFormulaSpec.vars false W args.toList ds gs before) (hL : laidMetH Tryd.prog Rows.fnExactParseFormulaRow.laid W) (hSh : W.ShapedOpen Tryd.prog) :
    Calls Tryd.prog 7 args W fun e W' => ∃ v, e = .returned v ∧ Rows.fnExactParseFormulaSpec.post enc Tryd.prog Tryd.f7 false true false false W args v W' := by
  have hval : ∀ (j : Nat) t v, Tryd.f7.params[j]? = some t → args[j]? = some v → Value.okWide Tryd.prog W .any base t v := hval0
  have hW' := hW
  obtain ⟨p, q, hA0, hV, rfl, hfz, hnd⟩ := hW
  have hA : DataW.TrodAll enc Tryd.prog W 0 (fun _ => true) true Tryd.f7.params.toList args.toList ds p := hA0
  rw [Tryd.params7] at hA hval
  obtain ⟨v0, vs0, d0, ds0, p0, q0, hargs, rfl, rfl, h0, r0⟩ := trodAll_cons hA
  obtain ⟨rfl, rfl, rfl⟩ := trodAll_nil r0
  obtain rfl : args = #[v0] := by cases args; simp_all
  obtain ⟨rfl, rfl⟩ := trodVars_none hV
  obtain ⟨a0, rfl, rfl, rfl, w0⟩ := open_string Tryd.underlying9 (hval 0 9 v0 rfl rfl) h0
  clear hA0 hval0
  simp only [List.append_nil] at hW'
  refine (walk a0 w0 W (vars hL hSh)).mono fun e W' ⟨he, bel⟩ => ?_
  subst he
  exact ⟨_, rfl, _, _, _, [], [], [], hW', (trodAll_cons_mk (shut_bool Tryd.underlying4 _) trodAll_mk0), (trodAll_cons_mk (shut_string Tryd.underlying9 w0) trodAll_mk0), rfl, bel.frame _, fun h => by cases h⟩

noncomputable def low : Nat := (World.holding Tryd.prog default ⟨#[], #[], []⟩).heap.size
/-- A world for the witness: the settled one, the listed variables holding what their initialisers lay. -/
noncomputable def laidWorld (os : Os) : World :=
  { World.holding Tryd.prog os ⟨#[.cells #[.string ⟨#[118, 97, 108, 117, 101, 32, 111, 117, 116, 32, 111, 102, 32, 114, 97, 110, 103, 101]⟩] 157, .cells #[.string ⟨#[105, 110, 118, 97, 108, 105, 100, 32, 115, 121, 110, 116, 97, 120]⟩] 157], #[], []⟩ with heap := (World.holding Tryd.prog os ⟨#[.cells #[.string ⟨#[118, 97, 108, 117, 101, 32, 111, 117, 116, 32, 111, 102, 32, 114, 97, 110, 103, 101]⟩] 157, .cells #[.string ⟨#[105, 110, 118, 97, 108, 105, 100, 32, 115, 121, 110, 116, 97, 120]⟩] 157], #[], []⟩).heap |>.modify 4 (fun | .cells _ t frozen => .cells #[.int .u8 0, .int .u8 1, .int .u8 28, .int .u8 2, .int .u8 29, .int .u8 14, .int .u8 24, .int .u8 3, .int .u8 30, .int .u8 22, .int .u8 20, .int .u8 15, .int .u8 25, .int .u8 17, .int .u8 4, .int .u8 8, .int .u8 31, .int .u8 27, .int .u8 13, .int .u8 23, .int .u8 21, .int .u8 19, .int .u8 16, .int .u8 7, .int .u8 26, .int .u8 12, .int .u8 18, .int .u8 6, .int .u8 11, .int .u8 5, .int .u8 10, .int .u8 9] t frozen | o => o)|>.modify 5 (fun | .cells _ t frozen => .cells #[.int .u8 0, .int .u8 1, .int .u8 56, .int .u8 2, .int .u8 57, .int .u8 49, .int .u8 28, .int .u8 3, .int .u8 61, .int .u8 58, .int .u8 42, .int .u8 50, .int .u8 38, .int .u8 29, .int .u8 17, .int .u8 4, .int .u8 62, .int .u8 47, .int .u8 59, .int .u8 36, .int .u8 45, .int .u8 43, .int .u8 51, .int .u8 22, .int .u8 53, .int .u8 39, .int .u8 33, .int .u8 30, .int .u8 24, .int .u8 18, .int .u8 12, .int .u8 5, .int .u8 63, .int .u8 55, .int .u8 48, .int .u8 27, .int .u8 60, .int .u8 41, .int .u8 37, .int .u8 16, .int .u8 46, .int .u8 35, .int .u8 44, .int .u8 21, .int .u8 52, .int .u8 32, .int .u8 23, .int .u8 11, .int .u8 54, .int .u8 26, .int .u8 40, .int .u8 15, .int .u8 34, .int .u8 20, .int .u8 31, .int .u8 10, .int .u8 25, .int .u8 14, .int .u8 19, .int .u8 9, .int .u8 13, .int .u8 8, .int .u8 7, .int .u8 6] t frozen | o => o)|>.modify 3 (fun | .cells _ t frozen => .cells #[.int .u64 1, .int .u64 10, .int .u64 100, .int .u64 1000, .int .u64 10000, .int .u64 100000, .int .u64 1000000, .int .u64 10000000, .int .u64 100000000, .int .u64 1000000000, .int .u64 10000000000, .int .u64 100000000000, .int .u64 1000000000000, .int .u64 10000000000000, .int .u64 100000000000000, .int .u64 1000000000000000, .int .u64 10000000000000000, .int .u64 100000000000000000, .int .u64 1000000000000000000, .int .u64 10000000000000000000] t frozen | o => o)|>.modify 2 (fun | .cells _ t frozen => .cells #[.iface 155 (.pointer (some ⟨low + 0, 0, none⟩))] t frozen | o => o)|>.modify 1 (fun | .cells _ t frozen => .cells #[.iface 155 (.pointer (some ⟨low + 1, 0, none⟩))] t frozen | o => o) }
theorem laid_met (os : Os) : laidMet Tryd.prog Rows.fnExactParseFormulaRow.laid ((laidWorld os).forCall (fun _ _ => 0) ⟨#[], #[.string ByteArray.empty], []⟩).memory :=
  laidMet_of_run' 8 (by kernel_rfl) (by kernel_rfl)
theorem reads (os : Os) {H : Type} (enc : TypeId × Value → H) : ∃ places, DataW.whole enc Tryd.prog ((laidWorld os).forCall (fun _ _ => 0) ⟨#[], #[.string ByteArray.empty], []⟩).memory Tryd.f7.params.toList Rows.fnExactParseFormulaSpec.vars false #[Value.string ByteArray.empty].toList 8 = some ([.lit (.string [])], [], places) :=
  ⟨[], by kernel_rfl⟩

set_option maxRecDepth 100000 in
theorem lifted (os : Os) (started : os.Started) (H : Type) (enc : TypeId × Value → H) (F : Stop.Interp) :
    ReturnsInHanded {} Tryd.checked os 7 .any ((OpenSpec.ofChange Rows.fnExactParseFormulaSpec).preRow enc Tryd.prog Tryd.f7 Rows.fnExactParseFormulaRow.domain false Rows.fnExactParseFormulaRow.laid) (((OpenSpec.ofChange Rows.fnExactParseFormulaSpec).at F).post enc Tryd.prog Tryd.f7 false true false false) := by
  obtain ⟨places, hx⟩ := reads os enc
  refine returnsInHanded_of_row (C := Tryd.checked) (s := OpenSpec.ofChange Rows.fnExactParseFormulaSpec) own started (by kernel_rfl) Tryd.func7
    (witness_row_at (enc := enc) (C := Tryd.checked) false (laidWorld os) #[.string ByteArray.empty] rfl (by kernel_rfl) (by kernel_rfl) (by kernel_rfl)
      (OpenSpec.preRow_of_cond 8 hx (by kernel_rfl) (fun k hk => by cases hk) (by kernel_rfl) (laid_met os))) ?_
  intro W base args ds gs before hval hW _ _ _ hL hSh _
  exact contract H enc W base args ds gs before hval hW hL hSh

theorem said : Rows.FnExactParseFormulaSaid :=
  OpenClaim.holds_of_cond 7 Tryd.f7 rfl rfl rfl rfl rfl rfl rfl ⟨rfl, rfl, rfl, rfl, rfl⟩ rfl rfl rfl rfl rfl (by kernel_rfl) Tryd.func7 (by kernel_rfl)
    (of_decide_eq_true (by kernel_rfl)) (by unfold Func.isWrapper; first | (rw [if_pos (by decide +kernel)]; kernel_rfl) | (rw [if_neg (by decide +kernel)]; exact ⟨rfl, rfl⟩))
    (fun os started H enc _ F => by rw [OpenClaim.pre_eq_preRow]; exact lifted os started H enc F)

theorem plain (f : FuncId) (fn : Func) (hf : Tryd.pinned.checked.prog.funcNamed "loop.example/g00980/laws.FnExactParseFormula" = some f) (hfn : Tryd.pinned.checked.prog.funcs[f]? = some fn) :
    true = Tryd.pinned.checked.prog.looks [] ∧ ∀ (j : Nat) t, fn.params[j]? = some t → Tryd.pinned.checked.prog.wantsStandIn t = false := by
  obtain rfl : f = 7 := Option.some.inj ((show Tryd.prog.funcNamed "loop.example/g00980/laws.FnExactParseFormula" = some 7 by kernel_rfl).symm.trans hf) |>.symm
  obtain rfl : fn = Tryd.f7 := (Option.some.inj (Tryd.func7.symm.trans hfn)).symm
  refine ⟨by kernel_rfl, fun j t ht => ?_⟩
  rw [Tryd.params7] at ht
  obtain rfl : t = 9 := by simpa using Array.mem_of_getElem? ht
  exact (show Tryd.prog.wantsStandIn 9 = false by kernel_rfl)

theorem proved : Rows.FnExactParseFormulaCardSaid :=
  Claim7.holds_tied_plain_at .later [] _ _ _ _ said (fun _ h => by cases h) (by kernel_rfl) (fun _ h => by cases h) fnExactParseFormula_row_tie rfl ⟨rfl, rfl⟩ (by kernel_rfl) rfl plain (by kernel_rfl)
#print axioms proved
end Go.Proofs.YtiogpiopgcbdbaaDoor.fnExactParseFormula
