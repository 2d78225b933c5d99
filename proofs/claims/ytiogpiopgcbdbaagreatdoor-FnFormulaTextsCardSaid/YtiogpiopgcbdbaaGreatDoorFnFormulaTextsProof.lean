/- Proves the given statement of the law FnFormulaTexts: for every input that the row lets in, the law's Go function returns true and every argument reads as before; no condition of mine; the card ties the listed tables of the library to the program's text. -/
import Derived.Test.YtiogpiopgcbdbaaGreatDoorDrawFm
import Derived.Test.YtiogpiopgcbdbaaGreatDoorTextI
import Derived.Test.YtiogpiopgcbdbaaGreatDoorSizeI
import Derived.Test.YtiogpiopgcbdbaaGreatDoorFormB
import Derived.Test.YtiogpiopgcbdbaaGreatDoorFormBI
import Derived.Test.YtiogpiopgcbdbaaGreatDoorParseFI
import Derived.Test.YtiogpiopgcbdbaaGreatDoorEvalS
import Derived.Test.YtiogpiopgcbdbaaGreatDoorFracEq
import Derived.Test.YtiogpiopgcbdbaaGreatDoorKit
import Derived.Test.YtiogpiopgcbdbaaGreatDoorErrsLaid
import Derived.Test.YtiogpiopgcbdbaaGreatDoorTNode
import Derived.Test.YtiogpiopgcbdbaaGreatDoorNodeMath
import Derived.Test.YtiogpiopgcbdbaaGreatDoorCards
import Derived.Test.YtiogpiopgcbdbaaGreatDoorTie
import Derived.WalkKit
import Derived.ProofKit
import Derived.OpenShut
import Derived.ChangeOld
import Derived.Below
import Derived.Deep.DeepHandedRow
import Derived.Deep.DeepCutAuto
import Derived.Lib.LaidTab
import Derived.Lib.ItoaNum
import Derived.Stop.LaidErr
import Derived.ShutString
namespace Go.Proofs.YtiogpiopgcbdbaaGreatDoor.fnFormulaTexts
open Go.ChangeShapes Go.WideShapes Go.ChangeAt Go.RowKit
open Go.ChangeMaps (open_string shut_string)
set_option linter.unusedVariables false

theorem own : ownKnob Tryz.prog.godebug = none := by kernel_rfl
theorem laidOut : laidOutB Tryz.prog = true := by kernel_rfl

/-- WHAT THE WALK IS TOLD OF A SLICE OF INTEGERS THAT CAME IN: it is nil; or it leads to a row of 'cap' cells, the numbers 'zs' (the first 'len' are its elements, the rest its spare room), each fitting its kind. -/
def IsRow (k : IntKind) (w : World) (a : Option Addr) (len cap : Nat) (zs : List Int) : Prop :=
  (a = none ∧ len = 0 ∧ cap = 0 ∧ zs = []) ∨
  ∃ x, a = some x ∧ len ≤ cap ∧ cap ≤ maxLen ∧ zs.length = cap ∧ (∀ i, i < zs.length → w.cell? (x.add i) = some (.int k (zs.getD i 0))) ∧ ∀ n ∈ zs, (Lit.int k n).wf = true

theorem gTab : Tryz.prog.globalNamed "internal/strconv.uint64pow10" = some 3 := by kernel_rfl
theorem gTabType : (Tryz.prog.globals[3]?).map (fun x => x.type) = some 146 := by kernel_rfl
theorem cellsTab : Tryz.prog.cellsOf 146 = 20 := by kernel_rfl
theorem cellsElem : Tryz.prog.cellsOf 133 = 1 := by kernel_rfl
/-- What the row's list gives: the table of powers of ten. -/
theorem table {W : World} (h : laidMetH Tryz.prog Rows.fnFormulaTextsRow.laid W) : Lib.TabIs Tryz.prog W "internal/strconv.uint64pow10" .u64 Lib.pow10Tab := by
  have h2 : laidMet Tryz.prog Rows.fnFormulaTextsRow.laid W := h
  have e : Lib.pow10Tab = [1, 10, 100, 1000, 10000, 100000, 1000000, 10000000, 100000000, 1000000000, 10000000000, 100000000000, 1000000000000, 10000000000000, 100000000000000, 1000000000000000, 10000000000000000, 100000000000000000, 1000000000000000000, 10000000000000000000] := by decide
  rw [e]
  exact Lib.tabIs_of_head (rest := [("strconv.ErrRange", Rows.laid_strconv_ErrRange), ("strconv.ErrSyntax", Rows.laid_strconv_ErrSyntax)]) gTab gTabType Tryz.underlying146 Tryz.underlying133 cellsElem cellsTab (h2.tail.tail)

/-- What the row's list and the shapes give: the library's variables. -/
theorem vars {W : World} (h : laidMetH Tryz.prog Rows.fnFormulaTextsRow.laid W) (hs : W.ShapedOpen Tryz.prog) : ParseFI.Vars W := by
  have h2 : laidMet Tryz.prog Rows.fnFormulaTextsRow.laid W := h
  exact ⟨table h, ErrsLaid.syn_of (h2.tail.tail.tail.tail), ErrsLaid.rng_of (h2.tail.tail.tail), Tryz.laysM145.s1_3 W hs⟩

/-! ### STEP 1: THE WALK: the Go text returns true, AND WRITES NOTHING THAT WAS THERE: 'Below w.heap.size w w'' (Derived/Below.lean: '.refl', '.alloc', '.drew', '.setCell' at a new block, '.trans'). Open each 'IsRow' by 'rcases' AHEAD of 'go_enter'; part every test ahead of the walk. -/
set_option maxHeartbeats 4000000 in
theorem walk (a0 : Option Addr) (len0 cap0 : Nat) (z0 : List Int) (w : World) (hvars : ParseFI.Vars w) (w0 : IsRow .u8 w a0 len0 cap0 z0) :
    Calls Tryz.prog 3 #[.slice a0 len0 cap0] w fun e w' => e = .returned (.bool true) ∧ Below w.heap.size w w' := by
  obtain ⟨hcode, hs⟩ := CurKit.code_at w0
  clear w0
  have HK := Lib.hid hcode
  have HS := Lib.hid hs
  have HX := Lib.hid hvars
  clear hcode hvars
  unfold maxLen at hs
  by_cases hbig : 1048576 < len0
  · go_enter Tryz.func3, Tryz.ntmps3
    go_wp2
    go_ret
    exact ⟨rfl, Below.refl _ _⟩
  go_enter Tryz.func3, Tryz.ntmps3
  go_wp2_with (go_at_call 4; go_in)
  refine (DrawFm.draw_c _ a0 len0 cap0 HK.out HS.out).mono ?_
  rintro e w1 ⟨l, p, c, vs, q, d, hl, hl9, hvs, rfl, ho, hov, hb⟩
  obtain ⟨m, hm⟩ : ∃ m, l.length = m := ⟨_, rfl⟩
  rw [hm] at ho ⊢
  have hm9 : m ≤ 9 := by rw [← hm]; exact hl9
  have HM := Lib.hid hm
  have HL := Lib.hid hl
  have HVS := Lib.hid hvs
  have HO1 := Lib.hid ho
  have HV1 := Lib.hid hov
  have HC1 := Lib.hid hb
  obtain ⟨t, ht⟩ : ∃ t, FracTxS.str (SizeM.textF l) = t := ⟨_, rfl⟩
  have HT := Lib.hid ht
  have HTL := Lib.hid (show t.size ≤ 1048576 by rw [← ht, FracTxS.str_size]; have := FormB.text_le l; omega)
  obtain ⟨z, hz⟩ : ∃ z, SizeM.sizeF l = z := ⟨_, rfl⟩
  have HZ := Lib.hid hz
  clear hm hl hl9 hvs ho hov hb hbig hs ht hz
  go_wp2_with fail
  refine (TextI.formula_i _ p m c l HM.out (by omega) (RowN.reads_own TNode.fw HO1.out) (HX.out.on HC1.out).tab).mono ?_
  rintro e w2 ⟨rfl, hb⟩
  rw [HT.out]
  have HO2 := Lib.hid (HO1.out.on hb)
  have HV2 := Lib.hid (HV1.out.on hb)
  have HC2 := Lib.hid (BelowKit.bl_trans HC1.out hb)
  clear hb HO1 HV1 HC1
  go_wp2_with fail
  refine (SizeI.size_i _ p m c l HM.out (by omega) (RowN.reads_own TNode.fw HO2.out)).mono ?_
  rintro e w3 ⟨rfl, hb⟩
  rw [HZ.out]
  have HO3 := Lib.hid (HO2.out.on hb)
  have HV3 := Lib.hid (HV2.out.on hb)
  have HC3 := Lib.hid (BelowKit.bl_trans HC2.out hb)
  clear hb HO2 HV2 HC2
  rcases FormB.two HL.out with ⟨h25, h0⟩ | ⟨U, hU, hU24, hpf, htx, hev⟩
  · rw [HZ.out] at h25
    have h1 := HT.out
    rw [h0] at h1
    have h2 : t = ⟨#[]⟩ := by rw [← h1]; rfl
    subst h25
    subst h2
    clear h0 h1 HT HZ HTL
    go_wp2
    go_ret
    exact ⟨rfl, HC3.out⟩
  · rw [HZ.out] at hU
    rw [HT.out] at hpf
    subst hU
    obtain ⟨k, hk⟩ : ∃ k, U.length = k := ⟨_, rfl⟩
    rw [hk] at hU24 ⊢
    have HKU := Lib.hid hk
    have HPF := Lib.hid hpf
    have HTX := Lib.hid (show FracTxS.str (SizeM.textF U) = t by rw [htx]; exact HT.out)
    have HEV := Lib.hid hev
    clear HZ HT hpf htx hev hk
    go_wp2_with fail
    refine (FormBI.parse_yes t _ HTL.out (HX.out.on HC3.out) U k HPF.out HKU.out).mono ?_
    rintro e w4 ⟨p2, c2, rfl, ho, hb⟩
    have HO4 := Lib.hid (HO3.out.on hb)
    have HV4 := Lib.hid (HV3.out.on hb)
    have HU4 := Lib.hid ho
    have HC4 := Lib.hid (BelowKit.bl_trans HC3.out hb)
    clear ho hb HO3 HV3 HC3 HPF HTL
    go_wp2_with fail
    refine (TextI.formula_i _ p2 k c2 U HKU.out (by omega) (RowN.reads_own TNode.fw HU4.out) (HX.out.on HC4.out).tab).mono ?_
    rintro e w5 ⟨rfl, hb⟩
    rw [HTX.out]
    have HO5 := Lib.hid (HO4.out.on hb)
    have HV5 := Lib.hid (HV4.out.on hb)
    have HU5 := Lib.hid (HU4.out.on hb)
    have HC5 := Lib.hid (BelowKit.bl_trans HC4.out hb)
    clear hb HO4 HV4 HU4 HC4 HTX
    go_wp2_with fail
    obtain ⟨⟨x1, x2, one⟩, hx⟩ : ∃ R, NodeMath.evalL l vs = R := ⟨_, rfl⟩
    have HXX := Lib.hid hx
    clear hx
    refine (EvalS.last_s _ p m c l q 8 d vs HM.out (by omega) (RowN.reads_own TNode.fw HO5.out) HVS.out.1 (by omega) (RowN.reads_own TFrac.fw HV5.out)).mono ?_
    rintro e w6 ⟨rfl, hb⟩
    rw [HXX.out]
    have HV6 := Lib.hid (HV5.out.on hb)
    have HU6 := Lib.hid (HU5.out.on hb)
    have HC6 := Lib.hid (BelowKit.bl_trans HC5.out hb)
    clear hb HO5 HV5 HU5 HC5
    go_wp2_with fail
    have hb6 : Below w6.heap.size w6 (w6.alloc (.cells #[.int .i64 x1, .int .i64 x2] 33)) := by (repeat (first | exact Below.refl _ _ | apply BelowKit.bl_alloc | apply BelowKit.bl_drewN | apply BelowKit.bl_drew | (refine BelowKit.bl_set ?_ _ ?_; rotate_left; (first | omega | (simp; omega) | simp)) | (refine BelowKit.bl_trans ?_ (‹Hid (Below _ _ _)›).out)))
    have A1 := Lib.hid (FracBlk.FB.new w6 33 x1 x2)
    obtain ⟨⟨y1, y2, two⟩, hy⟩ : ∃ R, NodeMath.evalL U vs = R := ⟨_, rfl⟩
    have HY := Lib.hid hy
    clear hy
    refine (EvalS.last_s _ p2 k c2 U q 8 d vs HKU.out (by omega) (RowN.reads_own TNode.fw (HU6.out.on hb6)) HVS.out.1 (by omega) (RowN.reads_own TFrac.fw (HV6.out.on hb6))).mono ?_
    rintro e w7 ⟨rfl, hb⟩
    rw [HY.out]
    have F := A1.out.on hb
    have cX0 := F.c0
    have cX1 := F.c1
    have zX := F.lt
    have HC7 := Lib.hid (BelowKit.bl_trans HC6.out (BelowKit.bl_trans hb6 hb))
    obtain ⟨g, hg⟩ : ∃ g, w6.heap.size = g := ⟨_, rfl⟩
    rw [hg] at cX0 cX1 zX ⊢
    clear hb hb6 A1 F HV6 HU6 HC6 hg
    cases one with
    | false =>
      clear HXX HY
      go_wp2
      go_ret
      exact ⟨rfl, BelowKit.bl_alloc HC7.out⟩
    | true =>
      have hsame := FormB.same_value HEV.out HXX.out
      rw [HY.out] at hsame
      obtain ⟨e1, e2, e3⟩ : y1 = x1 ∧ y2 = x2 ∧ two = true := ⟨(Prod.mk.inj hsame).1, (Prod.mk.inj (Prod.mk.inj hsame).2).1, (Prod.mk.inj (Prod.mk.inj hsame).2).2⟩
      subst e1
      subst e2
      subst e3
      have heq := fun W => FracEq.eql y1 y2 y1 y2 W
      have hsame2 : (y1 == y1 && y2 == y2) = true := by simp
      simp only [hsame2] at heq
      have hgrd := fun W x y a b c e => FracEq.guard .eql x y #[.int .i64 a, .int .i64 b] #[.int .i64 c, .int .i64 e] W
      clear HXX HY hsame hsame2 HEV
      go_wp2
      go_ret
      exact ⟨rfl, BelowKit.bl_alloc HC7.out⟩

set_option maxRecDepth 100000 in
/-- What the walk gives, for every argument and every world that holds the listed tables. -/
theorem contract (H : Type) (enc : TypeId × Value → H) (W : World) (base : Nat) (args : Array Value) (ds gs : List (DataW H)) (before : List MemPlace)
    (hval0 : ∀ (j : Nat) t v, Tryz.f3.params[j]? = some t → args[j]? = some v → Value.okWide Tryz.prog W .any base t v)
    (hW : DataW.Whole enc Tryz.prog Tryz.f3.params.toList Rows.fnFormulaTextsSpec.vars false W args.toList ds gs before) (hL : laidMetH Tryz.prog Rows.fnFormulaTextsRow.laid W) (hSh : W.ShapedOpen Tryz.prog) :
    Calls Tryz.prog 3 args W fun e W' => ∃ v, e = .returned v ∧ Rows.fnFormulaTextsSpec.post enc Tryz.prog Tryz.f3 false true false false W args v W' := by
  have hval : ∀ (j : Nat) t v, Tryz.f3.params[j]? = some t → args[j]? = some v → Value.okWide Tryz.prog W .any base t v := hval0
  have hW' := hW
  obtain ⟨p, q, hA0, hV, rfl, hfz, hnd⟩ := hW
  have hA : DataW.TrodAll enc Tryz.prog W 0 (fun _ => true) true Tryz.f3.params.toList args.toList ds p := hA0
  rw [Tryz.params3] at hA hval
  obtain ⟨v0, vs0, d0, ds0, p0, q0, hargs, rfl, rfl, h0, r0⟩ := trodAll_cons hA
  obtain ⟨rfl, rfl, rfl⟩ := trodAll_nil r0
  obtain rfl : args = #[v0] := by cases args; simp_all
  obtain ⟨rfl, rfl⟩ := trodVars_none hV
  obtain ⟨a0, len0, cap0, rfl⟩ := okWide_slice Tryz.underlying22 (hval 0 22 v0 rfl rfl)
  have k0 := h0
  have lt0 : ∀ x ∈ p0, x.block < W.heap.size := by obtain ⟨m, hm⟩ := k0; exact DataW.trod_lt m _ _ _ hm
  obtain ⟨z0, w0⟩ : ∃ zs, IsRow .u8 W a0 len0 cap0 zs := by
    obtain ⟨fuel, hf⟩ := h0
    rcases open_ints Tryz.underlying22 Tryz.underlying5 (by kernel_rfl) hf with ⟨hcs, _⟩ | ⟨x, l, c, zs, hcs, _, hl, hm, hz, _, hcell, hwz⟩
    · simp [Value.cells] at hcs
      obtain ⟨rfl, rfl, rfl⟩ := hcs
      exact ⟨[], .inl ⟨rfl, rfl, rfl, rfl⟩⟩
    · simp [Value.cells] at hcs
      obtain ⟨rfl, rfl, rfl⟩ := hcs
      exact ⟨zs, .inr ⟨_, rfl, hl, hm, by simpa using hz, hcell, hwz⟩⟩
  clear hA0 hval0
  refine (walk a0 len0 cap0 z0 W (vars hL hSh) w0).mono fun e W' ⟨he, bel⟩ => ?_
  subst he
  exact ⟨_, rfl, _, _, _, [], _, [], hW', trodAll_mk1 (shut_bool Tryz.underlying4 _), (trodAll_cons_mk (Below.trod laidOut (by kernel_rfl) (of_decide_eq_true (by kernel_rfl)) k0 bel lt0) trodAll_mk0), rfl, bel.frame _, fun h => by cases h⟩

noncomputable def low : Nat := (World.holding Tryz.prog default ⟨#[], #[], []⟩).heap.size
/-- A world for the witness: the settled one, the listed variables holding what their initialisers lay. -/
noncomputable def laidWorld (os : Os) : World :=
  { World.holding Tryz.prog os ⟨#[.cells #[.string ⟨#[118, 97, 108, 117, 101, 32, 111, 117, 116, 32, 111, 102, 32, 114, 97, 110, 103, 101]⟩] 156, .cells #[.string ⟨#[105, 110, 118, 97, 108, 105, 100, 32, 115, 121, 110, 116, 97, 120]⟩] 156], #[], []⟩ with heap := (World.holding Tryz.prog os ⟨#[.cells #[.string ⟨#[118, 97, 108, 117, 101, 32, 111, 117, 116, 32, 111, 102, 32, 114, 97, 110, 103, 101]⟩] 156, .cells #[.string ⟨#[105, 110, 118, 97, 108, 105, 100, 32, 115, 121, 110, 116, 97, 120]⟩] 156], #[], []⟩).heap |>.modify 4 (fun | .cells _ t frozen => .cells #[.int .u8 0, .int .u8 1, .int .u8 28, .int .u8 2, .int .u8 29, .int .u8 14, .int .u8 24, .int .u8 3, .int .u8 30, .int .u8 22, .int .u8 20, .int .u8 15, .int .u8 25, .int .u8 17, .int .u8 4, .int .u8 8, .int .u8 31, .int .u8 27, .int .u8 13, .int .u8 23, .int .u8 21, .int .u8 19, .int .u8 16, .int .u8 7, .int .u8 26, .int .u8 12, .int .u8 18, .int .u8 6, .int .u8 11, .int .u8 5, .int .u8 10, .int .u8 9] t frozen | o => o)|>.modify 5 (fun | .cells _ t frozen => .cells #[.int .u8 0, .int .u8 1, .int .u8 56, .int .u8 2, .int .u8 57, .int .u8 49, .int .u8 28, .int .u8 3, .int .u8 61, .int .u8 58, .int .u8 42, .int .u8 50, .int .u8 38, .int .u8 29, .int .u8 17, .int .u8 4, .int .u8 62, .int .u8 47, .int .u8 59, .int .u8 36, .int .u8 45, .int .u8 43, .int .u8 51, .int .u8 22, .int .u8 53, .int .u8 39, .int .u8 33, .int .u8 30, .int .u8 24, .int .u8 18, .int .u8 12, .int .u8 5, .int .u8 63, .int .u8 55, .int .u8 48, .int .u8 27, .int .u8 60, .int .u8 41, .int .u8 37, .int .u8 16, .int .u8 46, .int .u8 35, .int .u8 44, .int .u8 21, .int .u8 52, .int .u8 32, .int .u8 23, .int .u8 11, .int .u8 54, .int .u8 26, .int .u8 40, .int .u8 15, .int .u8 34, .int .u8 20, .int .u8 31, .int .u8 10, .int .u8 25, .int .u8 14, .int .u8 19, .int .u8 9, .int .u8 13, .int .u8 8, .int .u8 7, .int .u8 6] t frozen | o => o)|>.modify 3 (fun | .cells _ t frozen => .cells #[.int .u64 1, .int .u64 10, .int .u64 100, .int .u64 1000, .int .u64 10000, .int .u64 100000, .int .u64 1000000, .int .u64 10000000, .int .u64 100000000, .int .u64 1000000000, .int .u64 10000000000, .int .u64 100000000000, .int .u64 1000000000000, .int .u64 10000000000000, .int .u64 100000000000000, .int .u64 1000000000000000, .int .u64 10000000000000000, .int .u64 100000000000000000, .int .u64 1000000000000000000, .int .u64 10000000000000000000] t frozen | o => o)|>.modify 2 (fun | .cells _ t frozen => .cells #[.iface 154 (.pointer (some ⟨low + 0, 0, none⟩))] t frozen | o => o)|>.modify 1 (fun | .cells _ t frozen => .cells #[.iface 154 (.pointer (some ⟨low + 1, 0, none⟩))] t frozen | o => o) }
theorem laid_met (os : Os) : laidMet Tryz.prog Rows.fnFormulaTextsRow.laid ((laidWorld os).forCall (fun _ _ => 0) ⟨#[], #[.slice none 0 0], []⟩).memory :=
  laidMet_of_run' 8 (by kernel_rfl) (by kernel_rfl)
theorem reads (os : Os) {H : Type} (enc : TypeId × Value → H) : ∃ places, DataW.whole enc Tryz.prog ((laidWorld os).forCall (fun _ _ => 0) ⟨#[], #[.slice none 0 0], []⟩).memory Tryz.f3.params.toList Rows.fnFormulaTextsSpec.vars false #[Value.slice none 0 0].toList 8 = some ([.nil], [], places) :=
  ⟨[], by kernel_rfl⟩

set_option maxRecDepth 100000 in
theorem lifted (os : Os) (started : os.Started) (H : Type) (enc : TypeId × Value → H) (F : Stop.Interp) :
    ReturnsInHanded {} Tryz.checked os 3 .any ((OpenSpec.ofChange Rows.fnFormulaTextsSpec).preRow enc Tryz.prog Tryz.f3 Rows.fnFormulaTextsRow.domain false Rows.fnFormulaTextsRow.laid) (((OpenSpec.ofChange Rows.fnFormulaTextsSpec).at F).post enc Tryz.prog Tryz.f3 false true false false) := by
  obtain ⟨places, hx⟩ := reads os enc
  refine returnsInHanded_of_row (C := Tryz.checked) (s := OpenSpec.ofChange Rows.fnFormulaTextsSpec) own started (by kernel_rfl) Tryz.func3
    (witness_row_at (enc := enc) (C := Tryz.checked) false (laidWorld os) #[.slice none 0 0] rfl (by kernel_rfl) (by kernel_rfl) (by kernel_rfl)
      (OpenSpec.preRow_of_cond 8 hx (by kernel_rfl) (fun k hk => by cases hk) (by kernel_rfl) (laid_met os))) ?_
  intro W base args ds gs before hval hW _ _ _ hL hSh _
  exact contract H enc W base args ds gs before hval hW hL hSh

theorem said : Rows.FnFormulaTextsSaid :=
  OpenClaim.holds_of_cond 3 Tryz.f3 rfl rfl rfl rfl rfl rfl rfl ⟨rfl, rfl, rfl, rfl, rfl⟩ rfl rfl rfl rfl rfl (by kernel_rfl) Tryz.func3 (by kernel_rfl)
    (of_decide_eq_true (by kernel_rfl)) (by unfold Func.isWrapper; first | (rw [if_pos (by decide +kernel)]; kernel_rfl) | (rw [if_neg (by decide +kernel)]; exact ⟨rfl, rfl⟩))
    (fun os started H enc _ F => by rw [OpenClaim.pre_eq_preRow]; exact lifted os started H enc F)

theorem plain (f : FuncId) (fn : Func) (hf : Tryz.pinned.checked.prog.funcNamed "loop.example/g00980/laws.FnFormulaTexts" = some f) (hfn : Tryz.pinned.checked.prog.funcs[f]? = some fn) :
    true = Tryz.pinned.checked.prog.looks [] ∧ ∀ (j : Nat) t, fn.params[j]? = some t → Tryz.pinned.checked.prog.wantsStandIn t = false := by
  obtain rfl : f = 3 := Option.some.inj ((show Tryz.prog.funcNamed "loop.example/g00980/laws.FnFormulaTexts" = some 3 by kernel_rfl).symm.trans hf) |>.symm
  obtain rfl : fn = Tryz.f3 := (Option.some.inj (Tryz.func3.symm.trans hfn)).symm
  refine ⟨by kernel_rfl, fun j t ht => ?_⟩
  rw [Tryz.params3] at ht
  obtain rfl : t = 22 := by simpa using Array.mem_of_getElem? ht
  exact (show Tryz.prog.wantsStandIn 22 = false by kernel_rfl)

theorem proved : Rows.FnFormulaTextsCardSaid :=
  Claim7.holds_tied_plain_at .later [] _ _ _ _ said (fun _ h => by cases h) (by kernel_rfl) (fun _ h => by cases h) fnFormulaTexts_row_tie rfl ⟨rfl, rfl⟩ (by kernel_rfl) rfl plain (by kernel_rfl)
#print axioms proved
end Go.Proofs.YtiogpiopgcbdbaaGreatDoor.fnFormulaTexts
