/- Proves the given statement of the law FnUnusedVars: for every input that the row lets in, the law's Go function returns true and every argument reads as before; no condition of mine. -/
import Derived.Test.YtlljhcfiojfimaaDrawFm
import Derived.Test.YtlljhcfiojfimaaDrawRow
import Derived.Test.YtlljhcfiojfimaaEvalI
import Derived.Test.YtlljhcfiojfimaaVarsI
import Derived.Test.YtlljhcfiojfimaaVarsLaws
import Derived.Test.YtlljhcfiojfimaaFracEq
import Derived.Test.YtlljhcfiojfimaaBelowKit
import Derived.Test.YtlljhcfiojfimaaTNode
import Derived.Test.YtlljhcfiojfimaaTBool
import Derived.Test.YtlljhcfiojfimaaNodeMath
import Derived.Test.YtlljhcfiojfimaaRows
import Derived.WalkKit
import Derived.ProofKit
import Derived.OpenShut
import Derived.ShutString
import Derived.ChangeOld
import Derived.Below
namespace Go.Proofs.Ytlljhcfiojfimaa.fnUnusedVars
open Go.ChangeShapes Go.WideShapes Go.ChangeAt Go.RowKit
open Go.ChangeMaps (open_string shut_string)
set_option linter.unusedVariables false

theorem own : ownKnob Try.prog.godebug = none := by kernel_rfl
theorem laidOut : laidOutB Try.prog = true := by kernel_rfl

/-- WHAT THE WALK IS TOLD OF A SLICE OF INTEGERS THAT CAME IN: it is nil; or it leads to a row of 'cap' cells, the numbers 'zs' (the first 'len' are its elements, the rest its spare room), each fitting its kind. -/
def IsRow (k : IntKind) (w : World) (a : Option Addr) (len cap : Nat) (zs : List Int) : Prop :=
  (a = none ∧ len = 0 ∧ cap = 0 ∧ zs = []) ∨
  ∃ x, a = some x ∧ len ≤ cap ∧ cap ≤ maxLen ∧ zs.length = cap ∧ (∀ i, i < zs.length → w.cell? (x.add i) = some (.int k (zs.getD i 0))) ∧ ∀ n ∈ zs, (Lit.int k n).wf = true

/-! ### STEP 1: THE WALK: the Go text returns true, AND WRITES NOTHING THAT WAS THERE: 'Below w.heap.size w w'' (Derived/Below.lean: '.refl', '.alloc', '.drew', '.setCell' at a new block, '.trans'). Open each 'IsRow' by 'rcases' AHEAD of 'go_enter'; part every test ahead of the walk. -/
set_option maxHeartbeats 8000000 in
set_option maxRecDepth 100000 in
theorem walk (a0 : Option Addr) (len0 cap0 : Nat) (z0 : List Int) (w : World) (w0 : IsRow .u8 w a0 len0 cap0 z0) :
    Calls Try.prog 4 #[.slice a0 len0 cap0] w fun e w' => e = .returned (.bool true) ∧ Below w.heap.size w w' := by
  obtain ⟨hcode, hs⟩ := CurKit.code_at w0
  clear w0
  have HK := Lib.hid hcode
  have HS := Lib.hid hs
  clear hcode
  unfold maxLen at hs
  by_cases hbig : 1048576 < len0
  · go_enter Try.func4, Try.ntmps4
    go_wp2
    go_ret
    exact ⟨rfl, Below.refl _ _⟩
  go_enter Try.func4, Try.ntmps4
  go_wp2_with (go_at_call 10; go_in)
  refine (DrawFm.draw_c _ a0 len0 cap0 HK.out HS.out).mono ?_
  rintro e w1 ⟨l, p, c, vs, q, d, hl, hl9, hvs, rfl, ho, hov, hb⟩
  obtain ⟨m, hm⟩ : ∃ m, l.length = m := ⟨_, rfl⟩
  rw [hm] at ho ⊢
  have hm9 : m ≤ 9 := by rw [← hm]; exact hl9
  have HM := Lib.hid hm
  have HL := Lib.hid hl
  have HVS := Lib.hid hvs
  have HO1 := Lib.hid ho
  have HV1 := Lib.hid hov
  have HC1 := Lib.hid hb
  clear hm hl hl9 hvs ho hov hb hbig hs
  go_wp2_with fail
  refine (DrawRow.places_c _ a0 len0 cap0 (fun j hj => by obtain ⟨blk, off, n, e, h1, h2, h3⟩ := HK.out j hj; exact ⟨blk, off, n, e, by have := HC1.out.size; omega, ((BelowKit.bcell HC1.out).1 _ _ h1).trans h2, h3⟩) HS.out).mono ?_
  rintro e w2 ⟨l2, a2, cap2, hl2, hin, rfl, ho2, hb⟩
  obtain ⟨g2, rfl, _, hg2, c20, _⟩ := ho2.at 0 (by omega)
  have c21 := (ho2.cell 1 (by omega)).1
  have i0 := hin.get 0 (by omega)
  have i1 := hin.get 1 (by omega)
  obtain ⟨t0, ht0⟩ : ∃ t, l2[0] = t := ⟨_, rfl⟩
  obtain ⟨t1, ht1⟩ : ∃ t, l2[1] = t := ⟨_, rfl⟩
  rw [ht0] at c20 i0
  rw [ht1] at c21 i1
  change _ = some (Value.int .i64 t0) at c20
  change _ = some (Value.int .i64 t1) at c21
  obtain ⟨i00, i01⟩ := i0
  obtain ⟨i10, i11⟩ := i1
  have HO2 := Lib.hid (HO1.out.on hb)
  have HV2 := Lib.hid (HV1.out.on hb)
  have HC2 := Lib.hid (BelowKit.bl_trans HC1.out hb)
  have HP := Lib.hid (And.intro c21 hg2)
  clear ht0 ht1 hin hl2 ho2 hb HO1 HV1 HC1
  obtain ⟨K, hK⟩ : ∃ K : Nat, t0 % 8 = (K : Int) := ⟨(t0 % 8).toNat, by omega⟩
  have hK8 : K < 8 := by omega
  have HKK := Lib.hid hK
  clear hK
  go_wp2_with fail
  rw [HKK.out]
  refine (VarsI.vars_i _ p m c l HM.out (by omega) (RowN.reads_own TNode.fw HO2.out)).mono ?_
  rintro e w3 ⟨p3, c3, rfl, ho3, hb⟩
  have h8 : (VarsMath.varsOf l).length = 8 := by unfold VarsMath.varsOf; rw [if_pos (NodeMath.okF_yes HL.out)]; exact (VarsMath.runV_len l _).1
  rw [h8] at ho3 ⊢
  have H8 := Lib.hid h8
  have HO3 := Lib.hid (HO2.out.on hb)
  have HV3 := Lib.hid (HV2.out.on hb)
  have HN3 := Lib.hid ho3
  have HP3 := Lib.hid (show w3.cell? ⟨g2, 0 + 1, none⟩ = some (.int .i64 t1) ∧ g2 < w3.heap.size from ⟨((BelowKit.bcell hb).1 _ _ HP.out.2).trans HP.out.1, Nat.lt_of_lt_of_le HP.out.2 hb.size⟩)
  have HC3 := Lib.hid (BelowKit.bl_trans HC2.out hb)
  clear hb ho3 h8 HO2 HV2 HC2 HP c20 c21 hg2 i00 i01
  obtain ⟨⟨x1, x2, ok⟩, hx⟩ : ∃ R, NodeMath.evalL l vs = R := ⟨_, rfl⟩
  have HX := Lib.hid hx
  clear hx
  go_wp2_with fail
  refine (EvalI.last_i _ p m c l q 8 d vs HM.out (by omega) (RowN.reads_own TNode.fw HO3.out) HVS.out.1 (by omega) (RowN.reads_own TFrac.fw HV3.out)).mono ?_
  rintro e w4 ⟨rfl, hb⟩
  rw [HX.out]
  have HO4 := Lib.hid (HO3.out.on hb)
  have HV4 := Lib.hid (HV3.out.on hb)
  have HN4 := Lib.hid (HN3.out.on hb)
  have HP4 := Lib.hid (show w4.cell? ⟨g2, 0 + 1, none⟩ = some (.int .i64 t1) ∧ g2 < w4.heap.size from ⟨((BelowKit.bcell hb).1 _ _ HP3.out.2).trans HP3.out.1, Nat.lt_of_lt_of_le HP3.out.2 hb.size⟩)
  have HC4 := Lib.hid (BelowKit.bl_trans HC3.out hb)
  clear hb HO3 HV3 HN3 HC3 HP3
  go_upto_region 10 with fail
  have hb5 : Below w4.heap.size w4 (w4.alloc (.cells #[.int .i64 x1, .int .i64 x2] 31)) := by (repeat (first | exact Below.refl _ _ | apply BelowKit.bl_alloc | apply BelowKit.bl_drewN | apply BelowKit.bl_drew | (refine BelowKit.bl_set ?_ _ ?_; rotate_left; (first | omega | (simp; omega) | simp)) | (refine BelowKit.bl_trans ?_ (‹Hid (Below _ _ _)›).out)))
  have cX0 : (w4.alloc (.cells #[.int .i64 x1, .int .i64 x2] 31)).cell? ⟨w4.heap.size, 0, none⟩ = some (.int .i64 x1) := by simp [go_sem]
  have cX1 : (w4.alloc (.cells #[.int .i64 x1, .int .i64 x2] 31)).cell? ⟨w4.heap.size, 1, none⟩ = some (.int .i64 x2) := by simp [go_sem]
  have zX : w4.heap.size < (w4.alloc (.cells #[.int .i64 x1, .int .i64 x2] 31)).heap.size := by simp
  obtain ⟨w5, hw5⟩ : ∃ W, (w4.alloc (.cells #[.int .i64 x1, .int .i64 x2] 31)) = W := ⟨_, rfl⟩
  rw [hw5] at hb5 cX0 cX1 zX ⊢
  have HO5 := Lib.hid (HO4.out.on hb5)
  have HV5 := Lib.hid (HV4.out.on hb5)
  have HN5 := Lib.hid (HN4.out.on hb5)
  have HP5 := Lib.hid (show w5.cell? ⟨g2, 0 + 1, none⟩ = some (.int .i64 t1) ∧ g2 < w5.heap.size from ⟨((BelowKit.bcell hb5).1 _ _ HP4.out.2).trans HP4.out.1, Nat.lt_of_lt_of_le HP4.out.2 hb5.size⟩)
  have HC5 := Lib.hid (BelowKit.bl_trans HC4.out hb5)
  have HXC := Lib.hid (And.intro cX0 (And.intro cX1 zX))
  clear hb5 hw5 cX0 cX1 zX HO4 HV4 HN4 HC4 HP4
  go_wp2_with (at_builtin; refine Fresh.pause ?_)
  refine ⟨?_⟩
  refine RowN.wpList_append_readsN TFrac.ft TFrac.fw _ (o := ⟨some 39, _, _, _, _, _⟩) rfl (.tmp 37) (.tmp 38) rfl w5.heap.size _ [] rfl (RowN.Owns.made w5 _ _ (Nat.le_refl _)) q d 8 vs HVS.out.1 rfl ((RowN.reads_own TFrac.fw HV5.out).on (by (repeat (first | exact Below.refl _ _ | apply BelowKit.bl_alloc | apply BelowKit.bl_drewN | apply BelowKit.bl_drew | (refine BelowKit.bl_set ?_ _ ?_; rotate_left; (first | omega | (simp; omega) | simp)) | (refine BelowKit.bl_trans ?_ (‹Hid (Below _ _ _)›).out))))) (by simp) (by simp) ?_
  intro v6 w6 hown6 hg6 _
  rw [List.nil_append] at hown6
  obtain ⟨a6, c6, rfl, _⟩ := hown6.form TFrac.fw
  rw [HVS.out.1] at hown6 ⊢
  have hb6 : Below w5.heap.size w5 w6 := (BelowKit.bl_alloc (Below.refl _ _)).grown hg6 (by simp) (fun k hk => (RowN.Owns.made (f := TFrac.fc) (c := 2) w5 _ TFrac.T (Nat.le_refl _)).low k hk)
  obtain ⟨g6, e', hBg, hg6', d0, d1, f0, f1⟩ := TFrac.own hown6 K (by rw [HVS.out.1]; exact hK8)
  cases e'
  generalize vs[K]'(by rw [HVS.out.1]; exact hK8) = zv at d0 d1
  have HST := Lib.hid (TFrac.stored hown6 K (by rw [HVS.out.1]; exact hK8) ⟨1 + t1 % 50, 1⟩)
  have HB7 := Lib.hid (show Below w5.heap.size w5 ((w6.setCell ⟨g6, K * 2, none⟩ (.int .i64 (1 + t1 % 50))).setCell ⟨g6, K * 2 + 1, none⟩ (.int .i64 1)) from BelowKit.bl_set (BelowKit.bl_set hb6 _ hBg) _ hBg)
  have c21 := ((BelowKit.bcell hb6).1 _ _ HP5.out.2).trans HP5.out.1
  have z21 := Nat.lt_of_lt_of_le HP5.out.2 hb6.size
  have b3 : (0 : Int) ≤ (K : Int) := by omega
  have b4 : (K : Int) < 8 := by omega
  have W1 : IntKind.i64.wrap (1 + t1 % 50) = 1 + t1 % 50 := IntWalk.i64_in _ (by omega)
  have ne6 : g2 ≠ g6 := by have := HP5.out.2; omega
  clear hb6 hg6 hown6
  go_wp2_with fail
  obtain ⟨w7, hw7⟩ : ∃ W, ((w6.setCell ⟨g6, K * 2, none⟩ (.int .i64 (1 + t1 % 50))).setCell ⟨g6, K * 2 + 1, none⟩ (.int .i64 1)) = W := ⟨_, rfl⟩
  rw [hw7] at HST HB7 ⊢
  clear hw7 d0 d1 f0 f1 c21 z21 W1 ne6 hBg hg6'
  obtain ⟨⟨y1, y2, isy⟩, hy⟩ : ∃ R, NodeMath.evalL l (vs.set K ⟨1 + t1 % 50, 1⟩) = R := ⟨_, rfl⟩
  have HYY := Lib.hid hy
  clear hy
  refine (EvalI.last_i _ p m c l (some ⟨g6, 0, none⟩) 8 c6 (vs.set K ⟨1 + t1 % 50, 1⟩) HM.out (by omega) (RowN.reads_own TNode.fw (HO5.out.on HB7.out)) (by rw [List.length_set]; exact HVS.out.1) (by omega) (RowN.reads_own TFrac.fw HST.out)).mono ?_
  rintro e w8 ⟨rfl, hb8⟩
  rw [HYY.out]
  have hb58 := BelowKit.bl_trans HB7.out hb8
  have cX0 := ((BelowKit.bcell hb58).1 _ _ HXC.out.2.2).trans HXC.out.1
  have cX1 := ((BelowKit.bcell hb58).1 _ _ HXC.out.2.2).trans HXC.out.2.1
  have zX := Nat.lt_of_lt_of_le HXC.out.2.2 hb58.size
  have hkl : K < (VarsMath.varsOf l).length := by rw [H8.out]; exact hK8
  obtain ⟨g3, e', _, hg3, n0, _⟩ := TBool.own (HN5.out.on hb58) K hkl
  cases e'
  have HCE := Lib.hid (BelowKit.bl_trans HC5.out hb58)
  have hgd : (VarsMath.varsOf l).getD K false = (VarsMath.varsOf l)[K]'hkl := by simp [hkl]
  obtain ⟨nb, hnb⟩ : ∃ b, (VarsMath.varsOf l)[K]'hkl = b := ⟨_, rfl⟩
  rw [hnb] at n0 hgd
  have HGD := Lib.hid hgd
  have hg31 : g3 < w8.heap.size + 1 := by omega
  clear hb58 hb8 HXC HB7 HST hnb hgd
  cases nb with
  | true =>
    clear HGD
    go_wp2
    go_ret
    exact ⟨rfl, BelowKit.bl_alloc HCE.out⟩
  | false =>
  cases ok with
  | false =>
    clear HGD
    go_wp2
    go_ret
    exact ⟨rfl, BelowKit.bl_alloc HCE.out⟩
  | true =>
  cases isy with
  | false =>
    clear HGD
    go_wp2
    go_ret
    exact ⟨rfl, BelowKit.bl_alloc HCE.out⟩
  | true =>
    have hun := VarsLaws.unused (f := ⟨1 + t1 % 50, 1⟩) HL.out HGD.out (by rw [HX.out]) (by rw [HYY.out])
    rw [HX.out, HYY.out] at hun
    obtain ⟨e1, e2⟩ : x1 = y1 ∧ x2 = y2 := ⟨(Prod.mk.inj hun).1, (Prod.mk.inj (Prod.mk.inj hun).2).1⟩
    subst e1
    subst e2
    have heq := fun W => FracEq.eql x1 x2 x1 x2 W
    have hsame : (x1 == x1 && x2 == x2) = true := by simp
    simp only [hsame] at heq
    have hgrd := fun W x y a b c e => FracEq.guard .eql x y #[.int .i64 a, .int .i64 b] #[.int .i64 c, .int .i64 e] W
    clear HGD hun hsame HX HYY
    go_wp2
    go_ret
    exact ⟨rfl, BelowKit.bl_alloc HCE.out⟩

/-! ### THE ROW's STEP: WRITTEN OUT: LEAVE IT -/
set_option maxRecDepth 100000 in
theorem lifted (os : Os) (started : os.Started) (H : Type) (enc : TypeId × Value → H) :
    ReturnsInHanded {} Try.checked os 4 .any (Rows.fnUnusedVarsSpec.pre6 enc Try.prog Try.f4 Rows.fnUnusedVarsRow.domain false) (Rows.fnUnusedVarsSpec.post enc Try.prog Try.f4 false true false false) := by
  refine returnsInHanded_of_change (C := Try.checked) own started (by kernel_rfl) Try.func4
    (ChangeSpec.witness6 (enc := enc) (C := Try.checked) false ⟨#[], #[.slice none 0 0], []⟩ 8 (by kernel_rfl) (by kernel_rfl) (by kernel_rfl) (by kernel_rfl)) ?_
  intro W base args ds gs before hval0 hW hcnd _
  have hval : ∀ (j : Nat) t v, Try.f4.params[j]? = some t → args[j]? = some v → Value.okWide Try.prog W .any base t v := hval0
  have hW' := hW
  obtain ⟨p, q, hA0, hV, rfl, hfz, hnd⟩ := hW
  have hA : DataW.TrodAll enc Try.prog W 0 (fun _ => true) true Try.f4.params.toList args.toList ds p := hA0
  rw [Try.params4] at hA hval
  obtain ⟨v0, vs0, d0, ds0, p0, q0, hargs, rfl, rfl, h0, r0⟩ := trodAll_cons hA
  obtain ⟨rfl, rfl, rfl⟩ := trodAll_nil r0
  obtain rfl : args = #[v0] := by cases args; simp_all
  obtain ⟨rfl, rfl⟩ := trodVars_none hV
  obtain ⟨a0, len0, cap0, rfl⟩ := okWide_slice Try.underlying22 (hval 0 22 v0 rfl rfl)
  have k0 := h0
  have lt0 : ∀ x ∈ p0, x.block < W.heap.size := by obtain ⟨m, hm⟩ := k0; exact DataW.trod_lt m _ _ _ hm
  obtain ⟨z0, w0⟩ : ∃ zs, IsRow .u8 W a0 len0 cap0 zs := by
    obtain ⟨fuel, hf⟩ := h0
    rcases open_ints Try.underlying22 Try.underlying5 (by kernel_rfl) hf with ⟨hcs, _⟩ | ⟨x, l, c, zs, hcs, _, hl, hm, hz, _, hcell, hwz⟩
    · simp [Value.cells] at hcs
      obtain ⟨rfl, rfl, rfl⟩ := hcs
      exact ⟨[], .inl ⟨rfl, rfl, rfl, rfl⟩⟩
    · simp [Value.cells] at hcs
      obtain ⟨rfl, rfl, rfl⟩ := hcs
      exact ⟨zs, .inr ⟨_, rfl, hl, hm, by simpa using hz, hcell, hwz⟩⟩
  clear hA0 hval0
  refine (walk a0 len0 cap0 z0 W w0).mono fun e W' ⟨he, bel⟩ => ?_
  subst he
  exact ⟨_, rfl, _, _, _, [], _, [], hW', trodAll_mk1 (shut_bool Try.underlying4 _), (trodAll_cons_mk (Below.trod laidOut (by kernel_rfl) (of_decide_eq_true (by kernel_rfl)) k0 bel lt0) trodAll_mk0), rfl, bel.frame _, fun h => by cases h⟩

theorem over : Rows.fnUnusedVarsRow.holds Try.pinned (OpenSpec.ofChange Rows.fnUnusedVarsSpec) :=
  OpenClaim.holds_of_wide 4 Try.f4 rfl rfl rfl rfl rfl rfl rfl ⟨rfl, rfl, rfl, rfl, rfl⟩ rfl rfl rfl rfl rfl (by kernel_rfl) Try.func4 (by kernel_rfl)
    (of_decide_eq_true (by kernel_rfl)) (by unfold Func.isWrapper; first | (rw [if_pos (by decide +kernel)]; kernel_rfl) | (rw [if_neg (by decide +kernel)]; exact ⟨rfl, rfl⟩))
    (fun os started H enc _ => lifted os started H enc)

theorem proved : Rows.FnUnusedVarsSaid := over
#print axioms proved
end Go.Proofs.Ytlljhcfiojfimaa.fnUnusedVars
