/- Proves the given statement of the law FnInserted: for every input that the row lets in, the law's Go function returns true and every argument reads as before; no condition of mine. -/
import Derived.Test.YtkoeodmneedjcaaSpellLaws
import Derived.Test.YtkoeodmneedjcaaSpellI
import Derived.Test.YtkoeodmneedjcaaSpAddI
import Derived.Test.YtkoeodmneedjcaaSpellS
import Derived.Test.YtkoeodmneedjcaaDrawSpell
import Derived.Test.YtkoeodmneedjcaaDrawRow
import Derived.Test.YtkoeodmneedjcaaKit
import Derived.Test.YtkoeodmneedjcaaRows
import Derived.WalkKit
import Derived.ProofKit
import Derived.OpenShut
import Derived.ShutString
import Derived.ChangeOld
import Derived.Below
namespace Go.Proofs.Ytkoeodmneedjcaa.fnInserted
open Go.ChangeShapes Go.WideShapes Go.ChangeAt Go.RowKit
open Go.ChangeMaps (open_string shut_string)
set_option linter.unusedVariables false

theorem own : ownKnob Try.prog.godebug = none := by kernel_rfl
theorem laidOut : laidOutB Try.prog = true := by kernel_rfl

/-- WHAT THE WALK IS TOLD OF A SLICE OF INTEGERS THAT CAME IN: it is nil; or it leads to a row of 'cap' cells, the numbers 'zs' (the first 'len' are its elements, the rest its spare room), each fitting its kind. -/
def IsRow (k : IntKind) (w : World) (a : Option Addr) (len cap : Nat) (zs : List Int) : Prop :=
  (a = none ∧ len = 0 ∧ cap = 0 ∧ zs = []) ∨
  ∃ x, a = some x ∧ len ≤ cap ∧ cap ≤ maxLen ∧ zs.length = cap ∧ (∀ i, i < zs.length → w.cell? (x.add i) = some (.int k (zs.getD i 0))) ∧ ∀ n ∈ zs, (Lit.int k n).wf = true

/-! ### STEP 1: THE WALK: the Go text returns true, AND WRITES NOTHING THAT WAS THERE: 'Below w.heap.size w w'' (Derived/Below.lean: '.refl', '.alloc', '.drew', '.setCell' at a new block, '.trans'). Open each 'IsRow' by 'rcases' AHEAD of 'go_enter'; part every test ahead of the walk. -/
set_option maxHeartbeats 8000000 in
set_option maxRecDepth 100000 in
theorem walk (a0 : Option Addr) (len0 cap0 : Nat) (z0 : List Int) (w : World) (w0 : IsRow .u8 w a0 len0 cap0 z0) :
    Calls Try.prog 5 #[.slice a0 len0 cap0] w fun e w' => e = .returned (.bool true) ∧ Below w.heap.size w w' := by
  obtain ⟨hcode, hs⟩ := CurKit.code_at w0
  clear w0
  have HK := Lib.hid hcode
  have HS := Lib.hid hs
  clear hcode
  unfold maxLen at hs
  by_cases hbig : 1048576 < len0
  · go_enter Try.func5, Try.ntmps5
    go_wp2
    go_ret
    exact ⟨rfl, Below.refl _ _⟩
  go_enter Try.func5, Try.ntmps5
  go_wp2_with (go_at_call 11; go_in)
  refine (DrawSpell.draw_c _ a0 len0 cap0 HK.out HS.out).mono ?_
  rintro e w1 ⟨l, p, c, hd, rfl, ho, hb⟩
  have HD := Lib.hid hd
  have hok := hd.ok
  have HOK := Lib.hid hok
  have HYES := Lib.hid (SpellMath.okB_yes hok)
  have hl6 := hd.len
  obtain ⟨m, hm⟩ : ∃ m, l.length = m := ⟨_, rfl⟩
  have HM := Lib.hid hm
  rw [hm] at ho hl6 ⊢
  have HO1 := Lib.hid ho
  have HC1 := Lib.hid hb
  clear hd hok ho hb hm
  go_wp2_with fail
  refine (DrawRow.places_c _ a0 len0 cap0 (fun j hj => by obtain ⟨blk, off, n, e, h1, h2, h3⟩ := HK.out j hj; exact ⟨blk, off, n, e, by have := HC1.out.size; simp; omega, ((BelowKit.bcell HC1.out).1 _ _ h1).trans h2, h3⟩) HS.out).mono ?_
  rintro e w2 ⟨l2, a2, cap2, hl2, hin, rfl, ho2, hb⟩
  obtain ⟨g2, rfl, _, hg2, c20, _⟩ := ho2.at 0 (by omega)
  have c21 := (ho2.cell 1 (by omega)).1
  have c22 := (ho2.cell 2 (by omega)).1
  have i0 := hin.get 0 (by omega)
  have i1 := hin.get 1 (by omega)
  have i2 := hin.get 2 (by omega)
  obtain ⟨t0, ht0⟩ : ∃ t, l2[0] = t := ⟨_, rfl⟩
  obtain ⟨t1, ht1⟩ : ∃ t, l2[1] = t := ⟨_, rfl⟩
  obtain ⟨t2, ht2⟩ : ∃ t, l2[2] = t := ⟨_, rfl⟩
  rw [ht0] at c20 i0
  rw [ht1] at c21 i1
  rw [ht2] at c22 i2
  obtain ⟨i00, i01⟩ := i0
  obtain ⟨i10, i11⟩ := i1
  obtain ⟨i20, i21⟩ := i2
  have HO2 := Lib.hid (HO1.out.on hb)
  have HC2 := Lib.hid (BelowKit.bl_trans HC1.out hb)
  clear ht0 ht1 ht2 hin hl2 ho2 hb HO1 HC1
  obtain ⟨f0, hf0⟩ : ∃ k, t0.tmod 50 = k := ⟨_, rfl⟩
  obtain ⟨f1, hf1⟩ : ∃ k, t1.tmod 50 = k := ⟨_, rfl⟩
  obtain ⟨f2, hf2⟩ : ∃ k, t2.tmod 100 = k := ⟨_, rfl⟩
  have g00 : 0 ≤ f0 ∧ f0 ≤ 49 := by rw [← hf0, Int.tmod_eq_emod_of_nonneg i00]; omega
  have g01 : 0 ≤ f1 ∧ f1 ≤ 49 := by rw [← hf1, Int.tmod_eq_emod_of_nonneg i10]; omega
  have g02 : 0 ≤ f2 ∧ f2 ≤ 99 := by rw [← hf2, Int.tmod_eq_emod_of_nonneg i20]; omega
  obtain ⟨F, hF⟩ : ∃ k, 300 + f0 = k := ⟨_, rfl⟩
  obtain ⟨T, hT⟩ : ∃ k, 360 + f1 = k := ⟨_, rfl⟩
  obtain ⟨P, hP⟩ : ∃ k, 1 + f2 = k := ⟨_, rfl⟩
  have W1 : IntKind.i64.wrap (300 + f0) = F := by rw [hF]; exact IntWalk.i64_in _ (by omega)
  have W2 : IntKind.i64.wrap (360 + f1) = T := by rw [hT]; exact IntWalk.i64_in _ (by omega)
  have W3 : IntKind.i64.wrap (1 + f2) = P := by rw [hP]; exact IntWalk.i64_in _ (by omega)
  have HX := Lib.hid (show 300 ≤ F ∧ F ≤ 349 ∧ 360 ≤ T ∧ T ≤ 409 ∧ 1 ≤ P ∧ P ≤ 100 by omega)
  clear hF hT hP g00 g01 g02 i01 i11 i21
  have c20 : w2.cell? ⟨g2, 0, none⟩ = some (.int .i64 t0) := c20
  have c21 : w2.cell? ⟨g2, 1, none⟩ = some (.int .i64 t1) := c21
  have c22 : w2.cell? ⟨g2, 2, none⟩ = some (.int .i64 t2) := c22
  go_wp2_with fail
  go_region_held3 (fun W => W.cell? ⟨g2, 0, none⟩ = some (.int .i64 t0) ∧ W.cell? ⟨g2, 1, none⟩ = some (.int .i64 t1) ∧ W.cell? ⟨g2, 2, none⟩ = some (.int .i64 t2)) (go_keep) (fail)
  generalize hW : (w2.alloc _).drew = w3
  have k0 : w3.cell? ⟨w2.heap.size, 0, none⟩ = some (.int .i64 F) := by rw [← hW]; simp [go_sem]
  have k1 : w3.cell? ⟨w2.heap.size, 1, none⟩ = some (.int .i64 T) := by rw [← hW]; simp [go_sem]
  have k2 : w3.cell? ⟨w2.heap.size, 2, none⟩ = some (.int .i64 P) := by rw [← hW]; simp [go_sem]
  have k3 : w3.cell? ⟨w2.heap.size, 3, none⟩ = some (.bool false) := by rw [← hW]; simp [go_sem]
  have hz3 : w2.heap.size < w3.heap.size := by rw [← hW]; show _ < (w2.heap.push _).size; simp
  have hb23 : Below w2.heap.size w2 w3 := by rw [← hW]; exact ((Below.refl _ _).alloc (Nat.le_refl _) _).drew
  have HO3 := Lib.hid (HO2.out.on hb23)
  have HC3 := Lib.hid (BelowKit.bl_trans HC2.out hb23)
  obtain ⟨bx, hbx⟩ : ∃ b, w2.heap.size = b := ⟨_, rfl⟩
  rw [hbx] at k0 k1 k2 k3 hz3 ⊢
  obtain ⟨x, hx⟩ : ∃ x : TSpell.El, x = ⟨F, T, P, false⟩ := ⟨_, rfl⟩
  have HXX := Lib.hid hx
  have HAF := Lib.hid (show SpellLaws.After l x P (T - F) from SpellLaws.after_of HOK.out (by rw [HM.out]; omega) (fun y hy => by have := HD.out.top y hy; have := HX.out; rw [hx]; show y.To ≤ F; omega) (by have := HX.out; rw [hx]; exact (show 0 ≤ F ∧ F < T ∧ T ≤ 3600 ∧ 1 ≤ P ∧ P ≤ 100 by omega)) (by rw [hx]) (by rw [hx]) (by rw [hx]))
  have HL1 := Lib.hid (show (l ++ [x]).length = m + 1 by simp [HM.out])
  clear hW hb23 hbx W1 W2 W3 c20 c21 c22 hf0 hf1 hf2 HO2 HC2 hg2 hx i00 i10 i20
  go_wp2_with fail
  have HAD := SpAddI.add_i w3 p m c l x HM.out (by omega) (RowRoom.own_cap HO3.out) (RowN.reads_own TSpell.fw HO3.out)
  rw [HAF.out.add1, HAF.out.add2, HXX.out] at HAD
  unfold TSpell.fv at HAD
  refine HAD.mono ?_
  rintro e w4 ⟨p4, c4, rfl, ho, hb⟩
  rw [← HXX.out] at ho ⊢
  rw [HL1.out] at ho ⊢
  have HO4 := Lib.hid ho
  have HP4 := Lib.hid (HO3.out.on hb)
  have k0 := ((BelowKit.bcell hb).1 _ _ hz3).trans k0
  have k1 := ((BelowKit.bcell hb).1 _ _ hz3).trans k1
  have k2 := ((BelowKit.bcell hb).1 _ _ hz3).trans k2
  have k3 := ((BelowKit.bcell hb).1 _ _ hz3).trans k3
  have hz4 : bx < w4.heap.size := Nat.lt_of_lt_of_le hz3 hb.size
  have HC4 := Lib.hid (BelowKit.bl_trans HC3.out hb)
  clear HAD ho hb HO3 HC3 hz3
  go_wp2_with fail
  have HAD := SpAddI.add_i w4 p4 (m + 1) c4 (l ++ [x]) x HL1.out (by omega) (RowRoom.own_cap HO4.out) (RowN.reads_own TSpell.fw HO4.out)
  rw [HAF.out.twice] at HAD
  rw [HXX.out] at HAD
  unfold TSpell.fv at HAD
  refine HAD.mono ?_
  rintro e w5 ⟨p5, c5, rfl, ho, hb⟩
  clear ho
  rw [← HXX.out]
  generalize (SpellMath.added (l ++ [x]) x).1.length = n5
  have HO5 := Lib.hid (HO4.out.on hb)
  have HP5 := Lib.hid (HP4.out.on hb)
  have k0 := ((BelowKit.bcell hb).1 _ _ hz4).trans k0
  have k1 := ((BelowKit.bcell hb).1 _ _ hz4).trans k1
  have k2 := ((BelowKit.bcell hb).1 _ _ hz4).trans k2
  have hz5 : bx < w5.heap.size := Nat.lt_of_lt_of_le hz4 hb.size
  have HC5 := Lib.hid (BelowKit.bl_trans HC4.out hb)
  clear HAD hb HO4 HP4 HC4 hz4
  have HR5 := Lib.hid (show ∀ W', Below w5.heap.size w5 W' → RowN.Reads TSpell.fc 4 W' p4 (l ++ [x]) from fun W' h => (RowN.reads_own TSpell.fw HO5.out).on h)
  have HQ5 := Lib.hid (show ∀ W', Below w5.heap.size w5 W' → RowN.Reads TSpell.fc 4 W' p l from fun W' h => (RowN.reads_own TSpell.fw HP5.out).on h)
  have HKP := Lib.hid (show ∀ W', Below w5.heap.size w5 W' → (W'.cell? ⟨bx, 0, none⟩ = some (.int .i64 F) ∧ W'.cell? ⟨bx, 1, none⟩ = some (.int .i64 T) ∧ W'.cell? ⟨bx, 2, none⟩ = some (.int .i64 P)) from fun W' h =>
    ⟨((BelowKit.bcell h).1 _ _ hz5).trans k0, ((BelowKit.bcell h).1 _ _ hz5).trans k1, ((BelowKit.bcell h).1 _ _ hz5).trans k2⟩)
  obtain ⟨V1, hV1⟩ : ∃ z, SpellMath.svc l 0 3600 = z := ⟨_, rfl⟩
  obtain ⟨V2, hV2⟩ : ∃ z, SpellMath.svc (l ++ [x]) 0 3600 = z := ⟨_, rfl⟩
  have HV1 := Lib.hid hV1
  have HV2 := Lib.hid hV2
  have hv := HAF.out.svc
  rw [hV1, hV2] at hv
  have hbd := SpellLaws.svc_bd HOK.out 0 3600
  rw [hV1] at hbd
  have hxx := HX.out
  have hpm : 0 ≤ P * (T - F) := Int.mul_nonneg (by omega) (by omega)
  have hpm2 : P * (T - F) ≤ 100 * 3600 := Int.mul_le_mul (by omega) (by omega) (by omega) (by omega)
  have W1 : IntKind.i64.wrap (T - F) = T - F := IntWalk.i64_in _ (by omega)
  have W2 : IntKind.i64.wrap (P * (T - F)) = P * (T - F) := IntWalk.i64_in _ (by omega)
  have W3 : IntKind.i64.wrap (V1 + P * (T - F)) = V2 := by rw [hv]; exact IntWalk.i64_in _ (by omega)
  have W4 : IntKind.i64.wrap ((m : Int) + 1) = (m : Int) + 1 := IntWalk.i64_in _ (by omega)
  have HM1 := Lib.hid (show m + 1 ≤ 1048576 by omega)
  have HM0 := Lib.hid (show m ≤ 1048576 by omega)
  clear hV1 hV2 hv hbd hxx hpm hpm2 HO5 HP5 k3
  go_wp2_with fail
  go_region_held3 (fun W => W.cell? ⟨bx, 0, none⟩ = some (.int .i64 F) ∧ W.cell? ⟨bx, 1, none⟩ = some (.int .i64 T) ∧ W.cell? ⟨bx, 2, none⟩ = some (.int .i64 P))
    (first | exact HKP.out _ HB8.out | exact HKP.out _ HB7.out | exact HKP.out _ HB6.out | exact HKP.out _ (below_drewN (Below.refl _ _) _) | go_keep)
    (first
      | ((go_at_call 16; (with_reducible refine (SpellI.ok_i _ p4 (m + 1) c4 (l ++ [x]) HL1.out (Nat.le_trans HM1.out (by decide)) (HR5.out _ (by first | exact (Below.refl _ _).drew | exact below_drewN (Below.refl _ _) _ | exact Below.refl _ _))).mono ?_); rintro e w6 ⟨rfl, hb6⟩; have HB6 := Lib.hid (show Below w5.heap.size w5 w6 from BelowKit.bl_trans (by first | exact (Below.refl _ _).drew | exact below_drewN (Below.refl _ _) _ | exact Below.refl _ _) hb6); rw [HAF.out.ok]; clear hb6))
      | ((go_at_call 15; (with_reducible refine (SpellI.svc_i _ p4 (m + 1) c4 (l ++ [x]) 0 3600 HL1.out (Nat.le_trans HM1.out (by decide)) (HR5.out _ (by first | exact HB6.out | exact HB6.out.drew | exact below_drewN HB6.out _))).mono ?_); rintro e w7 ⟨rfl, hb7⟩; have HB7 := Lib.hid (show Below w5.heap.size w5 w7 from BelowKit.bl_trans (by first | exact HB6.out | exact HB6.out.drew | exact below_drewN HB6.out _) hb7); rw [HV2.out]; clear hb7))
      | ((go_at_call 19; (with_reducible refine (SpellS.svc_s _ p m c l 0 3600 HM.out (Nat.le_trans HM0.out (by decide)) (HQ5.out _ (by first | exact HB7.out | exact HB7.out.drew | exact below_drewN HB7.out _))).mono ?_); rintro e w8 ⟨rfl, hb8⟩; have HB8 := Lib.hid (show Below w5.heap.size w5 w8 from BelowKit.bl_trans (by first | exact HB7.out | exact HB7.out.drew | exact below_drewN HB7.out _) hb8); rw [HV1.out]; clear hb8)))
  all_goals
    go_wp2
    go_ret
    exact ⟨rfl, BelowKit.bl_trans HC5.out HB8.out⟩

/-! ### THE ROW's STEP: WRITTEN OUT: LEAVE IT -/
set_option maxRecDepth 100000 in
theorem lifted (os : Os) (started : os.Started) (H : Type) (enc : TypeId × Value → H) :
    ReturnsInHanded {} Try.checked os 5 .any (Rows.fnInsertedSpec.pre6 enc Try.prog Try.f5 Rows.fnInsertedRow.domain false) (Rows.fnInsertedSpec.post enc Try.prog Try.f5 false true false false) := by
  refine returnsInHanded_of_change (C := Try.checked) own started (by kernel_rfl) Try.func5
    (ChangeSpec.witness6 (enc := enc) (C := Try.checked) false ⟨#[], #[.slice none 0 0], []⟩ 8 (by kernel_rfl) (by kernel_rfl) (by kernel_rfl) (by kernel_rfl)) ?_
  intro W base args ds gs before hval0 hW hcnd _
  have hval : ∀ (j : Nat) t v, Try.f5.params[j]? = some t → args[j]? = some v → Value.okWide Try.prog W .any base t v := hval0
  have hW' := hW
  obtain ⟨p, q, hA0, hV, rfl, hfz, hnd⟩ := hW
  have hA : DataW.TrodAll enc Try.prog W 0 (fun _ => true) true Try.f5.params.toList args.toList ds p := hA0
  rw [Try.params5] at hA hval
  obtain ⟨v0, vs0, d0, ds0, p0, q0, hargs, rfl, rfl, h0, r0⟩ := trodAll_cons hA
  obtain ⟨rfl, rfl, rfl⟩ := trodAll_nil r0
  obtain rfl : args = #[v0] := by cases args; simp_all
  obtain ⟨rfl, rfl⟩ := trodVars_none hV
  obtain ⟨a0, len0, cap0, rfl⟩ := okWide_slice Try.underlying22 (hval 0 22 v0 rfl rfl)
  have k0 := h0
  have lt0 : ∀ x ∈ p0, x.block < W.heap.size := by obtain ⟨m, hm⟩ := k0; exact DataW.trod_lt m _ _ _ hm
  obtain ⟨z0, w0⟩ : ∃ zs, IsRow .u8 W a0 len0 cap0 zs := by
    obtain ⟨fuel, hf⟩ := h0
    rcases open_ints Try.underlying22 Try.underlying5 (by kernel_rfl) hf with ⟨hcs, _⟩ | ⟨x, l, c, zs, hcs, _, hl, hm, hz, _, hcell, hwz⟩
    · simp [Value.cells] at hcs
      obtain ⟨rfl, rfl, rfl⟩ := hcs
      exact ⟨[], .inl ⟨rfl, rfl, rfl, rfl⟩⟩
    · simp [Value.cells] at hcs
      obtain ⟨rfl, rfl, rfl⟩ := hcs
      exact ⟨zs, .inr ⟨_, rfl, hl, hm, by simpa using hz, hcell, hwz⟩⟩
  clear hA0 hval0
  refine (walk a0 len0 cap0 z0 W w0).mono fun e W' ⟨he, bel⟩ => ?_
  subst he
  exact ⟨_, rfl, _, _, _, [], _, [], hW', trodAll_mk1 (shut_bool Try.underlying4 _), (trodAll_cons_mk (Below.trod laidOut (by kernel_rfl) (of_decide_eq_true (by kernel_rfl)) k0 bel lt0) trodAll_mk0), rfl, bel.frame _, fun h => by cases h⟩

theorem over : Rows.fnInsertedRow.holds Try.pinned (OpenSpec.ofChange Rows.fnInsertedSpec) :=
  OpenClaim.holds_of_wide 5 Try.f5 rfl rfl rfl rfl rfl rfl rfl ⟨rfl, rfl, rfl, rfl, rfl⟩ rfl rfl rfl rfl rfl (by kernel_rfl) Try.func5 (by kernel_rfl)
    (of_decide_eq_true (by kernel_rfl)) (by unfold Func.isWrapper; first | (rw [if_pos (by decide +kernel)]; kernel_rfl) | (rw [if_neg (by decide +kernel)]; exact ⟨rfl, rfl⟩))
    (fun os started H enc _ => lifted os started H enc)

theorem proved : Rows.FnInsertedSaid := over
#print axioms proved
end Go.Proofs.Ytkoeodmneedjcaa.fnInserted
