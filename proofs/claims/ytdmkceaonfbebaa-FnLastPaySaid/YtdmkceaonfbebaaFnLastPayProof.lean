/- Proves the given statement of the law FnLastPay: for every input that the row lets in, the law's Go function returns true and every argument reads as before; no condition of mine. -/
import Derived.Test.YtdmkceaonfbebaaPayFacts
import Derived.Test.YtdmkceaonfbebaaPayI
import Derived.Test.YtdmkceaonfbebaaDrawPay
import Derived.Test.YtdmkceaonfbebaaDrawRow
import Derived.Test.YtdmkceaonfbebaaKit
import Derived.Test.YtdmkceaonfbebaaRows
import Derived.WalkKit
import Derived.ProofKit
import Derived.OpenShut
import Derived.ShutString
import Derived.ChangeOld
import Derived.Below
namespace Go.Proofs.Ytdmkceaonfbebaa.fnLastPay
open Go.ChangeShapes Go.WideShapes Go.ChangeAt Go.RowKit
open Go.ChangeMaps (open_string shut_string)
set_option linter.unusedVariables false

theorem own : ownKnob Try.prog.godebug = none := by kernel_rfl
theorem laidOut : laidOutB Try.prog = true := by kernel_rfl

/-- WHAT THE WALK IS TOLD OF A SLICE OF INTEGERS THAT CAME IN: it is nil; or it leads to a row of 'cap' cells, the numbers 'zs' (the first 'len' are its elements, the rest its spare room), each fitting its kind. -/
def IsRow (k : IntKind) (w : World) (a : Option Addr) (len cap : Nat) (zs : List Int) : Prop :=
  (a = none ∧ len = 0 ∧ cap = 0 ∧ zs = []) ∨
  ∃ x, a = some x ∧ len ≤ cap ∧ cap ≤ maxLen ∧ zs.length = cap ∧ (∀ i, i < zs.length → w.cell? (x.add i) = some (.int k (zs.getD i 0))) ∧ ∀ n ∈ zs, (Lit.int k n).wf = true

/-! ### STEP 1: THE WALK: the Go text returns true, AND WRITES NOTHING THAT WAS THERE: 'Below w.heap.size w w'' (Derived/Below.lean: '.refl', '.alloc', '.drew', '.setCell' at a new block, '.trans'). Open each 'IsRow' by 'rcases' AHEAD of 'go_enter'; part every test ahead of the walk. -/
set_option maxHeartbeats 4000000 in
set_option maxRecDepth 100000 in
theorem walk (a0 : Option Addr) (len0 cap0 : Nat) (z0 : List Int) (w : World) (w0 : IsRow .u8 w a0 len0 cap0 z0) :
    Calls Try.prog 6 #[.slice a0 len0 cap0] w fun e w' => e = .returned (.bool true) ∧ Below w.heap.size w w' := by
  obtain ⟨hcode, hs⟩ := CurKit.code_at w0
  clear w0
  have HK := Lib.hid hcode
  have HS := Lib.hid hs
  clear hcode
  unfold maxLen at hs
  by_cases hbig : 1048576 < len0
  · go_enter Try.func6, Try.ntmps6
    go_wp2
    go_ret
    exact ⟨rfl, Below.refl _ _⟩
  go_enter Try.func6, Try.ntmps6
  go_wp2_with (go_at_call 11; go_in)
  refine (DrawPay.pay_c _ a0 len0 cap0 HK.out HS.out).mono ?_
  rintro e w1 ⟨l, p, c, ls, p9, c9, ⟨hpd, hl10, ho⟩, _, _, rfl, _, hb⟩
  obtain ⟨m, hm⟩ : ∃ m, l.length = m := ⟨_, rfl⟩
  have HM := Lib.hid hm
  rw [hm] at ho hl10 ⊢
  obtain ⟨m9, hm9⟩ : ∃ m, ls.length = m := ⟨_, rfl⟩
  rw [hm9]
  have HP := Lib.hid hpd
  have hk99 : (0 : Int) ≤ 99 := by omega
  have hb2 := BelowKit.bl_trans hb (show Below w1.heap.size w1 ((w1.alloc (.cells #[.slice p m c] 26)).alloc (.cells #[.slice p9 m9 c9] 29)) by (repeat (first | exact Below.refl _ _ | apply BelowKit.bl_alloc | apply BelowKit.bl_drewN | apply BelowKit.bl_drew | (refine BelowKit.bl_set ?_ _ ?_; rotate_left; (first | omega | (simp; omega) | simp)) | (refine BelowKit.bl_trans ?_ (‹Hid (Below _ _ _)›).out))))
  have HO1 := Lib.hid (ho.on (show Below w1.heap.size w1 ((w1.alloc (.cells #[.slice p m c] 26)).alloc (.cells #[.slice p9 m9 c9] 29)) by (repeat (first | exact Below.refl _ _ | apply BelowKit.bl_alloc | apply BelowKit.bl_drewN | apply BelowKit.bl_drew | (refine BelowKit.bl_set ?_ _ ?_; rotate_left; (first | omega | (simp; omega) | simp)) | (refine BelowKit.bl_trans ?_ (‹Hid (Below _ _ _)›).out)))))
  have HC1 := Lib.hid hb2
  clear hpd ho hb hb2 hm hm9
  have c1 : ((w1.alloc (.cells #[.slice p m c] 26)).alloc (.cells #[.slice p9 m9 c9] 29)).cell? ⟨w1.heap.size, 0, none⟩ = some (.slice p m c) := by simp [go_sem]
  have z1 : w1.heap.size < ((w1.alloc (.cells #[.slice p m c] 26)).alloc (.cells #[.slice p9 m9 c9] 29)).heap.size := by simp; omega
  go_wp2_with fail
  refine (DrawRow.places_c _ a0 len0 cap0 (fun j hj => by obtain ⟨blk, off, n, e, h1, h2, h3⟩ := HK.out j hj; exact ⟨blk, off, n, e, Nat.lt_of_lt_of_le h1 HC1.out.size, ((BelowKit.bcell HC1.out).1 _ _ h1).trans h2, h3⟩) HS.out).mono ?_
  rintro e w2 ⟨l2, a2, cap2, hl2, hin, rfl, ho2, hb⟩
  obtain ⟨g2, rfl, _, hg2, d0, _⟩ := ho2.at 0 (by omega)
  have d1 := (ho2.cell 1 (by omega)).1
  have i0 := hin.get 0 (by omega)
  have i1 := hin.get 1 (by omega)
  obtain ⟨t0, ht0⟩ : ∃ t, l2[0] = t := ⟨_, rfl⟩
  obtain ⟨t1, ht1⟩ : ∃ t, l2[1] = t := ⟨_, rfl⟩
  rw [ht0] at d0 i0
  rw [ht1] at d1 i1
  change _ = some (Value.int .i64 t0) at d0
  change _ = some (Value.int .i64 t1) at d1
  obtain ⟨i00, i01⟩ := i0
  obtain ⟨i10, i11⟩ := i1
  clear ht0 ht1 hin hl2 ho2
  have c2 := ((BelowKit.bcell hb).1 _ 0 z1).trans c1
  have z2 := Nat.lt_of_lt_of_le z1 hb.size
  have HO2 := Lib.hid (HO1.out.on hb)
  have HC2 := Lib.hid (BelowKit.bl_trans HC1.out hb)
  clear hb c1 z1 HO1 HC1
  obtain ⟨M, hM⟩ : ∃ k, 1 + t0 % 59 = k := ⟨_, rfl⟩
  obtain ⟨K, hK⟩ : ∃ k, t1 % 99 = k := ⟨_, rfl⟩
  have m0 : 1 ≤ M := by omega
  have m1 : M ≤ 59 := by omega
  have k0 : 0 ≤ K := by omega
  obtain ⟨v, hv, _⟩ := HP.out.pv (m := M - 1) (kn := K) (by omega) (by omega) k0
  obtain ⟨u, hu, _⟩ := HP.out.pv (m := 59) (kn := K) (by omega) (by omega) k0
  have F1 := Lib.hid (show PayMath.fin l M K = (v, true) by rw [PayFacts.fin_paid HP.out k0 m0 (by omega)]; exact hv)
  have F2 := Lib.hid (show FactMath.val 1 (M - 1) K l = (v, true) from hv)
  have F3 := Lib.hid (show PayMath.fin l 500 K = (u, true) by rw [PayFacts.fin_far HP.out k0 (by omega) (by omega)]; exact hu)
  have F4 := Lib.hid (show FactMath.val 1 59 K l = (u, true) from hu)
  have F5 := Lib.hid (PayFacts.fin_none l K)
  clear hv hu
  have W1 : IntKind.i64.wrap (M - 1) = M - 1 := IntWalk.i64_in _ (by omega)
  go_wp2_with fail
  clear d0 d1 i00 i01 i10 i11 hg2
  refine (PayI.fin_i _ p m c l M K HM.out (by omega) (RowN.reads_own Fact.fw HO2.out)).mono ?_
  rintro e w3 ⟨rfl, hb⟩
  rw [F1.out]
  have c3 := ((BelowKit.bcell hb).1 _ 0 z2).trans c2
  have z3 := Nat.lt_of_lt_of_le z2 hb.size
  have HO3 := Lib.hid (HO2.out.on hb)
  have HC3 := Lib.hid (BelowKit.bl_trans HC2.out hb)
  clear hb c2 z2 HO2 HC2
  go_wp2_with fail
  refine (ValueAt.val_s _ p m c l 1 (M - 1) K HM.out (by omega) (RowN.reads_own Fact.fw HO3.out)).mono ?_
  rintro e w4 ⟨rfl, hb⟩
  rw [F2.out]
  have c4 := ((BelowKit.bcell hb).1 _ 0 z3).trans c3
  have z4 := Nat.lt_of_lt_of_le z3 hb.size
  have HO4 := Lib.hid (HO3.out.on hb)
  have HC4 := Lib.hid (BelowKit.bl_trans HC3.out hb)
  clear hb c3 z3 HO3 HC3
  go_wp2_with fail
  refine (PayI.fin_i _ p m c l 500 K HM.out (by omega) (RowN.reads_own Fact.fw HO4.out)).mono ?_
  rintro e w5 ⟨rfl, hb⟩
  rw [F3.out]
  have c5 := ((BelowKit.bcell hb).1 _ 0 z4).trans c4
  have z5 := Nat.lt_of_lt_of_le z4 hb.size
  have HO5 := Lib.hid (HO4.out.on hb)
  have HC5 := Lib.hid (BelowKit.bl_trans HC4.out hb)
  clear hb c4 z4 HO4 HC4
  go_wp2_with fail
  refine (ValueAt.val_s _ p m c l 1 59 K HM.out (by omega) (RowN.reads_own Fact.fw HO5.out)).mono ?_
  rintro e w6 ⟨rfl, hb⟩
  rw [F4.out]
  have c6 := ((BelowKit.bcell hb).1 _ 0 z5).trans c5
  have z6 := Nat.lt_of_lt_of_le z5 hb.size
  have HO6 := Lib.hid (HO5.out.on hb)
  have HC6 := Lib.hid (BelowKit.bl_trans HC5.out hb)
  clear hb c5 z5 HO5 HC5
  go_wp2_with fail
  refine (PayI.fin_i _ p m c l 0 K HM.out (by omega) (RowN.reads_own Fact.fw HO6.out)).mono ?_
  rintro e w7 ⟨rfl, hb⟩
  rw [F5.out]
  have c7 := ((BelowKit.bcell hb).1 _ 0 z6).trans c6
  have z7 := Nat.lt_of_lt_of_le z6 hb.size
  have HO7 := Lib.hid (HO6.out.on hb)
  have HC7 := Lib.hid (BelowKit.bl_trans HC6.out hb)
  clear hb c6 z6 HO6 HC6
  clear W1
  go_wp2
  go_ret
  exact ⟨rfl, HC7.out⟩

/-! ### THE ROW's STEP: WRITTEN OUT: LEAVE IT -/
set_option maxRecDepth 100000 in
theorem lifted (os : Os) (started : os.Started) (H : Type) (enc : TypeId × Value → H) :
    ReturnsInHanded {} Try.checked os 6 .any (Rows.fnLastPaySpec.pre6 enc Try.prog Try.f6 Rows.fnLastPayRow.domain false) (Rows.fnLastPaySpec.post enc Try.prog Try.f6 false true false false) := by
  refine returnsInHanded_of_change (C := Try.checked) own started (by kernel_rfl) Try.func6
    (ChangeSpec.witness6 (enc := enc) (C := Try.checked) false ⟨#[], #[.slice none 0 0], []⟩ 8 (by kernel_rfl) (by kernel_rfl) (by kernel_rfl) (by kernel_rfl)) ?_
  intro W base args ds gs before hval0 hW hcnd _
  have hval : ∀ (j : Nat) t v, Try.f6.params[j]? = some t → args[j]? = some v → Value.okWide Try.prog W .any base t v := hval0
  have hW' := hW
  obtain ⟨p, q, hA0, hV, rfl, hfz, hnd⟩ := hW
  have hA : DataW.TrodAll enc Try.prog W 0 (fun _ => true) true Try.f6.params.toList args.toList ds p := hA0
  rw [Try.params6] at hA hval
  obtain ⟨v0, vs0, d0, ds0, p0, q0, hargs, rfl, rfl, h0, r0⟩ := trodAll_cons hA
  obtain ⟨rfl, rfl, rfl⟩ := trodAll_nil r0
  obtain rfl : args = #[v0] := by cases args; simp_all
  obtain ⟨rfl, rfl⟩ := trodVars_none hV
  obtain ⟨a0, len0, cap0, rfl⟩ := okWide_slice Try.underlying22 (hval 0 22 v0 rfl rfl)
  have k0 := h0
  have lt0 : ∀ x ∈ p0, x.block < W.heap.size := by obtain ⟨m, hm⟩ := k0; exact DataW.trod_lt m _ _ _ hm
  obtain ⟨z0, w0⟩ : ∃ zs, IsRow .u8 W a0 len0 cap0 zs := by
    obtain ⟨fuel, hf⟩ := h0
    rcases open_ints Try.underlying22 Try.underlying5 (by kernel_rfl) hf with ⟨hcs, _⟩ | ⟨x, l, c, zs, hcs, _, hl, hm, hz, _, hcell, hwz⟩
    · simp [Value.cells] at hcs
      obtain ⟨rfl, rfl, rfl⟩ := hcs
      exact ⟨[], .inl ⟨rfl, rfl, rfl, rfl⟩⟩
    · simp [Value.cells] at hcs
      obtain ⟨rfl, rfl, rfl⟩ := hcs
      exact ⟨zs, .inr ⟨_, rfl, hl, hm, by simpa using hz, hcell, hwz⟩⟩
  clear hA0 hval0
  refine (walk a0 len0 cap0 z0 W w0).mono fun e W' ⟨he, bel⟩ => ?_
  subst he
  exact ⟨_, rfl, _, _, _, [], _, [], hW', trodAll_mk1 (shut_bool Try.underlying4 _), (trodAll_cons_mk (Below.trod laidOut (by kernel_rfl) (of_decide_eq_true (by kernel_rfl)) k0 bel lt0) trodAll_mk0), rfl, bel.frame _, fun h => by cases h⟩

theorem over : Rows.fnLastPayRow.holds Try.pinned (OpenSpec.ofChange Rows.fnLastPaySpec) :=
  OpenClaim.holds_of_wide 6 Try.f6 rfl rfl rfl rfl rfl rfl rfl ⟨rfl, rfl, rfl, rfl, rfl⟩ rfl rfl rfl rfl rfl (by kernel_rfl) Try.func6 (by kernel_rfl)
    (of_decide_eq_true (by kernel_rfl)) (by unfold Func.isWrapper; first | (rw [if_pos (by decide +kernel)]; kernel_rfl) | (rw [if_neg (by decide +kernel)]; exact ⟨rfl, rfl⟩))
    (fun os started H enc _ => lifted os started H enc)

theorem proved : Rows.FnLastPaySaid := over
#print axioms proved
end Go.Proofs.Ytdmkceaonfbebaa.fnLastPay
