/- Proves the given statement of the law FnSettled: for every input that the row lets in, the law's Go function returns true and every argument reads as before; no condition of mine. -/
import Derived.Test.YtgdniakncjjggaaAccLaws
import Derived.Test.YtgdniakncjjggaaAccI
import Derived.Test.YtgdniakncjjggaaDrawAcc
import Derived.Test.YtgdniakncjjggaaDrawRow
import Derived.Test.YtgdniakncjjggaaKit
import Derived.Test.YtgdniakncjjggaaRows
import Derived.WalkKit
import Derived.ProofKit
import Derived.OpenShut
import Derived.ShutString
import Derived.ChangeOld
import Derived.Below
namespace Go.Proofs.Ytgdniakncjjggaa.fnSettled
open Go.ChangeShapes Go.WideShapes Go.ChangeAt Go.RowKit
open Go.ChangeMaps (open_string shut_string)
set_option linter.unusedVariables false

theorem own : ownKnob Try.prog.godebug = none := by kernel_rfl
theorem laidOut : laidOutB Try.prog = true := by kernel_rfl

/-- WHAT THE WALK IS TOLD OF A SLICE OF INTEGERS THAT CAME IN: it is nil; or it leads to a row of 'cap' cells, the numbers 'zs' (the first 'len' are its elements, the rest its spare room), each fitting its kind. -/
def IsRow (k : IntKind) (w : World) (a : Option Addr) (len cap : Nat) (zs : List Int) : Prop :=
  (a = none ∧ len = 0 ∧ cap = 0 ∧ zs = []) ∨
  ∃ x, a = some x ∧ len ≤ cap ∧ cap ≤ maxLen ∧ zs.length = cap ∧ (∀ i, i < zs.length → w.cell? (x.add i) = some (.int k (zs.getD i 0))) ∧ ∀ n ∈ zs, (Lit.int k n).wf = true

/-! ### STEP 1: THE WALK: the Go text returns true, AND WRITES NOTHING THAT WAS THERE: 'Below w.heap.size w w'' (Derived/Below.lean: '.refl', '.alloc', '.drew', '.setCell' at a new block, '.trans'). Open each 'IsRow' by 'rcases' AHEAD of 'go_enter'; part every test ahead of the walk. -/
set_option maxHeartbeats 4000000 in
set_option maxRecDepth 100000 in
theorem walk (a0 : Option Addr) (len0 cap0 : Nat) (z0 : List Int) (w : World) (w0 : IsRow .u8 w a0 len0 cap0 z0) :
    Calls Try.prog 4 #[.slice a0 len0 cap0] w fun e w' => e = .returned (.bool true) ∧ Below w.heap.size w w' := by
  obtain ⟨hcode, hs⟩ := CurKit.code_at w0
  clear w0
  have HK := Lib.hid hcode
  have HS := Lib.hid hs
  clear hcode
  unfold maxLen at hs
  by_cases hbig : 1048576 < len0
  · go_enter Try.func4, Try.ntmps4
    go_wp2
    go_ret
    exact ⟨rfl, Below.refl _ _⟩
  go_enter Try.func4, Try.ntmps4
  go_wp2_with (go_at_call 10; go_in)
  refine (DrawRow.places_c _ a0 len0 cap0 HK.out HS.out).mono ?_
  rintro e w2 ⟨l2, a2, cap2, hl2, hin, rfl, ho2, hb⟩
  obtain ⟨g2, rfl, _, hg2, d0, _⟩ := ho2.at 0 (by omega)
  have d1 := (ho2.cell 1 (by omega)).1
  have d2 := (ho2.cell 2 (by omega)).1
  have i0 := hin.get 0 (by omega)
  have i1 := hin.get 1 (by omega)
  have i2 := hin.get 2 (by omega)
  obtain ⟨t0, ht0⟩ : ∃ t, l2[0] = t := ⟨_, rfl⟩
  obtain ⟨t1, ht1⟩ : ∃ t, l2[1] = t := ⟨_, rfl⟩
  obtain ⟨t2, ht2⟩ : ∃ t, l2[2] = t := ⟨_, rfl⟩
  rw [ht0] at d0 i0
  rw [ht1] at d1 i1
  rw [ht2] at d2 i2
  change _ = some (Value.int .i64 t0) at d0
  change _ = some (Value.int .i64 t1) at d1
  change _ = some (Value.int .i64 t2) at d2
  obtain ⟨i00, i01⟩ := i0
  obtain ⟨i10, i11⟩ := i1
  obtain ⟨i20, i21⟩ := i2
  have HC := Lib.hid hb
  clear ht0 ht1 ht2 hin hl2 ho2 hb hs
  obtain ⟨B, hB⟩ : ∃ k, 1 + t0 * 10 = k := ⟨_, rfl⟩
  obtain ⟨R, hR⟩ : ∃ k, t1 % 120 = k := ⟨_, rfl⟩
  obtain ⟨m, hM⟩ : ∃ k : Nat, 1 + t2 % 60 = (k : Int) := ⟨(1 + t2 % 60).toNat, by omega⟩
  have b1 : 1 ≤ B := by omega
  have b2 : B ≤ 1000000 := by omega
  have r1 : 0 ≤ R := by omega
  have r2 : R ≤ 500 := by omega
  have m1 : 1 ≤ m := by omega
  have m2 : m ≤ 60 := by omega
  go_wp2_with fail
  refine (AccI.settle_i _ B R (m : Int)).mono ?_
  rintro e w3 ⟨rfl, hb⟩
  have hx := AccLaws.settles (b := B) (r := R) (m := m) b1 b2 r1 r2 m1 (by omega)
  obtain ⟨x, hxx⟩ : ∃ x, AccMath.settleF B R (m : Int) = x := ⟨_, rfl⟩
  rw [hxx] at hx ⊢
  have x1 := hx.lo
  have x2 := hx.hi
  have HX := Lib.hid hx
  have HC3 := Lib.hid (BelowKit.bl_trans HC.out hb)
  clear hb hxx hx d0 d1 d2 i00 i01 i10 i11 i20 i21 hg2 HC
  go_wp2
  go_loopw [8] (fun i wr => ∃ k : Nat, k ≤ 2 ∧ i = .int .i64 (k : Int) ∧ Hid (Below w.heap.size w wr)) (fun i _ => 2 - (intOf i).toNat)
  case atStart => exact ⟨0, by omega, rfl, HC3⟩
  case round =>
    obtain ⟨k, hk, rfl, HB⟩ := hrel
    by_cases hlt : k < 2
    · have dK : decide ((k : Int) < 2) = true := decide_eq_true (by omega)
      obtain ⟨V, hV⟩ : ∃ V, x - (k : Int) = V := ⟨_, rfl⟩
      have HV := Lib.hid hV
      have v1 : 0 ≤ V := by omega
      have v2 : V ≤ 10000000 := by omega
      have W1 : IntKind.i64.wrap (x - (k : Int)) = V := by rw [hV]; exact IntWalk.i64_in _ (by omega)
      clear hV
      go_wp2_with (at_make; refine Fresh.pause ?_)
      refine ⟨?_⟩
      refine Row1.wpList_make1 IntRow.it _ rfl _ _ rfl wr.heap.size .i64 .i64 _ _ (m + 1) rfl rfl (by omega) (by omega) (by omega) (Nat.le_refl _) ?_
      intro w4 ho4 hg4
      have HO4 := Lib.hid ho4
      have z4 : wr.heap.size < w4.heap.size := ho4.lt _ rfl
      have HB4 := Lib.hid (BelowKit.bl_trans HB.out ((Row1.Owns.nil (f := IntRow.fI) wr wr.heap.size 3).grown hg4 (Nat.le_refl _) (Nat.le_refl _)))
      clear ho4 hg4
      go_wp2_with (at_make; refine Fresh.pause ?_)
      refine ⟨?_⟩
      refine Row1.wpList_make1 IntRow.it _ rfl _ _ rfl wr.heap.size .i64 .i64 _ _ (m + 1) rfl rfl (by omega) (by omega) (by omega) (by omega) ?_
      intro w5 ho5 hg5
      have z5 : w4.heap.size < w5.heap.size := ho5.lt _ rfl
      have HO5 := Lib.hid (show Row2.Two IntRow.fI 3 wr.heap.size w5 (.slice (some ⟨wr.heap.size, 0, none⟩) (m + 1) (m + 1)) (.slice (some ⟨w4.heap.size, 0, none⟩) (m + 1) (m + 1)) (List.replicate (m + 1) 0) (List.replicate (m + 1) 0) from
        ⟨HO4.out.kept hg5 (.inr (by simp [Value.ownBlock])), ho5, fun q h1 h2 => by simp [Value.ownBlock] at h1 h2; omega⟩)
      have HB5 := Lib.hid (BelowKit.bl_trans HB4.out ((Row1.Owns.nil (f := IntRow.fI) w4 w4.heap.size 3).grown hg5 (Nat.le_refl _) (Nat.le_refl _)))
      clear ho5 hg5 HO4 HB4
      obtain ⟨A, hA⟩ : ∃ A, wr.heap.size = A := ⟨_, rfl⟩
      obtain ⟨C, hC⟩ : ∃ C, w4.heap.size = C := ⟨_, rfl⟩
      have hAW : w.heap.size ≤ A := by have := HB.out.size; omega
      rw [hA] at HO5 z4 ⊢
      rw [hC] at HO5 z4 z5 ⊢
      clear hA hC HB
      have c0 := (HO5.out.a.cell 0 (by simp)).1
      have f0 := (HO5.out.a.cell 0 (by simp)).2
      rw [List.getElem_replicate] at c0
      change _ = some (Value.int .i64 0) at c0
      have HO6 := Lib.hid (show Row2.Two IntRow.fI 3 A (w5.setCell ⟨A, 0, none⟩ (.int .i64 B)) (.slice (some ⟨A, 0, none⟩) (m + 1) (m + 1)) (.slice (some ⟨C, 0, none⟩) (m + 1) (m + 1)) (B :: List.replicate m 0) (AccLaws.fill V m 1) by
        rw [AccLaws.fill_one, ← AccLaws.first_set B m]; exact HO5.out.setA (by simp) 0 B)
      have HB6 := Lib.hid (show Below w.heap.size w (w5.setCell ⟨A, 0, none⟩ (.int .i64 B)) from BelowKit.bl_set HB5.out (a := ⟨A, 0, none⟩) _ hAW)
      have e0 : (0 : Int) < (m : Int) + 1 := by omega
      clear HO5 HB5
      go_wp2
      go_loopw [11] (fun i wq => ∃ j : Nat, 1 ≤ j ∧ j ≤ m + 1 ∧ i = .int .i64 (j : Int) ∧ C < wq.heap.size ∧ Hid (Row2.Two IntRow.fI 3 A wq (.slice (some ⟨A, 0, none⟩) (m + 1) (m + 1)) (.slice (some ⟨C, 0, none⟩) (m + 1) (m + 1)) (B :: List.replicate m 0) (AccLaws.fill V m j)) ∧ Hid (Below w.heap.size w wq)) (fun i _ => m + 1 - (intOf i).toNat)
      case atStart => exact ⟨1, by omega, by omega, rfl, by simpa using z5, HO6, HB6⟩
      case round =>
        obtain ⟨j, hj1, hj2, rfl, zq, HO, HBq⟩ := hrel
        by_cases hjm : j ≤ m
        · have dJ : decide ((j : Int) ≤ (m : Int)) = true := decide_eq_true (by omega)
          have hlen := AccLaws.fill_len (V := V) hj1 hj2
          have q0 := (HO.out.b.cell j (by omega)).1
          have q1 := (HO.out.b.cell j (by omega)).2
          obtain ⟨y, hy⟩ : ∃ y, (AccLaws.fill V m j)[j]'(by omega) = y := ⟨_, rfl⟩
          rw [hy] at q0
          change _ = some (Value.int .i64 y) at q0
          have HO' := Lib.hid (show Row2.Two IntRow.fI 3 A (wr.setCell ⟨C, j, none⟩ (.int .i64 V)) (.slice (some ⟨A, 0, none⟩) (m + 1) (m + 1)) (.slice (some ⟨C, 0, none⟩) (m + 1) (m + 1)) (B :: List.replicate m 0) (AccLaws.fill V m (j + 1)) by
            rw [← AccLaws.fill_set hj1 hjm]; exact HO.out.setB hlen.symm j V)
          have HB' := Lib.hid (show Below w.heap.size w (wr.setCell ⟨C, j, none⟩ (.int .i64 V)) from BelowKit.bl_set HBq.out (a := ⟨C, j, none⟩) _ (show w.heap.size ≤ C by omega))
          have b3 : (0 : Int) ≤ (j : Int) := by omega
          have b4 : (j : Int) < (m : Int) + 1 := by omega
          clear hy hlen HO HBq
          go_wp2
          go_roundw
          case rel => exact ⟨j + 1, by omega, by omega, by go_num, by simpa using zq, HO', HB'⟩
          case measure => simp [intOf]; omega
        · obtain rfl : j = m + 1 := by omega
          have dJ : decide (((m + 1 : Nat) : Int) ≤ (m : Int)) = false := decide_eq_false (by omega)
          rw [AccLaws.fill_all] at HO
          have hok := AccLaws.ok_pay (b := B) (r := R) (V := V) (m := m) (by omega) b2 r1 r2 (by omega) v1 v2
          have HOK := Lib.hid hok
          have HRD := Lib.hid (RowN.reads_own TInt.fw (TInt.own_to HO.out.a))
          have HRP := Lib.hid (RowN.reads_own TInt.fw (TInt.own_to HO.out.b))
          have hx9 := HX.out
          clear HO hok
          go_wp2_with fail
          refine (AccS.run_s _ (some ⟨A, 0, none⟩) (m + 1) (m + 1) (B :: List.replicate m 0) (some ⟨C, 0, none⟩) (m + 1) (m + 1) (0 :: List.replicate m V) R (by simp) (by omega) HRD.out (by simp) (by omega) HRP.out).mono ?_
          rintro e w7 ⟨p7, c7, rfl, ho, hb⟩
          have hl9 := AccLaws.pay_len B R V m HOK.out
          have HR7 := Lib.hid (RowN.reads_own TInt.fw ho)
          have L1 := Lib.hid (show m < (AccMath.runA (B :: List.replicate m 0) (0 :: List.replicate m V) R).length by rw [hl9]; omega)
          obtain ⟨g7, o7, rfl, hg7, q7⟩ := AccS.read HR7.out m L1.out
          rw [AccLaws.pay_last HOK.out L1.out] at q7
          rw [hl9]
          have HB7 := Lib.hid (BelowKit.bl_trans HBq.out hb)
          clear ho hb hl9 HR7 L1 HRD HRP HBq HOK zq
          have b3 : (0 : Int) ≤ (m : Int) := by omega
          have b4 : (m : Int) < (m : Int) + 1 := by omega
          have hk2 : k = 0 ∨ k = 1 := by omega
          rcases hk2 with rfl | rfl
          · have hle : AccMath.owe B R V m ≤ 0 := by have := hx9.ok; rw [← HV.out]; simpa using this
            have HV2 := Lib.hid (trivial : True)
            clear hx9
            generalize AccMath.owe B R V m = y at q7 hle
            have dY : decide (y ≤ 0) = true := decide_eq_true hle
            go_wp2
            go_roundw
            case rel => exact ⟨1, by omega, rfl, HB7⟩
            case measure => simp [intOf]
          · have hle : 0 < AccMath.owe B R V m := by have := hx9.no; rw [← HV.out]; simpa using this
            clear hx9
            generalize AccMath.owe B R V m = y at q7 hle
            have dY : decide (y ≤ 0) = false := decide_eq_false (by omega)
            go_wp2
            go_roundw
            case rel => exact ⟨2, by omega, rfl, HB7⟩
            case measure => simp [intOf]
    · obtain rfl : k = 2 := by omega
      have dX : decide (1 ≤ x) = true := decide_eq_true x1
      go_wp2_with fail
      refine (AccI.due_i _ 100000 95).mono ?_
      rintro e w7 ⟨rfl, hb⟩
      rw [show AccMath.dueF 100000 95 = 9500 from by decide]
      have HB7 := Lib.hid (BelowKit.bl_trans HB.out hb)
      clear hb
      go_wp2
      go_ret
      exact ⟨rfl, HB7.out⟩

/-! ### THE ROW's STEP: WRITTEN OUT: LEAVE IT -/
set_option maxRecDepth 100000 in
theorem lifted (os : Os) (started : os.Started) (H : Type) (enc : TypeId × Value → H) :
    ReturnsInHanded {} Try.checked os 4 .any (Rows.fnSettledSpec.pre6 enc Try.prog Try.f4 Rows.fnSettledRow.domain false) (Rows.fnSettledSpec.post enc Try.prog Try.f4 false true false false) := by
  refine returnsInHanded_of_change (C := Try.checked) own started (by kernel_rfl) Try.func4
    (ChangeSpec.witness6 (enc := enc) (C := Try.checked) false ⟨#[], #[.slice none 0 0], []⟩ 8 (by kernel_rfl) (by kernel_rfl) (by kernel_rfl) (by kernel_rfl)) ?_
  intro W base args ds gs before hval0 hW hcnd _
  have hval : ∀ (j : Nat) t v, Try.f4.params[j]? = some t → args[j]? = some v → Value.okWide Try.prog W .any base t v := hval0
  have hW' := hW
  obtain ⟨p, q, hA0, hV, rfl, hfz, hnd⟩ := hW
  have hA : DataW.TrodAll enc Try.prog W 0 (fun _ => true) true Try.f4.params.toList args.toList ds p := hA0
  rw [Try.params4] at hA hval
  obtain ⟨v0, vs0, d0, ds0, p0, q0, hargs, rfl, rfl, h0, r0⟩ := trodAll_cons hA
  obtain ⟨rfl, rfl, rfl⟩ := trodAll_nil r0
  obtain rfl : args = #[v0] := by cases args; simp_all
  obtain ⟨rfl, rfl⟩ := trodVars_none hV
  obtain ⟨a0, len0, cap0, rfl⟩ := okWide_slice Try.underlying22 (hval 0 22 v0 rfl rfl)
  have k0 := h0
  have lt0 : ∀ x ∈ p0, x.block < W.heap.size := by obtain ⟨m, hm⟩ := k0; exact DataW.trod_lt m _ _ _ hm
  obtain ⟨z0, w0⟩ : ∃ zs, IsRow .u8 W a0 len0 cap0 zs := by
    obtain ⟨fuel, hf⟩ := h0
    rcases open_ints Try.underlying22 Try.underlying5 (by kernel_rfl) hf with ⟨hcs, _⟩ | ⟨x, l, c, zs, hcs, _, hl, hm, hz, _, hcell, hwz⟩
    · simp [Value.cells] at hcs
      obtain ⟨rfl, rfl, rfl⟩ := hcs
      exact ⟨[], .inl ⟨rfl, rfl, rfl, rfl⟩⟩
    · simp [Value.cells] at hcs
      obtain ⟨rfl, rfl, rfl⟩ := hcs
      exact ⟨zs, .inr ⟨_, rfl, hl, hm, by simpa using hz, hcell, hwz⟩⟩
  clear hA0 hval0
  refine (walk a0 len0 cap0 z0 W w0).mono fun e W' ⟨he, bel⟩ => ?_
  subst he
  exact ⟨_, rfl, _, _, _, [], _, [], hW', trodAll_mk1 (shut_bool Try.underlying4 _), (trodAll_cons_mk (Below.trod laidOut (by kernel_rfl) (of_decide_eq_true (by kernel_rfl)) k0 bel lt0) trodAll_mk0), rfl, bel.frame _, fun h => by cases h⟩

theorem over : Rows.fnSettledRow.holds Try.pinned (OpenSpec.ofChange Rows.fnSettledSpec) :=
  OpenClaim.holds_of_wide 4 Try.f4 rfl rfl rfl rfl rfl rfl rfl ⟨rfl, rfl, rfl, rfl, rfl⟩ rfl rfl rfl rfl rfl (by kernel_rfl) Try.func4 (by kernel_rfl)
    (of_decide_eq_true (by kernel_rfl)) (by unfold Func.isWrapper; first | (rw [if_pos (by decide +kernel)]; kernel_rfl) | (rw [if_neg (by decide +kernel)]; exact ⟨rfl, rfl⟩))
    (fun os started H enc _ => lifted os started H enc)

theorem proved : Rows.FnSettledSaid := over
#print axioms proved
end Go.Proofs.Ytgdniakncjjggaa.fnSettled
