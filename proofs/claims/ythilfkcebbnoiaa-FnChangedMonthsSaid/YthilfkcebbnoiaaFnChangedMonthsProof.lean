/- Proves the given statement of the law FnChangedMonths: for every input that the row lets in, the law's Go function returns true and every argument reads as before; no condition of mine. -/
import Derived.Test.YthilfkcebbnoiaaDrawStore
import Derived.Test.YthilfkcebbnoiaaDrawRow
import Derived.Test.YthilfkcebbnoiaaFactLaws
import Derived.Test.YthilfkcebbnoiaaChanged
import Derived.Test.YthilfkcebbnoiaaValueAt
import Derived.Test.YthilfkcebbnoiaaBelowKit
import Derived.Test.YthilfkcebbnoiaaRows
import Derived.WalkKit
import Derived.ProofKit
import Derived.OpenShut
import Derived.ShutString
import Derived.ChangeOld
import Derived.Below
namespace Go.Proofs.Ythilfkcebbnoiaa.fnChangedMonths
open Go.ChangeShapes Go.WideShapes Go.ChangeAt Go.RowKit
open Go.ChangeMaps (open_string shut_string)
set_option linter.unusedVariables false

theorem own : ownKnob Try.prog.godebug = none := by kernel_rfl
theorem laidOut : laidOutB Try.prog = true := by kernel_rfl

/-- WHAT THE WALK IS TOLD OF A SLICE OF INTEGERS THAT CAME IN: it is nil; or it leads to a row of 'cap' cells, the numbers 'zs' (the first 'len' are its elements, the rest its spare room), each fitting its kind. -/
def IsRow (k : IntKind) (w : World) (a : Option Addr) (len cap : Nat) (zs : List Int) : Prop :=
  (a = none ∧ len = 0 ∧ cap = 0 ∧ zs = []) ∨
  ∃ x, a = some x ∧ len ≤ cap ∧ cap ≤ maxLen ∧ zs.length = cap ∧ (∀ i, i < zs.length → w.cell? (x.add i) = some (.int k (zs.getD i 0))) ∧ ∀ n ∈ zs, (Lit.int k n).wf = true

/-! ### STEP 1: THE WALK: the Go text returns true, AND WRITES NOTHING THAT WAS THERE: 'Below w.heap.size w w'' (Derived/Below.lean: '.refl', '.alloc', '.drew', '.setCell' at a new block, '.trans'). Open each 'IsRow' by 'rcases' AHEAD of 'go_enter'; part every test ahead of the walk. -/
set_option maxRecDepth 100000 in
theorem walk (a0 : Option Addr) (len0 cap0 : Nat) (z0 : List Int) (w : World) (w0 : IsRow .u8 w a0 len0 cap0 z0) :
    Calls Try.prog 5 #[.slice a0 len0 cap0] w fun e w' => e = .returned (.bool true) ∧ Below w.heap.size w w' := by
  obtain ⟨hcode, hs⟩ := CurKit.code_at w0
  clear w0
  have HK := Lib.hid hcode
  have HS := Lib.hid hs
  clear hcode
  unfold maxLen at hs
  by_cases hbig : 1048576 < len0
  · go_enter Try.func5, Try.ntmps5
    go_wp2
    go_ret
    exact ⟨rfl, Below.refl _ _⟩
  go_enter Try.func5, Try.ntmps5
  go_wp2_with (go_at_call 12; go_in)
  refine (DrawStore.draw_c _ a0 len0 cap0 HK.out HS.out).mono ?_
  rintro e w1 ⟨l, p, c, hd, rfl, ho, hb⟩
  obtain ⟨m, hm⟩ : ∃ m, l.length = m := ⟨_, rfl⟩
  rw [hm] at ho ⊢
  have hm9 : m ≤ 9 := by rw [← hm]; exact hd.len
  have HM := Lib.hid hm
  have HD := Lib.hid hd
  have HO1 := Lib.hid ho
  have HC1 := Lib.hid hb
  clear hm hd ho hb
  go_wp2_with fail
  have hb12 : Below w1.heap.size w1 (w1.alloc (.cells #[.slice p m c] 26)) := by (repeat (first | exact Below.refl _ _ | apply BelowKit.bl_alloc | apply BelowKit.bl_drewN | apply BelowKit.bl_drew | (refine BelowKit.bl_set ?_ _ ?_; rotate_left; (first | omega | (simp; omega) | simp)) | (refine BelowKit.bl_trans ?_ (‹Hid (Below _ _ _)›).out)))
  refine (DrawRow.places_c _ a0 len0 cap0 (fun j hj => by obtain ⟨blk, off, n, e, h1, h2, h3⟩ := HK.out j hj; exact ⟨blk, off, n, e, by have := HC1.out.size; simp; omega, ((BelowKit.bcell (BelowKit.bl_trans HC1.out hb12)).1 _ _ h1).trans h2, h3⟩) HS.out).mono ?_
  rintro e w2 ⟨l2, a2, cap2, hl2, hin, rfl, ho2, hb⟩
  obtain ⟨g2, rfl, _, hg2, c20, _⟩ := ho2.at 0 (by omega)
  have c21 := (ho2.cell 1 (by omega)).1
  have c22 := (ho2.cell 2 (by omega)).1
  have i0 := hin.get 0 (by omega)
  have i1 := hin.get 1 (by omega)
  have i2 := hin.get 2 (by omega)
  obtain ⟨t0, ht0⟩ : ∃ t, l2[0] = t := ⟨_, rfl⟩
  obtain ⟨t1, ht1⟩ : ∃ t, l2[1] = t := ⟨_, rfl⟩
  obtain ⟨t2, ht2⟩ : ∃ t, l2[2] = t := ⟨_, rfl⟩
  rw [ht0] at c20 i0
  rw [ht1] at c21 i1
  rw [ht2] at c22 i2
  obtain ⟨i00, i01⟩ := i0
  obtain ⟨i10, i11⟩ := i1
  obtain ⟨i20, i21⟩ := i2
  have cS : w2.cell? ⟨w1.heap.size, 0, none⟩ = some (.slice p m c) := ((BelowKit.bcell hb).1 _ _ (by simp)).trans (by simp [go_sem])
  have zS : w1.heap.size < w2.heap.size := by have := hb.size; simp at this; omega
  have hb2 := BelowKit.bl_trans hb12 hb
  have HO2 := Lib.hid (HO1.out.on hb2)
  have HC2 := Lib.hid (BelowKit.bl_trans HC1.out hb2)
  clear ht0 ht1 ht2 hin hl2 ho2 hb hb12 hb2 HO1 HC1
  obtain ⟨key, hkey⟩ : ∃ k, 1 + t2 % 4 = k := ⟨_, rfl⟩
  obtain ⟨a, ha⟩ : ∃ k, t0 % 100 = k := ⟨_, rfl⟩
  obtain ⟨b, hb⟩ : ∃ k, t1 % 100 = k := ⟨_, rfl⟩
  have k1 : 1 ≤ key := by omega
  have k2 : key ≤ 4 := by omega
  have a1 : 0 ≤ a := by omega
  have a2 : a ≤ 99 := by omega
  have b1 : 0 ≤ b := by omega
  have b2 : b ≤ 99 := by omega
  have HOKS : FactMath.okS l = true := FactMath.okS_yes (HD.out.ok (by omega))
  have HL := Lib.hid (show FactMath.changed l key a b = FactMath.monthsTo key a b l 120 by
    rw [Changed.changed_yes HOKS (Mon.inB_yes k1 (by omega)) (Mon.inB_yes a1 (by omega)) (Mon.inB_yes b1 (by omega))]
    exact FactLaws.monthsTo_far key a b l 120 3480 fun x hx => by
      obtain ⟨n, _, _, h3⟩ := HD.out.each x hx
      have := h3.f
      have := h3.t
      omega)
  have HE := Lib.hid (show FactMath.changed l key a a = [] by
    rw [Changed.changed_yes HOKS (Mon.inB_yes k1 (by omega)) (Mon.inB_yes a1 (by omega)) (Mon.inB_yes a1 (by omega))]
    exact FactLaws.monthsTo_same key a l 3600)
  have HKEY := Lib.hid hkey
  have HA := Lib.hid ha
  have HBB := Lib.hid hb
  clear HOKS HD hkey ha hb
  go_wp2_with fail
  rw [HKEY.out, HA.out, HBB.out]
  refine (Changed.ch_i _ p m c l key a b HM.out (by omega) (RowN.reads_own Fact.fw HO2.out)).mono ?_
  rintro e w3 ⟨p3, c3, rfl, ho3, hb⟩
  rw [HL.out] at ho3 ⊢
  obtain ⟨n, hn⟩ : ∃ n, (FactMath.monthsTo key a b l 120).length = n := ⟨_, rfl⟩
  have hn9 : n ≤ 120 := by rw [← hn]; exact FactMath.monthsTo_len ..
  rw [hn] at ho3 ⊢
  have HN := Lib.hid hn
  have cS3 : w3.cell? ⟨w1.heap.size, 0, none⟩ = some (.slice p m c) := ((BelowKit.bcell hb).1 _ _ zS).trans cS
  have zS3 : w1.heap.size < w3.heap.size := Nat.lt_of_lt_of_le zS hb.size
  have HO3 := Lib.hid (HO2.out.on hb)
  have HP3 := Lib.hid ho3
  have HC3 := Lib.hid (BelowKit.bl_trans HC2.out hb)
  clear hn ho3 hb cS zS HO2 HC2 c20 c21 c22 hg2
  go_wp2_with fail
  go_loopw [9, 10] (fun kv mo wr => ∃ j : Nat, j ≤ 120 ∧ mo = .int .i64 (j : Int) ∧ kv = .int .i64 (((FactMath.monthsTo key a b l j).length : Nat) : Int) ∧ Hid (Below w3.heap.size w3 wr)) (fun _ mo _ => 120 - (intOf mo).toNat)
  case atStart => exact ⟨0, by omega, rfl, by rw [FactMath.monthsTo_zero]; rfl, Lib.hid (Below.refl _ _)⟩
  case round =>
    obtain ⟨j, hj, rfl, rfl, HB2⟩ := hrel
    have e1 := ((BelowKit.bcell HB2.out).1 _ 0 zS3).trans cS3
    have z1 := Nat.lt_of_lt_of_le zS3 HB2.out.size
    by_cases hj2 : j < 120
    · have HSUC := Lib.hid (FactMath.monthsTo_succ key a b l j)
      have HAT : Hid (FactMath.differ key a b l (j : Int) = true → ∃ hlt : (FactMath.monthsTo key a b l j).length < (FactMath.monthsTo key a b l 120).length, (FactMath.monthsTo key a b l 120)[(FactMath.monthsTo key a b l j).length] = (j : Int)) := Lib.hid (FactLaws.monthsTo_at key a b l j 120 hj2)
      have hql := FactMath.monthsTo_len key a b l j
      obtain ⟨r, hr⟩ : ∃ r, FactMath.monthsTo key a b l j = r := ⟨_, rfl⟩
      rw [hr] at HSUC HAT hql ⊢
      obtain ⟨q, hq⟩ : ∃ q, r.length = q := ⟨_, rfl⟩
      rw [hq] at hql HAT ⊢
      have HQ := Lib.hid hq
      clear hr hq
      obtain ⟨⟨x, o1⟩, hx⟩ : ∃ V, FactMath.val key (j : Int) a l = V := ⟨_, rfl⟩
      obtain ⟨⟨y, o2⟩, hy⟩ : ∃ V, FactMath.val key (j : Int) b l = V := ⟨_, rfl⟩
      have HX := Lib.hid hx
      have HY := Lib.hid hy
      have HDF : Hid (FactMath.differ key a b l (j : Int) = decide ((x, o1) ≠ (y, o2))) := Lib.hid (by unfold FactMath.differ; rw [hx, hy])
      clear hx hy
      go_wp2_with fail
      refine (ValueAt.val_s _ p m c l key (j : Int) a HM.out (by omega) (RowN.reads_own Fact.fw (HO3.out.on HB2.out))).mono ?_
      rintro e w5 ⟨rfl, hb⟩
      rw [HX.out]
      have e2 := ((BelowKit.bcell hb).1 _ 0 z1).trans e1
      have HB3 := Lib.hid (BelowKit.bl_trans HB2.out hb)
      have z2 := Nat.lt_of_lt_of_le z1 hb.size
      clear hb e1 z1 HB2
      go_wp2_with fail
      refine (ValueAt.val_s _ p m c l key (j : Int) b HM.out (by omega) (RowN.reads_own Fact.fw (HO3.out.on HB3.out))).mono ?_
      rintro e w6 ⟨rfl, hb⟩
      rw [HY.out]
      have HB4 := Lib.hid (BelowKit.bl_trans HB3.out hb)
      clear hb e2 z2 HB3
      by_cases hsame : (x, o1) = (y, o2)
      · have EK := Lib.hid (show FactMath.monthsTo key a b l (j + 1) = r by rw [HSUC.out, HDF.out, decide_eq_false (by simp [hsame])]; simp)
        simp only [Prod.mk.injEq] at hsame
        obtain ⟨rfl, rfl⟩ := hsame
        clear HX HY HDF HSUC HAT
        cases o1 with
        | false =>
          go_wp2
          go_roundw
          case rel => exact ⟨j + 1, by omega, by go_num, by rw [EK.out, HQ.out], HB4⟩
          case measure => simp [intOf]; omega
        | true =>
          go_wp2
          go_roundw
          case rel => exact ⟨j + 1, by omega, by go_num, by rw [EK.out, HQ.out], HB4⟩
          case measure => simp [intOf]; omega
      · have hdf : FactMath.differ key a b l (j : Int) = true := by rw [HDF.out]; exact decide_eq_true hsame
        have EK := Lib.hid (show (FactMath.monthsTo key a b l (j + 1)).length = q + 1 by rw [HSUC.out, if_pos hdf]; simp [HQ.out])
        obtain ⟨hlt, hat⟩ := HAT.out hdf
        have hqn : q < n := by rw [← HN.out]; exact hlt
        obtain ⟨g3, e3, _, hg3, c4, _⟩ := (HP3.out.on HB4.out).at q hlt
        rw [hat] at c4
        subst e3
        have hqi : (q : Int) < (n : Int) := by omega
        have hq0 : (0 : Int) ≤ (q : Int) := by omega
        clear HX HY HDF HSUC HAT hdf hat hlt
        have hcase : (x == y) = false ∨ (x = y ∧ o1 = !o2) := by
          by_cases hxy : x = y
          · right
            refine ⟨hxy, ?_⟩
            cases o1 <;> cases o2 <;> simp_all
          · left; simp [hxy]
        clear hsame
        rcases hcase with hxy | ⟨rfl, rfl⟩
        · have hxy' : ¬ x = y := by simpa using hxy
          go_wp2
          go_roundw
          case rel => exact ⟨j + 1, by omega, by go_num, by rw [EK.out]; go_num, HB4⟩
          case measure => simp [intOf]; omega
        · cases o2 with
          | false =>
            go_wp2
            go_roundw
            case rel => exact ⟨j + 1, by omega, by go_num, by rw [EK.out]; go_num, HB4⟩
            case measure => simp [intOf]; omega
          | true =>
            go_wp2
            go_roundw
            case rel => exact ⟨j + 1, by omega, by go_num, by rw [EK.out]; go_num, HB4⟩
            case measure => simp [intOf]; omega
    · obtain rfl : j = 120 := by omega
      rw [HN.out]
      go_wp2_with fail
      refine (Changed.ch_i _ p m c l key a a HM.out (by omega) (RowN.reads_own Fact.fw (HO3.out.on HB2.out))).mono ?_
      rintro e w5 ⟨p5, c5, rfl, ho5, hb⟩
      rw [HE.out]
      have HB3 := Lib.hid (BelowKit.bl_trans HC3.out (BelowKit.bl_trans HB2.out hb))
      clear ho5 hb
      go_wp2
      go_ret
      exact ⟨rfl, HB3.out⟩

/-! ### THE ROW's STEP: WRITTEN OUT: LEAVE IT -/
set_option maxRecDepth 100000 in
theorem lifted (os : Os) (started : os.Started) (H : Type) (enc : TypeId × Value → H) :
    ReturnsInHanded {} Try.checked os 5 .any (Rows.fnChangedMonthsSpec.pre6 enc Try.prog Try.f5 Rows.fnChangedMonthsRow.domain false) (Rows.fnChangedMonthsSpec.post enc Try.prog Try.f5 false true false false) := by
  refine returnsInHanded_of_change (C := Try.checked) own started (by kernel_rfl) Try.func5
    (ChangeSpec.witness6 (enc := enc) (C := Try.checked) false ⟨#[], #[.slice none 0 0], []⟩ 8 (by kernel_rfl) (by kernel_rfl) (by kernel_rfl) (by kernel_rfl)) ?_
  intro W base args ds gs before hval0 hW hcnd _
  have hval : ∀ (j : Nat) t v, Try.f5.params[j]? = some t → args[j]? = some v → Value.okWide Try.prog W .any base t v := hval0
  have hW' := hW
  obtain ⟨p, q, hA0, hV, rfl, hfz, hnd⟩ := hW
  have hA : DataW.TrodAll enc Try.prog W 0 (fun _ => true) true Try.f5.params.toList args.toList ds p := hA0
  rw [Try.params5] at hA hval
  obtain ⟨v0, vs0, d0, ds0, p0, q0, hargs, rfl, rfl, h0, r0⟩ := trodAll_cons hA
  obtain ⟨rfl, rfl, rfl⟩ := trodAll_nil r0
  obtain rfl : args = #[v0] := by cases args; simp_all
  obtain ⟨rfl, rfl⟩ := trodVars_none hV
  obtain ⟨a0, len0, cap0, rfl⟩ := okWide_slice Try.underlying22 (hval 0 22 v0 rfl rfl)
  have k0 := h0
  have lt0 : ∀ x ∈ p0, x.block < W.heap.size := by obtain ⟨m, hm⟩ := k0; exact DataW.trod_lt m _ _ _ hm
  obtain ⟨z0, w0⟩ : ∃ zs, IsRow .u8 W a0 len0 cap0 zs := by
    obtain ⟨fuel, hf⟩ := h0
    rcases open_ints Try.underlying22 Try.underlying5 (by kernel_rfl) hf with ⟨hcs, _⟩ | ⟨x, l, c, zs, hcs, _, hl, hm, hz, _, hcell, hwz⟩
    · simp [Value.cells] at hcs
      obtain ⟨rfl, rfl, rfl⟩ := hcs
      exact ⟨[], .inl ⟨rfl, rfl, rfl, rfl⟩⟩
    · simp [Value.cells] at hcs
      obtain ⟨rfl, rfl, rfl⟩ := hcs
      exact ⟨zs, .inr ⟨_, rfl, hl, hm, by simpa using hz, hcell, hwz⟩⟩
  clear hA0 hval0
  refine (walk a0 len0 cap0 z0 W w0).mono fun e W' ⟨he, bel⟩ => ?_
  subst he
  exact ⟨_, rfl, _, _, _, [], _, [], hW', trodAll_mk1 (shut_bool Try.underlying4 _), (trodAll_cons_mk (Below.trod laidOut (by kernel_rfl) (of_decide_eq_true (by kernel_rfl)) k0 bel lt0) trodAll_mk0), rfl, bel.frame _, fun h => by cases h⟩

theorem over : Rows.fnChangedMonthsRow.holds Try.pinned (OpenSpec.ofChange Rows.fnChangedMonthsSpec) :=
  OpenClaim.holds_of_wide 5 Try.f5 rfl rfl rfl rfl rfl rfl rfl ⟨rfl, rfl, rfl, rfl, rfl⟩ rfl rfl rfl rfl rfl (by kernel_rfl) Try.func5 (by kernel_rfl)
    (of_decide_eq_true (by kernel_rfl)) (by unfold Func.isWrapper; first | (rw [if_pos (by decide +kernel)]; kernel_rfl) | (rw [if_neg (by decide +kernel)]; exact ⟨rfl, rfl⟩))
    (fun os started H enc _ => lifted os started H enc)

theorem proved : Rows.FnChangedMonthsSaid := over
#print axioms proved
end Go.Proofs.Ythilfkcebbnoiaa.fnChangedMonths
