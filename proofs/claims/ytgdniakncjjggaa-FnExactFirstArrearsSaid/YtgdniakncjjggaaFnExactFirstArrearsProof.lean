/- Proves the given statement of the law FnExactFirstArrears: for every input that the row lets in, the law's Go function returns true and every argument reads as before; no condition of mine. -/
import Derived.Test.YtgdniakncjjggaaAccS
import Derived.Test.YtgdniakncjjggaaAccI
import Derived.Test.YtgdniakncjjggaaTInt
import Derived.Test.YtgdniakncjjggaaKit
import Derived.Test.YtgdniakncjjggaaRows
import Derived.WalkKit
import Derived.ProofKit
import Derived.OpenShut
import Derived.ShutString
import Derived.ChangeOld
import Derived.Below
import Derived.Deep.RegionHeld3
import Derived.Deep.DeepCutAuto
import Derived.Lib.Hide
import Derived.Lib.SmallJoins
namespace Go.Proofs.Ytgdniakncjjggaa.fnExactFirstArrears
open Go.ChangeShapes Go.WideShapes Go.ChangeAt Go.RowKit
open Go.ChangeMaps (open_string shut_string)
set_option linter.unusedVariables false

theorem own : ownKnob Try.prog.godebug = none := by kernel_rfl
theorem laidOut : laidOutB Try.prog = true := by kernel_rfl

/-- What the walk is told of a slice of integers that came in. -/
def IsRow (k : IntKind) (w : World) (a : Option Addr) (len cap : Nat) (zs : List Int) : Prop :=
  (a = none ∧ len = 0 ∧ cap = 0 ∧ zs = []) ∨
  ∃ x, a = some x ∧ len ≤ cap ∧ cap ≤ maxLen ∧ zs.length = cap ∧ (∀ i, i < zs.length → w.cell? (x.add i) = some (.int k (zs.getD i 0))) ∧ ∀ n ∈ zs, (Lit.int k n).wf = true
theorem is_row {H : Type} {enc : TypeId × Value → H} {P : Program} {W : World} {t e : TypeId} {k : IntKind} {a : Option Addr} {len cap : Nat} {d : DataW H} {p : List MemPlace} (ht : P.underlying t = some (.slice e)) (he : P.underlying e = some (.int k)) (hc : P.cellsOf e = 1)
    (h : DataW.Trod enc P W 0 (fun _ => true) true t (.slice a len cap) d p) : ∃ zs, IsRow k W a len cap zs := by
  obtain ⟨fuel, hf⟩ := h
  rcases open_ints ht he hc hf with ⟨hcs, _⟩ | ⟨x, l, c, zs, hcs, _, hl, hm, hz, _, hcell, hwz⟩
  · simp [Value.cells] at hcs
    obtain ⟨rfl, rfl, rfl⟩ := hcs
    exact ⟨[], .inl ⟨rfl, rfl, rfl, rfl⟩⟩
  · simp [Value.cells] at hcs
    obtain ⟨rfl, rfl, rfl⟩ := hcs
    exact ⟨zs, .inr ⟨_, rfl, hl, hm, by simpa using hz, hcell, hwz⟩⟩

/-! ### STEP 1: the walk -/
set_option maxHeartbeats 8000000 in
theorem walk (a0 : Option Addr) (len0 cap0 : Nat) (z0 : List Int) (a1 : Option Addr) (len1 cap1 : Nat) (z1 : List Int) (a2 : Int) (w : World) (hz0 : z0.length = len0) (w0 : RowN.Reads TInt.fc 1 w a0 z0) (hl0 : len0 ≤ 9223372036854775807) (g0 : ∀ x ∈ z0, TInt.Wf x) (hz1 : z1.length = len1) (w1 : RowN.Reads TInt.fc 1 w a1 z1) (hl1 : len1 ≤ 9223372036854775807) (g1 : ∀ x ∈ z1, TInt.Wf x) (w2 : (Lit.int .i64 a2).wf = true) :
    Calls Try.prog 8 #[.slice a0 len0 cap0, .slice a1 len1 cap1, .int .i64 a2] w fun e w' => e = .returned (.bool true) ∧ Below w.heap.size w w' := by
  have HR0 := Lib.hid w0
  have HM0 := Lib.hid hz0
  have HR1 := Lib.hid w1
  have HM1 := Lib.hid hz1
  clear w0 hz0 w1 hz1
  by_cases hbig : 1048576 < len0
  · go_enter Try.func8, Try.ntmps8
    go_wp2
    go_ret
    exact ⟨rfl, by (repeat (first | exact Below.refl _ _ | apply BelowKit.bl_alloc | apply BelowKit.bl_drewN | apply BelowKit.bl_drew | (refine BelowKit.bl_set ?_ _ ?_; rotate_left; (first | omega | (simp; omega) | simp)) | (refine BelowKit.bl_trans ?_ (‹Hid (Below _ _ _)›).out)))⟩
  have hs0 : len0 ≤ 1048576 := by omega
  by_cases hbig1 : 1048576 < len1
  · go_enter Try.func8, Try.ntmps8
    go_wp2
    go_ret
    exact ⟨rfl, by (repeat (first | exact Below.refl _ _ | apply BelowKit.bl_alloc | apply BelowKit.bl_drewN | apply BelowKit.bl_drew | (refine BelowKit.bl_set ?_ _ ?_; rotate_left; (first | omega | (simp; omega) | simp)) | (refine BelowKit.bl_trans ?_ (‹Hid (Below _ _ _)›).out)))⟩
  have hs1 : len1 ≤ 1048576 := by omega
  obtain ⟨m0, hm0⟩ : ∃ v, AccMath.firstA z0 z1 a2 = v := ⟨_, rfl⟩
  have HF0 := Lib.hid hm0
  clear hm0
  go_enter Try.func8, Try.ntmps8
  go_wp2_with fail
  refine (TInt.to_c w a0 len0 cap0 z0 HM0.out (by omega) HR0.out).mono ?_
  rintro e w4 ⟨p1, c2, rfl, ho0, hb⟩
  rw [HM0.out] at ho0 ⊢
  have sw4 : w.heap.size ≤ w4.heap.size := hb.size
  have HC5 := Lib.hid hb
  clear hb
  have HO6 := Lib.hid (Own.ow_of ho0)
  clear ho0
  go_wp2_with fail
  refine (TInt.to_c w4 a1 len1 cap1 z1 HM1.out (by omega) (HR1.out.on HC5.out)).mono ?_
  rintro e w10 ⟨p7, c8, rfl, ho0, hb⟩
  rw [HM1.out] at ho0 ⊢
  have sw10 : w4.heap.size ≤ w10.heap.size := hb.size
  have HO11 := Lib.hid (HO6.out.on hb)
  have HC12 := Lib.hid (BelowKit.bl_trans HC5.out hb)
  clear HO6 HC5 hb
  have HO13 := Lib.hid (Own.ow_of ho0)
  clear ho0
  go_wp2_with fail
  refine (AccS.first_s w10 p1 len0 c2 z0 p7 len1 c8 z1 a2 HM0.out (by omega) (HO11.out.reads TInt.fw) HM1.out (by omega) (HO13.out.reads TInt.fw)).mono ?_
  rintro e w14 ⟨rfl, hb⟩
  rw [HF0.out]
  have sw14 : w10.heap.size ≤ w14.heap.size := hb.size
  have HO15 := Lib.hid (HO11.out.on hb)
  have HO16 := Lib.hid (HO13.out.on hb)
  have HC17 := Lib.hid (BelowKit.bl_trans HC12.out hb)
  clear HO11 HO13 HC12 hb
  go_wp2_with fail
  refine (TInt.to_c w14 a0 len0 cap0 z0 HM0.out (by omega) (HR0.out.on HC17.out)).mono ?_
  rintro e w21 ⟨p18, c19, rfl, ho0, hb⟩
  rw [HM0.out] at ho0 ⊢
  have sw21 : w14.heap.size ≤ w21.heap.size := hb.size
  have HO22 := Lib.hid (HO15.out.on hb)
  have HO23 := Lib.hid (HO16.out.on hb)
  have HC24 := Lib.hid (BelowKit.bl_trans HC17.out hb)
  clear HO15 HO16 HC17 hb
  have HO25 := Lib.hid (Own.ow_of ho0)
  clear ho0
  go_wp2_with fail
  refine (TInt.to_c w21 a1 len1 cap1 z1 HM1.out (by omega) (HR1.out.on HC24.out)).mono ?_
  rintro e w29 ⟨p26, c27, rfl, ho0, hb⟩
  rw [HM1.out] at ho0 ⊢
  have sw29 : w21.heap.size ≤ w29.heap.size := hb.size
  have HO30 := Lib.hid (HO22.out.on hb)
  have HO31 := Lib.hid (HO23.out.on hb)
  have HO32 := Lib.hid (HO25.out.on hb)
  have HC33 := Lib.hid (BelowKit.bl_trans HC24.out hb)
  clear HO22 HO23 HO25 HC24 hb
  have HO34 := Lib.hid (Own.ow_of ho0)
  clear ho0
  go_wp2_with fail
  refine (AccI.first_i w29 p18 len0 c19 z0 p26 len1 c27 z1 a2 HM0.out (by omega) (HO32.out.reads TInt.fw) HM1.out (by omega) (HO34.out.reads TInt.fw)).mono ?_
  rintro e w35 ⟨rfl, hb⟩
  rw [HF0.out]
  have sw35 : w29.heap.size ≤ w35.heap.size := hb.size
  have HO36 := Lib.hid (HO30.out.on hb)
  have HO37 := Lib.hid (HO31.out.on hb)
  have HO38 := Lib.hid (HO32.out.on hb)
  have HO39 := Lib.hid (HO34.out.on hb)
  have HC40 := Lib.hid (BelowKit.bl_trans HC33.out hb)
  clear HO30 HO31 HO32 HO34 HC33 hb
  go_wp2_with fail
  refine (TInt.to_c w35 a0 len0 cap0 z0 HM0.out (by omega) (HR0.out.on HC40.out)).mono ?_
  rintro e w44 ⟨p41, c42, rfl, ho0, hb⟩
  rw [HM0.out] at ho0 ⊢
  have sw44 : w35.heap.size ≤ w44.heap.size := hb.size
  have HO45 := Lib.hid (HO36.out.on hb)
  have HO46 := Lib.hid (HO37.out.on hb)
  have HO47 := Lib.hid (HO38.out.on hb)
  have HO48 := Lib.hid (HO39.out.on hb)
  have HC49 := Lib.hid (BelowKit.bl_trans HC40.out hb)
  clear HO36 HO37 HO38 HO39 HC40 hb
  have HO50 := Lib.hid (Own.ow_of ho0)
  clear ho0
  go_wp2_with fail
  refine (TInt.eq_c w44 len0 c19 c42 p18 p41 z0 HM0.out (by omega) (HO47.out.reads TInt.fw) (HO50.out.reads TInt.fw)).mono ?_
  rintro e w51 ⟨rfl, hb⟩
  have sw51 : w44.heap.size ≤ w51.heap.size := hb.size
  have HO52 := Lib.hid (HO45.out.on hb)
  have HO53 := Lib.hid (HO46.out.on hb)
  have HO54 := Lib.hid (HO47.out.on hb)
  have HO55 := Lib.hid (HO48.out.on hb)
  have HO56 := Lib.hid (HO50.out.on hb)
  have HC57 := Lib.hid (BelowKit.bl_trans HC49.out hb)
  clear HO45 HO46 HO47 HO48 HO50 HC49 hb
  go_wp2_with fail
  refine (TInt.to_c w51 a1 len1 cap1 z1 HM1.out (by omega) (HR1.out.on HC57.out)).mono ?_
  rintro e w61 ⟨p58, c59, rfl, ho0, hb⟩
  rw [HM1.out] at ho0 ⊢
  have sw61 : w51.heap.size ≤ w61.heap.size := hb.size
  have HO62 := Lib.hid (HO52.out.on hb)
  have HO63 := Lib.hid (HO53.out.on hb)
  have HO64 := Lib.hid (HO54.out.on hb)
  have HO65 := Lib.hid (HO55.out.on hb)
  have HO66 := Lib.hid (HO56.out.on hb)
  have HC67 := Lib.hid (BelowKit.bl_trans HC57.out hb)
  clear HO52 HO53 HO54 HO55 HO56 HC57 hb
  have HO68 := Lib.hid (Own.ow_of ho0)
  clear ho0
  go_wp2_with fail
  refine (TInt.eq_c w61 len1 c27 c59 p26 p58 z1 HM1.out (by omega) (HO65.out.reads TInt.fw) (HO68.out.reads TInt.fw)).mono ?_
  rintro e w69 ⟨rfl, hb⟩
  have sw69 : w61.heap.size ≤ w69.heap.size := hb.size
  have HO70 := Lib.hid (HO62.out.on hb)
  have HO71 := Lib.hid (HO63.out.on hb)
  have HO72 := Lib.hid (HO64.out.on hb)
  have HO73 := Lib.hid (HO65.out.on hb)
  have HO74 := Lib.hid (HO66.out.on hb)
  have HO75 := Lib.hid (HO68.out.on hb)
  have HC76 := Lib.hid (BelowKit.bl_trans HC67.out hb)
  clear HO62 HO63 HO64 HO65 HO66 HO68 HC67 hb
  go_wp2
  go_ret
  exact ⟨rfl, by (repeat (first | exact Below.refl _ _ | apply BelowKit.bl_alloc | apply BelowKit.bl_drewN | apply BelowKit.bl_drew | (refine BelowKit.bl_set ?_ _ ?_; rotate_left; (first | omega | (simp; omega) | simp)) | (refine BelowKit.bl_trans ?_ (‹Hid (Below _ _ _)›).out)))⟩

/-! ### THE ROW's STEP -/
set_option maxRecDepth 100000 in
theorem lifted (os : Os) (started : os.Started) (H : Type) (enc : TypeId × Value → H) :
    ReturnsInHanded {} Try.checked os 8 .any (Rows.fnExactFirstArrearsSpec.pre6 enc Try.prog Try.f8 Rows.fnExactFirstArrearsRow.domain false) (Rows.fnExactFirstArrearsSpec.post enc Try.prog Try.f8 false true false false) := by
  refine returnsInHanded_of_change (C := Try.checked) own started (by kernel_rfl) Try.func8
    (ChangeSpec.witness6 (enc := enc) (C := Try.checked) false ⟨#[], #[.slice none 0 0, .slice none 0 0, .int .i64 0], []⟩ 8 (by kernel_rfl) (by kernel_rfl) (by kernel_rfl) (by kernel_rfl)) ?_
  intro W base args ds gs before hval0 hW hcnd _
  have hval : ∀ (j : Nat) t v, Try.f8.params[j]? = some t → args[j]? = some v → Value.okWide Try.prog W .any base t v := hval0
  have hW' := hW
  obtain ⟨p, q, hA0, hV, rfl, hfz, hnd⟩ := hW
  have hA : DataW.TrodAll enc Try.prog W 0 (fun _ => true) true Try.f8.params.toList args.toList ds p := hA0
  rw [Try.params8] at hA hval
  obtain ⟨v0, vs0, d0, ds0, p0, q0, hargs, rfl, rfl, h0, r0⟩ := trodAll_cons hA
  obtain ⟨v1, vs1, d1, ds1, p1, q1, rfl, rfl, rfl, h1, r1⟩ := trodAll_cons r0
  obtain ⟨v2, vs2, d2, ds2, p2, q2, rfl, rfl, rfl, h2, r2⟩ := trodAll_cons r1
  obtain ⟨rfl, rfl, rfl⟩ := trodAll_nil r2
  obtain rfl : args = #[v0, v1, v2] := by cases args; simp_all
  obtain ⟨rfl, rfl⟩ := trodVars_none hV
  have k0 := h0
  have lt0 : ∀ x ∈ p0, x.block < W.heap.size := by obtain ⟨m, hm⟩ := k0; exact DataW.trod_lt m _ _ _ hm
  obtain ⟨a0, len0, cap0, rfl⟩ := okWide_slice Try.underlying24 (hval 0 24 v0 rfl rfl)
  have s0 : Shape.FitL W [.sl [.int .i64]] [.slice a0 len0 cap0] := by
    obtain ⟨fu, hfu⟩ := h0
    exact Shape.trod_fit 8 24 _ (by kernel_rfl) _ _ _ hfu
  obtain ⟨_, _, _, _, e0, s0, _⟩ := Shape.fit_sl s0
  cases e0
  obtain ⟨z0, hz0, w0, hl0, g0⟩ := Shape.reads_of (f := TInt.fc) (c := 1) (good := TInt.Wf) rfl (fun _ h => TInt.cov h) s0
  have k1 := h1
  have lt1 : ∀ x ∈ p1, x.block < W.heap.size := by obtain ⟨m, hm⟩ := k1; exact DataW.trod_lt m _ _ _ hm
  obtain ⟨a1, len1, cap1, rfl⟩ := okWide_slice Try.underlying24 (hval 1 24 v1 rfl rfl)
  have s1 : Shape.FitL W [.sl [.int .i64]] [.slice a1 len1 cap1] := by
    obtain ⟨fu, hfu⟩ := h1
    exact Shape.trod_fit 8 24 _ (by kernel_rfl) _ _ _ hfu
  obtain ⟨_, _, _, _, e1, s1, _⟩ := Shape.fit_sl s1
  cases e1
  obtain ⟨z1, hz1, w1, hl1, g1⟩ := Shape.reads_of (f := TInt.fc) (c := 1) (good := TInt.Wf) rfl (fun _ h => TInt.cov h) s1
  obtain ⟨a2, rfl, rfl, rfl, w2⟩ := open_int Try.underlying3 (hval 2 3 v2 rfl rfl) h2
  clear hA0 hval0
  refine (walk a0 len0 cap0 z0 a1 len1 cap1 z1 a2 W hz0 w0 hl0 g0 hz1 w1 hl1 g1 w2).mono fun e W' ⟨he, bel⟩ => ?_
  subst he
  exact ⟨_, rfl, _, _, _, [], _, [], hW', trodAll_mk1 (shut_bool Try.underlying4 _), (trodAll_cons_mk (Below.trod laidOut (by kernel_rfl) (of_decide_eq_true (by kernel_rfl)) k0 bel lt0) (trodAll_cons_mk (Below.trod laidOut (by kernel_rfl) (of_decide_eq_true (by kernel_rfl)) k1 bel lt1) (trodAll_cons_mk (shut_int Try.underlying3 w2) trodAll_mk0))), rfl, bel.frame _, fun h => by cases h⟩

theorem over : Rows.fnExactFirstArrearsRow.holds Try.pinned (OpenSpec.ofChange Rows.fnExactFirstArrearsSpec) :=
  OpenClaim.holds_of_wide 8 Try.f8 rfl rfl rfl rfl rfl rfl rfl ⟨rfl, rfl, rfl, rfl, rfl⟩ rfl rfl rfl rfl rfl (by kernel_rfl) Try.func8 (by kernel_rfl)
    (of_decide_eq_true (by kernel_rfl)) (by unfold Func.isWrapper; first | (rw [if_pos (by decide +kernel)]; kernel_rfl) | (rw [if_neg (by decide +kernel)]; exact ⟨rfl, rfl⟩))
    (fun os started H enc _ => lifted os started H enc)

theorem proved : Rows.FnExactFirstArrearsSaid := over
#print axioms proved
end Go.Proofs.Ytgdniakncjjggaa.fnExactFirstArrears
