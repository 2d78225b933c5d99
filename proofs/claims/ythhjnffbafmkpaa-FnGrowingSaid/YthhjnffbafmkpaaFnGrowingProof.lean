/- Proves the given statement of the law FnGrowing: for every input that the row lets in, the law's Go function returns true and every argument reads as before; no condition of mine. -/
import Derived.Test.YthhjnffbafmkpaaAccruLaws
import Derived.Test.YthhjnffbafmkpaaAccruI
import Derived.Test.YthhjnffbafmkpaaDrawRow
import Derived.Test.YthhjnffbafmkpaaKit
import Derived.Test.YthhjnffbafmkpaaRows
import Derived.WalkKit
import Derived.ProofKit
import Derived.OpenShut
import Derived.ShutString
import Derived.ChangeOld
import Derived.Below
namespace Go.Proofs.Ythhjnffbafmkpaa.fnGrowing
open Go.ChangeShapes Go.WideShapes Go.ChangeAt Go.RowKit
open Go.ChangeMaps (open_string shut_string)
set_option linter.unusedVariables false

theorem own : ownKnob Try.prog.godebug = none := by kernel_rfl
theorem laidOut : laidOutB Try.prog = true := by kernel_rfl

/-- WHAT THE WALK IS TOLD OF A SLICE OF INTEGERS THAT CAME IN: it is nil; or it leads to a row of 'cap' cells, the numbers 'zs' (the first 'len' are its elements, the rest its spare room), each fitting its kind. -/
def IsRow (k : IntKind) (w : World) (a : Option Addr) (len cap : Nat) (zs : List Int) : Prop :=
  (a = none ∧ len = 0 ∧ cap = 0 ∧ zs = []) ∨
  ∃ x, a = some x ∧ len ≤ cap ∧ cap ≤ maxLen ∧ zs.length = cap ∧ (∀ i, i < zs.length → w.cell? (x.add i) = some (.int k (zs.getD i 0))) ∧ ∀ n ∈ zs, (Lit.int k n).wf = true

/-! ### STEP 1: THE WALK: the Go text returns true, AND WRITES NOTHING THAT WAS THERE: 'Below w.heap.size w w'' (Derived/Below.lean: '.refl', '.alloc', '.drew', '.setCell' at a new block, '.trans'). Open each 'IsRow' by 'rcases' AHEAD of 'go_enter'; part every test ahead of the walk. -/
set_option maxHeartbeats 4000000 in
set_option maxRecDepth 100000 in
theorem walk (a0 : Option Addr) (len0 cap0 : Nat) (z0 : List Int) (w : World) (w0 : IsRow .u8 w a0 len0 cap0 z0) :
    Calls Try.prog 5 #[.slice a0 len0 cap0] w fun e w' => e = .returned (.bool true) ∧ Below w.heap.size w w' := by
  obtain ⟨hcode, hs⟩ := CurKit.code_at w0
  clear w0
  have HK := Lib.hid hcode
  have HS := Lib.hid hs
  clear hcode
  unfold maxLen at hs
  by_cases hbig : 1048576 < len0
  · go_enter Try.func5, Try.ntmps5
    go_wp2
    go_ret
    exact ⟨rfl, Below.refl _ _⟩
  go_enter Try.func5, Try.ntmps5
  go_wp2_with (go_at_call 11; go_in)
  refine (DrawRow.places_c _ a0 len0 cap0 HK.out HS.out).mono ?_
  rintro e w2 ⟨l2, a2, cap2, hl2, hin, rfl, ho2, hb⟩
  obtain ⟨g, rfl, _, hg2, d0, _⟩ := ho2.at 0 (by omega)
  have d1 := (ho2.cell 1 (by omega)).1
  have d2 := (ho2.cell 2 (by omega)).1
  have d3 := (ho2.cell 3 (by omega)).1
  have i0 := hin.get 0 (by omega)
  have i1 := hin.get 1 (by omega)
  have i2 := hin.get 2 (by omega)
  have i3 := hin.get 3 (by omega)
  generalize l2[0] = t0 at d0 i0
  generalize l2[1] = t1 at d1 i1
  generalize l2[2] = t2 at d2 i2
  generalize l2[3] = t3 at d3 i3
  change _ = some (Value.int .i64 t0) at d0
  change _ = some (Value.int .i64 t1) at d1
  change _ = some (Value.int .i64 t2) at d2
  change _ = some (Value.int .i64 t3) at d3
  obtain ⟨i00, i01⟩ := i0
  obtain ⟨i10, i11⟩ := i1
  obtain ⟨i20, i21⟩ := i2
  obtain ⟨i30, i31⟩ := i3
  have HC := Lib.hid hb
  clear hin hl2 ho2 hb hs
  obtain ⟨R, hR⟩ : ∃ k, 1 + t0 % 300 = k := ⟨_, rfl⟩
  obtain ⟨q, hq⟩ : ∃ k, t3 % 500 = k := ⟨_, rfl⟩
  have r1 : 1 ≤ R := by omega
  have r2 : R ≤ 1000 := by omega
  have q0 : 0 ≤ q := by omega
  have q1 : q ≤ 500 := by omega
  obtain ⟨A, hA⟩ : ∃ A, AccruMath.grow 4 R 0 t1 t2 q = A := ⟨_, rfl⟩
  obtain ⟨f1, f2, f3, f4, f5⟩ := AccruLaws.growing r1 r2 i10 i11 i20 i21 q0 q1 hA
  obtain ⟨C, hC⟩ : ∃ C, AccruMath.grow 4 R 0 (t1 + 100) t2 q = C := ⟨_, rfl⟩
  rw [hC] at f2 f5
  have HA := Lib.hid hA
  have HF1 := Lib.hid f1
  have HCC := Lib.hid hC
  clear hA f1 hC
  go_wp2_with fail
  generalize hW : w2.alloc _ = W
  have hbW : Below w2.heap.size w2 W := by rw [← hW]; exact BelowKit.bl_alloc (Below.refl _ _)
  obtain ⟨kc, _⟩ := BelowKit.bcell hbW
  have e0 := (kc _ 0 hg2).trans d0
  have e1 := (kc _ 1 hg2).trans d1
  have e2 := (kc _ 2 hg2).trans d2
  have e3 := (kc _ 3 hg2).trans d3
  have hD := AccruS.Dk.new w2 4 R 0 27
  rw [hW] at hD
  obtain ⟨b, hb⟩ : ∃ b, w2.heap.size = b := ⟨_, rfl⟩
  have hgW : g < W.heap.size := Nat.lt_of_lt_of_le hg2 hbW.size
  have HC0 := Lib.hid (BelowKit.bl_trans HC.out hbW)
  rw [hb] at hD ⊢
  clear hW hbW kc d0 d1 d2 d3 hg2 HC hb
  obtain ⟨k0, k1, k2, kl⟩ := hD
  have HKP : Hid (∀ W', Below W.heap.size W W' → W'.cell? ⟨b, 0, none⟩ = some (.int .i64 4) ∧ W'.cell? ⟨b, 1, none⟩ = some (.int .i64 R) ∧ W'.cell? ⟨b, 2, none⟩ = some (.int .i64 0) ∧ W'.cell? ⟨g, 0, none⟩ = some (.int .i64 t0) ∧ W'.cell? ⟨g, 1, none⟩ = some (.int .i64 t1) ∧ W'.cell? ⟨g, 2, none⟩ = some (.int .i64 t2) ∧ W'.cell? ⟨g, 3, none⟩ = some (.int .i64 t3)) := Lib.hid fun W' hb => by
    obtain ⟨kc, _⟩ := BelowKit.bcell hb
    exact ⟨(kc _ 0 kl).trans k0, (kc _ 1 kl).trans k1, (kc _ 2 kl).trans k2, (kc _ 0 hgW).trans e0, (kc _ 1 hgW).trans e1, (kc _ 2 hgW).trans e2, (kc _ 3 hgW).trans e3⟩
  have hq2 : t3.tmod 500 = q := by rw [Int.tmod_eq_emod_of_nonneg i30]; exact hq
  have W1 : IntKind.i64.wrap (t2 + 1) = t2 + 1 := IntWalk.i64_in _ (by omega)
  have W2 : IntKind.i64.wrap (t1 + 100) = t1 + 100 := IntWalk.i64_in _ (by omega)
  go_region_held3 (fun V => V.cell? ⟨b, 0, none⟩ = some (.int .i64 4) ∧ V.cell? ⟨b, 1, none⟩ = some (.int .i64 R) ∧ V.cell? ⟨b, 2, none⟩ = some (.int .i64 0) ∧ V.cell? ⟨g, 0, none⟩ = some (.int .i64 t0) ∧ V.cell? ⟨g, 1, none⟩ = some (.int .i64 t1) ∧ V.cell? ⟨g, 2, none⟩ = some (.int .i64 t2) ∧ V.cell? ⟨g, 3, none⟩ = some (.int .i64 t3))
    (first | exact HKP.out _ HG1.out | exact HKP.out _ (below_drewN (Below.refl _ _) _) | go_keep)
    (first
      | ((go_at_call 15; (with_reducible refine (AccruI.grow_i _ 4 R 0 t1 t2 q).mono ?_); rintro e v1 ⟨rfl, hb1⟩; rw [HA.out]; have HG1 := Lib.hid (show Below W.heap.size W v1 from BelowKit.bl_trans (by first | exact (Below.refl _ _).drew | exact below_drewN (Below.refl _ _) _ | exact Below.refl _ _) hb1); clear hb1)))
  clear k0 k1 k2 e0 e1 e2 e3
  obtain ⟨k0, k1, k2, e0, e1, e2, e3⟩ := HKP.out _ HG1.out
  go_wp2_with fail
  go_region_held3 (fun V => V.cell? ⟨b, 0, none⟩ = some (.int .i64 4) ∧ V.cell? ⟨b, 1, none⟩ = some (.int .i64 R) ∧ V.cell? ⟨b, 2, none⟩ = some (.int .i64 0) ∧ V.cell? ⟨g, 0, none⟩ = some (.int .i64 t0) ∧ V.cell? ⟨g, 1, none⟩ = some (.int .i64 t1) ∧ V.cell? ⟨g, 2, none⟩ = some (.int .i64 t2) ∧ V.cell? ⟨g, 3, none⟩ = some (.int .i64 t3))
    (first | exact HKP.out _ HG2.out | exact HKP.out _ HG1.out.drew | exact HKP.out _ (below_drewN HG1.out _) | exact HKP.out _ HG1.out | go_keep)
    (first
      | ((go_at_call 15; (with_reducible refine (AccruI.grow_i _ 4 R 0 t1 (t2 + 1) q).mono ?_); rintro e v2 ⟨rfl, hb2⟩; rw [HF1.out]; have HG2 := Lib.hid (show Below W.heap.size W v2 from BelowKit.bl_trans HG1.out (BelowKit.bl_trans (by first | exact (Below.refl _ _).drew | exact below_drewN (Below.refl _ _) _ | exact Below.refl _ _) hb2)); clear hb2)))
  clear k0 k1 k2 e0 e1 e2 e3
  obtain ⟨k0, k1, k2, e0, e1, e2, e3⟩ := HKP.out _ HG2.out
  go_wp2_with fail
  go_region_held3 (fun V => V.cell? ⟨b, 0, none⟩ = some (.int .i64 4) ∧ V.cell? ⟨b, 1, none⟩ = some (.int .i64 R) ∧ V.cell? ⟨b, 2, none⟩ = some (.int .i64 0) ∧ V.cell? ⟨g, 0, none⟩ = some (.int .i64 t0) ∧ V.cell? ⟨g, 1, none⟩ = some (.int .i64 t1) ∧ V.cell? ⟨g, 2, none⟩ = some (.int .i64 t2) ∧ V.cell? ⟨g, 3, none⟩ = some (.int .i64 t3))
    (first | exact HKP.out _ HG3.out | exact HKP.out _ HG2.out.drew | exact HKP.out _ (below_drewN HG2.out _) | exact HKP.out _ HG2.out | go_keep)
    (first
      | ((go_at_call 15; (with_reducible refine (AccruI.grow_i _ 4 R 0 (t1 + 100) t2 q).mono ?_); rintro e v3 ⟨rfl, hb3⟩; rw [HCC.out]; have HG3 := Lib.hid (show Below W.heap.size W v3 from BelowKit.bl_trans HG2.out (BelowKit.bl_trans (by first | exact (Below.refl _ _).drew | exact below_drewN (Below.refl _ _) _ | exact Below.refl _ _) hb3)); clear hb3)))
  clear k0 k1 k2 e0 e1 e2 e3
  obtain ⟨k0, k1, k2, e0, e1, e2, e3⟩ := HKP.out _ HG3.out
  have W3 : IntKind.i64.wrap (A + 1) = A + 1 := IntWalk.i64_in _ (by omega)
  have W4 : IntKind.i64.wrap (A + 100) = A + 100 := IntWalk.i64_in _ (by omega)
  have W5 : IntKind.i64.wrap (t1 + t2) = t1 + t2 := IntWalk.i64_in _ (by omega)
  have x1 : decide (A + 100 ≤ C) = true := decide_eq_true f2
  have x2 : decide (t1 + t2 ≤ A) = true := decide_eq_true f3
  go_wp2_with fail
  go_quiet (fail)
  clear W1 W2 W3 W4 W5
  go_wp2
  go_ret
  exact ⟨rfl, below_drewN (BelowKit.bl_trans HC0.out HG3.out) _⟩

/-! ### THE ROW's STEP: WRITTEN OUT: LEAVE IT -/
set_option maxRecDepth 100000 in
theorem lifted (os : Os) (started : os.Started) (H : Type) (enc : TypeId × Value → H) :
    ReturnsInHanded {} Try.checked os 5 .any (Rows.fnGrowingSpec.pre6 enc Try.prog Try.f5 Rows.fnGrowingRow.domain false) (Rows.fnGrowingSpec.post enc Try.prog Try.f5 false true false false) := by
  refine returnsInHanded_of_change (C := Try.checked) own started (by kernel_rfl) Try.func5
    (ChangeSpec.witness6 (enc := enc) (C := Try.checked) false ⟨#[], #[.slice none 0 0], []⟩ 8 (by kernel_rfl) (by kernel_rfl) (by kernel_rfl) (by kernel_rfl)) ?_
  intro W base args ds gs before hval0 hW hcnd _
  have hval : ∀ (j : Nat) t v, Try.f5.params[j]? = some t → args[j]? = some v → Value.okWide Try.prog W .any base t v := hval0
  have hW' := hW
  obtain ⟨p, q, hA0, hV, rfl, hfz, hnd⟩ := hW
  have hA : DataW.TrodAll enc Try.prog W 0 (fun _ => true) true Try.f5.params.toList args.toList ds p := hA0
  rw [Try.params5] at hA hval
  obtain ⟨v0, vs0, d0, ds0, p0, q0, hargs, rfl, rfl, h0, r0⟩ := trodAll_cons hA
  obtain ⟨rfl, rfl, rfl⟩ := trodAll_nil r0
  obtain rfl : args = #[v0] := by cases args; simp_all
  obtain ⟨rfl, rfl⟩ := trodVars_none hV
  obtain ⟨a0, len0, cap0, rfl⟩ := okWide_slice Try.underlying22 (hval 0 22 v0 rfl rfl)
  have k0 := h0
  have lt0 : ∀ x ∈ p0, x.block < W.heap.size := by obtain ⟨m, hm⟩ := k0; exact DataW.trod_lt m _ _ _ hm
  obtain ⟨z0, w0⟩ : ∃ zs, IsRow .u8 W a0 len0 cap0 zs := by
    obtain ⟨fuel, hf⟩ := h0
    rcases open_ints Try.underlying22 Try.underlying5 (by kernel_rfl) hf with ⟨hcs, _⟩ | ⟨x, l, c, zs, hcs, _, hl, hm, hz, _, hcell, hwz⟩
    · simp [Value.cells] at hcs
      obtain ⟨rfl, rfl, rfl⟩ := hcs
      exact ⟨[], .inl ⟨rfl, rfl, rfl, rfl⟩⟩
    · simp [Value.cells] at hcs
      obtain ⟨rfl, rfl, rfl⟩ := hcs
      exact ⟨zs, .inr ⟨_, rfl, hl, hm, by simpa using hz, hcell, hwz⟩⟩
  clear hA0 hval0
  refine (walk a0 len0 cap0 z0 W w0).mono fun e W' ⟨he, bel⟩ => ?_
  subst he
  exact ⟨_, rfl, _, _, _, [], _, [], hW', trodAll_mk1 (shut_bool Try.underlying4 _), (trodAll_cons_mk (Below.trod laidOut (by kernel_rfl) (of_decide_eq_true (by kernel_rfl)) k0 bel lt0) trodAll_mk0), rfl, bel.frame _, fun h => by cases h⟩

theorem over : Rows.fnGrowingRow.holds Try.pinned (OpenSpec.ofChange Rows.fnGrowingSpec) :=
  OpenClaim.holds_of_wide 5 Try.f5 rfl rfl rfl rfl rfl rfl rfl ⟨rfl, rfl, rfl, rfl, rfl⟩ rfl rfl rfl rfl rfl (by kernel_rfl) Try.func5 (by kernel_rfl)
    (of_decide_eq_true (by kernel_rfl)) (by unfold Func.isWrapper; first | (rw [if_pos (by decide +kernel)]; kernel_rfl) | (rw [if_neg (by decide +kernel)]; exact ⟨rfl, rfl⟩))
    (fun os started H enc _ => lifted os started H enc)

theorem proved : Rows.FnGrowingSaid := over
#print axioms proved
end Go.Proofs.Ythhjnffbafmkpaa.fnGrowing
