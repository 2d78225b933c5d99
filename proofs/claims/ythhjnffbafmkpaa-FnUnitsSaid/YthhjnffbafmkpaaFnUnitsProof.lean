/- Proves the given statement of the law FnUnits: for every input that the row lets in, the law's Go function returns true and every argument reads as before; no condition of mine. -/
import Derived.Test.YthhjnffbafmkpaaAccruLaws
import Derived.Test.YthhjnffbafmkpaaAccruI
import Derived.Test.YthhjnffbafmkpaaFracEq
import Derived.Test.YthhjnffbafmkpaaDrawRow
import Derived.Test.YthhjnffbafmkpaaKit
import Derived.Test.YthhjnffbafmkpaaRows
import Derived.WalkKit
import Derived.ProofKit
import Derived.OpenShut
import Derived.ShutString
import Derived.ChangeOld
import Derived.Below
namespace Go.Proofs.Ythhjnffbafmkpaa.fnUnits
open Go.ChangeShapes Go.WideShapes Go.ChangeAt Go.RowKit
open Go.ChangeMaps (open_string shut_string)
set_option linter.unusedVariables false

theorem own : ownKnob Try.prog.godebug = none := by kernel_rfl
theorem laidOut : laidOutB Try.prog = true := by kernel_rfl

/-- WHAT THE WALK IS TOLD OF A SLICE OF INTEGERS THAT CAME IN: it is nil; or it leads to a row of 'cap' cells, the numbers 'zs' (the first 'len' are its elements, the rest its spare room), each fitting its kind. -/
def IsRow (k : IntKind) (w : World) (a : Option Addr) (len cap : Nat) (zs : List Int) : Prop :=
  (a = none ∧ len = 0 ∧ cap = 0 ∧ zs = []) ∨
  ∃ x, a = some x ∧ len ≤ cap ∧ cap ≤ maxLen ∧ zs.length = cap ∧ (∀ i, i < zs.length → w.cell? (x.add i) = some (.int k (zs.getD i 0))) ∧ ∀ n ∈ zs, (Lit.int k n).wf = true

/-! ### STEP 1: THE WALK: the Go text returns true, AND WRITES NOTHING THAT WAS THERE: 'Below w.heap.size w w'' (Derived/Below.lean: '.refl', '.alloc', '.drew', '.setCell' at a new block, '.trans'). Open each 'IsRow' by 'rcases' AHEAD of 'go_enter'; part every test ahead of the walk. -/
set_option maxHeartbeats 4000000 in
set_option maxRecDepth 100000 in
theorem walk (a0 : Option Addr) (len0 cap0 : Nat) (z0 : List Int) (w : World) (w0 : IsRow .u8 w a0 len0 cap0 z0) :
    Calls Try.prog 4 #[.slice a0 len0 cap0] w fun e w' => e = .returned (.bool true) ∧ Below w.heap.size w w' := by
  obtain ⟨hcode, hs⟩ := CurKit.code_at w0
  clear w0
  have HK := Lib.hid hcode
  have HS := Lib.hid hs
  clear hcode
  unfold maxLen at hs
  by_cases hbig : 1048576 < len0
  · go_enter Try.func4, Try.ntmps4
    go_wp2
    go_ret
    exact ⟨rfl, Below.refl _ _⟩
  go_enter Try.func4, Try.ntmps4
  go_wp2_with (go_at_call 11; go_in)
  refine (DrawRow.places_c _ a0 len0 cap0 HK.out HS.out).mono ?_
  rintro e w2 ⟨l2, a2, cap2, hl2, hin, rfl, ho2, hb⟩
  obtain ⟨g, rfl, _, hg2, d0, _⟩ := ho2.at 0 (by omega)
  have d1 := (ho2.cell 1 (by omega)).1
  have d2 := (ho2.cell 2 (by omega)).1
  have i0 := hin.get 0 (by omega)
  have i1 := hin.get 1 (by omega)
  have i2 := hin.get 2 (by omega)
  generalize l2[0] = t0 at d0 i0
  generalize l2[1] = t1 at d1 i1
  generalize l2[2] = t2 at d2 i2
  change _ = some (Value.int .i64 t0) at d0
  change _ = some (Value.int .i64 t1) at d1
  change _ = some (Value.int .i64 t2) at d2
  obtain ⟨i00, i01⟩ := i0
  obtain ⟨i10, i11⟩ := i1
  obtain ⟨i20, i21⟩ := i2
  have HC := Lib.hid hb
  clear hin hl2 ho2 hb hs
  obtain ⟨p, hp⟩ : ∃ k, 1 + t0 % 500 = k := ⟨_, rfl⟩
  obtain ⟨R, hR⟩ : ∃ k, 1 + t1 % 900 = k := ⟨_, rfl⟩
  have p1 : 1 ≤ p := by omega
  have p2 : p ≤ 500 := by omega
  have r1 : 1 ≤ R := by omega
  have r2 : R ≤ 900 := by omega
  have hpen := AccruLaws.units_pen i20 i21 p1 p2 r1 r2
  obtain ⟨⟨a, b⟩, hab⟩ : ∃ u, AccruMath.units t2 p = u := ⟨_, rfl⟩
  rw [hab] at hpen
  have x0 : 0 ≤ t2 * R := Int.mul_nonneg i20 (by omega)
  have x1 : t2 * R ≤ 9999 * 900 := Int.mul_le_mul i21 r2 (by omega) (by omega)
  obtain ⟨X, hX⟩ : ∃ X, t2 * R = X := ⟨_, rfl⟩
  rw [hX] at hpen x0 x1
  have hdd : X.tdiv p = X / p := Int.tdiv_eq_ediv_of_nonneg x0
  obtain ⟨Q, hQ⟩ : ∃ Q, X / p = Q := ⟨_, rfl⟩
  have q0 : 0 ≤ Q := by rw [← hQ]; exact Int.ediv_nonneg x0 (by omega)
  have q1 : Q ≤ X := by rw [← hQ]; exact Int.ediv_le_self _ x0
  rw [hQ] at hpen hdd
  have HAB := Lib.hid hab
  have HPEN := Lib.hid hpen
  have HX := Lib.hid hX
  have HDD := Lib.hid hdd
  clear hab hpen hX hdd hQ
  go_wp2_with fail
  refine (AccruI.units_i _ t2 p).mono ?_
  rintro e w3 ⟨rfl, hb⟩
  rw [HAB.out]
  obtain ⟨kc, _⟩ := BelowKit.bcell (BelowKit.bl_trans (BelowKit.bl_alloc (Below.refl w2.heap.size w2)) hb)
  have e2 := (kc _ 2 hg2).trans d2
  have hD := (AccruS.Dk.new w2 3 R 0 27).on hb
  have hg3 : g < w3.heap.size := by have := hb.size; simp at this; omega
  have HC3 := Lib.hid (BelowKit.bl_trans HC.out (BelowKit.bl_trans (BelowKit.bl_alloc (Below.refl w2.heap.size w2)) hb))
  obtain ⟨o, ho⟩ : ∃ o, w2.heap.size = o := ⟨_, rfl⟩
  rw [ho] at hD ⊢
  have HD := Lib.hid hD
  obtain ⟨k0, k1, k2, kl⟩ := hD
  clear hb kc d0 d1 d2 hg2 HC ho
  go_wp2_with fail
  refine (AccruI.pen_i _ 3 R 0 a b).mono ?_
  rintro e w4 ⟨rfl, hb⟩
  rw [HPEN.out]
  have hb' := AccruS.one_on _ hb
  have HD4 := HD.out.on hb'
  have e4 := ((BelowKit.bcell hb').1 _ 2 hg3).trans e2
  have hg4 : g < w4.heap.size := Nat.lt_of_lt_of_le hg3 hb'.size
  have HC4 := Lib.hid (BelowKit.bl_trans HC3.out hb')
  clear hb hb' k0 k1 k2 kl e2 hg3 HC3 HD
  obtain ⟨k0, k1, k2, kl⟩ := HD4
  have HKP : Hid (∀ W', Below w4.heap.size w4 W' → W'.cell? ⟨o, 1, none⟩ = some (.int .i64 R) ∧ W'.cell? ⟨g, 2, none⟩ = some (.int .i64 t2)) := Lib.hid fun W' hb => by
    obtain ⟨kc, _⟩ := BelowKit.bcell hb
    exact ⟨(kc _ 1 kl).trans k1, (kc _ 2 hg4).trans e4⟩
  have W1 : IntKind.i64.wrap (t2 * R) = X := by rw [HX.out]; exact IntWalk.i64_in _ (by omega)
  have W2 : IntKind.i64.wrap (X.tdiv p) = Q := by rw [HDD.out]; exact IntWalk.i64_in _ (by omega)
  have dz : (p == 0) = false := beq_eq_false_iff_ne.2 (by omega)
  have dz2 : decide (p = 0) = false := decide_eq_false (by omega)
  have dz3 : ¬ p = 0 := by omega
  have heq := fun W => FracEq.eql 7 2 7 2 W
  have hgrd := fun W x y a b c e => FracEq.guard .eql x y #[.int .i64 a, .int .i64 b] #[.int .i64 c, .int .i64 e] W
  go_wp2_with fail
  go_region_held3 (fun V => V.cell? ⟨o, 1, none⟩ = some (.int .i64 R) ∧ V.cell? ⟨g, 2, none⟩ = some (.int .i64 t2))
    (first | exact HKP.out _ HG5.out | exact HKP.out _ (below_drewN (Below.refl _ _) _) | go_keep)
    (first
      | ((go_at_call 17; (with_reducible refine (AccruI.units_i _ 7 2).mono ?_); rintro e w5 ⟨rfl, hb5⟩; rw [AccruLaws.units_72]; have HG5 := Lib.hid (show Below w4.heap.size w4 w5 from BelowKit.bl_trans (by first | exact (Below.refl _ _).drew | exact below_drewN (Below.refl _ _) _ | exact Below.refl _ _) hb5); clear hb5)))
  clear W1 W2
  go_wp2
  go_ret
  exact ⟨rfl, by first | exact BelowKit.bl_trans HC4.out HG5.out | exact (BelowKit.bl_trans HC4.out HG5.out).drew | exact below_drewN (BelowKit.bl_trans HC4.out HG5.out) _⟩

/-! ### THE ROW's STEP: WRITTEN OUT: LEAVE IT -/
set_option maxRecDepth 100000 in
theorem lifted (os : Os) (started : os.Started) (H : Type) (enc : TypeId × Value → H) :
    ReturnsInHanded {} Try.checked os 4 .any (Rows.fnUnitsSpec.pre6 enc Try.prog Try.f4 Rows.fnUnitsRow.domain false) (Rows.fnUnitsSpec.post enc Try.prog Try.f4 false true false false) := by
  refine returnsInHanded_of_change (C := Try.checked) own started (by kernel_rfl) Try.func4
    (ChangeSpec.witness6 (enc := enc) (C := Try.checked) false ⟨#[], #[.slice none 0 0], []⟩ 8 (by kernel_rfl) (by kernel_rfl) (by kernel_rfl) (by kernel_rfl)) ?_
  intro W base args ds gs before hval0 hW hcnd _
  have hval : ∀ (j : Nat) t v, Try.f4.params[j]? = some t → args[j]? = some v → Value.okWide Try.prog W .any base t v := hval0
  have hW' := hW
  obtain ⟨p, q, hA0, hV, rfl, hfz, hnd⟩ := hW
  have hA : DataW.TrodAll enc Try.prog W 0 (fun _ => true) true Try.f4.params.toList args.toList ds p := hA0
  rw [Try.params4] at hA hval
  obtain ⟨v0, vs0, d0, ds0, p0, q0, hargs, rfl, rfl, h0, r0⟩ := trodAll_cons hA
  obtain ⟨rfl, rfl, rfl⟩ := trodAll_nil r0
  obtain rfl : args = #[v0] := by cases args; simp_all
  obtain ⟨rfl, rfl⟩ := trodVars_none hV
  obtain ⟨a0, len0, cap0, rfl⟩ := okWide_slice Try.underlying22 (hval 0 22 v0 rfl rfl)
  have k0 := h0
  have lt0 : ∀ x ∈ p0, x.block < W.heap.size := by obtain ⟨m, hm⟩ := k0; exact DataW.trod_lt m _ _ _ hm
  obtain ⟨z0, w0⟩ : ∃ zs, IsRow .u8 W a0 len0 cap0 zs := by
    obtain ⟨fuel, hf⟩ := h0
    rcases open_ints Try.underlying22 Try.underlying5 (by kernel_rfl) hf with ⟨hcs, _⟩ | ⟨x, l, c, zs, hcs, _, hl, hm, hz, _, hcell, hwz⟩
    · simp [Value.cells] at hcs
      obtain ⟨rfl, rfl, rfl⟩ := hcs
      exact ⟨[], .inl ⟨rfl, rfl, rfl, rfl⟩⟩
    · simp [Value.cells] at hcs
      obtain ⟨rfl, rfl, rfl⟩ := hcs
      exact ⟨zs, .inr ⟨_, rfl, hl, hm, by simpa using hz, hcell, hwz⟩⟩
  clear hA0 hval0
  refine (walk a0 len0 cap0 z0 W w0).mono fun e W' ⟨he, bel⟩ => ?_
  subst he
  exact ⟨_, rfl, _, _, _, [], _, [], hW', trodAll_mk1 (shut_bool Try.underlying4 _), (trodAll_cons_mk (Below.trod laidOut (by kernel_rfl) (of_decide_eq_true (by kernel_rfl)) k0 bel lt0) trodAll_mk0), rfl, bel.frame _, fun h => by cases h⟩

theorem over : Rows.fnUnitsRow.holds Try.pinned (OpenSpec.ofChange Rows.fnUnitsSpec) :=
  OpenClaim.holds_of_wide 4 Try.f4 rfl rfl rfl rfl rfl rfl rfl ⟨rfl, rfl, rfl, rfl, rfl⟩ rfl rfl rfl rfl rfl (by kernel_rfl) Try.func4 (by kernel_rfl)
    (of_decide_eq_true (by kernel_rfl)) (by unfold Func.isWrapper; first | (rw [if_pos (by decide +kernel)]; kernel_rfl) | (rw [if_neg (by decide +kernel)]; exact ⟨rfl, rfl⟩))
    (fun os started H enc _ => lifted os started H enc)

theorem proved : Rows.FnUnitsSaid := over
#print axioms proved
end Go.Proofs.Ythhjnffbafmkpaa.fnUnits
