/- Proves the given statement of the law FnAges: for every input that the row lets in, the law's Go function returns true and every argument reads as before; no condition of mine. -/
import Derived.Test.YtlbpopmgadomoaaMon
import Derived.Test.YtlbpopmgadomoaaDrawRow
import Derived.Test.YtlbpopmgadomoaaBelowKit
import Derived.Test.YtlbpopmgadomoaaRows
import Derived.WalkKit
import Derived.ProofKit
import Derived.OpenShut
import Derived.ShutString
import Derived.ChangeOld
import Derived.Below
namespace Go.Proofs.Ytlbpopmgadomoaa.fnAges
open Go.ChangeShapes Go.WideShapes Go.ChangeAt Go.RowKit
open Go.ChangeMaps (open_string shut_string)
set_option linter.unusedVariables false

theorem own : ownKnob Try.prog.godebug = none := by kernel_rfl
theorem laidOut : laidOutB Try.prog = true := by kernel_rfl

/-- WHAT THE WALK IS TOLD OF A SLICE OF INTEGERS THAT CAME IN: it is nil; or it leads to a row of 'cap' cells, the numbers 'zs' (the first 'len' are its elements, the rest its spare room), each fitting its kind. -/
def IsRow (k : IntKind) (w : World) (a : Option Addr) (len cap : Nat) (zs : List Int) : Prop :=
  (a = none ∧ len = 0 ∧ cap = 0 ∧ zs = []) ∨
  ∃ x, a = some x ∧ len ≤ cap ∧ cap ≤ maxLen ∧ zs.length = cap ∧ (∀ i, i < zs.length → w.cell? (x.add i) = some (.int k (zs.getD i 0))) ∧ ∀ n ∈ zs, (Lit.int k n).wf = true

/-! ### STEP 1: THE WALK: the Go text returns true, AND WRITES NOTHING THAT WAS THERE: 'Below w.heap.size w w'' (Derived/Below.lean: '.refl', '.alloc', '.drew', '.setCell' at a new block, '.trans'). Open each 'IsRow' by 'rcases' AHEAD of 'go_enter'; part every test ahead of the walk. -/
theorem walk (a0 : Option Addr) (len0 cap0 : Nat) (z0 : List Int) (w : World) (w0 : IsRow .u8 w a0 len0 cap0 z0) :
    Calls Try.prog 3 #[.slice a0 len0 cap0] w fun e w' => e = .returned (.bool true) ∧ Below w.heap.size w w' := by
  obtain ⟨hcode, hs⟩ := CurKit.code_at w0
  clear w0
  have HK := Lib.hid hcode
  have HS := Lib.hid hs
  clear hcode
  unfold maxLen at hs
  by_cases hbig : 1048576 < len0
  · go_enter Try.func3, Try.ntmps3
    go_wp2
    go_ret
    exact ⟨rfl, Below.refl _ _⟩
  · go_enter Try.func3, Try.ntmps3
    go_wp2_with (go_at_call 9; go_in)
    refine (DrawRow.places_c _ a0 len0 cap0 HK.out HS.out).mono ?_
    rintro e w1 ⟨l, a, cap, hl, hin, rfl, ho, hb1⟩
    have HB1 := Lib.hid hb1
    obtain ⟨g, rfl, _, hg, c0, f0⟩ := ho.at 0 (by omega)
    have c1 := (ho.cell 1 (by omega)).1
    obtain ⟨t, ht⟩ : ∃ t, l[0] = t := ⟨_, rfl⟩
    obtain ⟨s, hs1⟩ : ∃ s, l[1] = s := ⟨_, rfl⟩
    have i0 := hin.get 0 (by omega)
    have i1 := hin.get 1 (by omega)
    rw [ht] at c0 i0
    rw [hs1] at c1 i1
    obtain ⟨i00, i01⟩ := i0
    obtain ⟨i10, i11⟩ := i1
    clear ht hs1 hin hl ho hb1 f0
    obtain ⟨q, hq⟩ : ∃ q, (s % 1000) / 12 = q := ⟨_, rfl⟩
    have b1 : 0 ≤ (t % 1000) := by omega
    have b2 : (t % 1000) < 1000 := by omega
    have d1 : 0 ≤ (s % 1000) := by omega
    have d2 : (s % 1000) < 1000 := by omega
    have q1 : 0 ≤ q := by omega
    have q2 : q < 100 := by omega
    have q3 : 12 * q ≤ (s % 1000) := by omega
    have q4 : (s % 1000) < 12 * (q + 1) := by omega
    have A1 := Lib.hid (show Mon.age (t % 1000) ((t % 1000) + (s % 1000)) 1 = q by rw [Mon.age_yes (Mon.inB_yes b1 (by omega)) (Mon.inB_yes (by omega) (by omega)) (by omega)]; show ((t % 1000) + (s % 1000) - (t % 1000)) / 12 = q; omega)
    have A3 := Lib.hid (show Mon.age (t % 1000) ((t % 1000) + (s % 1000)) 3 = q + 1 by rw [Mon.age_yes (Mon.inB_yes b1 (by omega)) (Mon.inB_yes (by omega) (by omega)) (by omega)]; show ((t % 1000) + (s % 1000) - (t % 1000)) / 12 + 1 = q + 1; omega)
    by_cases h6 : 6 ≤ (s % 1000) % 12
    · have A2 := Lib.hid (show Mon.age (t % 1000) ((t % 1000) + (s % 1000)) 2 = q + 1 by rw [Mon.age_yes (Mon.inB_yes b1 (by omega)) (Mon.inB_yes (by omega) (by omega)) (by omega)]; show ((t % 1000) + (s % 1000) - (t % 1000) + 6) / 12 = q + 1; omega)
      have m1 : (t % 1000 + s % 1000 - t % 1000) < 12 * (q + 1) := by omega
      have m2 : 12 * q ≤ (t % 1000 + s % 1000 - t % 1000) := by omega
      have m3 : 6 ≤ (t % 1000 + s % 1000 - t % 1000) % 12 := by omega
      have n1 : (q + 1 == q) = false := by rw [beq_eq_false_iff_ne]; omega
      clear hq
      go_wp2_with fail
      refine (Mon.age_i _ _ _ _).mono ?_
      rintro e w' ⟨rfl, rfl⟩
      rw [A1.out]
      go_wp2_with fail
      refine (Mon.age_i _ _ _ _).mono ?_
      rintro e w' ⟨rfl, rfl⟩
      rw [A2.out]
      go_wp2_with fail
      refine (Mon.age_i _ _ _ _).mono ?_
      rintro e w' ⟨rfl, rfl⟩
      rw [A3.out]
      go_wp2
      go_ret
      exact ⟨rfl, HB1.out⟩
    · have A2 := Lib.hid (show Mon.age (t % 1000) ((t % 1000) + (s % 1000)) 2 = q by rw [Mon.age_yes (Mon.inB_yes b1 (by omega)) (Mon.inB_yes (by omega) (by omega)) (by omega)]; show ((t % 1000) + (s % 1000) - (t % 1000) + 6) / 12 = q; omega)
      have m1 : (t % 1000 + s % 1000 - t % 1000) < 12 * (q + 1) := by omega
      have m2 : 12 * q ≤ (t % 1000 + s % 1000 - t % 1000) := by omega
      have m3 : ¬ 6 ≤ (t % 1000 + s % 1000 - t % 1000) % 12 := by omega
      have m4 : decide (6 ≤ (t % 1000 + s % 1000 - t % 1000) % 12) = false := decide_eq_false m3
      have n1 : (q == q + 1) = false := by rw [beq_eq_false_iff_ne]; omega
      clear hq
      go_wp2_with fail
      refine (Mon.age_i _ _ _ _).mono ?_
      rintro e w' ⟨rfl, rfl⟩
      rw [A1.out]
      go_wp2_with fail
      refine (Mon.age_i _ _ _ _).mono ?_
      rintro e w' ⟨rfl, rfl⟩
      rw [A2.out]
      go_wp2_with fail
      refine (Mon.age_i _ _ _ _).mono ?_
      rintro e w' ⟨rfl, rfl⟩
      rw [A3.out]
      go_wp2
      go_ret
      exact ⟨rfl, HB1.out⟩

/-! ### THE ROW's STEP: WRITTEN OUT: LEAVE IT -/
set_option maxRecDepth 100000 in
theorem lifted (os : Os) (started : os.Started) (H : Type) (enc : TypeId × Value → H) :
    ReturnsInHanded {} Try.checked os 3 .any (Rows.fnAgesSpec.pre6 enc Try.prog Try.f3 Rows.fnAgesRow.domain false) (Rows.fnAgesSpec.post enc Try.prog Try.f3 false true false false) := by
  refine returnsInHanded_of_change (C := Try.checked) own started (by kernel_rfl) Try.func3
    (ChangeSpec.witness6 (enc := enc) (C := Try.checked) false ⟨#[], #[.slice none 0 0], []⟩ 8 (by kernel_rfl) (by kernel_rfl) (by kernel_rfl) (by kernel_rfl)) ?_
  intro W base args ds gs before hval0 hW hcnd _
  have hval : ∀ (j : Nat) t v, Try.f3.params[j]? = some t → args[j]? = some v → Value.okWide Try.prog W .any base t v := hval0
  have hW' := hW
  obtain ⟨p, q, hA0, hV, rfl, hfz, hnd⟩ := hW
  have hA : DataW.TrodAll enc Try.prog W 0 (fun _ => true) true Try.f3.params.toList args.toList ds p := hA0
  rw [Try.params3] at hA hval
  obtain ⟨v0, vs0, d0, ds0, p0, q0, hargs, rfl, rfl, h0, r0⟩ := trodAll_cons hA
  obtain ⟨rfl, rfl, rfl⟩ := trodAll_nil r0
  obtain rfl : args = #[v0] := by cases args; simp_all
  obtain ⟨rfl, rfl⟩ := trodVars_none hV
  obtain ⟨a0, len0, cap0, rfl⟩ := okWide_slice Try.underlying22 (hval 0 22 v0 rfl rfl)
  have k0 := h0
  have lt0 : ∀ x ∈ p0, x.block < W.heap.size := by obtain ⟨m, hm⟩ := k0; exact DataW.trod_lt m _ _ _ hm
  obtain ⟨z0, w0⟩ : ∃ zs, IsRow .u8 W a0 len0 cap0 zs := by
    obtain ⟨fuel, hf⟩ := h0
    rcases open_ints Try.underlying22 Try.underlying5 (by kernel_rfl) hf with ⟨hcs, _⟩ | ⟨x, l, c, zs, hcs, _, hl, hm, hz, _, hcell, hwz⟩
    · simp [Value.cells] at hcs
      obtain ⟨rfl, rfl, rfl⟩ := hcs
      exact ⟨[], .inl ⟨rfl, rfl, rfl, rfl⟩⟩
    · simp [Value.cells] at hcs
      obtain ⟨rfl, rfl, rfl⟩ := hcs
      exact ⟨zs, .inr ⟨_, rfl, hl, hm, by simpa using hz, hcell, hwz⟩⟩
  clear hA0 hval0
  refine (walk a0 len0 cap0 z0 W w0).mono fun e W' ⟨he, bel⟩ => ?_
  subst he
  exact ⟨_, rfl, _, _, _, [], _, [], hW', trodAll_mk1 (shut_bool Try.underlying4 _), (trodAll_cons_mk (Below.trod laidOut (by kernel_rfl) (of_decide_eq_true (by kernel_rfl)) k0 bel lt0) trodAll_mk0), rfl, bel.frame _, fun h => by cases h⟩

theorem over : Rows.fnAgesRow.holds Try.pinned (OpenSpec.ofChange Rows.fnAgesSpec) :=
  OpenClaim.holds_of_wide 3 Try.f3 rfl rfl rfl rfl rfl rfl rfl ⟨rfl, rfl, rfl, rfl, rfl⟩ rfl rfl rfl rfl rfl (by kernel_rfl) Try.func3 (by kernel_rfl)
    (of_decide_eq_true (by kernel_rfl)) (by unfold Func.isWrapper; first | (rw [if_pos (by decide +kernel)]; kernel_rfl) | (rw [if_neg (by decide +kernel)]; exact ⟨rfl, rfl⟩))
    (fun os started H enc _ => lifted os started H enc)

theorem proved : Rows.FnAgesSaid := over
#print axioms proved
end Go.Proofs.Ytlbpopmgadomoaa.fnAges
