/- Proves the given statement of the law FnCommonMonths: for every input that the row lets in, the law's Go function returns true and every argument reads as before; no condition of mine. -/
import Derived.Test.YtlbpopmgadomoaaMon
import Derived.Test.YtlbpopmgadomoaaDrawRow
import Derived.Test.YtlbpopmgadomoaaBelowKit
import Derived.Test.YtlbpopmgadomoaaRows
import Derived.WalkKit
import Derived.ProofKit
import Derived.OpenShut
import Derived.ShutString
import Derived.ChangeOld
import Derived.Below
namespace Go.Proofs.Ytlbpopmgadomoaa.fnCommonMonths
open Go.ChangeShapes Go.WideShapes Go.ChangeAt Go.RowKit
open Go.ChangeMaps (open_string shut_string)
set_option linter.unusedVariables false

theorem own : ownKnob Try.prog.godebug = none := by kernel_rfl
theorem laidOut : laidOutB Try.prog = true := by kernel_rfl

/-- WHAT THE WALK IS TOLD OF A SLICE OF INTEGERS THAT CAME IN: it is nil; or it leads to a row of 'cap' cells, the numbers 'zs' (the first 'len' are its elements, the rest its spare room), each fitting its kind. -/
def IsRow (k : IntKind) (w : World) (a : Option Addr) (len cap : Nat) (zs : List Int) : Prop :=
  (a = none ∧ len = 0 ∧ cap = 0 ∧ zs = []) ∨
  ∃ x, a = some x ∧ len ≤ cap ∧ cap ≤ maxLen ∧ zs.length = cap ∧ (∀ i, i < zs.length → w.cell? (x.add i) = some (.int k (zs.getD i 0))) ∧ ∀ n ∈ zs, (Lit.int k n).wf = true

/-! ### STEP 1: THE WALK: the Go text returns true, AND WRITES NOTHING THAT WAS THERE: 'Below w.heap.size w w'' (Derived/Below.lean: '.refl', '.alloc', '.drew', '.setCell' at a new block, '.trans'). Open each 'IsRow' by 'rcases' AHEAD of 'go_enter'; part every test ahead of the walk. -/
theorem walk (a0 : Option Addr) (len0 cap0 : Nat) (z0 : List Int) (w : World) (w0 : IsRow .u8 w a0 len0 cap0 z0) :
    Calls Try.prog 4 #[.slice a0 len0 cap0] w fun e w' => e = .returned (.bool true) ∧ Below w.heap.size w w' := by
  obtain ⟨hcode, hs⟩ := CurKit.code_at w0
  clear w0
  have HK := Lib.hid hcode
  have HS := Lib.hid hs
  clear hcode
  unfold maxLen at hs
  by_cases hbig : 1048576 < len0
  · go_enter Try.func4, Try.ntmps4
    go_wp2
    go_ret
    exact ⟨rfl, Below.refl _ _⟩
  · go_enter Try.func4, Try.ntmps4
    go_wp2_with (go_at_call 9; go_in)
    refine (DrawRow.places_c _ a0 len0 cap0 HK.out HS.out).mono ?_
    rintro e w1 ⟨l, aa, cap, hl, hin, rfl, ho, hb1⟩
    have HB1 := Lib.hid hb1
    obtain ⟨g, rfl, _, hg, c0, f0⟩ := ho.at 0 (by omega)
    have c1 := (ho.cell 1 (by omega)).1
    have c2 := (ho.cell 2 (by omega)).1
    have c3 := (ho.cell 3 (by omega)).1
    obtain ⟨t0, ht0⟩ : ∃ t, l[0] = t := ⟨_, rfl⟩
    obtain ⟨t1, ht1⟩ : ∃ t, l[1] = t := ⟨_, rfl⟩
    obtain ⟨t2, ht2⟩ : ∃ t, l[2] = t := ⟨_, rfl⟩
    obtain ⟨t3, ht3⟩ : ∃ t, l[3] = t := ⟨_, rfl⟩
    have i0 := hin.get 0 (by omega)
    have i1 := hin.get 1 (by omega)
    have i2 := hin.get 2 (by omega)
    have i3 := hin.get 3 (by omega)
    rw [ht0] at c0 i0
    rw [ht1] at c1 i1
    rw [ht2] at c2 i2
    rw [ht3] at c3 i3
    obtain ⟨i00, i01⟩ := i0
    obtain ⟨i10, i11⟩ := i1
    obtain ⟨i20, i21⟩ := i2
    obtain ⟨i30, i31⟩ := i3
    clear ht0 ht1 ht2 ht3 hin hl ho hb1 f0
    have a1 : 0 ≤ (t0 % 100) := by omega
    have a2 : (t0 % 100) < 100 := by omega
    have b1 : 0 ≤ (t1 % 100) := by omega
    have b2 : (t1 % 100) < 100 := by omega
    have e1 : 0 ≤ (t2 % 100) := by omega
    have e2 : (t2 % 100) < 100 := by omega
    have d1 : 0 ≤ (t3 % 100) := by omega
    have d2 : (t3 % 100) < 100 := by omega
    have C := Lib.hid (show Mon.common (t0 % 100) (t1 % 100) (t2 % 100) (t3 % 100) = max 0 (min (t1 % 100) (t3 % 100) - max (t0 % 100) (t2 % 100)) from if_pos ⟨Mon.inB_yes a1 (by omega), Mon.inB_yes b1 (by omega), Mon.inB_yes e1 (by omega), Mon.inB_yes d1 (by omega)⟩)
    go_wp2
    clear c0 c1 c2 c3
    go_loop [8, 9] (fun n i => ∃ k : Nat, k ≤ 100 ∧ i = .int .i64 k ∧ n = .int .i64 (max 0 (min (min (t1 % 100) (t3 % 100)) (k : Int) - max (t0 % 100) (t2 % 100)))) (fun _ i => 100 - (intOf i).toNat)
    case atStart => exact ⟨0, by omega, rfl, congrArg (Value.int .i64) (by omega)⟩
    case round =>
      obtain ⟨k, hk, rfl, rfl⟩ := hrel
      by_cases hlt : k < 100
      · obtain ⟨n, hn⟩ : ∃ n, max 0 (min (min (t1 % 100) (t3 % 100)) (k : Int) - max (t0 % 100) (t2 % 100)) = n := ⟨_, rfl⟩
        have n1 : 0 ≤ n := by omega
        have n2 : n ≤ 100 := by omega
        by_cases g1 : (t0 % 100) ≤ (k : Int)
        · by_cases g2 : (k : Int) < (t1 % 100)
          · by_cases g3 : (t2 % 100) ≤ (k : Int)
            · by_cases g4 : (k : Int) < (t3 % 100)
              · have HN := Lib.hid (show n + 1 = max 0 (min (min (t1 % 100) (t3 % 100)) ((k + 1 : Nat) : Int) - max (t0 % 100) (t2 % 100)) by omega)
                rw [hn]
                clear hn
                go_wp2
                go_round
                case rel => exact ⟨k + 1, by omega, by go_num, congrArg (Value.int .i64) HN.out⟩
                case measure => simp [intOf]; omega
              · have HN := Lib.hid (show n = max 0 (min (min (t1 % 100) (t3 % 100)) ((k + 1 : Nat) : Int) - max (t0 % 100) (t2 % 100)) by omega)
                rw [hn]
                clear hn
                go_wp2
                go_round
                case rel => exact ⟨k + 1, by omega, by go_num, congrArg (Value.int .i64) HN.out⟩
                case measure => simp [intOf]; omega
            · have HN := Lib.hid (show n = max 0 (min (min (t1 % 100) (t3 % 100)) ((k + 1 : Nat) : Int) - max (t0 % 100) (t2 % 100)) by omega)
              rw [hn]
              clear hn
              go_wp2
              go_round
              case rel => exact ⟨k + 1, by omega, by go_num, congrArg (Value.int .i64) HN.out⟩
              case measure => simp [intOf]; omega
          · have HN := Lib.hid (show n = max 0 (min (min (t1 % 100) (t3 % 100)) ((k + 1 : Nat) : Int) - max (t0 % 100) (t2 % 100)) by omega)
            rw [hn]
            clear hn
            go_wp2
            go_round
            case rel => exact ⟨k + 1, by omega, by go_num, congrArg (Value.int .i64) HN.out⟩
            case measure => simp [intOf]; omega
        · have HN := Lib.hid (show n = max 0 (min (min (t1 % 100) (t3 % 100)) ((k + 1 : Nat) : Int) - max (t0 % 100) (t2 % 100)) by omega)
          rw [hn]
          clear hn
          go_wp2
          go_round
          case rel => exact ⟨k + 1, by omega, by go_num, congrArg (Value.int .i64) HN.out⟩
          case measure => simp [intOf]; omega
      · obtain rfl : k = 100 := by omega
        obtain ⟨n, hn⟩ : ∃ n, max 0 (min (t1 % 100) (t3 % 100) - max (t0 % 100) (t2 % 100)) = n := ⟨_, rfl⟩
        have e : max 0 (min (min (t1 % 100) (t3 % 100)) ((100 : Nat) : Int) - max (t0 % 100) (t2 % 100)) = n := by omega
        rw [e]
        rw [hn] at C
        clear e hn
        go_wp2_with fail
        refine (Mon.common_i _ _ _ _ _).mono ?_
        rintro e w' ⟨rfl, rfl⟩
        rw [C.out]
        go_wp2
        go_ret
        exact ⟨rfl, HB1.out⟩

/-! ### THE ROW's STEP: WRITTEN OUT: LEAVE IT -/
set_option maxRecDepth 100000 in
theorem lifted (os : Os) (started : os.Started) (H : Type) (enc : TypeId × Value → H) :
    ReturnsInHanded {} Try.checked os 4 .any (Rows.fnCommonMonthsSpec.pre6 enc Try.prog Try.f4 Rows.fnCommonMonthsRow.domain false) (Rows.fnCommonMonthsSpec.post enc Try.prog Try.f4 false true false false) := by
  refine returnsInHanded_of_change (C := Try.checked) own started (by kernel_rfl) Try.func4
    (ChangeSpec.witness6 (enc := enc) (C := Try.checked) false ⟨#[], #[.slice none 0 0], []⟩ 8 (by kernel_rfl) (by kernel_rfl) (by kernel_rfl) (by kernel_rfl)) ?_
  intro W base args ds gs before hval0 hW hcnd _
  have hval : ∀ (j : Nat) t v, Try.f4.params[j]? = some t → args[j]? = some v → Value.okWide Try.prog W .any base t v := hval0
  have hW' := hW
  obtain ⟨p, q, hA0, hV, rfl, hfz, hnd⟩ := hW
  have hA : DataW.TrodAll enc Try.prog W 0 (fun _ => true) true Try.f4.params.toList args.toList ds p := hA0
  rw [Try.params4] at hA hval
  obtain ⟨v0, vs0, d0, ds0, p0, q0, hargs, rfl, rfl, h0, r0⟩ := trodAll_cons hA
  obtain ⟨rfl, rfl, rfl⟩ := trodAll_nil r0
  obtain rfl : args = #[v0] := by cases args; simp_all
  obtain ⟨rfl, rfl⟩ := trodVars_none hV
  obtain ⟨a0, len0, cap0, rfl⟩ := okWide_slice Try.underlying22 (hval 0 22 v0 rfl rfl)
  have k0 := h0
  have lt0 : ∀ x ∈ p0, x.block < W.heap.size := by obtain ⟨m, hm⟩ := k0; exact DataW.trod_lt m _ _ _ hm
  obtain ⟨z0, w0⟩ : ∃ zs, IsRow .u8 W a0 len0 cap0 zs := by
    obtain ⟨fuel, hf⟩ := h0
    rcases open_ints Try.underlying22 Try.underlying5 (by kernel_rfl) hf with ⟨hcs, _⟩ | ⟨x, l, c, zs, hcs, _, hl, hm, hz, _, hcell, hwz⟩
    · simp [Value.cells] at hcs
      obtain ⟨rfl, rfl, rfl⟩ := hcs
      exact ⟨[], .inl ⟨rfl, rfl, rfl, rfl⟩⟩
    · simp [Value.cells] at hcs
      obtain ⟨rfl, rfl, rfl⟩ := hcs
      exact ⟨zs, .inr ⟨_, rfl, hl, hm, by simpa using hz, hcell, hwz⟩⟩
  clear hA0 hval0
  refine (walk a0 len0 cap0 z0 W w0).mono fun e W' ⟨he, bel⟩ => ?_
  subst he
  exact ⟨_, rfl, _, _, _, [], _, [], hW', trodAll_mk1 (shut_bool Try.underlying4 _), (trodAll_cons_mk (Below.trod laidOut (by kernel_rfl) (of_decide_eq_true (by kernel_rfl)) k0 bel lt0) trodAll_mk0), rfl, bel.frame _, fun h => by cases h⟩

theorem over : Rows.fnCommonMonthsRow.holds Try.pinned (OpenSpec.ofChange Rows.fnCommonMonthsSpec) :=
  OpenClaim.holds_of_wide 4 Try.f4 rfl rfl rfl rfl rfl rfl rfl ⟨rfl, rfl, rfl, rfl, rfl⟩ rfl rfl rfl rfl rfl (by kernel_rfl) Try.func4 (by kernel_rfl)
    (of_decide_eq_true (by kernel_rfl)) (by unfold Func.isWrapper; first | (rw [if_pos (by decide +kernel)]; kernel_rfl) | (rw [if_neg (by decide +kernel)]; exact ⟨rfl, rfl⟩))
    (fun os started H enc _ => lifted os started H enc)

theorem proved : Rows.FnCommonMonthsSaid := over
#print axioms proved
end Go.Proofs.Ytlbpopmgadomoaa.fnCommonMonths
