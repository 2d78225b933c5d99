/- Proves the given statement of the law FnSpread: for every input that the row lets in, the law's Go function returns true and every argument reads as before; no condition of mine. -/
import Derived.Test.YtdmnagpnhphifaaSpread
import Derived.Test.YtdmnagpnhphifaaSpreadMath
import Derived.Test.YtdmnagpnhphifaaIntRow
import Derived.Test.YtdmnagpnhphifaaDrawRow
import Derived.Test.YtdmnagpnhphifaaBelowKit
import Derived.Test.YtdmnagpnhphifaaRows
import Derived.WalkKit
import Derived.ProofKit
import Derived.OpenShut
import Derived.ShutString
import Derived.ChangeOld
import Derived.Below
namespace Go.Proofs.Ytdmnagpnhphifaa.fnSpread
open Go.ChangeShapes Go.WideShapes Go.ChangeAt Go.RowKit
open Go.ChangeMaps (open_string shut_string)
set_option linter.unusedVariables false

theorem own : ownKnob Try.prog.godebug = none := by kernel_rfl
theorem laidOut : laidOutB Try.prog = true := by kernel_rfl

/-- WHAT THE WALK IS TOLD OF A SLICE OF INTEGERS THAT CAME IN: it is nil; or it leads to a row of 'cap' cells, the numbers 'zs' (the first 'len' are its elements, the rest its spare room), each fitting its kind. -/
def IsRow (k : IntKind) (w : World) (a : Option Addr) (len cap : Nat) (zs : List Int) : Prop :=
  (a = none ∧ len = 0 ∧ cap = 0 ∧ zs = []) ∨
  ∃ x, a = some x ∧ len ≤ cap ∧ cap ≤ maxLen ∧ zs.length = cap ∧ (∀ i, i < zs.length → w.cell? (x.add i) = some (.int k (zs.getD i 0))) ∧ ∀ n ∈ zs, (Lit.int k n).wf = true

/-! ### STEP 1: THE WALK: the Go text returns true, AND WRITES NOTHING THAT WAS THERE: 'Below w.heap.size w w'' (Derived/Below.lean: '.refl', '.alloc', '.drew', '.setCell' at a new block, '.trans'). Open each 'IsRow' by 'rcases' AHEAD of 'go_enter'; part every test ahead of the walk. -/
set_option maxHeartbeats 4000000 in
theorem walk (a0 : Option Addr) (len0 cap0 : Nat) (z0 : List Int) (w : World) (w0 : IsRow .u8 w a0 len0 cap0 z0) :
    Calls Try.prog 5 #[.slice a0 len0 cap0] w fun e w' => e = .returned (.bool true) ∧ Below w.heap.size w w' := by
  obtain ⟨hcode, hs⟩ := CurKit.code_at w0
  clear w0
  have HK := Lib.hid hcode
  have HS := Lib.hid hs
  clear hcode
  unfold maxLen at hs
  by_cases hbig : 1048576 < len0
  · go_enter Try.func5, Try.ntmps5
    go_wp2
    go_ret
    exact ⟨rfl, Below.refl _ _⟩
  · go_enter Try.func5, Try.ntmps5
    go_wp2_with (go_at_call 10; go_in)
    refine (DrawRow.places_c _ a0 len0 cap0 HK.out HS.out).mono ?_
    rintro e w1 ⟨l, a, cap, hl, hin, rfl, ho, hb1⟩
    have HO := Lib.hid ho
    have HB1 := Lib.hid hb1
    have hz1 := hb1.size
    obtain ⟨g, rfl, _, hg, c0, f0⟩ := ho.at 0 (by omega)
    have c1 := (ho.cell 1 (by omega)).1
    obtain ⟨t, ht⟩ : ∃ t, l[0] = t := ⟨_, rfl⟩
    obtain ⟨s, hs1⟩ : ∃ s, l[1] = s := ⟨_, rfl⟩
    have i0 := hin.get 0 (by omega)
    have i1 := hin.get 1 (by omega)
    rw [ht] at c0 i0
    rw [hs1] at c1 i1
    obtain ⟨i00, i01⟩ := i0
    obtain ⟨i10, i11⟩ := i1
    clear ht hs1 hin hl ho hb1 f0
    obtain ⟨N, hN⟩ : ∃ N : Nat, 1 + s % 12 = N := ⟨(1 + s % 12).toNat, by omega⟩
    have hN1 : 1 ≤ N := by omega
    have hN2 : N ≤ 12 := by omega
    have HN := Lib.hid hN
    have HE := Lib.hid (show Spread.spreadR t (N : Int) = Spread.spr t N N by unfold Spread.spreadR Spread.okS; rw [decide_eq_true (by omega)]; simp)
    have HL := Lib.hid (Spread.spr_len t N N)
    clear hN
    go_wp2_with fail
    rw [HN.out]
    refine (Spread.spread_i t (N : Int) _).mono ?_
    rintro e w2 ⟨p, c, rfl, ho2, hb2⟩
    rw [HE.out, HL.out] at ho2 ⊢
    have HO2 := Lib.hid ho2
    have q0 : w2.cell? ⟨g, 0, none⟩ = some (.int .i64 t) := (hb2.cell (p := ⟨g, 0, none⟩) hg).trans c0
    have HB2 := Lib.hid hb2
    obtain ⟨p2, rfl, _, hp, d0, _⟩ := ho2.at 0 (by rw [HL.out]; omega)
    rw [SpreadMath.spr_get, SpreadMath.part_zero] at d0
    obtain ⟨x0, hx0⟩ : ∃ x0, t / (N : Int) = x0 := ⟨_, rfl⟩
    have hx1 := Int.ediv_le_self (N : Int) i00
    have hx2 := Int.ediv_nonneg i00 (show 0 ≤ (N : Int) by omega)
    rw [hx0] at d0 hx1 hx2
    have HX0 := Lib.hid hx0
    clear hx0 c0 c1 ho2 hb2
    go_wp2
    go_loopw [6, 7] (fun s i wr => ∃ j n : Nat, j ≤ N ∧ i = .int .i64 j ∧ s = .int .i64 ((j : Int) * t / (N : Int)) ∧ wr = w2.drewN n) (fun _ i _ => N - (intOf i).toNat)
    case atStart => exact ⟨0, 0, Nat.zero_le _, rfl, by simp, rfl⟩
    case round =>
      obtain ⟨j, n, hj, rfl, rfl, rfl⟩ := hrel
      by_cases hlt : j < N
      · obtain ⟨p1, p2, p3, p4, p5, p6, p7, p8⟩ := Spread.part_bd (t := t) (m := N) j (by omega) (by omega) (by omega) (by omega)
        have hy := SpreadMath.part_near (t := t) (m := N) j (by omega)
        have hs2 : (j : Int) * t / (N : Int) + Spread.part t N j = ((j : Int) + 1) * t / (N : Int) := by unfold Spread.part; omega
        have hc := (HO2.out.cell j (by rw [HL.out]; exact hlt)).1
        rw [SpreadMath.spr_get] at hc
        obtain ⟨y, hy2⟩ : ∃ y, Spread.part t N j = y := ⟨_, rfl⟩
        rw [hy2] at hy hs2 hc
        rw [HX0.out] at hy
        obtain ⟨S, hS⟩ : ∃ S, (j : Int) * t / (N : Int) = S := ⟨_, rfl⟩
        rw [hS] at hs2 p7 p8 ⊢
        have HS2 := Lib.hid hs2
        obtain ⟨hy0, hy1⟩ := hy
        have e1 : decide (1 < y - x0) = false := decide_eq_false (by omega)
        have e2 : decide (1 < x0 - y) = false := decide_eq_false (by omega)
        have b0 : (0 : Int) ≤ (j : Int) := by omega
        have b1 : (j : Int) < (N : Int) := by omega
        have b2 : (0 : Int) < (N : Int) := by omega
        have W1 : IntKind.i64.wrap (y - x0) = y - x0 := IntWalk.i64_in _ (by omega)
        have W2 : IntKind.i64.wrap (x0 - y) = x0 - y := IntWalk.i64_in _ (by omega)
        clear hs2 hS hy2 p1 p2 p3 p4 p5 p6
        go_wp2_with fail
        go_quiet (fail)
        go_wp2
        go_roundw
        case rel => exact ⟨j + 1, _, by omega, by go_num, by rw [HS2.out]; go_num, rfl⟩
        case measure => simp [intOf]; omega
      · obtain rfl : j = N := by omega
        have hS : (j : Int) * t / (j : Int) = t := Int.mul_ediv_cancel_left _ (by omega)
        rw [hS]
        clear hS
        have b2 : (0 : Int) < (j : Int) := by omega
        go_wp2
        go_ret
        exact ⟨rfl, below_drewN (BelowKit.bl_trans HB1.out HB2.out) _⟩

/-! ### THE ROW's STEP: WRITTEN OUT: LEAVE IT -/
set_option maxRecDepth 100000 in
theorem lifted (os : Os) (started : os.Started) (H : Type) (enc : TypeId × Value → H) :
    ReturnsInHanded {} Try.checked os 5 .any (Rows.fnSpreadSpec.pre6 enc Try.prog Try.f5 Rows.fnSpreadRow.domain false) (Rows.fnSpreadSpec.post enc Try.prog Try.f5 false true false false) := by
  refine returnsInHanded_of_change (C := Try.checked) own started (by kernel_rfl) Try.func5
    (ChangeSpec.witness6 (enc := enc) (C := Try.checked) false ⟨#[], #[.slice none 0 0], []⟩ 8 (by kernel_rfl) (by kernel_rfl) (by kernel_rfl) (by kernel_rfl)) ?_
  intro W base args ds gs before hval0 hW hcnd _
  have hval : ∀ (j : Nat) t v, Try.f5.params[j]? = some t → args[j]? = some v → Value.okWide Try.prog W .any base t v := hval0
  have hW' := hW
  obtain ⟨p, q, hA0, hV, rfl, hfz, hnd⟩ := hW
  have hA : DataW.TrodAll enc Try.prog W 0 (fun _ => true) true Try.f5.params.toList args.toList ds p := hA0
  rw [Try.params5] at hA hval
  obtain ⟨v0, vs0, d0, ds0, p0, q0, hargs, rfl, rfl, h0, r0⟩ := trodAll_cons hA
  obtain ⟨rfl, rfl, rfl⟩ := trodAll_nil r0
  obtain rfl : args = #[v0] := by cases args; simp_all
  obtain ⟨rfl, rfl⟩ := trodVars_none hV
  obtain ⟨a0, len0, cap0, rfl⟩ := okWide_slice Try.underlying22 (hval 0 22 v0 rfl rfl)
  have k0 := h0
  have lt0 : ∀ x ∈ p0, x.block < W.heap.size := by obtain ⟨m, hm⟩ := k0; exact DataW.trod_lt m _ _ _ hm
  obtain ⟨z0, w0⟩ : ∃ zs, IsRow .u8 W a0 len0 cap0 zs := by
    obtain ⟨fuel, hf⟩ := h0
    rcases open_ints Try.underlying22 Try.underlying5 (by kernel_rfl) hf with ⟨hcs, _⟩ | ⟨x, l, c, zs, hcs, _, hl, hm, hz, _, hcell, hwz⟩
    · simp [Value.cells] at hcs
      obtain ⟨rfl, rfl, rfl⟩ := hcs
      exact ⟨[], .inl ⟨rfl, rfl, rfl, rfl⟩⟩
    · simp [Value.cells] at hcs
      obtain ⟨rfl, rfl, rfl⟩ := hcs
      exact ⟨zs, .inr ⟨_, rfl, hl, hm, by simpa using hz, hcell, hwz⟩⟩
  clear hA0 hval0
  refine (walk a0 len0 cap0 z0 W w0).mono fun e W' ⟨he, bel⟩ => ?_
  subst he
  exact ⟨_, rfl, _, _, _, [], _, [], hW', trodAll_mk1 (shut_bool Try.underlying4 _), (trodAll_cons_mk (Below.trod laidOut (by kernel_rfl) (of_decide_eq_true (by kernel_rfl)) k0 bel lt0) trodAll_mk0), rfl, bel.frame _, fun h => by cases h⟩

theorem over : Rows.fnSpreadRow.holds Try.pinned (OpenSpec.ofChange Rows.fnSpreadSpec) :=
  OpenClaim.holds_of_wide 5 Try.f5 rfl rfl rfl rfl rfl rfl rfl ⟨rfl, rfl, rfl, rfl, rfl⟩ rfl rfl rfl rfl rfl (by kernel_rfl) Try.func5 (by kernel_rfl)
    (of_decide_eq_true (by kernel_rfl)) (by unfold Func.isWrapper; first | (rw [if_pos (by decide +kernel)]; kernel_rfl) | (rw [if_neg (by decide +kernel)]; exact ⟨rfl, rfl⟩))
    (fun os started H enc _ => lifted os started H enc)

theorem proved : Rows.FnSpreadSaid := over
#print axioms proved
end Go.Proofs.Ytdmnagpnhphifaa.fnSpread
