/- Proves the given statement of the law FnAccounts: for every input that the row lets in, the law's Go function returns true and every argument reads as before; no condition of mine. -/
import Derived.Test.YtgdniakncjjggaaAccLaws
import Derived.Test.YtgdniakncjjggaaAccI
import Derived.Test.YtgdniakncjjggaaDrawAcc
import Derived.Test.YtgdniakncjjggaaDrawRow
import Derived.Test.YtgdniakncjjggaaKit
import Derived.Test.YtgdniakncjjggaaRows
import Derived.WalkKit
import Derived.ProofKit
import Derived.OpenShut
import Derived.ShutString
import Derived.ChangeOld
import Derived.Below
namespace Go.Proofs.Ytgdniakncjjggaa.fnAccounts
open Go.ChangeShapes Go.WideShapes Go.ChangeAt Go.RowKit
open Go.ChangeMaps (open_string shut_string)
set_option linter.unusedVariables false

theorem own : ownKnob Try.prog.godebug = none := by kernel_rfl
theorem laidOut : laidOutB Try.prog = true := by kernel_rfl

/-- WHAT THE WALK IS TOLD OF A SLICE OF INTEGERS THAT CAME IN: it is nil; or it leads to a row of 'cap' cells, the numbers 'zs' (the first 'len' are its elements, the rest its spare room), each fitting its kind. -/
def IsRow (k : IntKind) (w : World) (a : Option Addr) (len cap : Nat) (zs : List Int) : Prop :=
  (a = none ∧ len = 0 ∧ cap = 0 ∧ zs = []) ∨
  ∃ x, a = some x ∧ len ≤ cap ∧ cap ≤ maxLen ∧ zs.length = cap ∧ (∀ i, i < zs.length → w.cell? (x.add i) = some (.int k (zs.getD i 0))) ∧ ∀ n ∈ zs, (Lit.int k n).wf = true

/-! ### STEP 1: THE WALK: the Go text returns true, AND WRITES NOTHING THAT WAS THERE: 'Below w.heap.size w w'' (Derived/Below.lean: '.refl', '.alloc', '.drew', '.setCell' at a new block, '.trans'). Open each 'IsRow' by 'rcases' AHEAD of 'go_enter'; part every test ahead of the walk. -/
set_option maxHeartbeats 4000000 in
set_option maxRecDepth 100000 in
theorem walk (a0 : Option Addr) (len0 cap0 : Nat) (z0 : List Int) (w : World) (w0 : IsRow .u8 w a0 len0 cap0 z0) :
    Calls Try.prog 3 #[.slice a0 len0 cap0] w fun e w' => e = .returned (.bool true) ∧ Below w.heap.size w w' := by
  obtain ⟨hcode, hs⟩ := CurKit.code_at w0
  clear w0
  have HK := Lib.hid hcode
  have HS := Lib.hid hs
  clear hcode
  unfold maxLen at hs
  by_cases hbig : 1048576 < len0
  · go_enter Try.func3, Try.ntmps3
    go_wp2
    go_ret
    exact ⟨rfl, Below.refl _ _⟩
  go_enter Try.func3, Try.ntmps3
  go_wp2_with (go_at_call 10; go_in)
  refine (DrawAcc.draw_c _ a0 len0 cap0 HK.out HS.out).mono ?_
  rintro e w1 ⟨n, D, P, r, p1, p2, c1, c2, hn, hd, hr, rfl, hr1, hr2, hb⟩
  have HA := Lib.hid (AccLaws.ok_of hd hn hr)
  have HD1 := Lib.hid hd.d
  have HP1 := Lib.hid hd.p
  have HR1 := Lib.hid hr1
  have HR2 := Lib.hid hr2
  have HC1 := Lib.hid hb
  obtain ⟨r0, r1⟩ := hr
  clear hd hr1 hr2 hb hs
  go_wp2_with fail
  refine (AccI.run_i _ p1 n c1 D p2 n c2 P r HD1.out (by omega) HR1.out HP1.out (by omega) HR2.out).mono ?_
  rintro e w2 ⟨p3, c3, rfl, ho, hb⟩
  rw [AccLaws.run_is HA.out HD1.out] at ho ⊢
  rw [AccMath.bals_len] at ho ⊢
  have HL := Lib.hid (RowN.reads_own TInt.fw ho)
  have HQ1 := Lib.hid (HR1.out.on hb)
  have HQ2 := Lib.hid (HR2.out.on hb)
  have HC2 := Lib.hid (BelowKit.bl_trans HC1.out hb)
  clear ho hb HR1 HR2 HC1
  go_wp2_with fail
  refine (AccI.int_i _ p1 n c1 D p2 n c2 P r HD1.out (by omega) HQ1.out HP1.out (by omega) HQ2.out).mono ?_
  rintro e w3 ⟨rfl, hb⟩
  rw [AccLaws.int_is HA.out HD1.out]
  obtain ⟨N0, hN0⟩ : ∃ N, AccMath.sumI D P r n = N := ⟨_, rfl⟩
  have nb := AccMath.sumI_bd HA.out n (by omega)
  rw [hN0] at nb ⊢
  have HN0 := Lib.hid hN0
  have HL3 := Lib.hid (HL.out.on hb)
  have HR3 := Lib.hid (HQ1.out.on hb)
  have HS3 := Lib.hid (HQ2.out.on hb)
  have HC3 := Lib.hid (BelowKit.bl_trans HC2.out hb)
  clear hb hN0 HL HQ1 HQ2 HC2
  go_wp2
  go_loopw [8, 9] (fun s i wr => ∃ j : Nat, j ≤ n ∧ i = .int .i64 (j : Int) ∧ s = .int .i64 (N0 + AccLaws.net D P j) ∧ Hid (Below w3.heap.size w3 wr)) (fun _ i _ => n - (intOf i).toNat)
  case atStart => exact ⟨0, Nat.zero_le _, rfl, by show _ = Value.int .i64 (N0 + 0); rw [Int.add_zero], Lib.hid (Below.refl _ _)⟩
  case round =>
    obtain ⟨j, hj, rfl, rfl, HB⟩ := hrel
    by_cases hlt : j < n
    · have L1 := Lib.hid (show j < D.length by rw [HD1.out]; exact hlt)
      have L2 := Lib.hid (show j < P.length by rw [HP1.out]; exact hlt)
      obtain ⟨g1, o1, rfl, hg1, q1⟩ := AccS.read (HR3.out.on HB.out) j L1.out
      obtain ⟨g2, o2, rfl, hg2, q2⟩ := AccS.read (HS3.out.on HB.out) j L2.out
      have b1 : (0 : Int) ≤ (j : Int) := by omega
      have b2 : (j : Int) < (n : Int) := by omega
      have d0 := HA.out.2.2.2.1 j L1.out
      have d1 := HA.out.2.2.2.2 j L2.out
      have E1 := AccLaws.net_succ D P j
      have B0 := AccLaws.net_bd HA.out j
      rw [AccMath.at0_in L1.out, AccMath.at0_in L2.out] at E1
      generalize D[j]'L1.out = x at q1 d0 E1
      generalize P[j]'L2.out = y at q2 d1 E1
      generalize AccLaws.net D P j = s at B0 E1 ⊢
      have W5 : IntKind.i64.wrap (N0 + s + x) = N0 + s + x := IntWalk.i64_in _ (by omega)
      have W6 : IntKind.i64.wrap (N0 + s + x - y) = N0 + s + x - y := IntWalk.i64_in _ (by omega)
      have F1 := Lib.hid (show N0 + AccLaws.net D P (j + 1) = N0 + s + x - y by omega)
      clear E1
      go_wp2_with fail
      go_quiet (fail)
      clear W5 W6 d0 d1 B0
      go_wp2
      go_roundw
      case rel => exact ⟨j + 1, by omega, by go_num, by rw [F1.out], Lib.hid (below_drewN HB.out _)⟩
      case measure => simp [intOf]; omega
    · obtain rfl : j = n := by omega
      have E1 := AccLaws.bal_net D P r j
      rw [HN0.out] at E1
      rw [← E1]
      clear E1
      go_wp2_with fail
      refine (AccI.first_i _ p1 j c1 D p2 j c2 P r HD1.out (by omega) (HR3.out.on HB.out) HP1.out (by omega) (HS3.out.on HB.out)).mono ?_
      rintro e w5 ⟨rfl, hb⟩
      have HFS := AccLaws.first_of HA.out HD1.out
      obtain ⟨F, hF⟩ : ∃ F, AccMath.firstA D P r = F := ⟨_, rfl⟩
      rw [hF] at HFS ⊢
      have hF0 := HFS.lt
      have hF1 := HFS.ge
      have HNF := Lib.hid HFS.no
      have HL5 := Lib.hid (HL3.out.on (BelowKit.bl_trans HB.out hb))
      have HC5 := Lib.hid (BelowKit.bl_trans HC3.out (BelowKit.bl_trans HB.out hb))
      clear hb hF HFS HB HL3 HR3 HS3 HC3
      go_wp2
      go_loopw [11] (fun i wr => ∃ k : Nat, k ≤ j ∧ i = .int .i64 (k : Int) ∧ wr = w5) (fun i _ => j - (intOf i).toNat)
      case atStart => exact ⟨0, Nat.zero_le _, rfl, rfl⟩
      case round =>
        obtain ⟨k, hk, rfl, rfl⟩ := hrel
        by_cases hkF : (k : Int) < F
        · have hkj : k < j := by omega
          have L1 := Lib.hid (show k < (AccMath.bals D P r j).length by rw [AccMath.bals_len]; exact hkj)
          obtain ⟨g1, o1, rfl, hg1, q1⟩ := AccS.read HL5.out k L1.out
          rw [AccMath.bals_at] at q1
          have hx := HNF.out k hkj hkF
          generalize AccMath.bal D P r (k + 1) = x at q1 hx
          have b1 : (0 : Int) ≤ (k : Int) := by omega
          have b2 : (k : Int) < (j : Int) := by omega
          have dX : decide (0 < x) = false := decide_eq_false (by omega)
          go_wp2
          go_roundw
          case rel => exact ⟨k + 1, by omega, by go_num, by first | rfl | trivial⟩
          case measure => simp [intOf]; omega
        · have dF : decide ((k : Int) < F) = false := decide_eq_false hkF
          have dL : decide (F < (j : Int)) = true := decide_eq_true hF0
          have hr0 : r = 0 → N0 = 0 := fun e => by have := HN0.out; rw [e, AccLaws.sumI_zero] at this; exact this.symm
          have HRZ := Lib.hid hr0
          clear hr0
          rcases Nat.eq_zero_or_pos j with h0 | h0
          · subst h0
            obtain rfl : k = 0 := by omega
            by_cases hr : 0 < r
            · go_wp2
              go_ret
              exact ⟨congrArg (fun b => Ending.returned (.bool b)) (decide_eq_true (by omega)), HC5.out⟩
            · have e0 : N0 = 0 := HRZ.out (by omega)
              subst e0
              go_wp2
              go_ret
              exact ⟨congrArg (fun b => Ending.returned (.bool b)) (decide_eq_true (by omega)), HC5.out⟩
          · obtain ⟨i, rfl⟩ : ∃ i, j = i + 1 := ⟨j - 1, by omega⟩
            have L1 := Lib.hid (show i < (AccMath.bals D P r (i + 1)).length by rw [AccMath.bals_len]; omega)
            obtain ⟨g1, o1, rfl, hg1, q1⟩ := AccS.read HL5.out i L1.out
            rw [AccMath.bals_at] at q1
            generalize AccMath.bal D P r (i + 1) = x at q1 ⊢
            have W7 : IntKind.i64.wrap (((i + 1 : Nat) : Int) - 1) = (i : Int) := by rw [show ((i + 1 : Nat) : Int) - 1 = (i : Int) by omega]; exact IntWalk.i64_in _ (by omega)
            have b1 : (0 : Int) ≤ (i : Int) := by omega
            have b2 : (i : Int) < ((i + 1 : Nat) : Int) := by omega
            by_cases hr : 0 < r
            · by_cases hki : k < i + 1
              · go_wp2
                go_ret
                exact ⟨congrArg (fun b => Ending.returned (.bool b)) (decide_eq_true (by omega)), HC5.out⟩
              · go_wp2
                go_ret
                exact ⟨congrArg (fun b => Ending.returned (.bool b)) (decide_eq_true (by omega)), HC5.out⟩
            · have e0 : N0 = 0 := HRZ.out (by omega)
              subst e0
              by_cases hki : k < i + 1
              · go_wp2
                go_ret
                exact ⟨congrArg (fun b => Ending.returned (.bool b)) (decide_eq_true (by omega)), HC5.out⟩
              · go_wp2
                go_ret
                exact ⟨congrArg (fun b => Ending.returned (.bool b)) (decide_eq_true (by omega)), HC5.out⟩

/-! ### THE ROW's STEP: WRITTEN OUT: LEAVE IT -/
set_option maxRecDepth 100000 in
theorem lifted (os : Os) (started : os.Started) (H : Type) (enc : TypeId × Value → H) :
    ReturnsInHanded {} Try.checked os 3 .any (Rows.fnAccountsSpec.pre6 enc Try.prog Try.f3 Rows.fnAccountsRow.domain false) (Rows.fnAccountsSpec.post enc Try.prog Try.f3 false true false false) := by
  refine returnsInHanded_of_change (C := Try.checked) own started (by kernel_rfl) Try.func3
    (ChangeSpec.witness6 (enc := enc) (C := Try.checked) false ⟨#[], #[.slice none 0 0], []⟩ 8 (by kernel_rfl) (by kernel_rfl) (by kernel_rfl) (by kernel_rfl)) ?_
  intro W base args ds gs before hval0 hW hcnd _
  have hval : ∀ (j : Nat) t v, Try.f3.params[j]? = some t → args[j]? = some v → Value.okWide Try.prog W .any base t v := hval0
  have hW' := hW
  obtain ⟨p, q, hA0, hV, rfl, hfz, hnd⟩ := hW
  have hA : DataW.TrodAll enc Try.prog W 0 (fun _ => true) true Try.f3.params.toList args.toList ds p := hA0
  rw [Try.params3] at hA hval
  obtain ⟨v0, vs0, d0, ds0, p0, q0, hargs, rfl, rfl, h0, r0⟩ := trodAll_cons hA
  obtain ⟨rfl, rfl, rfl⟩ := trodAll_nil r0
  obtain rfl : args = #[v0] := by cases args; simp_all
  obtain ⟨rfl, rfl⟩ := trodVars_none hV
  obtain ⟨a0, len0, cap0, rfl⟩ := okWide_slice Try.underlying22 (hval 0 22 v0 rfl rfl)
  have k0 := h0
  have lt0 : ∀ x ∈ p0, x.block < W.heap.size := by obtain ⟨m, hm⟩ := k0; exact DataW.trod_lt m _ _ _ hm
  obtain ⟨z0, w0⟩ : ∃ zs, IsRow .u8 W a0 len0 cap0 zs := by
    obtain ⟨fuel, hf⟩ := h0
    rcases open_ints Try.underlying22 Try.underlying5 (by kernel_rfl) hf with ⟨hcs, _⟩ | ⟨x, l, c, zs, hcs, _, hl, hm, hz, _, hcell, hwz⟩
    · simp [Value.cells] at hcs
      obtain ⟨rfl, rfl, rfl⟩ := hcs
      exact ⟨[], .inl ⟨rfl, rfl, rfl, rfl⟩⟩
    · simp [Value.cells] at hcs
      obtain ⟨rfl, rfl, rfl⟩ := hcs
      exact ⟨zs, .inr ⟨_, rfl, hl, hm, by simpa using hz, hcell, hwz⟩⟩
  clear hA0 hval0
  refine (walk a0 len0 cap0 z0 W w0).mono fun e W' ⟨he, bel⟩ => ?_
  subst he
  exact ⟨_, rfl, _, _, _, [], _, [], hW', trodAll_mk1 (shut_bool Try.underlying4 _), (trodAll_cons_mk (Below.trod laidOut (by kernel_rfl) (of_decide_eq_true (by kernel_rfl)) k0 bel lt0) trodAll_mk0), rfl, bel.frame _, fun h => by cases h⟩

theorem over : Rows.fnAccountsRow.holds Try.pinned (OpenSpec.ofChange Rows.fnAccountsSpec) :=
  OpenClaim.holds_of_wide 3 Try.f3 rfl rfl rfl rfl rfl rfl rfl ⟨rfl, rfl, rfl, rfl, rfl⟩ rfl rfl rfl rfl rfl (by kernel_rfl) Try.func3 (by kernel_rfl)
    (of_decide_eq_true (by kernel_rfl)) (by unfold Func.isWrapper; first | (rw [if_pos (by decide +kernel)]; kernel_rfl) | (rw [if_neg (by decide +kernel)]; exact ⟨rfl, rfl⟩))
    (fun os started H enc _ => lifted os started H enc)

theorem proved : Rows.FnAccountsSaid := over
#print axioms proved
end Go.Proofs.Ytgdniakncjjggaa.fnAccounts
