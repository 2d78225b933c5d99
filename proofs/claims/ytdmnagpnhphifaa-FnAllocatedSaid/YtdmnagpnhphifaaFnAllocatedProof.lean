/- Proves the given statement of the law FnAllocated: for every input that the row lets in, the law's Go function returns true and every argument reads as before; no condition of mine. -/
import Derived.Test.YtdmnagpnhphifaaDrawParts
import Derived.Test.YtdmnagpnhphifaaAllocI
import Derived.Test.YtdmnagpnhphifaaAllocSum
import Derived.Test.YtdmnagpnhphifaaRows
import Derived.WalkKit
import Derived.ProofKit
import Derived.OpenShut
import Derived.ShutString
import Derived.ChangeOld
import Derived.Below
namespace Go.Proofs.Ytdmnagpnhphifaa.fnAllocated
open Go.ChangeShapes Go.WideShapes Go.ChangeAt Go.RowKit
open Go.ChangeMaps (open_string shut_string)
set_option linter.unusedVariables false

theorem own : ownKnob Try.prog.godebug = none := by kernel_rfl
theorem laidOut : laidOutB Try.prog = true := by kernel_rfl

/-- WHAT THE WALK IS TOLD OF A SLICE OF INTEGERS THAT CAME IN: it is nil; or it leads to a row of 'cap' cells, the numbers 'zs' (the first 'len' are its elements, the rest its spare room), each fitting its kind. -/
def IsRow (k : IntKind) (w : World) (a : Option Addr) (len cap : Nat) (zs : List Int) : Prop :=
  (a = none ∧ len = 0 ∧ cap = 0 ∧ zs = []) ∨
  ∃ x, a = some x ∧ len ≤ cap ∧ cap ≤ maxLen ∧ zs.length = cap ∧ (∀ i, i < zs.length → w.cell? (x.add i) = some (.int k (zs.getD i 0))) ∧ ∀ n ∈ zs, (Lit.int k n).wf = true

/-! ### STEP 1: THE WALK: the Go text returns true, AND WRITES NOTHING THAT WAS THERE: 'Below w.heap.size w w'' (Derived/Below.lean: '.refl', '.alloc', '.drew', '.setCell' at a new block, '.trans'). Open each 'IsRow' by 'rcases' AHEAD of 'go_enter'; part every test ahead of the walk. -/
theorem walk (a0 : Option Addr) (len0 cap0 : Nat) (z0 : List Int) (w : World) (w0 : IsRow .u8 w a0 len0 cap0 z0) :
    Calls Try.prog 4 #[.slice a0 len0 cap0] w fun e w' => e = .returned (.bool true) ∧ Below w.heap.size w w' := by
  obtain ⟨hcode, hs⟩ := CurKit.code_at w0
  clear w0
  have HK := Lib.hid hcode
  have HS := Lib.hid hs
  clear hcode
  unfold maxLen at hs
  by_cases hbig : 1048576 < len0
  · go_enter Try.func4, Try.ntmps4
    go_wp2
    go_ret
    exact ⟨rfl, Below.refl _ _⟩
  · go_enter Try.func4, Try.ntmps4
    go_wp2_with (go_at_call 10; go_in)
    refine (DrawParts.parts_c _ a0 len0 cap0 HK.out HS.out).mono ?_
    rintro e w1 ⟨t, W, a, n, cap, ⟨ht0, ht1⟩, hl, ⟨hn1, hn7⟩, hin, hsum, rfl, ho, hb1⟩
    have hok : AllocMath.okA t W = true := by
      simp only [AllocMath.okA, decide_eq_true_eq]
      exact ⟨AllocMath.okW_iff.2 ⟨by omega, fun x hx => by have := hin x hx; omega⟩, by omega, hsum⟩
    have hlaw := AllocSum.alloc_law hok
    have hbd := AllocSum.alloc_bd hok
    have hsb := AllocMath.sum_bd (W := W) (fun x hx => by have := hin x hx; omega)
    obtain ⟨s, hse⟩ : ∃ s, W.sum = s := ⟨_, rfl⟩
    rw [hse] at hlaw hsum hsb
    rw [hl] at hsb hlaw
    obtain ⟨V, hV⟩ : ∃ V, AllocMath.allocR t W = V := ⟨_, rfl⟩
    rw [hV] at hlaw hbd
    obtain ⟨hVl, hVs, hVd⟩ := hlaw
    have HV := Lib.hid hV
    have HVL := Lib.hid hVl
    have HVS := Lib.hid hVs
    have HVD := Lib.hid hVd
    have HBD := Lib.hid hbd
    have HWL := Lib.hid hl
    have HSE := Lib.hid hse
    have HIN := Lib.hid hin
    have HO := Lib.hid ho
    have HB1 := Lib.hid hb1
    have hs1 : s ≤ 7000000 := by omega
    clear hV hVl hVs hVd hbd hl hse hin ho hb1 hsb hok
    go_wp2_with fail
    refine (AllocI.alloc_i t _ n cap a W HWL.out (by omega) (IntRow.reads_own HO.out)).mono ?_
    rintro e w2 ⟨p, c, rfl, ho2, hb2⟩
    rw [HV.out, HVL.out] at ho2 ⊢
    have HR := Lib.hid ((IntRow.reads_own HO.out).on hb2)
    have HP := Lib.hid (IntRow.reads_own ho2)
    have HB2 := Lib.hid (BelowKit.bl_trans HB1.out hb2)
    clear ho2 hb2 HO HB1
    go_wp2
    go_loopw [6, 7, 8] (fun sm al i wr => ∃ (j q : Nat) (S T : Int), j ≤ n ∧ i = .int .i64 j ∧ sm = .int .i64 S ∧ al = .int .i64 T ∧ wr = w2.drewN q ∧ 0 ≤ S ∧ S ≤ 2000000000000000 * (j : Int) ∧ 0 ≤ T ∧ T ≤ 50 * (j : Int) ∧ Hid ((V.take j).sum = S ∧ (W.take j).sum = T)) (fun _ _ i _ => n - (intOf i).toNat)
    case atStart => exact ⟨0, 0, 0, 0, Nat.zero_le _, rfl, rfl, rfl, rfl, by omega, by omega, by omega, by omega, Lib.hid ⟨by simp, by simp⟩⟩
    case round =>
      obtain ⟨j, q, S, T, hj, rfl, rfl, rfl, rfl, hS0, hS1, hT0, hT1, hh⟩ := hrel
      by_cases hlt : j < n
      · obtain ⟨g1, o1, rfl, hg1, q1⟩ := HR.out j (by rw [HWL.out]; exact hlt)
        obtain ⟨g2, o2, rfl, hg2, q2⟩ := HP.out j (by rw [HVL.out]; exact hlt)
        have hx := HIN.out _ (List.getElem_mem (by rw [HWL.out]; exact hlt))
        have hy := HBD.out j
        rw [← AllocI.getD_eq V j (by rw [HVL.out]; exact hlt)] at hy
        have HT1 := Lib.hid (AllocI.take_sum W j (by rw [HWL.out]; exact hlt))
        have HT2 := Lib.hid (AllocI.take_sum V j (by rw [HVL.out]; exact hlt))
        obtain ⟨x, hxx⟩ : ∃ x, W[j]'(by rw [HWL.out]; exact hlt) = x := ⟨_, rfl⟩
        obtain ⟨y, hyy⟩ : ∃ y, V[j]'(by rw [HVL.out]; exact hlt) = y := ⟨_, rfl⟩
        rw [hxx] at q1 hx HT1
        rw [hyy] at q2 hy HT2
        obtain ⟨hx0, hx1⟩ := hx
        obtain ⟨hy0, hy1⟩ := hy
        have HN := Lib.hid (show (V.take (j + 1)).sum = S + y ∧ (W.take (j + 1)).sum = T + x from ⟨by rw [HT2.out, hh.out.1], by rw [HT1.out, hh.out.2]⟩)
        have b0 : (0 : Int) ≤ (j : Int) := by omega
        have b1 : (j : Int) < (n : Int) := by omega
        have b2 : (n : Int) ≤ 7 := by omega
        clear hxx hyy hh HT1 HT2
        go_wp2
        go_roundw
        case rel => exact ⟨j + 1, _, S + y, T + x, by omega, by go_num, by go_num, by go_num, rfl, by omega, by omega, by omega, by omega, HN⟩
        case measure => simp [intOf]; omega
      · obtain rfl : j = n := by omega
        have hh2 := hh.out
        rw [List.take_of_length_le (by rw [HVL.out]; exact Nat.le_refl _), List.take_of_length_le (by rw [HWL.out]; exact Nat.le_refl _), HVS.out, HSE.out] at hh2
        obtain ⟨e1, e2⟩ := hh2
        subst e1
        subst e2
        clear hh
        go_wp2_with fail
        go_loopw [9] (fun i wr => ∃ k q' : Nat, k ≤ j ∧ i = .int .i64 k ∧ wr = w2.drewN q') (fun i _ => j - (intOf i).toNat)
        case atStart => exact ⟨0, q, Nat.zero_le _, rfl, rfl⟩
        case round =>
          obtain ⟨k, q', hk, rfl, rfl⟩ := hrel
          by_cases hlt2 : k < j
          · obtain ⟨g1, o1, rfl, hg1, q1⟩ := HR.out k (by rw [HWL.out]; exact hlt2)
            obtain ⟨g2, o2, rfl, hg2, q2⟩ := HP.out k (by rw [HVL.out]; exact hlt2)
            have hx := HIN.out _ (List.getElem_mem (by rw [HWL.out]; exact hlt2))
            have hy := HBD.out k
            have hd := HVD.out k (by exact hlt2)
            rw [← AllocI.getD_eq V k (by rw [HVL.out]; exact hlt2)] at hy hd
            rw [← AllocI.getD_eq W k (by rw [HWL.out]; exact hlt2)] at hd
            obtain ⟨x, hxx⟩ : ∃ x, W[k]'(by rw [HWL.out]; exact hlt2) = x := ⟨_, rfl⟩
            obtain ⟨y, hyy⟩ : ∃ y, V[k]'(by rw [HVL.out]; exact hlt2) = y := ⟨_, rfl⟩
            rw [hxx] at q1 hx hd
            rw [hyy] at q2 hy hd
            have hm2 := AllocMath.mul_small (t := t) (x := x) ht0 (by omega) hx.1 (by omega)
            obtain ⟨m1, hm1⟩ : ∃ m1, y * s = m1 := ⟨_, rfl⟩
            obtain ⟨m2, hm2'⟩ : ∃ m2, t * x = m2 := ⟨_, rfl⟩
            rw [hm1, hm2'] at hd
            rw [hm2'] at hm2
            obtain ⟨hd0, hd1⟩ := hd
            have b0 : (0 : Int) ≤ (k : Int) := by omega
            have b1 : (k : Int) < (j : Int) := by omega
            have W1 : IntKind.i64.wrap (y * s) = m1 := by rw [hm1]; exact IntWalk.i64_in _ (by omega)
            have W2 : IntKind.i64.wrap (t * x) = m2 := by rw [hm2']; exact IntWalk.i64_in _ (by omega)
            obtain ⟨d, hdd⟩ : ∃ d, m1 - m2 = d := ⟨_, rfl⟩
            have W3 : IntKind.i64.wrap (m1 - m2) = d := by rw [← hdd]; exact IntWalk.i64_in _ (by omega)
            rw [hdd] at hd0 hd1
            have e1 : decide (d ≤ -s) = false := decide_eq_false (by omega)
            have e2 : decide (s ≤ d) = false := decide_eq_false (by omega)
            clear hxx hyy hm1 hm2' hdd hx hy
            go_wp2_with fail
            go_quiet (fail)
            clear W1 W2 W3
            go_wp2
            go_roundw
            case rel => exact ⟨k + 1, _, by omega, by go_num, rfl⟩
            case measure => simp [intOf]; omega
          · obtain rfl : k = j := by omega
            go_wp2
            go_ret
            exact ⟨rfl, below_drewN HB2.out _⟩

/-! ### THE ROW's STEP: WRITTEN OUT: LEAVE IT -/
set_option maxRecDepth 100000 in
theorem lifted (os : Os) (started : os.Started) (H : Type) (enc : TypeId × Value → H) :
    ReturnsInHanded {} Try.checked os 4 .any (Rows.fnAllocatedSpec.pre6 enc Try.prog Try.f4 Rows.fnAllocatedRow.domain false) (Rows.fnAllocatedSpec.post enc Try.prog Try.f4 false true false false) := by
  refine returnsInHanded_of_change (C := Try.checked) own started (by kernel_rfl) Try.func4
    (ChangeSpec.witness6 (enc := enc) (C := Try.checked) false ⟨#[], #[.slice none 0 0], []⟩ 8 (by kernel_rfl) (by kernel_rfl) (by kernel_rfl) (by kernel_rfl)) ?_
  intro W base args ds gs before hval0 hW hcnd _
  have hval : ∀ (j : Nat) t v, Try.f4.params[j]? = some t → args[j]? = some v → Value.okWide Try.prog W .any base t v := hval0
  have hW' := hW
  obtain ⟨p, q, hA0, hV, rfl, hfz, hnd⟩ := hW
  have hA : DataW.TrodAll enc Try.prog W 0 (fun _ => true) true Try.f4.params.toList args.toList ds p := hA0
  rw [Try.params4] at hA hval
  obtain ⟨v0, vs0, d0, ds0, p0, q0, hargs, rfl, rfl, h0, r0⟩ := trodAll_cons hA
  obtain ⟨rfl, rfl, rfl⟩ := trodAll_nil r0
  obtain rfl : args = #[v0] := by cases args; simp_all
  obtain ⟨rfl, rfl⟩ := trodVars_none hV
  obtain ⟨a0, len0, cap0, rfl⟩ := okWide_slice Try.underlying22 (hval 0 22 v0 rfl rfl)
  have k0 := h0
  have lt0 : ∀ x ∈ p0, x.block < W.heap.size := by obtain ⟨m, hm⟩ := k0; exact DataW.trod_lt m _ _ _ hm
  obtain ⟨z0, w0⟩ : ∃ zs, IsRow .u8 W a0 len0 cap0 zs := by
    obtain ⟨fuel, hf⟩ := h0
    rcases open_ints Try.underlying22 Try.underlying5 (by kernel_rfl) hf with ⟨hcs, _⟩ | ⟨x, l, c, zs, hcs, _, hl, hm, hz, _, hcell, hwz⟩
    · simp [Value.cells] at hcs
      obtain ⟨rfl, rfl, rfl⟩ := hcs
      exact ⟨[], .inl ⟨rfl, rfl, rfl, rfl⟩⟩
    · simp [Value.cells] at hcs
      obtain ⟨rfl, rfl, rfl⟩ := hcs
      exact ⟨zs, .inr ⟨_, rfl, hl, hm, by simpa using hz, hcell, hwz⟩⟩
  clear hA0 hval0
  refine (walk a0 len0 cap0 z0 W w0).mono fun e W' ⟨he, bel⟩ => ?_
  subst he
  exact ⟨_, rfl, _, _, _, [], _, [], hW', trodAll_mk1 (shut_bool Try.underlying4 _), (trodAll_cons_mk (Below.trod laidOut (by kernel_rfl) (of_decide_eq_true (by kernel_rfl)) k0 bel lt0) trodAll_mk0), rfl, bel.frame _, fun h => by cases h⟩

theorem over : Rows.fnAllocatedRow.holds Try.pinned (OpenSpec.ofChange Rows.fnAllocatedSpec) :=
  OpenClaim.holds_of_wide 4 Try.f4 rfl rfl rfl rfl rfl rfl rfl ⟨rfl, rfl, rfl, rfl, rfl⟩ rfl rfl rfl rfl rfl (by kernel_rfl) Try.func4 (by kernel_rfl)
    (of_decide_eq_true (by kernel_rfl)) (by unfold Func.isWrapper; first | (rw [if_pos (by decide +kernel)]; kernel_rfl) | (rw [if_neg (by decide +kernel)]; exact ⟨rfl, rfl⟩))
    (fun os started H enc _ => lifted os started H enc)

theorem proved : Rows.FnAllocatedSaid := over
#print axioms proved
end Go.Proofs.Ytdmnagpnhphifaa.fnAllocated
