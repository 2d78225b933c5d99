/- Proves the given statement of the law FnRounded: for every input that the row lets in, the law's Go function returns true and every argument reads as before; no condition of mine. -/
import Derived.Test.YtdmnagpnhphifaaRoundNear
import Derived.Test.YtdmnagpnhphifaaRoundF
import Derived.Test.YtdmnagpnhphifaaDrawFrac
import Derived.Test.YtdmnagpnhphifaaFracBlk
import Derived.Test.YtdmnagpnhphifaaRows
import Derived.WalkKit
import Derived.ProofKit
import Derived.OpenShut
import Derived.ShutString
import Derived.ChangeOld
import Derived.Below
namespace Go.Proofs.Ytdmnagpnhphifaa.fnRounded
open Go.ChangeShapes Go.WideShapes Go.ChangeAt Go.RowKit
open Go.ChangeMaps (open_string shut_string)
set_option linter.unusedVariables false

theorem own : ownKnob Try.prog.godebug = none := by kernel_rfl
theorem laidOut : laidOutB Try.prog = true := by kernel_rfl

/-- WHAT THE WALK IS TOLD OF A SLICE OF INTEGERS THAT CAME IN: it is nil; or it leads to a row of 'cap' cells, the numbers 'zs' (the first 'len' are its elements, the rest its spare room), each fitting its kind. -/
def IsRow (k : IntKind) (w : World) (a : Option Addr) (len cap : Nat) (zs : List Int) : Prop :=
  (a = none ∧ len = 0 ∧ cap = 0 ∧ zs = []) ∨
  ∃ x, a = some x ∧ len ≤ cap ∧ cap ≤ maxLen ∧ zs.length = cap ∧ (∀ i, i < zs.length → w.cell? (x.add i) = some (.int k (zs.getD i 0))) ∧ ∀ n ∈ zs, (Lit.int k n).wf = true

/-! ### STEP 1: THE WALK: the Go text returns true, AND WRITES NOTHING THAT WAS THERE: 'Below w.heap.size w w'' (Derived/Below.lean: '.refl', '.alloc', '.drew', '.setCell' at a new block, '.trans'). Open each 'IsRow' by 'rcases' AHEAD of 'go_enter'; part every test ahead of the walk. -/
set_option maxHeartbeats 4000000 in
theorem walk (a0 : Option Addr) (len0 cap0 : Nat) (z0 : List Int) (w : World) (w0 : IsRow .u8 w a0 len0 cap0 z0) :
    Calls Try.prog 3 #[.slice a0 len0 cap0] w fun e w' => e = .returned (.bool true) ∧ Below w.heap.size w w' := by
  obtain ⟨hcode, hs⟩ := CurKit.code_at w0
  clear w0
  have HK := Lib.hid hcode
  have HS := Lib.hid hs
  clear hcode
  unfold maxLen at hs
  by_cases hbig : 1048576 < len0
  · go_enter Try.func3, Try.ntmps3
    go_wp2
    go_ret
    exact ⟨rfl, Below.refl _ _⟩
  · go_enter Try.func3, Try.ntmps3
    go_wp2_with (go_at_call 10; go_in)
    refine (DrawFrac.draw_c _ a0 len0 cap0 HK.out HS.out).mono ?_
    rintro e w1 ⟨n, d, h1, rfl, hb1⟩
    have H1 := Lib.hid h1
    have hd1 := h1.d1
    have hd2 := h1.d2
    have HB1 := Lib.hid hb1
    have hz1 := hb1.size
    clear h1 hb1
    go_wp2
    go_loopw [4] (fun i wr => ∃ m : Int, 1 ≤ m ∧ m ≤ 5 ∧ i = .int .i64 m ∧ FracBlk.FB wr w1.heap.size n d ∧ Below w1.heap.size w1 wr) (fun i _ => (5 - intOf i).toNat)
    case atStart => exact ⟨1, by omega, by omega, rfl, FracBlk.FB.new _ _ _ _, (Below.refl _ _).alloc (Nat.le_refl _) _⟩
    case round =>
      obtain ⟨m, hm1, hm2, rfl, hfb, hbl⟩ := hrel
      have HFB := Lib.hid hfb
      have HBL := Lib.hid hbl
      have lA := hfb.lt
      have cA0 := hfb.c0
      have cA1 := hfb.c1
      clear hfb hbl
      by_cases hm5 : m ≤ 4
      · obtain ⟨x, y, D, e1, e2, e3, e4, e5, e6, e7, e8, e9⟩ := RoundNear.near_one H1.out hm1 hm5
        have E1 := Lib.hid e1
        clear e1
        have hcase : (m = 1 ∧ D ≤ 0) ∨ (m = 2 ∧ 0 ≤ D) ∨ (m = 3 ∧ D ≤ d ∧ -d ≤ D) ∨ (m = 4 ∧ D ≤ d ∧ -d ≤ D) := by
          have : m = 1 ∨ m = 2 ∨ m = 3 ∨ m = 4 := by omega
          rcases this with h | h | h | h
          · exact .inl ⟨h, e7 h⟩
          · exact .inr (.inl ⟨h, e8 h⟩)
          · exact .inr (.inr (.inl ⟨h, e9 (by omega)⟩))
          · exact .inr (.inr (.inr ⟨h, e9 (by omega)⟩))
        clear e7 e8 e9
        rcases hcase with ⟨rfl, g1⟩ | ⟨rfl, g1⟩ | ⟨rfl, g1, g2⟩ | ⟨rfl, g1, g2⟩
        all_goals
          go_wp2_with fail
          refine (RoundF.round_i n d _ _).mono ?_
          rintro e w2 ⟨rfl, hb2⟩
          rw [E1.out]
          have BA := Lib.hid (HFB.out.on hb2)
          have hb2' := Lib.hid (HBL.out.trans (hb2.mono (by omega)))
          clear lA cA0 cA1 hb2
          have lA := BA.out.lt
          have cA0 := BA.out.c0
          have cA1 := BA.out.c1
          go_wp2
          go_roundw
          case rel => exact ⟨_, by omega, by omega, rfl, BA.out, hb2'.out⟩
          case measure => simp [intOf]
      · obtain rfl : m = 5 := by omega
        have E1 := Lib.hid (RoundF.rndR_yes (m := 1) H1.out.ok (by omega) (by omega))
        have E2 := Lib.hid (show RoundI.flo n d = n / d by simp [RoundI.flo, H1.out.ok])
        obtain ⟨q, hq⟩ : ∃ q, n / d = q := ⟨_, rfl⟩
        have E3 := Lib.hid (show RoundMath.rnd n d 1 = q from hq)
        rw [hq] at E2
        clear hq
        go_wp2_with fail
        refine (RoundF.round_i n d 1 _).mono ?_
        rintro e w2 ⟨rfl, hb2⟩
        rw [E1.out, E3.out]
        have BA := Lib.hid (HFB.out.on hb2)
        have hb2' := Lib.hid (HBL.out.trans (hb2.mono (by omega)))
        have hs2 := hb2.size
        clear lA cA0 cA1 hb2
        have lA := BA.out.lt
        have cA0 := BA.out.c0
        have cA1 := BA.out.c1
        go_wp2_with fail
        refine (RoundI.floorfrac_i n d _).mono ?_
        rintro e w3 ⟨rfl, hb3⟩
        rw [E2.out]
        have hb3' := Lib.hid (hb2'.out.trans (hb3.mono (by omega)))
        clear hb3
        go_wp2
        go_ret
        exact ⟨rfl, HB1.out.trans (hb3'.out.mono (by omega))⟩

/-! ### THE ROW's STEP: WRITTEN OUT: LEAVE IT -/
set_option maxRecDepth 100000 in
theorem lifted (os : Os) (started : os.Started) (H : Type) (enc : TypeId × Value → H) :
    ReturnsInHanded {} Try.checked os 3 .any (Rows.fnRoundedSpec.pre6 enc Try.prog Try.f3 Rows.fnRoundedRow.domain false) (Rows.fnRoundedSpec.post enc Try.prog Try.f3 false true false false) := by
  refine returnsInHanded_of_change (C := Try.checked) own started (by kernel_rfl) Try.func3
    (ChangeSpec.witness6 (enc := enc) (C := Try.checked) false ⟨#[], #[.slice none 0 0], []⟩ 8 (by kernel_rfl) (by kernel_rfl) (by kernel_rfl) (by kernel_rfl)) ?_
  intro W base args ds gs before hval0 hW hcnd _
  have hval : ∀ (j : Nat) t v, Try.f3.params[j]? = some t → args[j]? = some v → Value.okWide Try.prog W .any base t v := hval0
  have hW' := hW
  obtain ⟨p, q, hA0, hV, rfl, hfz, hnd⟩ := hW
  have hA : DataW.TrodAll enc Try.prog W 0 (fun _ => true) true Try.f3.params.toList args.toList ds p := hA0
  rw [Try.params3] at hA hval
  obtain ⟨v0, vs0, d0, ds0, p0, q0, hargs, rfl, rfl, h0, r0⟩ := trodAll_cons hA
  obtain ⟨rfl, rfl, rfl⟩ := trodAll_nil r0
  obtain rfl : args = #[v0] := by cases args; simp_all
  obtain ⟨rfl, rfl⟩ := trodVars_none hV
  obtain ⟨a0, len0, cap0, rfl⟩ := okWide_slice Try.underlying22 (hval 0 22 v0 rfl rfl)
  have k0 := h0
  have lt0 : ∀ x ∈ p0, x.block < W.heap.size := by obtain ⟨m, hm⟩ := k0; exact DataW.trod_lt m _ _ _ hm
  obtain ⟨z0, w0⟩ : ∃ zs, IsRow .u8 W a0 len0 cap0 zs := by
    obtain ⟨fuel, hf⟩ := h0
    rcases open_ints Try.underlying22 Try.underlying5 (by kernel_rfl) hf with ⟨hcs, _⟩ | ⟨x, l, c, zs, hcs, _, hl, hm, hz, _, hcell, hwz⟩
    · simp [Value.cells] at hcs
      obtain ⟨rfl, rfl, rfl⟩ := hcs
      exact ⟨[], .inl ⟨rfl, rfl, rfl, rfl⟩⟩
    · simp [Value.cells] at hcs
      obtain ⟨rfl, rfl, rfl⟩ := hcs
      exact ⟨zs, .inr ⟨_, rfl, hl, hm, by simpa using hz, hcell, hwz⟩⟩
  clear hA0 hval0
  refine (walk a0 len0 cap0 z0 W w0).mono fun e W' ⟨he, bel⟩ => ?_
  subst he
  exact ⟨_, rfl, _, _, _, [], _, [], hW', trodAll_mk1 (shut_bool Try.underlying4 _), (trodAll_cons_mk (Below.trod laidOut (by kernel_rfl) (of_decide_eq_true (by kernel_rfl)) k0 bel lt0) trodAll_mk0), rfl, bel.frame _, fun h => by cases h⟩

theorem over : Rows.fnRoundedRow.holds Try.pinned (OpenSpec.ofChange Rows.fnRoundedSpec) :=
  OpenClaim.holds_of_wide 3 Try.f3 rfl rfl rfl rfl rfl rfl rfl ⟨rfl, rfl, rfl, rfl, rfl⟩ rfl rfl rfl rfl rfl (by kernel_rfl) Try.func3 (by kernel_rfl)
    (of_decide_eq_true (by kernel_rfl)) (by unfold Func.isWrapper; first | (rw [if_pos (by decide +kernel)]; kernel_rfl) | (rw [if_neg (by decide +kernel)]; exact ⟨rfl, rfl⟩))
    (fun os started H enc _ => lifted os started H enc)

theorem proved : Rows.FnRoundedSaid := over
#print axioms proved
end Go.Proofs.Ytdmnagpnhphifaa.fnRounded
