/- Proves the given statement of the law FnBreaks: for every input that the row lets in, the law's Go function returns true and every argument reads as before; no condition of mine. -/
import Derived.Test.YtkoeodmneedjcaaSpellLaws
import Derived.Test.YtkoeodmneedjcaaSpellI
import Derived.Test.YtkoeodmneedjcaaDrawSpell
import Derived.Test.YtkoeodmneedjcaaKit
import Derived.Test.YtkoeodmneedjcaaTSegment
import Derived.Test.YtkoeodmneedjcaaRows
import Derived.WalkKit
import Derived.ProofKit
import Derived.OpenShut
import Derived.ShutString
import Derived.ChangeOld
import Derived.Below
namespace Go.Proofs.Ytkoeodmneedjcaa.fnBreaks
open Go.ChangeShapes Go.WideShapes Go.ChangeAt Go.RowKit
open Go.ChangeMaps (open_string shut_string)
set_option linter.unusedVariables false

theorem own : ownKnob Try.prog.godebug = none := by kernel_rfl
theorem laidOut : laidOutB Try.prog = true := by kernel_rfl

/-- WHAT THE WALK IS TOLD OF A SLICE OF INTEGERS THAT CAME IN: it is nil; or it leads to a row of 'cap' cells, the numbers 'zs' (the first 'len' are its elements, the rest its spare room), each fitting its kind. -/
def IsRow (k : IntKind) (w : World) (a : Option Addr) (len cap : Nat) (zs : List Int) : Prop :=
  (a = none ∧ len = 0 ∧ cap = 0 ∧ zs = []) ∨
  ∃ x, a = some x ∧ len ≤ cap ∧ cap ≤ maxLen ∧ zs.length = cap ∧ (∀ i, i < zs.length → w.cell? (x.add i) = some (.int k (zs.getD i 0))) ∧ ∀ n ∈ zs, (Lit.int k n).wf = true

/-! ### STEP 1: THE WALK: the Go text returns true, AND WRITES NOTHING THAT WAS THERE: 'Below w.heap.size w w'' (Derived/Below.lean: '.refl', '.alloc', '.drew', '.setCell' at a new block, '.trans'). Open each 'IsRow' by 'rcases' AHEAD of 'go_enter'; part every test ahead of the walk. -/
set_option maxHeartbeats 8000000 in
theorem walk (a0 : Option Addr) (len0 cap0 : Nat) (z0 : List Int) (w : World) (w0 : IsRow .u8 w a0 len0 cap0 z0) :
    Calls Try.prog 4 #[.slice a0 len0 cap0] w fun e w' => e = .returned (.bool true) ∧ Below w.heap.size w w' := by
  obtain ⟨hcode, hs⟩ := CurKit.code_at w0
  clear w0
  have HK := Lib.hid hcode
  have HS := Lib.hid hs
  clear hcode
  unfold maxLen at hs
  by_cases hbig : 1048576 < len0
  · go_enter Try.func4, Try.ntmps4
    go_wp2
    go_ret
    exact ⟨rfl, Below.refl _ _⟩
  go_enter Try.func4, Try.ntmps4
  go_wp2_with (go_at_call 11; go_in)
  refine (DrawSpell.draw_c _ a0 len0 cap0 HK.out HS.out).mono ?_
  rintro e w1 ⟨l, p, c, hd, rfl, ho, hb⟩
  have HD := Lib.hid hd
  have hok := hd.ok
  have HOK := Lib.hid hok
  have HYES := Lib.hid (SpellMath.okB_yes hok)
  have hl6 := hd.len
  obtain ⟨m, hm⟩ : ∃ m, l.length = m := ⟨_, rfl⟩
  have HM := Lib.hid hm
  rw [hm] at ho hl6 ⊢
  have HO1 := Lib.hid ho
  have HC1 := Lib.hid hb
  clear hd hok ho hb hm
  go_wp2_with fail
  refine (SpellI.brk_i _ p m c l HM.out (by omega) (RowN.reads_own TSpell.fw HO1.out)).mono ?_
  rintro e w2 ⟨q, cq, rfl, ho, hb⟩
  have hbk := SpellLaws.brk_of HOK.out
  have HBK := Lib.hid hbk
  obtain ⟨B, hB⟩ : ∃ B, SpellMath.breaks l = B := ⟨_, rfl⟩
  rw [hB] at ho HBK ⊢
  obtain ⟨N, hN⟩ : ∃ n, B.length = n := ⟨_, rfl⟩
  have HN := Lib.hid hN
  have hn30 : N ≤ 30 := by rw [← hN]; exact HBK.out.len
  rw [hN] at ho ⊢
  have HQ2 := Lib.hid (RowN.reads_own TSegment.fw ho)
  have HP2 := Lib.hid ((RowN.reads_own TSpell.fw HO1.out).on hb)
  have HC2 := Lib.hid (BelowKit.bl_trans HC1.out hb)
  clear hbk hB hN ho hb HO1 HC1
  go_wp2
  go_loopw [5, 6] (fun n i wr => ∃ (j : Nat) (s : Int), j ≤ m ∧ i = .int .i64 (j : Int) ∧ n = .int .i64 s ∧ Hid (s = SpellLaws.lens l j) ∧ Hid (∃ x, wr = w2.drewN x)) (fun _ i _ => m - (intOf i).toNat)
  case atStart => exact ⟨0, 0, by omega, rfl, rfl, Lib.hid rfl, Lib.hid ⟨0, rfl⟩⟩
  case round =>
    obtain ⟨j, s, hj, rfl, rfl, HV, HW⟩ := hrel
    have HPr := Lib.hid (show RowN.Reads TSpell.fc 4 wr p l by obtain ⟨x, rfl⟩ := HW.out; exact HP2.out.drewN x)
    by_cases hlt : j < m
    · have HLT := Lib.hid (show j < l.length by rw [HM.out]; exact hlt)
      obtain ⟨g, o, rfl, hgl, q0, q1, q2, q3⟩ := TSpell.read HPr.out j HLT.out
      have hx1 := HOK.out.each j HLT.out
      have hsu := SpellLaws.lens_succ l j HLT.out
      have hbd := SpellLaws.lens_bd HOK.out j (Nat.le_of_lt HLT.out)
      rw [← HV.out] at hsu hbd
      obtain ⟨⟨f, t, cc, v⟩, hx⟩ : ∃ x, l[j]'HLT.out = x := ⟨_, rfl⟩
      rw [hx] at q0 q1 q2 q3 hx1 hsu
      simp only [] at q0 q1 q2 q3
      obtain ⟨u0, u1, u2, _⟩ := (show 0 ≤ f ∧ f < t ∧ t ≤ 3600 ∧ 1 ≤ cc ∧ cc ≤ 100 from hx1)
      have b1 : (0 : Int) ≤ (j : Int) := by omega
      have b2 : (j : Int) < (m : Int) := by omega
      have W1 : IntKind.i64.wrap (s + t) = s + t := IntWalk.i64_in _ (by omega)
      have W2 : IntKind.i64.wrap (s + t - f) = s + t - f := IntWalk.i64_in _ (by omega)
      have HV2 := Lib.hid (show s + t - f = SpellLaws.lens l (j + 1) by rw [hsu]; show s + t - f = s + (t - f); omega)
      clear hx hx1 hsu hbd u0 u1 u2 q2 q3
      go_wp2_with fail
      go_quiet (fail)
      clear W1 W2
      go_wp2
      go_roundw
      case rel => exact ⟨j + 1, s + t - f, by omega, by go_num, rfl, HV2, Lib.hid (by obtain ⟨x, rfl⟩ := HW.out; exact ⟨_, World.drewN_drewN _ _ _⟩)⟩
      case measure => simp [intOf]; omega
    · obtain rfl : j = m := by omega
      have HLS := Lib.hid (show 0 ≤ s ∧ s ≤ 3600 * 30 by have := SpellLaws.lens_bd HOK.out j (by rw [HM.out]; exact Nat.le_refl _); rw [← HV.out] at this; omega)
      go_wp2
      go_loopw [5, 7] (fun n i wr => ∃ (k : Nat) (z : Int), k ≤ N ∧ i = .int .i64 (k : Int) ∧ n = .int .i64 z ∧ Hid (z = s + SpellLaws.vals B k) ∧ Hid (∃ x, wr = w2.drewN x)) (fun _ i _ => N - (intOf i).toNat)
      case atStart => exact ⟨0, s, by omega, rfl, rfl, Lib.hid (by simp [SpellLaws.vals]), HW⟩
      case round =>
        obtain ⟨k, z, hk, rfl, rfl, HZ, HX⟩ := hrel
        by_cases hlk : k < N
        · have HLK := Lib.hid (show k < B.length by rw [HN.out]; exact hlk)
          obtain ⟨g, o, rfl, hgl, q0, q1, q2⟩ := TSegment.read (show RowN.Reads TSegment.fc 3 wr q B by obtain ⟨x, e⟩ := HX.out; rw [e]; exact HQ2.out.drewN x) k HLK.out
          obtain ⟨v1, v2, v3, v4, v5, v6⟩ := HBK.out.one k HLK.out
          have hsu := SpellLaws.vals_succ B k HLK.out
          have hbd := SpellLaws.vals_bd HBK.out k (Nat.le_of_lt HLK.out)
          have hzz := HZ.out
          obtain ⟨⟨f, t, v⟩, hx⟩ : ∃ x, B[k]'HLK.out = x := ⟨_, rfl⟩
          rw [hx] at q0 q1 q2 v1 v2 v3 v4 v5 v6 hsu
          simp only [] at q0 q1 q2 v1 v2 v3 v4 v5 v6 hsu
          have hls := HLS.out
          have b1 : (0 : Int) ≤ (k : Int) := by omega
          have b2 : (k : Int) < (N : Int) := by omega
          have W1 : IntKind.i64.wrap (z + v) = z + v := IntWalk.i64_in _ (by omega)
          have W2 : IntKind.i64.wrap (t - f) = v := by rw [← v1]; exact IntWalk.i64_in _ (by omega)
          have d1 : decide (v ≤ 0) = false := decide_eq_false (by omega)
          have HZ2 := Lib.hid (show z + v = s + SpellLaws.vals B (k + 1) by rw [hsu, hzz]; omega)
          clear hx hsu hbd hzz v1 v2 v3 v4 v5 v6 hls
          go_wp2_with fail
          go_quiet (fail)
          clear W1 W2 d1
          go_wp2
          go_roundw
          case rel => exact ⟨k + 1, z + v, by omega, by go_num, rfl, HZ2, Lib.hid (by obtain ⟨x, e⟩ := HX.out; rw [e]; exact ⟨_, World.drewN_drewN _ _ _⟩)⟩
          case measure => simp [intOf]; omega
        · obtain rfl : k = N := by omega
          have hzz := HZ.out
          have hvv := HV.out
          cases j with
          | zero =>
            have e0 : z = 0 := by
              have := HBK.out.none HM.out
              have ea : SpellLaws.lens l l.length = s := by rw [hvv, HM.out]
              have eb : SpellLaws.vals B B.length = z - s := by rw [HN.out, hzz]; omega
              rw [ea, eb] at this
              omega
            subst e0
            clear hzz hvv
            go_wp2_with fail
            go_quiet (fail)
            go_wp2
            go_ret
            exact ⟨rfl, by obtain ⟨x, e⟩ := HX.out; rw [e]; exact below_drewN (below_drewN HC2.out _) _⟩
          | succ i =>
            have HL1 := Lib.hid (show i < l.length by rw [HM.out]; omega)
            have HL0 := Lib.hid (show 0 < l.length by rw [HM.out]; omega)
            have e0 := HBK.out.some i HM.out.symm
            have ea : SpellLaws.lens l l.length = s := by rw [hvv, HM.out]
            have eb : SpellLaws.vals B B.length = z - s := by rw [HN.out, hzz]; omega
            rw [ea, eb] at e0
            have e0 : z = (l[i]'HL1.out).To - (l[0]'HL0.out).From := by rw [← e0]; omega
            have hx1 := HOK.out.each i HL1.out
            have hx0 := HOK.out.each 0 HL0.out
            obtain ⟨g, o, rfl, _, r0, r1, r2, r3⟩ := TSpell.read (show RowN.Reads TSpell.fc 4 wr p l by obtain ⟨x, e⟩ := HX.out; rw [e]; exact HP2.out.drewN x) i HL1.out
            obtain ⟨g', o', e', _, s0, s1, s2, s3⟩ := TSpell.read (show RowN.Reads TSpell.fc 4 wr (some ⟨g, o, none⟩) l by obtain ⟨x, e⟩ := HX.out; rw [e]; exact HP2.out.drewN x) 0 HL0.out
            cases e'
            obtain ⟨⟨f, t, cc, v⟩, hx⟩ : ∃ x, l[i]'HL1.out = x := ⟨_, rfl⟩
            obtain ⟨⟨f', t', cc', v'⟩, hy⟩ : ∃ x, l[0]'HL0.out = x := ⟨_, rfl⟩
            rw [hx] at r0 r1 r2 r3 hx1 e0
            rw [hy] at s0 s1 s2 s3 hx0 e0
            simp only [] at r0 r1 r2 r3 s0 s1 s2 s3 e0
            have hx1 := (show 0 ≤ f ∧ f < t ∧ t ≤ 3600 ∧ 1 ≤ cc ∧ cc ≤ 100 from hx1)
            have hx0 := (show 0 ≤ f' ∧ f' < t' ∧ t' ≤ 3600 ∧ 1 ≤ cc' ∧ cc' ≤ 100 from hx0)
            have W1 : IntKind.i64.wrap ((((i + 1 : Nat) : Int)) - 1) = (i : Int) := by rw [IntWalk.i64_in _ (by omega)]; omega
            have W1' : IntKind.i64.wrap (((i : Int) + 1) - 1) = (i : Int) := by rw [IntWalk.i64_in _ (by omega)]; omega
            have W2 : IntKind.i64.wrap (t - f') = z := by rw [e0]; exact IntWalk.i64_in _ (by omega)
            have b3 : (0 : Int) ≤ (i : Int) := by omega
            have b4 : (i : Int) < (i : Int) + 1 := by omega
            have d1 : decide ((0 : Int) < (i : Int) + 1) = true := decide_eq_true (by omega)
            have d2 : (((i : Int) + 1) == 0) = false := beq_eq_false_iff_ne.2 (by omega)
            have d3 : decide ((i : Int) + 1 = 0) = false := decide_eq_false (by omega)
            simp only [Nat.zero_mul, Nat.add_zero] at s0
            clear hx hy e0 hx1 hx0 hzz hvv
            go_wp2_with fail
            go_quiet (fail)
            clear W1 W1' W2
            go_wp2
            go_ret
            exact ⟨rfl, by obtain ⟨x, e⟩ := HX.out; rw [e]; exact below_drewN (below_drewN HC2.out _) _⟩

/-! ### THE ROW's STEP: WRITTEN OUT: LEAVE IT -/
set_option maxRecDepth 100000 in
theorem lifted (os : Os) (started : os.Started) (H : Type) (enc : TypeId × Value → H) :
    ReturnsInHanded {} Try.checked os 4 .any (Rows.fnBreaksSpec.pre6 enc Try.prog Try.f4 Rows.fnBreaksRow.domain false) (Rows.fnBreaksSpec.post enc Try.prog Try.f4 false true false false) := by
  refine returnsInHanded_of_change (C := Try.checked) own started (by kernel_rfl) Try.func4
    (ChangeSpec.witness6 (enc := enc) (C := Try.checked) false ⟨#[], #[.slice none 0 0], []⟩ 8 (by kernel_rfl) (by kernel_rfl) (by kernel_rfl) (by kernel_rfl)) ?_
  intro W base args ds gs before hval0 hW hcnd _
  have hval : ∀ (j : Nat) t v, Try.f4.params[j]? = some t → args[j]? = some v → Value.okWide Try.prog W .any base t v := hval0
  have hW' := hW
  obtain ⟨p, q, hA0, hV, rfl, hfz, hnd⟩ := hW
  have hA : DataW.TrodAll enc Try.prog W 0 (fun _ => true) true Try.f4.params.toList args.toList ds p := hA0
  rw [Try.params4] at hA hval
  obtain ⟨v0, vs0, d0, ds0, p0, q0, hargs, rfl, rfl, h0, r0⟩ := trodAll_cons hA
  obtain ⟨rfl, rfl, rfl⟩ := trodAll_nil r0
  obtain rfl : args = #[v0] := by cases args; simp_all
  obtain ⟨rfl, rfl⟩ := trodVars_none hV
  obtain ⟨a0, len0, cap0, rfl⟩ := okWide_slice Try.underlying22 (hval 0 22 v0 rfl rfl)
  have k0 := h0
  have lt0 : ∀ x ∈ p0, x.block < W.heap.size := by obtain ⟨m, hm⟩ := k0; exact DataW.trod_lt m _ _ _ hm
  obtain ⟨z0, w0⟩ : ∃ zs, IsRow .u8 W a0 len0 cap0 zs := by
    obtain ⟨fuel, hf⟩ := h0
    rcases open_ints Try.underlying22 Try.underlying5 (by kernel_rfl) hf with ⟨hcs, _⟩ | ⟨x, l, c, zs, hcs, _, hl, hm, hz, _, hcell, hwz⟩
    · simp [Value.cells] at hcs
      obtain ⟨rfl, rfl, rfl⟩ := hcs
      exact ⟨[], .inl ⟨rfl, rfl, rfl, rfl⟩⟩
    · simp [Value.cells] at hcs
      obtain ⟨rfl, rfl, rfl⟩ := hcs
      exact ⟨zs, .inr ⟨_, rfl, hl, hm, by simpa using hz, hcell, hwz⟩⟩
  clear hA0 hval0
  refine (walk a0 len0 cap0 z0 W w0).mono fun e W' ⟨he, bel⟩ => ?_
  subst he
  exact ⟨_, rfl, _, _, _, [], _, [], hW', trodAll_mk1 (shut_bool Try.underlying4 _), (trodAll_cons_mk (Below.trod laidOut (by kernel_rfl) (of_decide_eq_true (by kernel_rfl)) k0 bel lt0) trodAll_mk0), rfl, bel.frame _, fun h => by cases h⟩

theorem over : Rows.fnBreaksRow.holds Try.pinned (OpenSpec.ofChange Rows.fnBreaksSpec) :=
  OpenClaim.holds_of_wide 4 Try.f4 rfl rfl rfl rfl rfl rfl rfl ⟨rfl, rfl, rfl, rfl, rfl⟩ rfl rfl rfl rfl rfl (by kernel_rfl) Try.func4 (by kernel_rfl)
    (of_decide_eq_true (by kernel_rfl)) (by unfold Func.isWrapper; first | (rw [if_pos (by decide +kernel)]; kernel_rfl) | (rw [if_neg (by decide +kernel)]; exact ⟨rfl, rfl⟩))
    (fun os started H enc _ => lifted os started H enc)

theorem proved : Rows.FnBreaksSaid := over
#print axioms proved
end Go.Proofs.Ytkoeodmneedjcaa.fnBreaks
