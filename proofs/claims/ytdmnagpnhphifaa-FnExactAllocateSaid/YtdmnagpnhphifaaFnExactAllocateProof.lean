/- Proves the given statement of the law FnExactAllocate: for every input that the row lets in, the law's Go function returns true and every argument reads as before; no condition of mine. -/
import Derived.Test.YtdmnagpnhphifaaAllocI
import Derived.Test.YtdmnagpnhphifaaAllocS
import Derived.Test.YtdmnagpnhphifaaRowMark
import Derived.Test.YtdmnagpnhphifaaRows
import Derived.WalkKit
import Derived.ProofKit
import Derived.OpenShut
import Derived.ShutString
import Derived.ChangeOld
import Derived.Below
namespace Go.Proofs.Ytdmnagpnhphifaa.fnExactAllocate
open Go.ChangeShapes Go.WideShapes Go.ChangeAt Go.RowKit
open Go.ChangeMaps (open_string shut_string)
set_option linter.unusedVariables false

theorem own : ownKnob Try.prog.godebug = none := by kernel_rfl
theorem laidOut : laidOutB Try.prog = true := by kernel_rfl

/-- WHAT THE WALK IS TOLD OF A SLICE OF INTEGERS THAT CAME IN: it is nil; or it leads to a row of 'cap' cells, the numbers 'zs' (the first 'len' are its elements, the rest its spare room), each fitting its kind. -/
def IsRow (k : IntKind) (w : World) (a : Option Addr) (len cap : Nat) (zs : List Int) : Prop :=
  (a = none ∧ len = 0 ∧ cap = 0 ∧ zs = []) ∨
  ∃ x, a = some x ∧ len ≤ cap ∧ cap ≤ maxLen ∧ zs.length = cap ∧ (∀ i, i < zs.length → w.cell? (x.add i) = some (.int k (zs.getD i 0))) ∧ ∀ n ∈ zs, (Lit.int k n).wf = true

/-! ### STEP 1: THE WALK: the Go text returns true, AND WRITES NOTHING THAT WAS THERE: 'Below w.heap.size w w'' (Derived/Below.lean: '.refl', '.alloc', '.drew', '.setCell' at a new block, '.trans'). Open each 'IsRow' by 'rcases' AHEAD of 'go_enter'; part every test ahead of the walk. -/
theorem walk (a0 : Int) (a1 : Option Addr) (len1 cap1 : Nat) (z1 : List Int) (w : World) (w0 : (Lit.int .i64 a0).wf = true) (w1 : IsRow .i64 w a1 len1 cap1 z1) :
    Calls Try.prog 8 #[.int .i64 a0, .slice a1 len1 cap1] w fun e w' => e = .returned (.bool true) ∧ Below w.heap.size w w' := by
  obtain ⟨hr, hl, hml, _⟩ := IntRow.reads_in w1
  obtain ⟨L, hL⟩ : ∃ L, z1.take len1 = L := ⟨_, rfl⟩
  rw [hL] at hr hl
  have HR := Lib.hid hr
  have HLL := Lib.hid hl
  clear hr hl hL w1 w0
  unfold maxLen at hml
  by_cases hbig : 1048576 < len1
  · go_enter Try.func8, Try.ntmps8
    go_wp2
    go_ret
    exact ⟨rfl, Below.refl _ _⟩
  have hsm : len1 ≤ 1099511627776 := by omega
  obtain ⟨V, hV⟩ : ∃ V, AllocMath.allocR a0 L = V := ⟨_, rfl⟩
  obtain ⟨n, hn⟩ : ∃ n, V.length = n := ⟨_, rfl⟩
  have hns : n ≤ 1099511627776 := by
    have := AllocMath.alloc_len a0 L
    rw [hV, hn, HLL.out] at this
    omega
  have HV := Lib.hid hV
  have HN := Lib.hid hn
  clear hV hn
  go_enter Try.func8, Try.ntmps8
  go_wp2_with fail
  refine (IntRow.copy_c _ a1 len1 cap1 L HLL.out hsm HR.out).mono ?_
  rintro e w1 ⟨g, rfl, hg, ho, hb⟩
  rw [HLL.out] at ho ⊢
  have HO1 := Lib.hid ho
  have HB1 := Lib.hid hb
  clear ho hb hg
  go_wp2_with fail
  refine (AllocS.alloc_s a0 _ len1 len1 (some ⟨g, 0, none⟩) L HLL.out hsm (IntRow.reads_own HO1.out)).mono ?_
  rintro e w2 ⟨p0, c0, rfl, ho, hb⟩
  rw [HV.out, HN.out] at ho ⊢
  have HP := Lib.hid ho
  have HB2 := Lib.hid (BelowKit.bl_trans HB1.out hb)
  have HR2 := Lib.hid (HR.out.on HB2.out)
  clear ho hb HO1 HB1
  go_wp2_with fail
  refine (IntRow.copy_c _ a1 len1 cap1 L HLL.out hsm HR2.out).mono ?_
  rintro e w3 ⟨gx, rfl, hgx, ho, hb⟩
  rw [HLL.out] at ho ⊢
  have HX3 := Lib.hid ho
  have HC3 := Lib.hid hb
  have hgx3 : gx < w3.heap.size := ho.lt gx rfl
  have hz3 := hb.size
  clear ho hb
  go_wp2_with fail
  refine (AllocI.alloc_i a0 _ len1 len1 (some ⟨gx, 0, none⟩) L HLL.out hsm (IntRow.reads_own HX3.out)).mono ?_
  rintro e w4 ⟨p1, c1, rfl, ho, hb⟩
  rw [HV.out, HN.out] at ho ⊢
  have HG4 := Lib.hid ho
  have HX4 := Lib.hid (HX3.out.on hb)
  have HC4 := Lib.hid (BelowKit.bl_trans HC3.out hb)
  have HP4 := Lib.hid ((IntRow.reads_own HP.out).on HC4.out)
  clear ho hb HX3 HC3
  go_wp2_with fail
  refine (IntRow.eq_c _ n c1 c0 p1 p0 V HN.out hns (IntRow.reads_own HG4.out) HP4.out).mono ?_
  rintro e w5 ⟨rfl, d1, rfl⟩
  have HR4 := Lib.hid ((HR2.out.on HC4.out).drewN d1)
  go_wp2_with fail
  refine (IntRow.copy_c _ a1 len1 cap1 L HLL.out hsm HR4.out).mono ?_
  rintro e w5 ⟨gy, rfl, hgy, ho, hb⟩
  rw [HLL.out] at ho ⊢
  have HY5 := Lib.hid ho
  have HX5 := Lib.hid ((HX4.out.drewN d1).on hb)
  have HG5 := Lib.hid ((HG4.out.drewN d1).on hb)
  have HC5 := Lib.hid (BelowKit.bl_trans (below_drewN HC4.out d1) hb)
  clear ho hb HX4 HG4 HC4 HP4 HR4 hgy
  go_wp2_with fail
  refine (IntRow.eq_c _ len1 len1 len1 (some ⟨gx, 0, none⟩) (some ⟨gy, 0, none⟩) L HLL.out hsm (IntRow.reads_own HX5.out) (IntRow.reads_own HY5.out)).mono ?_
  rintro e w6 ⟨rfl, d2, rfl⟩
  go_wp2_with fail
  refine (RowMark.mark_o _ w2.heap.size gx len1 len1 L 1 HLL.out hsm (by omega) (by omega) (HX5.out.drewN d2)).mono ?_
  rintro e w6 ⟨rfl, ho, hb⟩
  have HG6 := Lib.hid ((HG5.out.drewN d2).kept hb (.inr (fun e => by have := HG5.out.low gx e; omega)))
  have HC6 := Lib.hid ((below_drewN HC5.out d2).trans (CurKit.OnlyB.below hb hgx HC5.out.size))
  have HP6 := Lib.hid ((IntRow.reads_own HP.out).on HC6.out)
  clear ho hb HX5 HG5 HC5 HY5
  go_wp2_with fail
  refine (IntRow.eq_c _ n c1 c0 p1 p0 V HN.out hns (IntRow.reads_own HG6.out) HP6.out).mono ?_
  rintro e w7 ⟨rfl, d3, rfl⟩
  go_wp2_with fail
  refine (IntRow.mark_c _ w3.heap.size p1 n c1 V 1 HN.out hns (by omega) (by omega) (HG6.out.drewN d3)).mono ?_
  rintro e w7 ⟨rfl, ho, hb⟩
  have HG7 := Lib.hid ho
  have HC7 := Lib.hid ((below_drewN HC6.out d3).trans (hb.mono hz3))
  clear ho hb HG6 HC6 HP6
  go_wp2_with fail
  refine (IntRow.held_c _ p1 n c1 1 hns (by omega) (by omega) (IntRow.reads_own HG7.out)).mono ?_
  rintro e w8 ⟨rfl, d4, rfl⟩
  have HR7 := Lib.hid ((HR2.out.on HC7.out).drewN d4)
  go_wp2_with fail
  refine (IntRow.copy_c _ a1 len1 cap1 L HLL.out hsm HR7.out).mono ?_
  rintro e w8 ⟨gz, rfl, hgz, ho, hb⟩
  rw [HLL.out] at ho ⊢
  have HZ8 := Lib.hid ho
  have HG8 := Lib.hid ((HG7.out.drewN d4).on hb)
  have HC8 := Lib.hid (BelowKit.bl_trans (below_drewN HC7.out d4) hb)
  clear ho hb HG7 HC7 HR7 hgz
  go_wp2_with fail
  refine (AllocI.alloc_i a0 _ len1 len1 (some ⟨gz, 0, none⟩) L HLL.out hsm (IntRow.reads_own HZ8.out)).mono ?_
  rintro e w9 ⟨p2, c2, rfl, ho, hb⟩
  rw [HV.out, HN.out] at ho ⊢
  have HN9 := Lib.hid ho
  have HG9 := Lib.hid (HG8.out.on hb)
  have HC9 := Lib.hid (BelowKit.bl_trans HC8.out hb)
  have HP9 := Lib.hid ((IntRow.reads_own HP.out).on HC9.out)
  clear ho hb HG8 HC8 HZ8
  go_wp2_with fail
  refine (IntRow.eq_c _ n c2 c0 p2 p0 V HN.out hns (IntRow.reads_own HN9.out) HP9.out).mono ?_
  rintro e w10 ⟨rfl, d5, rfl⟩
  go_wp2_with fail
  refine (IntRow.held_c _ p1 n c1 1 hns (by omega) (by omega) (IntRow.reads_own (HG9.out.drewN d5))).mono ?_
  rintro e w11 ⟨rfl, d6, rfl⟩
  go_wp2
  go_ret
  exact ⟨rfl, below_drewN (BelowKit.bl_trans HB2.out HC9.out) _⟩

/-! ### THE ROW's STEP: WRITTEN OUT: LEAVE IT -/
set_option maxRecDepth 100000 in
theorem lifted (os : Os) (started : os.Started) (H : Type) (enc : TypeId × Value → H) :
    ReturnsInHanded {} Try.checked os 8 .any (Rows.fnExactAllocateSpec.pre6 enc Try.prog Try.f8 Rows.fnExactAllocateRow.domain false) (Rows.fnExactAllocateSpec.post enc Try.prog Try.f8 false true false false) := by
  refine returnsInHanded_of_change (C := Try.checked) own started (by kernel_rfl) Try.func8
    (ChangeSpec.witness6 (enc := enc) (C := Try.checked) false ⟨#[], #[.int .i64 0, .slice none 0 0], []⟩ 8 (by kernel_rfl) (by kernel_rfl) (by kernel_rfl) (by kernel_rfl)) ?_
  intro W base args ds gs before hval0 hW hcnd _
  have hval : ∀ (j : Nat) t v, Try.f8.params[j]? = some t → args[j]? = some v → Value.okWide Try.prog W .any base t v := hval0
  have hW' := hW
  obtain ⟨p, q, hA0, hV, rfl, hfz, hnd⟩ := hW
  have hA : DataW.TrodAll enc Try.prog W 0 (fun _ => true) true Try.f8.params.toList args.toList ds p := hA0
  rw [Try.params8] at hA hval
  obtain ⟨v0, vs0, d0, ds0, p0, q0, hargs, rfl, rfl, h0, r0⟩ := trodAll_cons hA
  obtain ⟨v1, vs1, d1, ds1, p1, q1, rfl, rfl, rfl, h1, r1⟩ := trodAll_cons r0
  obtain ⟨rfl, rfl, rfl⟩ := trodAll_nil r1
  obtain rfl : args = #[v0, v1] := by cases args; simp_all
  obtain ⟨rfl, rfl⟩ := trodVars_none hV
  obtain ⟨a0, rfl, rfl, rfl, w0⟩ := open_int Try.underlying3 (hval 0 3 v0 rfl rfl) h0
  obtain ⟨a1, len1, cap1, rfl⟩ := okWide_slice Try.underlying30 (hval 1 30 v1 rfl rfl)
  have k1 := h1
  have lt1 : ∀ x ∈ p1, x.block < W.heap.size := by obtain ⟨m, hm⟩ := k1; exact DataW.trod_lt m _ _ _ hm
  obtain ⟨z1, w1⟩ : ∃ zs, IsRow .i64 W a1 len1 cap1 zs := by
    obtain ⟨fuel, hf⟩ := h1
    rcases open_ints Try.underlying30 Try.underlying3 (by kernel_rfl) hf with ⟨hcs, _⟩ | ⟨x, l, c, zs, hcs, _, hl, hm, hz, _, hcell, hwz⟩
    · simp [Value.cells] at hcs
      obtain ⟨rfl, rfl, rfl⟩ := hcs
      exact ⟨[], .inl ⟨rfl, rfl, rfl, rfl⟩⟩
    · simp [Value.cells] at hcs
      obtain ⟨rfl, rfl, rfl⟩ := hcs
      exact ⟨zs, .inr ⟨_, rfl, hl, hm, by simpa using hz, hcell, hwz⟩⟩
  clear hA0 hval0
  refine (walk a0 a1 len1 cap1 z1 W w0 w1).mono fun e W' ⟨he, bel⟩ => ?_
  subst he
  exact ⟨_, rfl, _, _, _, [], _, [], hW', trodAll_mk1 (shut_bool Try.underlying4 _), (trodAll_cons_mk (shut_int Try.underlying3 w0) (trodAll_cons_mk (Below.trod laidOut (by kernel_rfl) (of_decide_eq_true (by kernel_rfl)) k1 bel lt1) trodAll_mk0)), rfl, bel.frame _, fun h => by cases h⟩

theorem over : Rows.fnExactAllocateRow.holds Try.pinned (OpenSpec.ofChange Rows.fnExactAllocateSpec) :=
  OpenClaim.holds_of_wide 8 Try.f8 rfl rfl rfl rfl rfl rfl rfl ⟨rfl, rfl, rfl, rfl, rfl⟩ rfl rfl rfl rfl rfl (by kernel_rfl) Try.func8 (by kernel_rfl)
    (of_decide_eq_true (by kernel_rfl)) (by unfold Func.isWrapper; first | (rw [if_pos (by decide +kernel)]; kernel_rfl) | (rw [if_neg (by decide +kernel)]; exact ⟨rfl, rfl⟩))
    (fun os started H enc _ => lifted os started H enc)

theorem proved : Rows.FnExactAllocateSaid := over
#print axioms proved
end Go.Proofs.Ytdmnagpnhphifaa.fnExactAllocate
