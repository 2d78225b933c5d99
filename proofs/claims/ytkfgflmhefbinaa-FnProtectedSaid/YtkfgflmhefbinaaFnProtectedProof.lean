/- Proves the given statement of the law FnProtected: for every input that the row lets in, the law's Go function returns true and every argument reads as before; no condition of mine. -/
import Derived.Test.YtkfgflmhefbinaaBookRd
import Derived.Test.YtkfgflmhefbinaaGapI
import Derived.Test.YtkfgflmhefbinaaBookS
import Derived.Test.YtkfgflmhefbinaaDrawRow
import Derived.Test.YtkfgflmhefbinaaKit
import Derived.Test.YtkfgflmhefbinaaRuleC
import Derived.Test.YtkfgflmhefbinaaTInt
import Derived.Test.YtkfgflmhefbinaaRows
import Derived.WalkKit
import Derived.ProofKit
import Derived.OpenShut
import Derived.ShutString
import Derived.ChangeOld
import Derived.Below
namespace Go.Proofs.Ytkfgflmhefbinaa.fnProtected
open Go.ChangeShapes Go.WideShapes Go.ChangeAt Go.RowKit
open Go.ChangeMaps (open_string shut_string)
set_option linter.unusedVariables false

theorem own : ownKnob Try.prog.godebug = none := by kernel_rfl
theorem laidOut : laidOutB Try.prog = true := by kernel_rfl

/-- WHAT THE WALK IS TOLD OF A SLICE OF INTEGERS THAT CAME IN: it is nil; or it leads to a row of 'cap' cells, the numbers 'zs' (the first 'len' are its elements, the rest its spare room), each fitting its kind. -/
def IsRow (k : IntKind) (w : World) (a : Option Addr) (len cap : Nat) (zs : List Int) : Prop :=
  (a = none ∧ len = 0 ∧ cap = 0 ∧ zs = []) ∨
  ∃ x, a = some x ∧ len ≤ cap ∧ cap ≤ maxLen ∧ zs.length = cap ∧ (∀ i, i < zs.length → w.cell? (x.add i) = some (.int k (zs.getD i 0))) ∧ ∀ n ∈ zs, (Lit.int k n).wf = true

/-! ### STEP 1: THE WALK: the Go text returns true, AND WRITES NOTHING THAT WAS THERE: 'Below w.heap.size w w'' (Derived/Below.lean: '.refl', '.alloc', '.drew', '.setCell' at a new block, '.trans'). Open each 'IsRow' by 'rcases' AHEAD of 'go_enter'; part every test ahead of the walk. -/
set_option maxHeartbeats 8000000 in
set_option maxRecDepth 100000 in
theorem walk (a0 : Option Addr) (len0 cap0 : Nat) (z0 : List Int) (w : World) (w0 : IsRow .u8 w a0 len0 cap0 z0) :
    Calls Try.prog 4 #[.slice a0 len0 cap0] w fun e w' => e = .returned (.bool true) ∧ Below w.heap.size w w' := by
  obtain ⟨hcode, hs⟩ := CurKit.code_at w0
  clear w0
  have HK := Lib.hid hcode
  have HS := Lib.hid hs
  clear hcode
  unfold maxLen at hs
  by_cases hbig : 1048576 < len0
  · go_enter Try.func4, Try.ntmps4
    go_wp2
    go_ret
    exact ⟨rfl, Below.refl _ _⟩
  go_enter Try.func4, Try.ntmps4
  go_wp2_with (go_at_call 15; go_in)
  refine (DrawBook.draw_c _ a0 len0 cap0 HK.out HS.out).mono ?_
  rintro e w1 ⟨rs, p, n, c, m, nm, hgt, hn, hap, rfl, ho, hb⟩
  have hbk := BookRd.bk_of hgt hn hap
  have HBK := Lib.hid hbk
  have HM := Lib.hid hn
  obtain ⟨n1, n6⟩ := hbk.pos
  obtain ⟨m0, m1⟩ := hbk.mon
  obtain ⟨nm0, nm1⟩ := hbk.name
  have HO1 := Lib.hid ho
  have HC1 := Lib.hid hb
  have HCAP := Lib.hid (RuleRow.OwD.cap ho)
  clear hgt hn hap hbk ho hb
  have HF := Lib.hid HBK.out.first
  obtain ⟨j, hj, hij⟩ := HF.out
  have HI := Lib.hid hij
  have hjn : j < n := by rw [← HM.out]; exact hj
  obtain ⟨k, hk⟩ : ∃ k, BookMath.ruleFor rs nm m 3599 = k := ⟨_, rfl⟩
  have HKK := Lib.hid hk
  obtain ⟨q, hq⟩ : ∃ b, ((j : Int) != k) = b := ⟨_, rfl⟩
  have HP0 := Lib.hid (show BookLaws.prot rs nm m 0 = q by rw [BookLaws.prot_pos HI.out HKK.out (by omega), ← hq]; rfl)
  have HP1 := Lib.hid (show BookLaws.prot rs nm m 3599 = false by
    by_cases h0 : k < 0
    · exact BookLaws.prot_neg (by rw [HKK.out]; exact h0)
    · rw [BookLaws.prot_pos HKK.out HKK.out (by omega)]; simp)
  have HGP := Lib.hid HBK.out.nogap
  have b1 : decide ((0 : Int) ≤ (j : Int)) = true := decide_eq_true (by omega)
  clear hij hk HF hj
  go_wp2_with fail
  refine (BestI.ruleFor_i _ p n c rs nm m 0 HM.out HCAP.out (by omega) HBK.out.few (HO1.out.reads.on (by (repeat (first | exact Below.refl _ _ | apply BelowKit.bl_alloc | apply BelowKit.bl_drewN | apply BelowKit.bl_drew | (refine BelowKit.bl_set ?_ _ ?_; rotate_left; (first | omega | (simp; omega) | simp)) | (refine BelowKit.bl_trans ?_ (‹Hid (Below _ _ _)›).out)))))).mono ?_
  rintro e w2 ⟨rfl, hb⟩
  rw [HI.out]
  have cS2 : w2.cell? ⟨w1.heap.size, 0, none⟩ = some (.slice p n c) := ((BelowKit.bcell hb).1 _ _ (by simp)).trans (by simp [go_sem])
  have zS2 : w1.heap.size < w2.heap.size := by have := hb.size; simp at this; omega
  have hb2 : Below w1.heap.size w1 w2 := BelowKit.bl_trans (by (repeat (first | exact Below.refl _ _ | apply BelowKit.bl_alloc | apply BelowKit.bl_drewN | apply BelowKit.bl_drew | (refine BelowKit.bl_set ?_ _ ?_; rotate_left; (first | omega | (simp; omega) | simp)) | (refine BelowKit.bl_trans ?_ (‹Hid (Below _ _ _)›).out)))) hb
  have HO2 := Lib.hid (HO1.out.on hb2)
  have HC2 := Lib.hid (BelowKit.bl_trans HC1.out hb2)
  clear hb hb2 HO1 HC1
  go_wp2_with fail
  refine (BestI.ruleFor_i _ p n c rs nm m 3599 HM.out HCAP.out (by omega) HBK.out.few HO2.out.reads).mono ?_
  rintro e w3 ⟨rfl, hb⟩
  rw [HKK.out]
  have cS3 := ((BelowKit.bcell hb).1 _ _ zS2).trans cS2
  have zS3 : w1.heap.size < w3.heap.size := Nat.lt_of_lt_of_le zS2 hb.size
  have HO3 := Lib.hid (HO2.out.on hb)
  have HC3 := Lib.hid (BelowKit.bl_trans HC2.out hb)
  clear hb cS2 zS2 HO2 HC2
  go_wp2_with fail
  refine (GapI.gaps_i _ p n c rs nm 0 m (m + 1) HM.out HCAP.out (by omega) HBK.out.few HO3.out.reads).mono ?_
  rintro e w4 ⟨p4, c4, rfl, _, hb⟩
  rw [HGP.out]
  have cS4 := ((BelowKit.bcell hb).1 _ _ zS3).trans cS3
  have zS4 : w1.heap.size < w4.heap.size := Nat.lt_of_lt_of_le zS3 hb.size
  have HO4 := Lib.hid (HO3.out.on hb)
  have HC4 := Lib.hid (BelowKit.bl_trans HC3.out hb)
  clear hb cS3 zS3 HO3 HC3
  go_wp2_with fail
  refine (GapI.prot_i _ p n c rs nm m 0 HM.out HCAP.out (by omega) HBK.out.few HO4.out.reads).mono ?_
  rintro e w5 ⟨rfl, hb⟩
  rw [HP0.out]
  have cS5 := ((BelowKit.bcell hb).1 _ _ zS4).trans cS4
  have zS5 : w1.heap.size < w5.heap.size := Nat.lt_of_lt_of_le zS4 hb.size
  have HO5 := Lib.hid (HO4.out.on hb)
  have HC5 := Lib.hid (BelowKit.bl_trans HC4.out hb)
  clear hb cS4 zS4 HO4 HC4
  have hqq : (q == q) = true := by simp
  go_wp2_with fail
  refine (GapI.prot_i _ p n c rs nm m 3599 HM.out HCAP.out (by omega) HBK.out.few HO5.out.reads).mono ?_
  rintro e w6 ⟨rfl, hb⟩
  rw [HP1.out]
  have cS6 := ((BelowKit.bcell hb).1 _ _ zS5).trans cS5
  have zS6 : w1.heap.size < w6.heap.size := Nat.lt_of_lt_of_le zS5 hb.size
  have HO6 := Lib.hid (HO5.out.on hb)
  have HC6 := Lib.hid (BelowKit.bl_trans HC5.out hb)
  clear hb cS5 zS5 HO5 HC5
  go_wp2_with fail
  refine (BookI.book_i _ p n c rs HM.out HCAP.out (by omega) HBK.out.few HO6.out.reads).mono ?_
  rintro e w7 ⟨rfl, hb⟩
  rw [HBK.out.yes]
  have HC7 := Lib.hid (BelowKit.bl_trans HC6.out hb)
  clear hb
  go_wp2
  go_ret
  exact ⟨rfl, HC7.out⟩

/-! ### THE ROW's STEP: WRITTEN OUT: LEAVE IT -/
set_option maxRecDepth 100000 in
theorem lifted (os : Os) (started : os.Started) (H : Type) (enc : TypeId × Value → H) :
    ReturnsInHanded {} Try.checked os 4 .any (Rows.fnProtectedSpec.pre6 enc Try.prog Try.f4 Rows.fnProtectedRow.domain false) (Rows.fnProtectedSpec.post enc Try.prog Try.f4 false true false false) := by
  refine returnsInHanded_of_change (C := Try.checked) own started (by kernel_rfl) Try.func4
    (ChangeSpec.witness6 (enc := enc) (C := Try.checked) false ⟨#[], #[.slice none 0 0], []⟩ 8 (by kernel_rfl) (by kernel_rfl) (by kernel_rfl) (by kernel_rfl)) ?_
  intro W base args ds gs before hval0 hW hcnd _
  have hval : ∀ (j : Nat) t v, Try.f4.params[j]? = some t → args[j]? = some v → Value.okWide Try.prog W .any base t v := hval0
  have hW' := hW
  obtain ⟨p, q, hA0, hV, rfl, hfz, hnd⟩ := hW
  have hA : DataW.TrodAll enc Try.prog W 0 (fun _ => true) true Try.f4.params.toList args.toList ds p := hA0
  rw [Try.params4] at hA hval
  obtain ⟨v0, vs0, d0, ds0, p0, q0, hargs, rfl, rfl, h0, r0⟩ := trodAll_cons hA
  obtain ⟨rfl, rfl, rfl⟩ := trodAll_nil r0
  obtain rfl : args = #[v0] := by cases args; simp_all
  obtain ⟨rfl, rfl⟩ := trodVars_none hV
  obtain ⟨a0, len0, cap0, rfl⟩ := okWide_slice Try.underlying22 (hval 0 22 v0 rfl rfl)
  have k0 := h0
  have lt0 : ∀ x ∈ p0, x.block < W.heap.size := by obtain ⟨m, hm⟩ := k0; exact DataW.trod_lt m _ _ _ hm
  obtain ⟨z0, w0⟩ : ∃ zs, IsRow .u8 W a0 len0 cap0 zs := by
    obtain ⟨fuel, hf⟩ := h0
    rcases open_ints Try.underlying22 Try.underlying5 (by kernel_rfl) hf with ⟨hcs, _⟩ | ⟨x, l, c, zs, hcs, _, hl, hm, hz, _, hcell, hwz⟩
    · simp [Value.cells] at hcs
      obtain ⟨rfl, rfl, rfl⟩ := hcs
      exact ⟨[], .inl ⟨rfl, rfl, rfl, rfl⟩⟩
    · simp [Value.cells] at hcs
      obtain ⟨rfl, rfl, rfl⟩ := hcs
      exact ⟨zs, .inr ⟨_, rfl, hl, hm, by simpa using hz, hcell, hwz⟩⟩
  clear hA0 hval0
  refine (walk a0 len0 cap0 z0 W w0).mono fun e W' ⟨he, bel⟩ => ?_
  subst he
  exact ⟨_, rfl, _, _, _, [], _, [], hW', trodAll_mk1 (shut_bool Try.underlying4 _), (trodAll_cons_mk (Below.trod laidOut (by kernel_rfl) (of_decide_eq_true (by kernel_rfl)) k0 bel lt0) trodAll_mk0), rfl, bel.frame _, fun h => by cases h⟩

theorem over : Rows.fnProtectedRow.holds Try.pinned (OpenSpec.ofChange Rows.fnProtectedSpec) :=
  OpenClaim.holds_of_wide 4 Try.f4 rfl rfl rfl rfl rfl rfl rfl ⟨rfl, rfl, rfl, rfl, rfl⟩ rfl rfl rfl rfl rfl (by kernel_rfl) Try.func4 (by kernel_rfl)
    (of_decide_eq_true (by kernel_rfl)) (by unfold Func.isWrapper; first | (rw [if_pos (by decide +kernel)]; kernel_rfl) | (rw [if_neg (by decide +kernel)]; exact ⟨rfl, rfl⟩))
    (fun os started H enc _ => lifted os started H enc)

theorem proved : Rows.FnProtectedSaid := over
#print axioms proved
end Go.Proofs.Ytkfgflmhefbinaa.fnProtected
