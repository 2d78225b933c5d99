/- Proves the given statement of the law FnFigures: for every input that the row lets in, the law's Go function returns true and every argument reads as before; no condition of mine. -/
import Derived.Test.YtkfgflmhefbinaaBookRd
import Derived.Test.YtkfgflmhefbinaaGapI
import Derived.Test.YtkfgflmhefbinaaGapS
import Derived.Test.YtkfgflmhefbinaaBookS
import Derived.Test.YtkfgflmhefbinaaDrawRow
import Derived.Test.YtkfgflmhefbinaaKit
import Derived.Test.YtkfgflmhefbinaaRuleC
import Derived.Test.YtkfgflmhefbinaaTInt
import Derived.Test.YtkfgflmhefbinaaRows
import Derived.WalkKit
import Derived.ProofKit
import Derived.OpenShut
import Derived.ShutString
import Derived.ChangeOld
import Derived.Below
namespace Go.Proofs.Ytkfgflmhefbinaa.fnFigures
open Go.ChangeShapes Go.WideShapes Go.ChangeAt Go.RowKit
open Go.ChangeMaps (open_string shut_string)
set_option linter.unusedVariables false

theorem own : ownKnob Try.prog.godebug = none := by kernel_rfl
theorem laidOut : laidOutB Try.prog = true := by kernel_rfl

/-- WHAT THE WALK IS TOLD OF A SLICE OF INTEGERS THAT CAME IN: it is nil; or it leads to a row of 'cap' cells, the numbers 'zs' (the first 'len' are its elements, the rest its spare room), each fitting its kind. -/
def IsRow (k : IntKind) (w : World) (a : Option Addr) (len cap : Nat) (zs : List Int) : Prop :=
  (a = none ∧ len = 0 ∧ cap = 0 ∧ zs = []) ∨
  ∃ x, a = some x ∧ len ≤ cap ∧ cap ≤ maxLen ∧ zs.length = cap ∧ (∀ i, i < zs.length → w.cell? (x.add i) = some (.int k (zs.getD i 0))) ∧ ∀ n ∈ zs, (Lit.int k n).wf = true

/-! ### STEP 1: THE WALK: the Go text returns true, AND WRITES NOTHING THAT WAS THERE: 'Below w.heap.size w w'' (Derived/Below.lean: '.refl', '.alloc', '.drew', '.setCell' at a new block, '.trans'). Open each 'IsRow' by 'rcases' AHEAD of 'go_enter'; part every test ahead of the walk. -/
set_option maxHeartbeats 16000000 in
set_option maxRecDepth 100000 in
theorem walk (a0 : Option Addr) (len0 cap0 : Nat) (z0 : List Int) (w : World) (w0 : IsRow .u8 w a0 len0 cap0 z0) :
    Calls Try.prog 5 #[.slice a0 len0 cap0] w fun e w' => e = .returned (.bool true) ∧ Below w.heap.size w w' := by
  obtain ⟨hcode, hs⟩ := CurKit.code_at w0
  clear w0
  have HK := Lib.hid hcode
  have HS := Lib.hid hs
  clear hcode
  unfold maxLen at hs
  by_cases hbig : 1048576 < len0
  · go_enter Try.func5, Try.ntmps5
    go_wp2
    go_ret
    exact ⟨rfl, Below.refl _ _⟩
  go_enter Try.func5, Try.ntmps5
  go_wp2_with (go_at_call 15; go_in)
  refine (DrawBook.draw_c _ a0 len0 cap0 HK.out HS.out).mono ?_
  rintro e w1 ⟨rs, p, n, c, m, nm, hgt, hn, hap, rfl, ho, hb⟩
  have hbk := BookRd.bk_of hgt hn hap
  have HBK := Lib.hid hbk
  have HM := Lib.hid hn
  obtain ⟨n1, n6⟩ := hbk.pos
  obtain ⟨m0, m1⟩ := hbk.mon
  obtain ⟨nm0, nm1⟩ := hbk.name
  have HO1 := Lib.hid ho
  have HC1 := Lib.hid hb
  have HCAP := Lib.hid (RuleRow.OwD.cap ho)
  clear hgt hn hap hbk ho hb
  obtain ⟨j, hj, hij⟩ := HBK.out.first
  have HI := Lib.hid hij
  have hjn : j < n := by rw [← HM.out]; exact hj
  clear hij
  go_wp2_with fail
  have hb12 : Below w1.heap.size w1 (w1.alloc (.cells #[.slice p n c] 26)) := by (repeat (first | exact Below.refl _ _ | apply BelowKit.bl_alloc | apply BelowKit.bl_drewN | apply BelowKit.bl_drew | (refine BelowKit.bl_set ?_ _ ?_; rotate_left; (first | omega | (simp; omega) | simp)) | (refine BelowKit.bl_trans ?_ (‹Hid (Below _ _ _)›).out)))
  refine (DrawFm.draw_c _ a0 len0 cap0 (fun j hj => by obtain ⟨blk, off, n, e, h1, h2, h3⟩ := HK.out j hj; exact ⟨blk, off, n, e, by have := HC1.out.size; simp; omega, ((BelowKit.bcell (BelowKit.bl_trans HC1.out hb12)).1 _ _ h1).trans h2, h3⟩) HS.out).mono ?_
  rintro e w2 ⟨l2, p2, c2, vs, q2, d2, _, _, hv, rfl, _, hov, hb⟩
  have cS2 : w2.cell? ⟨w1.heap.size, 0, none⟩ = some (.slice p n c) := ((BelowKit.bcell hb).1 _ _ (by simp)).trans (by simp [go_sem])
  have zS2 : w1.heap.size < w2.heap.size := by have := hb.size; simp at this; omega
  have hb2 : Below w1.heap.size w1 w2 := BelowKit.bl_trans (by (repeat (first | exact Below.refl _ _ | apply BelowKit.bl_alloc | apply BelowKit.bl_drewN | apply BelowKit.bl_drew | (refine BelowKit.bl_set ?_ _ ?_; rotate_left; (first | omega | (simp; omega) | simp)) | (refine BelowKit.bl_trans ?_ (‹Hid (Below _ _ _)›).out)))) hb
  have HO2 := Lib.hid (HO1.out.on hb2)
  have HC2 := Lib.hid (BelowKit.bl_trans HC1.out hb2)
  have HV8 := Lib.hid hv.1
  have HOV2 := Lib.hid hov
  have HLV := Lib.hid (show w1.heap.size ≤ w2.heap.size by omega)
  obtain ⟨⟨r1, r2, r3⟩, hr⟩ : ∃ r, BookLaws.fig rs nm m 0 vs = r := ⟨_, rfl⟩
  have HFG := Lib.hid hr
  clear hr hv hov hb hb12 hb2 HO1 HC1
  go_wp2_with fail
  refine (GapI.fig_i _ p n c rs nm m 0 q2 8 d2 vs HM.out HCAP.out (by omega) HBK.out.few20 HO2.out.reads HV8.out (by omega) (RowN.reads_own TFrac.fw HOV2.out)).mono ?_
  rintro e w3 ⟨rfl, hb⟩
  rw [HFG.out]
  have cS3 := ((BelowKit.bcell hb).1 _ _ zS2).trans cS2
  have zS3 : w1.heap.size < w3.heap.size := Nat.lt_of_lt_of_le zS2 hb.size
  have HO3 := Lib.hid (HO2.out.on hb)
  have HC3 := Lib.hid (BelowKit.bl_trans HC2.out hb)
  have HOV3 := Lib.hid (HOV2.out.on hb)
  clear hb cS2 zS2 HO2 HC2
  clear HOV2
  go_wp2_with fail
  refine (BookS.ruleFor_s _ p n c rs nm m 0 HM.out (by omega) HBK.out.few HO3.out.reads).mono ?_
  rintro e w4 ⟨rfl, hb⟩
  rw [HI.out]
  have cS4 := ((BelowKit.bcell hb).1 _ _ zS3).trans cS3
  have zS4 : w1.heap.size < w4.heap.size := Nat.lt_of_lt_of_le zS3 hb.size
  have HO4 := Lib.hid (HO3.out.on hb)
  have HC4 := Lib.hid (BelowKit.bl_trans HC3.out hb)
  have HOV4 := Lib.hid (HOV3.out.on hb)
  clear hb cS3 zS3 HO3 HC3
  clear HOV3
  have HYES := Lib.hid (BookLaws.figAt_yes (vs := vs) hj)
  have HNO := Lib.hid (BookLaws.figAt_no (vs := vs) hj)
  have HFA := Lib.hid (show (r1, r2, r3) = BookLaws.figAt rs (j : Int) vs by rw [← HFG.out]; unfold BookLaws.fig; rw [HI.out])
  have HN20 := Lib.hid (HBK.out.few20 j hj)
  obtain ⟨g, o, yp, yc, rfl, hgl, q0, q1, q2', q3, q4, q5, q6, hyr⟩ := BookRd.rd_at HO4.out.reads j hj
  generalize (rs[j]'hj) = y at q0 q1 q2' q3 q4 q5 q6 hyr HYES HNO HN20
  obtain ⟨y0, y1, y2, y3, y4, y5, yl⟩ := y
  simp only [] at q0 q1 q2' q3 q4 q5 q6 hyr HYES HNO HN20
  have HYR := Lib.hid hyr
  obtain ⟨yn, hyn⟩ : ∃ n, yl.length = n := ⟨_, rfl⟩
  have HYN := Lib.hid hyn
  rw [hyn] at q6
  obtain ⟨⟨u, v, ok⟩, hev⟩ : ∃ e, NodeMath.evalL yl vs = e := ⟨_, rfl⟩
  have HEV := Lib.hid hev
  rw [hev] at HYES HNO
  simp only [] at HYES HNO
  have b1 : (0 : Int) ≤ (j : Int) := by omega
  have b2 : (j : Int) < (n : Int) := by omega
  have HQ5 := Lib.hid q5
  clear q0 q1 q2' q3 q4 q5 hyr hyn hev
  go_wp2_with fail
  refine (EvalS.last_s _ yp yn yc yl q2 8 d2 vs HYN.out (by have := HYN.out; have := HN20.out; omega) HYR.out HV8.out (by omega) (RowN.reads_own TFrac.fw HOV4.out)).mono ?_
  rintro e w5 ⟨rfl, hb⟩
  rw [HEV.out]
  have q5 := ((BelowKit.bcell hb).1 _ _ hgl).trans HQ5.out
  have hg5 : g < w5.heap.size := Nat.lt_of_lt_of_le hgl hb.size
  have cS5 := ((BelowKit.bcell hb).1 _ _ zS4).trans cS4
  have zS5 : w1.heap.size < w5.heap.size := Nat.lt_of_lt_of_le zS4 hb.size
  have HO5 := Lib.hid (HO4.out.on hb)
  have HC5 := Lib.hid (BelowKit.bl_trans HC4.out hb)
  clear hb cS4 zS4 HO4 HC4
  clear hgl q6 HYR HQ5
  cases ok with
  | false =>
    have e2 := HFA.out.trans (HNO.out rfl)
    obtain ⟨rfl, rfl, rfl⟩ : r1 = 0 ∧ r2 = 0 ∧ r3 = false := by
      have := Prod.mk.inj e2
      have h2 := Prod.mk.inj this.2
      exact ⟨this.1, h2.1, h2.2⟩
    clear e2 HYES HNO HFA
    go_wp2
    go_ret
    exact ⟨rfl, by first | exact HC5.out | exact BelowKit.bl_alloc HC5.out⟩
  | true =>
    have e2 := HFA.out.trans (HYES.out rfl)
    obtain ⟨⟨rn, rb⟩, hrr⟩ : ∃ r, RoundF.rndR u v y5 = r := ⟨_, rfl⟩
    rw [hrr] at e2
    have HRR := Lib.hid hrr
    obtain ⟨rfl, rfl, rfl⟩ : r1 = rn ∧ r2 = (j : Int) ∧ r3 = true := by
      have := Prod.mk.inj e2
      have h2 := Prod.mk.inj this.2
      exact ⟨this.1, h2.1, h2.2⟩
    clear e2 HYES HNO HFA hrr
    obtain ⟨V, hV⟩ : ∃ V, V = w5.alloc (.cells #[.int .i64 u, .int .i64 v] 44) := ⟨_, rfl⟩
    have hbv : Below w5.heap.size w5 V := by rw [hV]; exact BelowKit.bl_alloc (Below.refl w5.heap.size w5)
    have n0 : V.cell? ⟨w5.heap.size, 0, none⟩ = some (.int .i64 u) := by rw [hV]; simp [go_sem]
    have n1 : V.cell? ⟨w5.heap.size, 1, none⟩ = some (.int .i64 v) := by rw [hV]; simp [go_sem]
    have n2 := ((BelowKit.bcell hbv).1 _ _ zS5).trans cS5
    have n3 := ((BelowKit.bcell hbv).1 _ _ hg5).trans q5
    have z0 : w5.heap.size < V.heap.size := by rw [hV]; simp
    have z1 : w1.heap.size < V.heap.size := Nat.lt_of_lt_of_le zS5 hbv.size
    have z2 : g < V.heap.size := Nat.lt_of_lt_of_le hg5 hbv.size
    have HBV := Lib.hid (BelowKit.bl_trans HC5.out hbv)
    go_wp2_with fail
    rw [← hV]
    have g0 := Grown.G.keep n0 z0
    have g1 := Grown.G.keep n1 z0
    have g2 := Grown.G.keep n2 z1
    have g3 := Grown.G.keep n3 z2
    clear hV n0 n1 n2 n3 q5 cS5 hbv
    refine Grown.wp_region_grown (by kernel_rfl) (by kernel_rfl) ?_
    repeat (go_big_quiet_step ((go_at_call 26; with_reducible exact GapS.round_g u v y5 _ HRR.out)))
    refine wpQuiet_nil ?_
    rintro w6 ⟨X, rfl⟩
    clear g0 g1 g2 g3
    have d1 : ((j : Int) == (j : Int)) = true := beq_self_eq_true _
    have d2 : (r1 == r1) = true := beq_self_eq_true _
    go_wp2
    go_ret
    exact ⟨rfl, BelowKit.bl_trans HBV.out X.bel⟩

/-! ### THE ROW's STEP: WRITTEN OUT: LEAVE IT -/
set_option maxRecDepth 100000 in
theorem lifted (os : Os) (started : os.Started) (H : Type) (enc : TypeId × Value → H) :
    ReturnsInHanded {} Try.checked os 5 .any (Rows.fnFiguresSpec.pre6 enc Try.prog Try.f5 Rows.fnFiguresRow.domain false) (Rows.fnFiguresSpec.post enc Try.prog Try.f5 false true false false) := by
  refine returnsInHanded_of_change (C := Try.checked) own started (by kernel_rfl) Try.func5
    (ChangeSpec.witness6 (enc := enc) (C := Try.checked) false ⟨#[], #[.slice none 0 0], []⟩ 8 (by kernel_rfl) (by kernel_rfl) (by kernel_rfl) (by kernel_rfl)) ?_
  intro W base args ds gs before hval0 hW hcnd _
  have hval : ∀ (j : Nat) t v, Try.f5.params[j]? = some t → args[j]? = some v → Value.okWide Try.prog W .any base t v := hval0
  have hW' := hW
  obtain ⟨p, q, hA0, hV, rfl, hfz, hnd⟩ := hW
  have hA : DataW.TrodAll enc Try.prog W 0 (fun _ => true) true Try.f5.params.toList args.toList ds p := hA0
  rw [Try.params5] at hA hval
  obtain ⟨v0, vs0, d0, ds0, p0, q0, hargs, rfl, rfl, h0, r0⟩ := trodAll_cons hA
  obtain ⟨rfl, rfl, rfl⟩ := trodAll_nil r0
  obtain rfl : args = #[v0] := by cases args; simp_all
  obtain ⟨rfl, rfl⟩ := trodVars_none hV
  obtain ⟨a0, len0, cap0, rfl⟩ := okWide_slice Try.underlying22 (hval 0 22 v0 rfl rfl)
  have k0 := h0
  have lt0 : ∀ x ∈ p0, x.block < W.heap.size := by obtain ⟨m, hm⟩ := k0; exact DataW.trod_lt m _ _ _ hm
  obtain ⟨z0, w0⟩ : ∃ zs, IsRow .u8 W a0 len0 cap0 zs := by
    obtain ⟨fuel, hf⟩ := h0
    rcases open_ints Try.underlying22 Try.underlying5 (by kernel_rfl) hf with ⟨hcs, _⟩ | ⟨x, l, c, zs, hcs, _, hl, hm, hz, _, hcell, hwz⟩
    · simp [Value.cells] at hcs
      obtain ⟨rfl, rfl, rfl⟩ := hcs
      exact ⟨[], .inl ⟨rfl, rfl, rfl, rfl⟩⟩
    · simp [Value.cells] at hcs
      obtain ⟨rfl, rfl, rfl⟩ := hcs
      exact ⟨zs, .inr ⟨_, rfl, hl, hm, by simpa using hz, hcell, hwz⟩⟩
  clear hA0 hval0
  refine (walk a0 len0 cap0 z0 W w0).mono fun e W' ⟨he, bel⟩ => ?_
  subst he
  exact ⟨_, rfl, _, _, _, [], _, [], hW', trodAll_mk1 (shut_bool Try.underlying4 _), (trodAll_cons_mk (Below.trod laidOut (by kernel_rfl) (of_decide_eq_true (by kernel_rfl)) k0 bel lt0) trodAll_mk0), rfl, bel.frame _, fun h => by cases h⟩

theorem over : Rows.fnFiguresRow.holds Try.pinned (OpenSpec.ofChange Rows.fnFiguresSpec) :=
  OpenClaim.holds_of_wide 5 Try.f5 rfl rfl rfl rfl rfl rfl rfl ⟨rfl, rfl, rfl, rfl, rfl⟩ rfl rfl rfl rfl rfl (by kernel_rfl) Try.func5 (by kernel_rfl)
    (of_decide_eq_true (by kernel_rfl)) (by unfold Func.isWrapper; first | (rw [if_pos (by decide +kernel)]; kernel_rfl) | (rw [if_neg (by decide +kernel)]; exact ⟨rfl, rfl⟩))
    (fun os started H enc _ => lifted os started H enc)

theorem proved : Rows.FnFiguresSaid := over
#print axioms proved
end Go.Proofs.Ytkfgflmhefbinaa.fnFigures
