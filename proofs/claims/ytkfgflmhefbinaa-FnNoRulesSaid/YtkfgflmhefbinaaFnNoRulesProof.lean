/- Proves the given statement of the law FnNoRules: for every input that the row lets in, the law's Go function returns true and every argument reads as before; no condition of mine. -/
import Derived.Test.YtkfgflmhefbinaaBookRd
import Derived.Test.YtkfgflmhefbinaaGapI
import Derived.Test.YtkfgflmhefbinaaBookS
import Derived.Test.YtkfgflmhefbinaaAddI
import Derived.Test.YtkfgflmhefbinaaDrawRow
import Derived.Test.YtkfgflmhefbinaaKit
import Derived.Test.YtkfgflmhefbinaaRuleC
import Derived.Test.YtkfgflmhefbinaaTInt
import Derived.Test.YtkfgflmhefbinaaRows
import Derived.WalkKit
import Derived.ProofKit
import Derived.OpenShut
import Derived.ShutString
import Derived.ChangeOld
import Derived.Below
namespace Go.Proofs.Ytkfgflmhefbinaa.fnNoRules
open Go.ChangeShapes Go.WideShapes Go.ChangeAt Go.RowKit
open Go.ChangeMaps (open_string shut_string)
set_option linter.unusedVariables false

theorem own : ownKnob Try.prog.godebug = none := by kernel_rfl
theorem laidOut : laidOutB Try.prog = true := by kernel_rfl

/-- WHAT THE WALK IS TOLD OF A SLICE OF INTEGERS THAT CAME IN: it is nil; or it leads to a row of 'cap' cells, the numbers 'zs' (the first 'len' are its elements, the rest its spare room), each fitting its kind. -/
def IsRow (k : IntKind) (w : World) (a : Option Addr) (len cap : Nat) (zs : List Int) : Prop :=
  (a = none ∧ len = 0 ∧ cap = 0 ∧ zs = []) ∨
  ∃ x, a = some x ∧ len ≤ cap ∧ cap ≤ maxLen ∧ zs.length = cap ∧ (∀ i, i < zs.length → w.cell? (x.add i) = some (.int k (zs.getD i 0))) ∧ ∀ n ∈ zs, (Lit.int k n).wf = true

/-! ### STEP 1: THE WALK: the Go text returns true, AND WRITES NOTHING THAT WAS THERE: 'Below w.heap.size w w'' (Derived/Below.lean: '.refl', '.alloc', '.drew', '.setCell' at a new block, '.trans'). Open each 'IsRow' by 'rcases' AHEAD of 'go_enter'; part every test ahead of the walk. -/
set_option maxHeartbeats 16000000 in
set_option maxRecDepth 100000 in
theorem walk (a0 : Option Addr) (len0 cap0 : Nat) (z0 : List Int) (w : World) (w0 : IsRow .u8 w a0 len0 cap0 z0) :
    Calls Try.prog 6 #[.slice a0 len0 cap0] w fun e w' => e = .returned (.bool true) ∧ Below w.heap.size w w' := by
  obtain ⟨hcode, hs⟩ := CurKit.code_at w0
  clear w0
  have HK := Lib.hid hcode
  have HS := Lib.hid hs
  clear hcode
  unfold maxLen at hs
  by_cases hbig : 1048576 < len0
  · go_enter Try.func6, Try.ntmps6
    go_wp2
    go_ret
    exact ⟨rfl, Below.refl _ _⟩
  go_enter Try.func6, Try.ntmps6
  go_wp2_with (go_at_call 15; go_in)
  refine (DrawBook.draw_c _ a0 len0 cap0 HK.out HS.out).mono ?_
  rintro e w1 ⟨rs, p, n, c, m, nm, hgt, hn, hap, rfl, ho, hb⟩
  have hbk := BookRd.bk_of hgt hn hap
  have HBK := Lib.hid hbk
  have HM := Lib.hid hn
  obtain ⟨n1, n6⟩ := hbk.pos
  obtain ⟨m0, m1⟩ := hbk.mon
  obtain ⟨nm0, nm1⟩ := hbk.name
  have HO1 := Lib.hid ho
  have HC1 := Lib.hid hb
  have HCAP := Lib.hid (RuleRow.OwD.cap ho)
  clear hgt hn hap hbk ho hb
  go_wp2_with fail
  have hb12 : Below w1.heap.size w1 (w1.alloc (.cells #[.slice p n c] 26)) := by (repeat (first | exact Below.refl _ _ | apply BelowKit.bl_alloc | apply BelowKit.bl_drewN | apply BelowKit.bl_drew | (refine BelowKit.bl_set ?_ _ ?_; rotate_left; (first | omega | (simp; omega) | simp)) | (refine BelowKit.bl_trans ?_ (‹Hid (Below _ _ _)›).out)))
  refine (DrawRow.places_c _ a0 len0 cap0 (fun j hj => by obtain ⟨blk, off, n, e, h1, h2, h3⟩ := HK.out j hj; exact ⟨blk, off, n, e, by have := HC1.out.size; simp; omega, ((BelowKit.bcell (BelowKit.bl_trans HC1.out hb12)).1 _ _ h1).trans h2, h3⟩) HS.out).mono ?_
  rintro e w2 ⟨l2, a2, cap2, hl2, hin, rfl, ho2, hb⟩
  obtain ⟨g2, rfl, _, hg2, c20, _⟩ := ho2.at 0 (by omega)
  have c21 := (ho2.cell 1 (by omega)).1
  have i0 := hin.get 0 (by omega)
  have i1 := hin.get 1 (by omega)
  obtain ⟨t0, ht0⟩ : ∃ t, l2[0] = t := ⟨_, rfl⟩
  obtain ⟨t1, ht1⟩ : ∃ t, l2[1] = t := ⟨_, rfl⟩
  rw [ht0] at c20 i0
  rw [ht1] at c21 i1
  obtain ⟨i00, i01⟩ := i0
  obtain ⟨i10, i11⟩ := i1
  have cS2 : w2.cell? ⟨w1.heap.size, 0, none⟩ = some (.slice p n c) := ((BelowKit.bcell hb).1 _ _ (by simp)).trans (by simp [go_sem])
  have zS2 : w1.heap.size < w2.heap.size := by have := hb.size; simp at this; omega
  have hb2 : Below w1.heap.size w1 w2 := BelowKit.bl_trans (by (repeat (first | exact Below.refl _ _ | apply BelowKit.bl_alloc | apply BelowKit.bl_drewN | apply BelowKit.bl_drew | (refine BelowKit.bl_set ?_ _ ?_; rotate_left; (first | omega | (simp; omega) | simp)) | (refine BelowKit.bl_trans ?_ (‹Hid (Below _ _ _)›).out)))) hb
  have HO2 := Lib.hid (HO1.out.on hb2)
  have HC2 := Lib.hid (BelowKit.bl_trans HC1.out hb2)
  clear ht0 ht1 hin hl2 ho2 hb hb12 hb2 HO1 HC1
  obtain ⟨k, hk⟩ : ∃ k, t0 % 160 = k := ⟨_, rfl⟩
  have k0 : 0 ≤ k := by omega
  have k1 : k ≤ 159 := by omega
  obtain ⟨jo, hjo⟩ : ∃ k, t1 % 80 = k := ⟨_, rfl⟩
  have j0 : 0 ≤ jo := by omega
  have j1 : jo ≤ 79 := by omega
  have HKK := Lib.hid hk
  have HJO := Lib.hid hjo
  have HAD := Lib.hid HBK.out.added
  have HLN := Lib.hid (show (rs ++ [BookRd.newR nm]).length = n + 1 by have := HM.out; simp; omega)
  have HFW := Lib.hid (RuleRow.few_snoc HBK.out.few (show (BookRd.newR nm).Nodes.length ≤ 1099511627776 by simp [BookRd.newR]))
  have HFX := Lib.hid (BookRd.few20_snoc HBK.out.few20 (show (BookRd.newR nm).Nodes.length ≤ 1048576 by simp [BookRd.newR]))
  clear hk hjo
  obtain ⟨V1, hV1⟩ : ∃ V, V = w2.alloc (.cells #[.int .i64 1, .int .i64 0, .int .i64 0, .int .i64 0, .int .i64 7, .int .i64 1] 50) := ⟨_, rfl⟩
  have hbV1 : Below w2.heap.size w2 V1 := by rw [hV1]; exact BelowKit.bl_alloc (Below.refl _ _)
  have r1 : RowN.Reads TNode.fc 6 V1 (some ⟨w2.heap.size, 0, none⟩) [⟨1, 0, 0, 0, 7, 1⟩] := BookRd.node_one V1 w2.heap.size ⟨1, 0, 0, 0, 7, 1⟩ (by rw [hV1]; exact heap_alloc_new w2 _)
  obtain ⟨V, hV⟩ : ∃ V, V = V1.alloc (.cells #[.int .i64 nm, .int .i64 10, .int .i64 40, .int .i64 3600, .int .i64 9, .int .i64 1, .slice (some ⟨w2.heap.size, 0, none⟩) 1 1] 34) := ⟨_, rfl⟩
  have hbV : Below V1.heap.size V1 V := by rw [hV]; exact BelowKit.bl_alloc (Below.refl _ _)
  have hb3 := BelowKit.bl_trans hbV1 hbV
  have HRR := Lib.hid (r1.on hbV)
  have e1 : V1.heap.size = w2.heap.size + 1 := by rw [hV1]; simp
  have zV : V.heap.size = w2.heap.size + 1 + 1 := by rw [hV]; simp [e1]
  have cV := ((BelowKit.bcell hb3).1 _ _ zS2).trans cS2
  have c20V := ((BelowKit.bcell hb3).1 _ _ hg2).trans c20
  have c21V := ((BelowKit.bcell hb3).1 _ _ hg2).trans c21
  have y0 : V.cell? ⟨w2.heap.size + 1, 0, none⟩ = some (.int .i64 nm) := by rw [hV, ← e1]; simp [go_sem]
  have y1 : V.cell? ⟨w2.heap.size + 1, 1, none⟩ = some (.int .i64 10) := by rw [hV, ← e1]; simp [go_sem]
  have y2 : V.cell? ⟨w2.heap.size + 1, 2, none⟩ = some (.int .i64 40) := by rw [hV, ← e1]; simp [go_sem]
  have y3 : V.cell? ⟨w2.heap.size + 1, 3, none⟩ = some (.int .i64 3600) := by rw [hV, ← e1]; simp [go_sem]
  have y4 : V.cell? ⟨w2.heap.size + 1, 4, none⟩ = some (.int .i64 9) := by rw [hV, ← e1]; simp [go_sem]
  have y5 : V.cell? ⟨w2.heap.size + 1, 5, none⟩ = some (.int .i64 1) := by rw [hV, ← e1]; simp [go_sem]
  have y6 : V.cell? ⟨w2.heap.size + 1, 6, none⟩ = some (.slice (some ⟨w2.heap.size, 0, none⟩) 1 1) := by rw [hV, ← e1]; simp [go_sem]
  have HOV := Lib.hid (HO2.out.on hb3)
  have HCV := Lib.hid (BelowKit.bl_trans HC2.out hb3)
  have zSV : w1.heap.size < V.heap.size := by omega
  have hgV : g2 < V.heap.size := by omega
  clear hbV1 hbV hb3 r1 cS2 zS2 c20 c21 hg2 HO2 HC2
  go_upto_region 6 with fail
  rw [← hV1, ← hV]
  clear hV hV1 e1
  go_wp2_with fail
  have HA := AddI.add_i V p n c rs ⟨BookRd.newR nm, some ⟨w2.heap.size, 0, none⟩, 1⟩ HM.out (by omega) HBK.out.few (by simp [BookRd.newR]) HOV.out.reads HRR.out
  simp only [] at HA
  rw [HAD.out] at HA
  refine HA.mono ?_
  clear HA y0 y1 y2 y3 y4 y5 y6
  rintro e w3 ⟨p5, c5, rfl, hod, hb⟩
  simp only [] at hod ⊢
  rw [HLN.out] at hod ⊢
  have HCP5 := Lib.hid (RuleRow.OwD.cap hod)
  have HO5 := Lib.hid hod
  have c203 := ((BelowKit.bcell hb).1 _ _ hgV).trans c20V
  have c213 := ((BelowKit.bcell hb).1 _ _ hgV).trans c21V
  have cS3 := ((BelowKit.bcell hb).1 _ _ zSV).trans cV
  have zS3 : w1.heap.size < w3.heap.size := Nat.lt_of_lt_of_le zSV hb.size
  have hg3 : g2 < w3.heap.size := Nat.lt_of_lt_of_le hgV hb.size
  have HO3 := Lib.hid (HOV.out.on hb)
  have HC3 := Lib.hid (BelowKit.bl_trans HCV.out hb)
  clear hod hb c20V c21V cV zSV hgV HOV HCV HRR zV
  -- the larger book's block
  obtain ⟨U, hU⟩ : ∃ U, U = w3.alloc (.cells #[.slice p5 (n + 1) c5] 26) := ⟨_, rfl⟩
  have hbU : Below w3.heap.size w3 U := by rw [hU]; exact BelowKit.bl_alloc (Below.refl _ _)
  have b0 : U.cell? ⟨w3.heap.size, 0, none⟩ = some (.slice p5 (n + 1) c5) := by rw [hU]; simp [go_sem]
  have zU : w3.heap.size < U.heap.size := by rw [hU]; simp
  have cSU := ((BelowKit.bcell hbU).1 _ _ zS3).trans cS3
  have c20U := ((BelowKit.bcell hbU).1 _ _ hg3).trans c203
  have c21U := ((BelowKit.bcell hbU).1 _ _ hg3).trans c213
  have zSU : w1.heap.size < U.heap.size := Nat.lt_of_lt_of_le zS3 hbU.size
  have hgU : g2 < U.heap.size := Nat.lt_of_lt_of_le hg3 hbU.size
  have HOU := Lib.hid (HO3.out.on hbU)
  have HO5U := Lib.hid (HO5.out.on hbU)
  have HCU := Lib.hid (BelowKit.bl_trans HC3.out hbU)
  clear hbU cS3 zS3 c203 c213 hg3 HO3 HO5 HC3
  obtain ⟨r, hr⟩ : ∃ r, BookMath.ruleFor (rs ++ [BookRd.newR nm]) nm k jo = r := ⟨_, rfl⟩
  have HR := Lib.hid hr
  clear hr
  have HRD5 := Lib.hid HO5U.out.reads
  go_upto_region 7 with fail
  rw [← hU]
  clear hU
  go_wp2_with fail
  rw [HKK.out]
  have g0 := Grown.G.keep b0 zU
  have g1 := Grown.G.keep c21U hgU
  have hrem : (t1.tmod 80) = jo := by rw [Int.tmod_eq_emod_of_nonneg (by omega)]; exact HJO.out
  refine Grown.wp_region_grown (by kernel_rfl) (by kernel_rfl) ?_
  repeat (go_big_quiet_step ((go_at_call 18; with_reducible exact BookRd.for_gi p5 (n + 1) c5 (rs ++ [BookRd.newR nm]) nm k jo HLN.out HCP5.out (by omega) HFW.out _ HRD5.out HR.out)))
  refine wpQuiet_nil ?_
  rintro w4 ⟨X, rfl⟩
  clear g0 g1
  obtain ⟨w4, hw4⟩ : ∃ w, X.w = w := ⟨_, rfl⟩
  have hb : Below U.heap.size U w4 := by rw [← hw4]; exact X.bel
  rw [hw4]
  clear hw4
  have b4 := ((BelowKit.bcell hb).1 _ _ zU).trans b0
  have cS4 := ((BelowKit.bcell hb).1 _ _ zSU).trans cSU
  have c214 := ((BelowKit.bcell hb).1 _ _ hgU).trans c21U
  have zU4 : w3.heap.size < w4.heap.size := Nat.lt_of_lt_of_le zU hb.size
  have zS4 : w1.heap.size < w4.heap.size := Nat.lt_of_lt_of_le zSU hb.size
  have hg4 : g2 < w4.heap.size := Nat.lt_of_lt_of_le hgU hb.size
  have HO4 := Lib.hid (HOU.out.on hb)
  have HO54 := Lib.hid (HO5U.out.on hb)
  have HC4 := Lib.hid (BelowKit.bl_trans HCU.out hb)
  clear hb b0 cSU c20U c21U zU zSU hgU HOU HO5U HCU HRD5
  have m2 : decide (m < 0) = false := decide_eq_false (by omega)
  by_cases hin : 10 ≤ k ∧ k < 40
  · obtain ⟨hin1, hin2⟩ := hin
    have e9 : r = (n : Int) := by rw [← HR.out]; exact HBK.out.in_ hin1 hin2 (by omega)
    subst e9
    have d1 : decide (10 ≤ k) = true := decide_eq_true hin1
    have d2 : decide (k < 40) = true := decide_eq_true hin2
    have d3 : ((n : Int) == (n : Int)) = true := beq_self_eq_true _
    have HFE := Lib.hid (BookRd.fig_empty (rs := rs ++ [BookRd.newR nm]) (nm := nm) (k := k) (jo := 5))
    go_wp2_with fail
    obtain ⟨w5, hmk, hb5⟩ := BookRd.run_make0 (P := Try.prog) TFrac.ft w4
    have b5 := ((BelowKit.bcell hb5).1 _ _ zU4).trans b4
    have HB5 := Lib.hid hb5
    clear hb5
    go_region_law (
      (refine Fresh.step_call #[.agg #[.slice p5 (n + 1) c5], .int .i64 nm, .int .i64 k, .int .i64 5, .slice (some ⟨w4.heap.size, 0, none⟩) 0 0] Try.func23 (by kernel_rfl) (by kernel_rfl) rfl ?_; refine (GapI.fig_i _ p5 (n + 1) c5 (rs ++ [BookRd.newR nm]) nm k 5 (some ⟨w4.heap.size, 0, none⟩) 0 0 [] HLN.out HCP5.out (by omega) HFX.out (HO54.out.reads.on HB5.out) rfl (by omega) (fun j hj => by simp at hj)).mono ?_; rintro e w6 ⟨rfl, hb⟩; rw [HFE.out]; refine ⟨_, rfl, ?_⟩; have hb6 : Below w4.heap.size w4 w6 := BelowKit.bl_trans HB5.out hb; have cS6 := ((BelowKit.bcell hb6).1 _ _ zS4).trans cS4; have zS6 : w1.heap.size < w6.heap.size := Nat.lt_of_lt_of_le zS4 hb6.size; have HC6 := Lib.hid (BelowKit.bl_trans HC4.out hb6); clear hb hb6))
    all_goals
      go_wp2
      go_ret
      exact ⟨rfl, HC6.out⟩
  · have e9 : r = BookMath.ruleFor rs nm k jo := by rw [← HR.out]; exact HBK.out.out hin
    have HR2 := Lib.hid e9.symm
    have HRD := Lib.hid HO4.out.reads
    clear e9
    have hnot : decide (10 ≤ k) = false ∨ (decide (10 ≤ k) = true ∧ decide (k < 40) = false) := by
      by_cases h : 10 ≤ k
      · exact .inr ⟨decide_eq_true h, decide_eq_false (fun e => hin ⟨h, e⟩)⟩
      · exact .inl (decide_eq_false h)
    have d5 : (r == r) = true := beq_self_eq_true _
    clear hin
    rcases hnot with d1 | ⟨d1, d2⟩
    all_goals
      go_wp2_with fail
      have g0 := Grown.G.keep cS4 zS4
      have g1 := Grown.G.keep c214 hg4
      refine Grown.wp_region_grown (by kernel_rfl) (by kernel_rfl) ?_
      repeat (go_big_quiet_step ((go_at_call 24; with_reducible exact BookRd.for_gs p n c rs nm k jo HM.out (by omega) HBK.out.few _ HRD.out HR2.out)))
      refine wpQuiet_nil ?_
      rintro w5 ⟨X, rfl⟩
      clear g0 g1
      go_wp2
      go_ret
      exact ⟨rfl, BelowKit.bl_trans HC4.out X.bel⟩

/-! ### THE ROW's STEP: WRITTEN OUT: LEAVE IT -/
set_option maxRecDepth 100000 in
theorem lifted (os : Os) (started : os.Started) (H : Type) (enc : TypeId × Value → H) :
    ReturnsInHanded {} Try.checked os 6 .any (Rows.fnNoRulesSpec.pre6 enc Try.prog Try.f6 Rows.fnNoRulesRow.domain false) (Rows.fnNoRulesSpec.post enc Try.prog Try.f6 false true false false) := by
  refine returnsInHanded_of_change (C := Try.checked) own started (by kernel_rfl) Try.func6
    (ChangeSpec.witness6 (enc := enc) (C := Try.checked) false ⟨#[], #[.slice none 0 0], []⟩ 8 (by kernel_rfl) (by kernel_rfl) (by kernel_rfl) (by kernel_rfl)) ?_
  intro W base args ds gs before hval0 hW hcnd _
  have hval : ∀ (j : Nat) t v, Try.f6.params[j]? = some t → args[j]? = some v → Value.okWide Try.prog W .any base t v := hval0
  have hW' := hW
  obtain ⟨p, q, hA0, hV, rfl, hfz, hnd⟩ := hW
  have hA : DataW.TrodAll enc Try.prog W 0 (fun _ => true) true Try.f6.params.toList args.toList ds p := hA0
  rw [Try.params6] at hA hval
  obtain ⟨v0, vs0, d0, ds0, p0, q0, hargs, rfl, rfl, h0, r0⟩ := trodAll_cons hA
  obtain ⟨rfl, rfl, rfl⟩ := trodAll_nil r0
  obtain rfl : args = #[v0] := by cases args; simp_all
  obtain ⟨rfl, rfl⟩ := trodVars_none hV
  obtain ⟨a0, len0, cap0, rfl⟩ := okWide_slice Try.underlying22 (hval 0 22 v0 rfl rfl)
  have k0 := h0
  have lt0 : ∀ x ∈ p0, x.block < W.heap.size := by obtain ⟨m, hm⟩ := k0; exact DataW.trod_lt m _ _ _ hm
  obtain ⟨z0, w0⟩ : ∃ zs, IsRow .u8 W a0 len0 cap0 zs := by
    obtain ⟨fuel, hf⟩ := h0
    rcases open_ints Try.underlying22 Try.underlying5 (by kernel_rfl) hf with ⟨hcs, _⟩ | ⟨x, l, c, zs, hcs, _, hl, hm, hz, _, hcell, hwz⟩
    · simp [Value.cells] at hcs
      obtain ⟨rfl, rfl, rfl⟩ := hcs
      exact ⟨[], .inl ⟨rfl, rfl, rfl, rfl⟩⟩
    · simp [Value.cells] at hcs
      obtain ⟨rfl, rfl, rfl⟩ := hcs
      exact ⟨zs, .inr ⟨_, rfl, hl, hm, by simpa using hz, hcell, hwz⟩⟩
  clear hA0 hval0
  refine (walk a0 len0 cap0 z0 W w0).mono fun e W' ⟨he, bel⟩ => ?_
  subst he
  exact ⟨_, rfl, _, _, _, [], _, [], hW', trodAll_mk1 (shut_bool Try.underlying4 _), (trodAll_cons_mk (Below.trod laidOut (by kernel_rfl) (of_decide_eq_true (by kernel_rfl)) k0 bel lt0) trodAll_mk0), rfl, bel.frame _, fun h => by cases h⟩

theorem over : Rows.fnNoRulesRow.holds Try.pinned (OpenSpec.ofChange Rows.fnNoRulesSpec) :=
  OpenClaim.holds_of_wide 6 Try.f6 rfl rfl rfl rfl rfl rfl rfl ⟨rfl, rfl, rfl, rfl, rfl⟩ rfl rfl rfl rfl rfl (by kernel_rfl) Try.func6 (by kernel_rfl)
    (of_decide_eq_true (by kernel_rfl)) (by unfold Func.isWrapper; first | (rw [if_pos (by decide +kernel)]; kernel_rfl) | (rw [if_neg (by decide +kernel)]; exact ⟨rfl, rfl⟩))
    (fun os started H enc _ => lifted os started H enc)

theorem proved : Rows.FnNoRulesSaid := over
#print axioms proved
end Go.Proofs.Ytkfgflmhefbinaa.fnNoRules
