/- Proves the given statement of the law FnAverages: for every input that the row lets in, the law's Go function returns true and every argument reads as before; no condition of mine. -/
import Derived.Test.YtdmkceaonfbebaaPayFacts
import Derived.Test.YtdmkceaonfbebaaPayI
import Derived.Test.YtdmkceaonfbebaaDrawPay
import Derived.Test.YtdmkceaonfbebaaDrawRow
import Derived.Test.YtdmkceaonfbebaaKit
import Derived.Test.YtdmkceaonfbebaaFracC
import Derived.Test.YtdmkceaonfbebaaFracEq
import Derived.Test.YtdmkceaonfbebaaRows
import Derived.WalkKit
import Derived.ProofKit
import Derived.OpenShut
import Derived.ShutString
import Derived.ChangeOld
import Derived.Below
namespace Go.Proofs.Ytdmkceaonfbebaa.fnAverages
open Go.ChangeShapes Go.WideShapes Go.ChangeAt Go.RowKit
open Go.ChangeMaps (open_string shut_string)
set_option linter.unusedVariables false

theorem own : ownKnob Try.prog.godebug = none := by kernel_rfl
theorem laidOut : laidOutB Try.prog = true := by kernel_rfl

/-- WHAT THE WALK IS TOLD OF A SLICE OF INTEGERS THAT CAME IN: it is nil; or it leads to a row of 'cap' cells, the numbers 'zs' (the first 'len' are its elements, the rest its spare room), each fitting its kind. -/
def IsRow (k : IntKind) (w : World) (a : Option Addr) (len cap : Nat) (zs : List Int) : Prop :=
  (a = none ∧ len = 0 ∧ cap = 0 ∧ zs = []) ∨
  ∃ x, a = some x ∧ len ≤ cap ∧ cap ≤ maxLen ∧ zs.length = cap ∧ (∀ i, i < zs.length → w.cell? (x.add i) = some (.int k (zs.getD i 0))) ∧ ∀ n ∈ zs, (Lit.int k n).wf = true

/-! ### STEP 1: THE WALK: the Go text returns true, AND WRITES NOTHING THAT WAS THERE: 'Below w.heap.size w w'' (Derived/Below.lean: '.refl', '.alloc', '.drew', '.setCell' at a new block, '.trans'). Open each 'IsRow' by 'rcases' AHEAD of 'go_enter'; part every test ahead of the walk. -/
set_option maxHeartbeats 4000000 in
set_option maxRecDepth 100000 in
theorem walk (a0 : Option Addr) (len0 cap0 : Nat) (z0 : List Int) (w : World) (w0 : IsRow .u8 w a0 len0 cap0 z0) :
    Calls Try.prog 5 #[.slice a0 len0 cap0] w fun e w' => e = .returned (.bool true) ∧ Below w.heap.size w w' := by
  obtain ⟨hcode, hs⟩ := CurKit.code_at w0
  clear w0
  have HK := Lib.hid hcode
  have HS := Lib.hid hs
  clear hcode
  unfold maxLen at hs
  by_cases hbig : 1048576 < len0
  · go_enter Try.func5, Try.ntmps5
    go_wp2
    go_ret
    exact ⟨rfl, Below.refl _ _⟩
  go_enter Try.func5, Try.ntmps5
  go_wp2_with (go_at_call 11; go_in)
  refine (DrawPay.pay_c _ a0 len0 cap0 HK.out HS.out).mono ?_
  rintro e w1 ⟨l, p, c, ls, p9, c9, ⟨hpd, hl10, ho⟩, _, _, rfl, _, hb⟩
  obtain ⟨m, hm⟩ : ∃ m, l.length = m := ⟨_, rfl⟩
  have HM := Lib.hid hm
  rw [hm] at ho hl10 ⊢
  obtain ⟨m9, hm9⟩ : ∃ m, ls.length = m := ⟨_, rfl⟩
  rw [hm9]
  have HP := Lib.hid hpd
  have hk99 : (0 : Int) ≤ 99 := by omega
  have hb2 := BelowKit.bl_trans hb (show Below w1.heap.size w1 ((w1.alloc (.cells #[.slice p m c] 26)).alloc (.cells #[.slice p9 m9 c9] 29)) by (repeat (first | exact Below.refl _ _ | apply BelowKit.bl_alloc | apply BelowKit.bl_drewN | apply BelowKit.bl_drew | (refine BelowKit.bl_set ?_ _ ?_; rotate_left; (first | omega | (simp; omega) | simp)) | (refine BelowKit.bl_trans ?_ (‹Hid (Below _ _ _)›).out))))
  have HO1 := Lib.hid (ho.on (show Below w1.heap.size w1 ((w1.alloc (.cells #[.slice p m c] 26)).alloc (.cells #[.slice p9 m9 c9] 29)) by (repeat (first | exact Below.refl _ _ | apply BelowKit.bl_alloc | apply BelowKit.bl_drewN | apply BelowKit.bl_drew | (refine BelowKit.bl_set ?_ _ ?_; rotate_left; (first | omega | (simp; omega) | simp)) | (refine BelowKit.bl_trans ?_ (‹Hid (Below _ _ _)›).out)))))
  have HC1 := Lib.hid hb2
  clear hpd ho hb hb2 hm hm9
  have c1 : ((w1.alloc (.cells #[.slice p m c] 26)).alloc (.cells #[.slice p9 m9 c9] 29)).cell? ⟨w1.heap.size, 0, none⟩ = some (.slice p m c) := by simp [go_sem]
  have z1 : w1.heap.size < ((w1.alloc (.cells #[.slice p m c] 26)).alloc (.cells #[.slice p9 m9 c9] 29)).heap.size := by simp; omega
  go_wp2_with fail
  refine (DrawRow.places_c _ a0 len0 cap0 (fun j hj => by obtain ⟨blk, off, n, e, h1, h2, h3⟩ := HK.out j hj; exact ⟨blk, off, n, e, Nat.lt_of_lt_of_le h1 HC1.out.size, ((BelowKit.bcell HC1.out).1 _ _ h1).trans h2, h3⟩) HS.out).mono ?_
  rintro e w2 ⟨l2, a2, cap2, hl2, hin, rfl, ho2, hb⟩
  obtain ⟨g2, rfl, _, hg2, d0, _⟩ := ho2.at 0 (by omega)
  have d1 := (ho2.cell 1 (by omega)).1
  have i0 := hin.get 0 (by omega)
  have i1 := hin.get 1 (by omega)
  obtain ⟨t0, ht0⟩ : ∃ t, l2[0] = t := ⟨_, rfl⟩
  obtain ⟨t1, ht1⟩ : ∃ t, l2[1] = t := ⟨_, rfl⟩
  rw [ht0] at d0 i0
  rw [ht1] at d1 i1
  change _ = some (Value.int .i64 t0) at d0
  change _ = some (Value.int .i64 t1) at d1
  obtain ⟨i00, i01⟩ := i0
  obtain ⟨i10, i11⟩ := i1
  clear ht0 ht1 hin hl2 ho2
  have c2 := ((BelowKit.bcell hb).1 _ 0 z1).trans c1
  have z2 := Nat.lt_of_lt_of_le z1 hb.size
  have HO2 := Lib.hid (HO1.out.on hb)
  have HC2 := Lib.hid (BelowKit.bl_trans HC1.out hb)
  clear hb c1 z1 HO1 HC1
  obtain ⟨n, hn⟩ : ∃ n : Nat, 1 + t0 % 12 = (n : Int) := ⟨(1 + t0 % 12).toNat, by omega⟩
  have n1 : 1 ≤ n := by omega
  have n12 : n ≤ 12 := by omega
  have e1 : (5 : Int) + 2 * (n : Int) = 5 + (n : Int) + (n : Int) := by omega
  obtain ⟨_, xa, ya, ea, oa, ha, _⟩ := PayFacts.avg_paid HP.out hk99 (f := 5) (n := n) (by omega) (by omega) n1
  obtain ⟨_, xb, yb, eb, ob, hb, _⟩ := PayFacts.avg_paid HP.out hk99 (f := 5 + (n : Int)) (n := n) (by omega) (by omega) n1
  obtain ⟨_, xc, yc, ec, oc, hc, _⟩ := PayFacts.avg_paid HP.out hk99 (f := 5) (n := n + n) (by omega) (by omega) (by omega)
  rw [show (5 : Int) + ((n + n : Nat) : Int) = 5 + (n : Int) + (n : Int) by omega] at ec
  rw [show ((n + n : Nat) : Int) = 2 * (n : Int) by omega] at hc
  rw [PayFacts.sum_split] at hc
  have s1 := HP.out.sum_bd hk99 (f := 5) (by omega) n (by omega)
  have s2 := HP.out.sum_bd hk99 (f := 5 + (n : Int)) (by omega) n (by omega)
  obtain ⟨xs, ys, es, _⟩ := FracOrder.red_fit (n := PayMath.sumTo l 99 5 n + PayMath.sumTo l 99 (5 + (n : Int)) n) (d := (n : Int)) (by omega) 20000000 (by omega) (by omega) (by omega) (by omega)
  have FA := Lib.hid (show PayMath.aver l 5 (5 + (n : Int)) 99 = (xa, ya, true) by rw [PayFacts.aver_paid HP.out (by omega) (by omega) (by omega) (by omega)]; exact ea)
  have FB := Lib.hid (show PayMath.aver l (5 + (n : Int)) (5 + 2 * (n : Int)) 99 = (xb, yb, true) by rw [PayFacts.aver_paid HP.out (by omega) (by omega) (by omega) (by omega), e1]; exact eb)
  have FC := Lib.hid (show PayMath.aver l 5 (5 + 2 * (n : Int)) 99 = (xc, yc, true) by rw [PayFacts.aver_paid HP.out (by omega) (by omega) (by omega) (by omega), e1]; exact ec)
  have FS := Lib.hid (show FracMath.sumR xa ya xb yb = (xs, ys, true) from (PayFacts.sum_two oa ob (by omega) ha hb).trans es)
  have FT := Lib.hid (show FracMath.sumR xc yc xc yc = (xs, ys, true) from (PayFacts.sum_same oc (by omega) hc).trans es)
  have hq := fun W => FracEq.eql xs ys xs ys W
  have W1 : IntKind.i64.wrap (5 + (n : Int)) = 5 + (n : Int) := IntWalk.i64_in _ (by omega)
  have W2 : IntKind.i64.wrap (2 * (n : Int)) = 2 * (n : Int) := IntWalk.i64_in _ (by omega)
  have W3 : IntKind.i64.wrap (5 + 2 * (n : Int)) = 5 + 2 * (n : Int) := IntWalk.i64_in _ (by omega)
  clear ea oa ha eb ob hb ec oc hc s1 s2 es e1 d1 i10 i11
  go_wp2_with fail
  refine (PayI.aver_i _ p m c l 5 (5 + (n : Int)) 99 HM.out (by omega) (RowN.reads_own Fact.fw HO2.out)).mono ?_
  rintro e w3 ⟨rfl, hb⟩
  rw [FA.out]
  have c3 := ((BelowKit.bcell hb).1 _ 0 z2).trans c2
  have z3 := Nat.lt_of_lt_of_le z2 hb.size
  have HO3 := Lib.hid (HO2.out.on hb)
  have HC3 := Lib.hid (BelowKit.bl_trans HC2.out hb)
  clear hb c2 z2 HO2 HC2
  clear d0 i00 i01 hg2
  go_wp2_with fail
  refine (PayI.aver_i _ p m c l (5 + (n : Int)) (5 + 2 * (n : Int)) 99 HM.out (by omega) (RowN.reads_own Fact.fw (HO3.out.on (BelowKit.bl_alloc (Below.refl _ _))))).mono ?_
  rintro e w4 ⟨rfl, hb⟩
  rw [FB.out]
  have ax4 := ((BelowKit.bcell hb).1 w3.heap.size 0 (by simp)).trans (show _ = some (Value.int .i64 xa) by simp [go_sem])
  have ay4 := ((BelowKit.bcell hb).1 w3.heap.size 1 (by simp)).trans (show _ = some (Value.int .i64 ya) by simp [go_sem])
  have za4 : w3.heap.size < w4.heap.size := by have := hb.size; simp at this; omega
  replace hb := BelowKit.bl_trans (BelowKit.bl_alloc (Below.refl w3.heap.size w3)) hb
  have c4 := ((BelowKit.bcell hb).1 _ 0 z3).trans c3
  have z4 := Nat.lt_of_lt_of_le z3 hb.size
  have HO4 := Lib.hid (HO3.out.on hb)
  have HC4 := Lib.hid (BelowKit.bl_trans HC3.out hb)
  clear hb c3 z3 HO3 HC3
  go_wp2_with fail
  refine (PayI.aver_i _ p m c l 5 (5 + 2 * (n : Int)) 99 HM.out (by omega) (RowN.reads_own Fact.fw (HO4.out.on (BelowKit.bl_alloc (Below.refl _ _))))).mono ?_
  rintro e w5 ⟨rfl, hb⟩
  rw [FC.out]
  have bx5 := ((BelowKit.bcell hb).1 w4.heap.size 0 (by simp)).trans (show _ = some (Value.int .i64 xb) by simp [go_sem])
  have by5 := ((BelowKit.bcell hb).1 w4.heap.size 1 (by simp)).trans (show _ = some (Value.int .i64 yb) by simp [go_sem])
  have zb5 : w4.heap.size < w5.heap.size := by have := hb.size; simp at this; omega
  replace hb := BelowKit.bl_trans (BelowKit.bl_alloc (Below.refl w4.heap.size w4)) hb
  have c5 := ((BelowKit.bcell hb).1 _ 0 z4).trans c4
  have ax5 := ((BelowKit.bcell hb).1 _ 0 za4).trans ax4
  have ay5 := ((BelowKit.bcell hb).1 _ 1 za4).trans ay4
  have z5 := Nat.lt_of_lt_of_le z4 hb.size
  have za5 := Nat.lt_of_lt_of_le za4 hb.size
  have HO5 := Lib.hid (HO4.out.on hb)
  have HC5 := Lib.hid (BelowKit.bl_trans HC4.out hb)
  clear hb c4 ax4 ay4 z4 za4 HO4 HC4
  clear W1 W2 W3 hn
  go_wp2_with fail
  refine (FracS.add_s xa ya xb yb _).mono ?_
  rintro e w6 ⟨rfl, hb⟩
  rw [FS.out]
  have cx6 := ((BelowKit.bcell hb).1 w5.heap.size 0 (by simp)).trans (show _ = some (Value.int .i64 xc) by simp [go_sem])
  have cy6 := ((BelowKit.bcell hb).1 w5.heap.size 1 (by simp)).trans (show _ = some (Value.int .i64 yc) by simp [go_sem])
  have zc6 : w5.heap.size < w6.heap.size := by have := hb.size; simp at this; omega
  replace hb := BelowKit.bl_trans (BelowKit.bl_alloc (Below.refl w5.heap.size w5)) hb
  have c6 := ((BelowKit.bcell hb).1 _ 0 z5).trans c5
  have ax6 := ((BelowKit.bcell hb).1 _ 0 za5).trans ax5
  have ay6 := ((BelowKit.bcell hb).1 _ 1 za5).trans ay5
  have bx6 := ((BelowKit.bcell hb).1 _ 0 zb5).trans bx5
  have by6 := ((BelowKit.bcell hb).1 _ 1 zb5).trans by5
  have z6 := Nat.lt_of_lt_of_le z5 hb.size
  have za6 := Nat.lt_of_lt_of_le za5 hb.size
  have zb6 := Nat.lt_of_lt_of_le zb5 hb.size
  have HO6 := Lib.hid (HO5.out.on hb)
  have HC6 := Lib.hid (BelowKit.bl_trans HC5.out hb)
  clear hb c5 ax5 ay5 bx5 by5 z5 za5 zb5 HO5 HC5
  go_wp2_with fail
  refine (FracS.add_s xc yc xc yc _).mono ?_
  rintro e w7 ⟨rfl, hb⟩
  rw [FT.out]
  have sx7 := ((BelowKit.bcell hb).1 w6.heap.size 0 (by simp)).trans (show _ = some (Value.int .i64 xs) by simp [go_sem])
  have sy7 := ((BelowKit.bcell hb).1 w6.heap.size 1 (by simp)).trans (show _ = some (Value.int .i64 ys) by simp [go_sem])
  have zs7 : w6.heap.size < w7.heap.size := by have := hb.size; simp at this; omega
  replace hb := BelowKit.bl_trans (BelowKit.bl_alloc (Below.refl w6.heap.size w6)) hb
  have c7 := ((BelowKit.bcell hb).1 _ 0 z6).trans c6
  have ax7 := ((BelowKit.bcell hb).1 _ 0 za6).trans ax6
  have ay7 := ((BelowKit.bcell hb).1 _ 1 za6).trans ay6
  have bx7 := ((BelowKit.bcell hb).1 _ 0 zb6).trans bx6
  have by7 := ((BelowKit.bcell hb).1 _ 1 zb6).trans by6
  have cx7 := ((BelowKit.bcell hb).1 _ 0 zc6).trans cx6
  have cy7 := ((BelowKit.bcell hb).1 _ 1 zc6).trans cy6
  have z7 := Nat.lt_of_lt_of_le z6 hb.size
  have za7 := Nat.lt_of_lt_of_le za6 hb.size
  have zb7 := Nat.lt_of_lt_of_le zb6 hb.size
  have zc7 := Nat.lt_of_lt_of_le zc6 hb.size
  have HO7 := Lib.hid (HO6.out.on hb)
  have HC7 := Lib.hid (BelowKit.bl_trans HC6.out hb)
  clear hb c6 ax6 ay6 bx6 by6 cx6 cy6 z6 za6 zb6 zc6 HO6 HC6
  go_wp2
  go_ret
  exact ⟨rfl, BelowKit.bl_alloc HC7.out⟩

/-! ### THE ROW's STEP: WRITTEN OUT: LEAVE IT -/
set_option maxRecDepth 100000 in
theorem lifted (os : Os) (started : os.Started) (H : Type) (enc : TypeId × Value → H) :
    ReturnsInHanded {} Try.checked os 5 .any (Rows.fnAveragesSpec.pre6 enc Try.prog Try.f5 Rows.fnAveragesRow.domain false) (Rows.fnAveragesSpec.post enc Try.prog Try.f5 false true false false) := by
  refine returnsInHanded_of_change (C := Try.checked) own started (by kernel_rfl) Try.func5
    (ChangeSpec.witness6 (enc := enc) (C := Try.checked) false ⟨#[], #[.slice none 0 0], []⟩ 8 (by kernel_rfl) (by kernel_rfl) (by kernel_rfl) (by kernel_rfl)) ?_
  intro W base args ds gs before hval0 hW hcnd _
  have hval : ∀ (j : Nat) t v, Try.f5.params[j]? = some t → args[j]? = some v → Value.okWide Try.prog W .any base t v := hval0
  have hW' := hW
  obtain ⟨p, q, hA0, hV, rfl, hfz, hnd⟩ := hW
  have hA : DataW.TrodAll enc Try.prog W 0 (fun _ => true) true Try.f5.params.toList args.toList ds p := hA0
  rw [Try.params5] at hA hval
  obtain ⟨v0, vs0, d0, ds0, p0, q0, hargs, rfl, rfl, h0, r0⟩ := trodAll_cons hA
  obtain ⟨rfl, rfl, rfl⟩ := trodAll_nil r0
  obtain rfl : args = #[v0] := by cases args; simp_all
  obtain ⟨rfl, rfl⟩ := trodVars_none hV
  obtain ⟨a0, len0, cap0, rfl⟩ := okWide_slice Try.underlying22 (hval 0 22 v0 rfl rfl)
  have k0 := h0
  have lt0 : ∀ x ∈ p0, x.block < W.heap.size := by obtain ⟨m, hm⟩ := k0; exact DataW.trod_lt m _ _ _ hm
  obtain ⟨z0, w0⟩ : ∃ zs, IsRow .u8 W a0 len0 cap0 zs := by
    obtain ⟨fuel, hf⟩ := h0
    rcases open_ints Try.underlying22 Try.underlying5 (by kernel_rfl) hf with ⟨hcs, _⟩ | ⟨x, l, c, zs, hcs, _, hl, hm, hz, _, hcell, hwz⟩
    · simp [Value.cells] at hcs
      obtain ⟨rfl, rfl, rfl⟩ := hcs
      exact ⟨[], .inl ⟨rfl, rfl, rfl, rfl⟩⟩
    · simp [Value.cells] at hcs
      obtain ⟨rfl, rfl, rfl⟩ := hcs
      exact ⟨zs, .inr ⟨_, rfl, hl, hm, by simpa using hz, hcell, hwz⟩⟩
  clear hA0 hval0
  refine (walk a0 len0 cap0 z0 W w0).mono fun e W' ⟨he, bel⟩ => ?_
  subst he
  exact ⟨_, rfl, _, _, _, [], _, [], hW', trodAll_mk1 (shut_bool Try.underlying4 _), (trodAll_cons_mk (Below.trod laidOut (by kernel_rfl) (of_decide_eq_true (by kernel_rfl)) k0 bel lt0) trodAll_mk0), rfl, bel.frame _, fun h => by cases h⟩

theorem over : Rows.fnAveragesRow.holds Try.pinned (OpenSpec.ofChange Rows.fnAveragesSpec) :=
  OpenClaim.holds_of_wide 5 Try.f5 rfl rfl rfl rfl rfl rfl rfl ⟨rfl, rfl, rfl, rfl, rfl⟩ rfl rfl rfl rfl rfl (by kernel_rfl) Try.func5 (by kernel_rfl)
    (of_decide_eq_true (by kernel_rfl)) (by unfold Func.isWrapper; first | (rw [if_pos (by decide +kernel)]; kernel_rfl) | (rw [if_neg (by decide +kernel)]; exact ⟨rfl, rfl⟩))
    (fun os started H enc _ => lifted os started H enc)

theorem proved : Rows.FnAveragesSaid := over
#print axioms proved
end Go.Proofs.Ytdmkceaonfbebaa.fnAverages
