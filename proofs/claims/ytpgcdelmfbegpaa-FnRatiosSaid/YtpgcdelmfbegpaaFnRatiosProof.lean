/- Proves the given statement of the law FnRatios: for every input that the row lets in, the law's Go function returns true and every argument reads as before; no condition of mine. -/
import Derived.Test.YtpgcdelmfbegpaaDrawPay
import Derived.Test.YtpgcdelmfbegpaaDrawRow
import Derived.Test.YtpgcdelmfbegpaaRatioI
import Derived.Test.YtpgcdelmfbegpaaRatioMath
import Derived.Test.YtpgcdelmfbegpaaFracSMul
import Derived.Test.YtpgcdelmfbegpaaPointLaws
import Derived.Test.YtpgcdelmfbegpaaBelowKit
import Derived.Test.YtpgcdelmfbegpaaFresh
import Derived.Test.YtpgcdelmfbegpaaGrown
import Derived.Test.YtpgcdelmfbegpaaRows
import Derived.WalkKit
import Derived.ProofKit
import Derived.OpenShut
import Derived.ShutString
import Derived.ChangeOld
import Derived.Below
namespace Go.Proofs.Ytpgcdelmfbegpaa.fnRatios
open Go.ChangeShapes Go.WideShapes Go.ChangeAt Go.RowKit
open Go.ChangeMaps (open_string shut_string)
set_option linter.unusedVariables false

theorem own : ownKnob Try.prog.godebug = none := by kernel_rfl
theorem laidOut : laidOutB Try.prog = true := by kernel_rfl

/-- WHAT THE WALK IS TOLD OF A SLICE OF INTEGERS THAT CAME IN: it is nil; or it leads to a row of 'cap' cells, the numbers 'zs' (the first 'len' are its elements, the rest its spare room), each fitting its kind. -/
def IsRow (k : IntKind) (w : World) (a : Option Addr) (len cap : Nat) (zs : List Int) : Prop :=
  (a = none ∧ len = 0 ∧ cap = 0 ∧ zs = []) ∨
  ∃ x, a = some x ∧ len ≤ cap ∧ cap ≤ maxLen ∧ zs.length = cap ∧ (∀ i, i < zs.length → w.cell? (x.add i) = some (.int k (zs.getD i 0))) ∧ ∀ n ∈ zs, (Lit.int k n).wf = true

/-! ### STEP 1: THE WALK: the Go text returns true, AND WRITES NOTHING THAT WAS THERE: 'Below w.heap.size w w'' (Derived/Below.lean: '.refl', '.alloc', '.drew', '.setCell' at a new block, '.trans'). Open each 'IsRow' by 'rcases' AHEAD of 'go_enter'; part every test ahead of the walk. -/
set_option maxHeartbeats 8000000 in
set_option maxRecDepth 100000 in
theorem walk (a0 : Option Addr) (len0 cap0 : Nat) (z0 : List Int) (w : World) (w0 : IsRow .u8 w a0 len0 cap0 z0) :
    Calls Try.prog 4 #[.slice a0 len0 cap0] w fun e w' => e = .returned (.bool true) ∧ Below w.heap.size w w' := by
  obtain ⟨hcode, hs⟩ := CurKit.code_at w0
  clear w0
  have HK := Lib.hid hcode
  have HS := Lib.hid hs
  clear hcode
  unfold maxLen at hs
  by_cases hbig : 1048576 < len0
  · go_enter Try.func4, Try.ntmps4
    go_wp2
    go_ret
    exact ⟨rfl, Below.refl _ _⟩
  go_enter Try.func4, Try.ntmps4
  go_wp2_with (go_at_call 10; go_in)
  refine (DrawPay.pay_c _ a0 len0 cap0 HK.out HS.out).mono ?_
  rintro e w1 ⟨pf, nf, cf, l, p, c, hfull, hlen, rfl, ho, hb⟩
  obtain ⟨m, hm⟩ : ∃ m, l.length = m := ⟨_, rfl⟩
  rw [hm] at ho hlen ⊢
  have HM := Lib.hid hm
  have HF := Lib.hid hfull
  have HO1 := Lib.hid ho
  have HC1 := Lib.hid hb
  clear hm hfull ho hb
  go_wp2_with fail
  have hb12 : Below w1.heap.size w1 ((w1.alloc (.cells #[.slice pf nf cf] 40)).alloc (.cells #[.slice p m c] 26)) := by (repeat (first | exact Below.refl _ _ | apply BelowKit.bl_alloc | apply BelowKit.bl_drewN | apply BelowKit.bl_drew | (refine BelowKit.bl_set ?_ _ ?_; rotate_left; (first | omega | (simp; omega) | simp)) | (refine BelowKit.bl_trans ?_ (‹Hid (Below _ _ _)›).out)))
  refine (DrawRow.places_c _ a0 len0 cap0 (fun j hj => by obtain ⟨blk, off, n, e, h1, h2, h3⟩ := HK.out j hj; exact ⟨blk, off, n, e, by have := HC1.out.size; simp; omega, ((BelowKit.bcell (BelowKit.bl_trans HC1.out hb12)).1 _ _ h1).trans h2, h3⟩) HS.out).mono ?_
  rintro e w2 ⟨l2, a2, cap2, hl2, hin, rfl, ho2, hb⟩
  obtain ⟨g2, rfl, _, hg2, c20, _⟩ := ho2.at 0 (by omega)
  have c21 := (ho2.cell 1 (by omega)).1
  have i0 := hin.get 0 (by omega)
  have i1 := hin.get 1 (by omega)
  obtain ⟨t0, ht0⟩ : ∃ t, l2[0] = t := ⟨_, rfl⟩
  obtain ⟨t1, ht1⟩ : ∃ t, l2[1] = t := ⟨_, rfl⟩
  rw [ht0] at c20 i0
  rw [ht1] at c21 i1
  change _ = some (Value.int .i64 t0) at c20
  change _ = some (Value.int .i64 t1) at c21
  obtain ⟨i00, i01⟩ := i0
  obtain ⟨i10, i11⟩ := i1
  have cS : w2.cell? ⟨w1.heap.size + 1, 0, none⟩ = some (.slice p m c) := ((BelowKit.bcell hb).1 _ _ (by simp)).trans (by simp [go_sem])
  have zS : w1.heap.size + 1 < w2.heap.size := by have := hb.size; simp at this; omega
  have hb2 := BelowKit.bl_trans hb12 hb
  have HO2 := Lib.hid (HO1.out.on hb2)
  have HC2 := Lib.hid (BelowKit.bl_trans HC1.out hb2)
  clear ht0 ht1 hin hl2 ho2 hb hb12 hb2 HO1 HC1
  obtain ⟨A, hA⟩ : ∃ k, t0 % 60 = k := ⟨_, rfl⟩
  obtain ⟨B, hB⟩ : ∃ k, t1 % 60 = k := ⟨_, rfl⟩
  have kA : 0 ≤ A := by omega
  have kB : 0 ≤ B := by omega
  obtain ⟨x, hx, x1, x2⟩ := HF.out.idx kA (show (0 : Int) ≤ 99 by omega)
  obtain ⟨y, hy, y1, y2⟩ := HF.out.idx kB (show (0 : Int) ≤ 99 by omega)
  obtain ⟨n1, _, _, _, _, _⟩ := PointLaws.new_pos (x := x) (y := y) (by omega) (by omega) (by omega) (by omega)
  obtain ⟨n2, _, _, _, _, _⟩ := PointLaws.new_pos (x := y) (y := x) (by omega) (by omega) (by omega) (by omega)
  have R1 := Lib.hid (show RatioMath.ratio A B 99 l = (FracMath.lowN y x, FracMath.lowD y x, true) by unfold RatioMath.ratio; rw [hx, hy, if_pos ⟨rfl, rfl⟩]; exact n1)
  have R2 := Lib.hid (show RatioMath.ratio B A 99 l = (FracMath.lowN x y, FracMath.lowD x y, true) by unfold RatioMath.ratio; rw [hx, hy, if_pos ⟨rfl, rfl⟩]; exact n2)
  have R3 := Lib.hid (show RatioMath.ratio A A 99 l = (1, 1, true) by unfold RatioMath.ratio; rw [hx, if_pos ⟨rfl, rfl⟩]; exact PointLaws.new_one (by omega) (by omega))
  have R4 := Lib.hid (PointLaws.mul_one (x := x) (y := y) (by omega) (by omega) (by omega) (by omega))
  obtain ⟨u1, hu1⟩ : ∃ k, FracMath.lowN y x = k := ⟨_, rfl⟩
  obtain ⟨d1, hd1⟩ : ∃ k, FracMath.lowD y x = k := ⟨_, rfl⟩
  obtain ⟨u2, hu2⟩ : ∃ k, FracMath.lowN x y = k := ⟨_, rfl⟩
  obtain ⟨d2, hd2⟩ : ∃ k, FracMath.lowD x y = k := ⟨_, rfl⟩
  rw [hu1, hd1] at R1 R4
  rw [hu2, hd2] at R2 R4
  clear hu1 hd1 hu2 hd2 n1 n2 hx hy
  go_wp2_with fail
  rw [hA, hB]
  have hbO := HO2
  refine (RatioI.ratio_i _ p m c l A B 99 HM.out (by omega) (RowN.reads_own TPoint.fw HO2.out)).mono ?_
  rintro e w3 ⟨rfl, hb⟩
  rw [R1.out]
  have qcS : w3.cell? ⟨w1.heap.size + 1, 0, none⟩ = some (.slice p m c) := ((BelowKit.bcell hb).1 _ 0 zS).trans cS
  have qzS : w1.heap.size + 1 < w3.heap.size := Nat.lt_of_lt_of_le zS hb.size
  clear cS zS
  have HO1' := Lib.hid (HO2.out.on hb)
  have HC1' := Lib.hid (BelowKit.bl_trans HC2.out hb)
  clear hb HO2 HC2
  go_wp2_with fail
  obtain ⟨U3, hU3⟩ : ∃ V : World, V = w3.alloc (.cells #[.int .i64 u1, .int .i64 d1] 44) := ⟨_, rfl⟩
  rw [← hU3]
  have hb : Below w3.heap.size w3 U3 := by rw [hU3]; (repeat (first | exact Below.refl _ _ | apply BelowKit.bl_alloc | apply BelowKit.bl_drewN | apply BelowKit.bl_drew | (refine BelowKit.bl_set ?_ _ ?_; rotate_left; (first | omega | (simp; omega) | simp)) | (refine BelowKit.bl_trans ?_ (‹Hid (Below _ _ _)›).out)))
  have na0 : U3.cell? ⟨w3.heap.size, 0, none⟩ = some (.int .i64 u1) := by rw [hU3]; simp [go_sem]
  have na1 : U3.cell? ⟨w3.heap.size, 1, none⟩ = some (.int .i64 d1) := by rw [hU3]; simp [go_sem]
  have za : w3.heap.size < U3.heap.size := by rw [hU3]; simp
  clear hU3
  have qqcS : U3.cell? ⟨w1.heap.size + 1, 0, none⟩ = some (.slice p m c) := ((BelowKit.bcell hb).1 _ 0 qzS).trans qcS
  have qqzS : w1.heap.size + 1 < U3.heap.size := Nat.lt_of_lt_of_le qzS hb.size
  clear qcS qzS
  have HO2' := Lib.hid (HO1'.out.on hb)
  have HC2' := Lib.hid (BelowKit.bl_trans HC1'.out hb)
  clear hb HO1' HC1'
  refine (RatioI.ratio_i _ p m c l B A 99 HM.out (by omega) (RowN.reads_own TPoint.fw HO2'.out)).mono ?_
  rintro e w4 ⟨rfl, hb⟩
  rw [R2.out]
  have qqqcS : w4.cell? ⟨w1.heap.size + 1, 0, none⟩ = some (.slice p m c) := ((BelowKit.bcell hb).1 _ 0 qqzS).trans qqcS
  have qqqzS : w1.heap.size + 1 < w4.heap.size := Nat.lt_of_lt_of_le qqzS hb.size
  have qna0 : w4.cell? ⟨w3.heap.size, 0, none⟩ = some (.int .i64 u1) := ((BelowKit.bcell hb).1 _ 0 za).trans na0
  have qza : w3.heap.size < w4.heap.size := Nat.lt_of_lt_of_le za hb.size
  have qna1 : w4.cell? ⟨w3.heap.size, 1, none⟩ = some (.int .i64 d1) := ((BelowKit.bcell hb).1 _ 1 za).trans na1
  clear qqcS na0 na1 qqzS za
  have HO3' := Lib.hid (HO2'.out.on hb)
  have HC3' := Lib.hid (BelowKit.bl_trans HC2'.out hb)
  clear hb HO2' HC2'
  go_wp2_with fail
  obtain ⟨U4, hU4⟩ : ∃ V : World, V = w4.alloc (.cells #[.int .i64 u2, .int .i64 d2] 44) := ⟨_, rfl⟩
  rw [← hU4]
  have hb : Below w4.heap.size w4 U4 := by rw [hU4]; (repeat (first | exact Below.refl _ _ | apply BelowKit.bl_alloc | apply BelowKit.bl_drewN | apply BelowKit.bl_drew | (refine BelowKit.bl_set ?_ _ ?_; rotate_left; (first | omega | (simp; omega) | simp)) | (refine BelowKit.bl_trans ?_ (‹Hid (Below _ _ _)›).out)))
  have nb0 : U4.cell? ⟨w4.heap.size, 0, none⟩ = some (.int .i64 u2) := by rw [hU4]; simp [go_sem]
  have nb1 : U4.cell? ⟨w4.heap.size, 1, none⟩ = some (.int .i64 d2) := by rw [hU4]; simp [go_sem]
  have zb : w4.heap.size < U4.heap.size := by rw [hU4]; simp
  clear hU4
  have qqqqcS : U4.cell? ⟨w1.heap.size + 1, 0, none⟩ = some (.slice p m c) := ((BelowKit.bcell hb).1 _ 0 qqqzS).trans qqqcS
  have qqqqzS : w1.heap.size + 1 < U4.heap.size := Nat.lt_of_lt_of_le qqqzS hb.size
  have qqna0 : U4.cell? ⟨w3.heap.size, 0, none⟩ = some (.int .i64 u1) := ((BelowKit.bcell hb).1 _ 0 qza).trans qna0
  have qqza : w3.heap.size < U4.heap.size := Nat.lt_of_lt_of_le qza hb.size
  have qqna1 : U4.cell? ⟨w3.heap.size, 1, none⟩ = some (.int .i64 d1) := ((BelowKit.bcell hb).1 _ 1 qza).trans qna1
  clear qqqcS qna0 qna1 qqqzS qza
  have HO4' := Lib.hid (HO3'.out.on hb)
  have HC4' := Lib.hid (BelowKit.bl_trans HC3'.out hb)
  clear hb HO3' HC3'
  refine (FracSMul.mul_s u1 d1 u2 d2 _).mono ?_
  rintro e w5 ⟨rfl, hb⟩
  rw [R4.out]
  have qqqqqcS : w5.cell? ⟨w1.heap.size + 1, 0, none⟩ = some (.slice p m c) := ((BelowKit.bcell hb).1 _ 0 qqqqzS).trans qqqqcS
  have qqqqqzS : w1.heap.size + 1 < w5.heap.size := Nat.lt_of_lt_of_le qqqqzS hb.size
  have qqqna0 : w5.cell? ⟨w3.heap.size, 0, none⟩ = some (.int .i64 u1) := ((BelowKit.bcell hb).1 _ 0 qqza).trans qqna0
  have qqqza : w3.heap.size < w5.heap.size := Nat.lt_of_lt_of_le qqza hb.size
  have qqqna1 : w5.cell? ⟨w3.heap.size, 1, none⟩ = some (.int .i64 d1) := ((BelowKit.bcell hb).1 _ 1 qqza).trans qqna1
  have qnb0 : w5.cell? ⟨w4.heap.size, 0, none⟩ = some (.int .i64 u2) := ((BelowKit.bcell hb).1 _ 0 zb).trans nb0
  have qzb : w4.heap.size < w5.heap.size := Nat.lt_of_lt_of_le zb hb.size
  have qnb1 : w5.cell? ⟨w4.heap.size, 1, none⟩ = some (.int .i64 d2) := ((BelowKit.bcell hb).1 _ 1 zb).trans nb1
  clear qqqqcS qqna0 qqna1 nb0 nb1 qqqqzS qqza zb
  have HO5' := Lib.hid (HO4'.out.on hb)
  have HC5' := Lib.hid (BelowKit.bl_trans HC4'.out hb)
  clear hb HO4' HC4'
  go_wp2_with fail
  obtain ⟨U5, hU5⟩ : ∃ V : World, V = w5.alloc (.cells #[.int .i64 1, .int .i64 1] 44) := ⟨_, rfl⟩
  rw [← hU5]
  have hb : Below w5.heap.size w5 U5 := by rw [hU5]; (repeat (first | exact Below.refl _ _ | apply BelowKit.bl_alloc | apply BelowKit.bl_drewN | apply BelowKit.bl_drew | (refine BelowKit.bl_set ?_ _ ?_; rotate_left; (first | omega | (simp; omega) | simp)) | (refine BelowKit.bl_trans ?_ (‹Hid (Below _ _ _)›).out)))
  have nc0 : U5.cell? ⟨w5.heap.size, 0, none⟩ = some (.int .i64 1) := by rw [hU5]; simp [go_sem]
  have nc1 : U5.cell? ⟨w5.heap.size, 1, none⟩ = some (.int .i64 1) := by rw [hU5]; simp [go_sem]
  have zc : w5.heap.size < U5.heap.size := by rw [hU5]; simp
  clear hU5
  have qqqqqqcS : U5.cell? ⟨w1.heap.size + 1, 0, none⟩ = some (.slice p m c) := ((BelowKit.bcell hb).1 _ 0 qqqqqzS).trans qqqqqcS
  have qqqqqqzS : w1.heap.size + 1 < U5.heap.size := Nat.lt_of_lt_of_le qqqqqzS hb.size
  have qqqqna0 : U5.cell? ⟨w3.heap.size, 0, none⟩ = some (.int .i64 u1) := ((BelowKit.bcell hb).1 _ 0 qqqza).trans qqqna0
  have qqqqza : w3.heap.size < U5.heap.size := Nat.lt_of_lt_of_le qqqza hb.size
  have qqqqna1 : U5.cell? ⟨w3.heap.size, 1, none⟩ = some (.int .i64 d1) := ((BelowKit.bcell hb).1 _ 1 qqqza).trans qqqna1
  have qqnb0 : U5.cell? ⟨w4.heap.size, 0, none⟩ = some (.int .i64 u2) := ((BelowKit.bcell hb).1 _ 0 qzb).trans qnb0
  have qqzb : w4.heap.size < U5.heap.size := Nat.lt_of_lt_of_le qzb hb.size
  have qqnb1 : U5.cell? ⟨w4.heap.size, 1, none⟩ = some (.int .i64 d2) := ((BelowKit.bcell hb).1 _ 1 qzb).trans qnb1
  clear qqqqqcS qqqna0 qqqna1 qnb0 qnb1 qqqqqzS qqqza qzb
  have HO6' := Lib.hid (HO5'.out.on hb)
  have HC6' := Lib.hid (BelowKit.bl_trans HC5'.out hb)
  clear hb HO5' HC5'
  refine (RatioI.ratio_i _ p m c l A A 99 HM.out (by omega) (RowN.reads_own TPoint.fw HO6'.out)).mono ?_
  rintro e w6 ⟨rfl, hb⟩
  rw [R3.out]
  have qqqqqqqcS : w6.cell? ⟨w1.heap.size + 1, 0, none⟩ = some (.slice p m c) := ((BelowKit.bcell hb).1 _ 0 qqqqqqzS).trans qqqqqqcS
  have qqqqqqqzS : w1.heap.size + 1 < w6.heap.size := Nat.lt_of_lt_of_le qqqqqqzS hb.size
  have qqqqqna0 : w6.cell? ⟨w3.heap.size, 0, none⟩ = some (.int .i64 u1) := ((BelowKit.bcell hb).1 _ 0 qqqqza).trans qqqqna0
  have qqqqqza : w3.heap.size < w6.heap.size := Nat.lt_of_lt_of_le qqqqza hb.size
  have qqqqqna1 : w6.cell? ⟨w3.heap.size, 1, none⟩ = some (.int .i64 d1) := ((BelowKit.bcell hb).1 _ 1 qqqqza).trans qqqqna1
  have qqqnb0 : w6.cell? ⟨w4.heap.size, 0, none⟩ = some (.int .i64 u2) := ((BelowKit.bcell hb).1 _ 0 qqzb).trans qqnb0
  have qqqzb : w4.heap.size < w6.heap.size := Nat.lt_of_lt_of_le qqzb hb.size
  have qqqnb1 : w6.cell? ⟨w4.heap.size, 1, none⟩ = some (.int .i64 d2) := ((BelowKit.bcell hb).1 _ 1 qqzb).trans qqnb1
  have qnc0 : w6.cell? ⟨w5.heap.size, 0, none⟩ = some (.int .i64 1) := ((BelowKit.bcell hb).1 _ 0 zc).trans nc0
  have qzc : w5.heap.size < w6.heap.size := Nat.lt_of_lt_of_le zc hb.size
  have qnc1 : w6.cell? ⟨w5.heap.size, 1, none⟩ = some (.int .i64 1) := ((BelowKit.bcell hb).1 _ 1 zc).trans nc1
  clear qqqqqqcS qqqqna0 qqqqna1 qqnb0 qqnb1 nc0 nc1 qqqqqqzS qqqqza qqzb zc
  have HO7' := Lib.hid (HO6'.out.on hb)
  have HC7' := Lib.hid (BelowKit.bl_trans HC6'.out hb)
  clear hb HO6' HC6'
  have hg : ∀ (x y : Operand) (V : World), (eqGuard .eql 44 x y (.agg #[.int .i64 1, .int .i64 1]) (.agg #[.int .i64 1, .int .i64 1])).run Try.prog V = .ok () V := fun _ _ _ => by kernel_rfl
  have he : ∀ (V : World), (binOp .eql 44 (.agg #[.int .i64 1, .int .i64 1]) (.agg #[.int .i64 1, .int .i64 1])).run Try.prog V = .ok (.bool true) V := fun _ => by kernel_rfl
  go_wp2
  go_ret
  exact ⟨rfl, BelowKit.bl_trans HC7'.out (by (repeat (first | exact Below.refl _ _ | apply BelowKit.bl_alloc | apply BelowKit.bl_drewN | apply BelowKit.bl_drew | (refine BelowKit.bl_set ?_ _ ?_; rotate_left; (first | omega | (simp; omega) | simp)) | (refine BelowKit.bl_trans ?_ (‹Hid (Below _ _ _)›).out))))⟩

/-! ### THE ROW's STEP: WRITTEN OUT: LEAVE IT -/
set_option maxRecDepth 100000 in
theorem lifted (os : Os) (started : os.Started) (H : Type) (enc : TypeId × Value → H) :
    ReturnsInHanded {} Try.checked os 4 .any (Rows.fnRatiosSpec.pre6 enc Try.prog Try.f4 Rows.fnRatiosRow.domain false) (Rows.fnRatiosSpec.post enc Try.prog Try.f4 false true false false) := by
  refine returnsInHanded_of_change (C := Try.checked) own started (by kernel_rfl) Try.func4
    (ChangeSpec.witness6 (enc := enc) (C := Try.checked) false ⟨#[], #[.slice none 0 0], []⟩ 8 (by kernel_rfl) (by kernel_rfl) (by kernel_rfl) (by kernel_rfl)) ?_
  intro W base args ds gs before hval0 hW hcnd _
  have hval : ∀ (j : Nat) t v, Try.f4.params[j]? = some t → args[j]? = some v → Value.okWide Try.prog W .any base t v := hval0
  have hW' := hW
  obtain ⟨p, q, hA0, hV, rfl, hfz, hnd⟩ := hW
  have hA : DataW.TrodAll enc Try.prog W 0 (fun _ => true) true Try.f4.params.toList args.toList ds p := hA0
  rw [Try.params4] at hA hval
  obtain ⟨v0, vs0, d0, ds0, p0, q0, hargs, rfl, rfl, h0, r0⟩ := trodAll_cons hA
  obtain ⟨rfl, rfl, rfl⟩ := trodAll_nil r0
  obtain rfl : args = #[v0] := by cases args; simp_all
  obtain ⟨rfl, rfl⟩ := trodVars_none hV
  obtain ⟨a0, len0, cap0, rfl⟩ := okWide_slice Try.underlying22 (hval 0 22 v0 rfl rfl)
  have k0 := h0
  have lt0 : ∀ x ∈ p0, x.block < W.heap.size := by obtain ⟨m, hm⟩ := k0; exact DataW.trod_lt m _ _ _ hm
  obtain ⟨z0, w0⟩ : ∃ zs, IsRow .u8 W a0 len0 cap0 zs := by
    obtain ⟨fuel, hf⟩ := h0
    rcases open_ints Try.underlying22 Try.underlying5 (by kernel_rfl) hf with ⟨hcs, _⟩ | ⟨x, l, c, zs, hcs, _, hl, hm, hz, _, hcell, hwz⟩
    · simp [Value.cells] at hcs
      obtain ⟨rfl, rfl, rfl⟩ := hcs
      exact ⟨[], .inl ⟨rfl, rfl, rfl, rfl⟩⟩
    · simp [Value.cells] at hcs
      obtain ⟨rfl, rfl, rfl⟩ := hcs
      exact ⟨zs, .inr ⟨_, rfl, hl, hm, by simpa using hz, hcell, hwz⟩⟩
  clear hA0 hval0
  refine (walk a0 len0 cap0 z0 W w0).mono fun e W' ⟨he, bel⟩ => ?_
  subst he
  exact ⟨_, rfl, _, _, _, [], _, [], hW', trodAll_mk1 (shut_bool Try.underlying4 _), (trodAll_cons_mk (Below.trod laidOut (by kernel_rfl) (of_decide_eq_true (by kernel_rfl)) k0 bel lt0) trodAll_mk0), rfl, bel.frame _, fun h => by cases h⟩

theorem over : Rows.fnRatiosRow.holds Try.pinned (OpenSpec.ofChange Rows.fnRatiosSpec) :=
  OpenClaim.holds_of_wide 4 Try.f4 rfl rfl rfl rfl rfl rfl rfl ⟨rfl, rfl, rfl, rfl, rfl⟩ rfl rfl rfl rfl rfl (by kernel_rfl) Try.func4 (by kernel_rfl)
    (of_decide_eq_true (by kernel_rfl)) (by unfold Func.isWrapper; first | (rw [if_pos (by decide +kernel)]; kernel_rfl) | (rw [if_neg (by decide +kernel)]; exact ⟨rfl, rfl⟩))
    (fun os started H enc _ => lifted os started H enc)

theorem proved : Rows.FnRatiosSaid := over
#print axioms proved
end Go.Proofs.Ytpgcdelmfbegpaa.fnRatios
