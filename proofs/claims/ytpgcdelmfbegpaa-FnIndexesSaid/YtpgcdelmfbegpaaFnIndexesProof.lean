/- Proves the given statement of the law FnIndexes: for every input that the row lets in, the law's Go function returns true and every argument reads as before; no condition of mine. -/
import Derived.Test.YtpgcdelmfbegpaaDrawSer
import Derived.Test.YtpgcdelmfbegpaaDrawRow
import Derived.Test.YtpgcdelmfbegpaaPubI
import Derived.Test.YtpgcdelmfbegpaaPubS
import Derived.Test.YtpgcdelmfbegpaaIdxI
import Derived.Test.YtpgcdelmfbegpaaIdxS
import Derived.Test.YtpgcdelmfbegpaaRevI
import Derived.Test.YtpgcdelmfbegpaaSerI
import Derived.Test.YtpgcdelmfbegpaaPointLaws
import Derived.Test.YtpgcdelmfbegpaaBelowKit
import Derived.Test.YtpgcdelmfbegpaaFresh
import Derived.Test.YtpgcdelmfbegpaaGrown
import Derived.Test.YtpgcdelmfbegpaaTInt
import Derived.Test.YtpgcdelmfbegpaaRows
import Derived.WalkKit
import Derived.ProofKit
import Derived.OpenShut
import Derived.ShutString
import Derived.ChangeOld
import Derived.Below
namespace Go.Proofs.Ytpgcdelmfbegpaa.fnIndexes
open Go.ChangeShapes Go.WideShapes Go.ChangeAt Go.RowKit
open Go.ChangeMaps (open_string shut_string)
set_option linter.unusedVariables false

theorem own : ownKnob Try.prog.godebug = none := by kernel_rfl
theorem laidOut : laidOutB Try.prog = true := by kernel_rfl

/-- WHAT THE WALK IS TOLD OF A SLICE OF INTEGERS THAT CAME IN: it is nil; or it leads to a row of 'cap' cells, the numbers 'zs' (the first 'len' are its elements, the rest its spare room), each fitting its kind. -/
def IsRow (k : IntKind) (w : World) (a : Option Addr) (len cap : Nat) (zs : List Int) : Prop :=
  (a = none ∧ len = 0 ∧ cap = 0 ∧ zs = []) ∨
  ∃ x, a = some x ∧ len ≤ cap ∧ cap ≤ maxLen ∧ zs.length = cap ∧ (∀ i, i < zs.length → w.cell? (x.add i) = some (.int k (zs.getD i 0))) ∧ ∀ n ∈ zs, (Lit.int k n).wf = true

/-! ### STEP 1: THE WALK: the Go text returns true, AND WRITES NOTHING THAT WAS THERE: 'Below w.heap.size w w'' (Derived/Below.lean: '.refl', '.alloc', '.drew', '.setCell' at a new block, '.trans'). Open each 'IsRow' by 'rcases' AHEAD of 'go_enter'; part every test ahead of the walk. -/
set_option maxHeartbeats 8000000 in
set_option maxRecDepth 100000 in
theorem walk (a0 : Option Addr) (len0 cap0 : Nat) (z0 : List Int) (w : World) (w0 : IsRow .u8 w a0 len0 cap0 z0) :
    Calls Try.prog 3 #[.slice a0 len0 cap0] w fun e w' => e = .returned (.bool true) ∧ Below w.heap.size w w' := by
  obtain ⟨hcode, hs⟩ := CurKit.code_at w0
  clear w0
  have HK := Lib.hid hcode
  have HS := Lib.hid hs
  clear hcode
  unfold maxLen at hs
  by_cases hbig : 1048576 < len0
  · go_enter Try.func3, Try.ntmps3
    go_wp2
    go_ret
    exact ⟨rfl, Below.refl _ _⟩
  go_enter Try.func3, Try.ntmps3
  go_wp2_with (go_at_call 10; go_in)
  refine (DrawSer.draw_c _ a0 len0 cap0 HK.out HS.out).mono ?_
  rintro e w1 ⟨l, p, c, hd, rfl, ho, hb⟩
  obtain ⟨m, hm⟩ : ∃ m, l.length = m := ⟨_, rfl⟩
  rw [hm] at ho ⊢
  have hm9 : m ≤ 9 := by rw [← hm]; exact hd.len
  have HM := Lib.hid hm
  have HD := Lib.hid hd
  have HO1 := Lib.hid ho
  have HC1 := Lib.hid hb
  clear hm hd ho hb
  go_wp2_with fail
  have hb12 : Below w1.heap.size w1 (w1.alloc (.cells #[.slice p m c] 26)) := by (repeat (first | exact Below.refl _ _ | apply BelowKit.bl_alloc | apply BelowKit.bl_drewN | apply BelowKit.bl_drew | (refine BelowKit.bl_set ?_ _ ?_; rotate_left; (first | omega | (simp; omega) | simp)) | (refine BelowKit.bl_trans ?_ (‹Hid (Below _ _ _)›).out)))
  refine (DrawRow.places_c _ a0 len0 cap0 (fun j hj => by obtain ⟨blk, off, n, e, h1, h2, h3⟩ := HK.out j hj; exact ⟨blk, off, n, e, by have := HC1.out.size; simp; omega, ((BelowKit.bcell (BelowKit.bl_trans HC1.out hb12)).1 _ _ h1).trans h2, h3⟩) HS.out).mono ?_
  rintro e w2 ⟨l2, a2, cap2, hl2, hin, rfl, ho2, hb⟩
  obtain ⟨g2, rfl, _, hg2, c20, _⟩ := ho2.at 0 (by omega)
  have c21 := (ho2.cell 1 (by omega)).1
  have i0 := hin.get 0 (by omega)
  have i1 := hin.get 1 (by omega)
  obtain ⟨t0, ht0⟩ : ∃ t, l2[0] = t := ⟨_, rfl⟩
  obtain ⟨t1, ht1⟩ : ∃ t, l2[1] = t := ⟨_, rfl⟩
  rw [ht0] at c20 i0
  rw [ht1] at c21 i1
  change _ = some (Value.int .i64 t0) at c20
  change _ = some (Value.int .i64 t1) at c21
  obtain ⟨i00, i01⟩ := i0
  obtain ⟨i10, i11⟩ := i1
  have cS : w2.cell? ⟨w1.heap.size, 0, none⟩ = some (.slice p m c) := ((BelowKit.bcell hb).1 _ _ (by simp)).trans (by simp [go_sem])
  have zS : w1.heap.size < w2.heap.size := by have := hb.size; simp at this; omega
  have hb2 := BelowKit.bl_trans hb12 hb
  have HO2 := Lib.hid (HO1.out.on hb2)
  have HC2 := Lib.hid (BelowKit.bl_trans HC1.out hb2)
  clear ht0 ht1 hin hl2 ho2 hb hb12 hb2 HO1 HC1
  go_wp2_with fail
  have gS := Grown.G.keep cS zS
  have g0 := Grown.G.keep c20 hg2
  have g1 := Grown.G.keep c21 hg2
  refine Fresh.wp_region_store (fun k => match k with | 11 => .grow | 12 => .write | _ => .quiet)
    (fun k v => match k with
      | 11 => (∃ g : Nat, w2.heap.size ≤ g ∧ v = .pointer (some ⟨g, 0, none⟩))
      | _ => v = undef)
    (fun k v s w1 => match k with
      | 11 => (w2.heap.size ≤ s ∧ v = .pointer (some ⟨s, 0, none⟩) ∧ w1.heap.size = s + 1 ∧ w1.cell? ⟨s, 0, none⟩ = some (.int .i64 0) ∧ w1.frozen? ⟨s, 0, none⟩ = false ∧ w1.cell? ⟨s, 1, none⟩ = some (.int .i64 0) ∧ w1.frozen? ⟨s, 1, none⟩ = false ∧ w1.cell? ⟨s, 2, none⟩ = some (.int .i64 0) ∧ w1.frozen? ⟨s, 2, none⟩ = false)
      | _ => True)
    12 (by kernel_rfl) (by kernel_rfl) (by kernel_rfl) rfl (of_decide_eq_true (by kernel_rfl)) (by kernel_rfl) ?_
  repeat (refine Fresh.wpG_q rfl ?_; go_big_quiet_step (fail); refine wpQuiet_nil ?_)
  refine Fresh.wpG_own rfl ⟨_, w2.heap.size, Nat.le_refl _, rfl⟩ (fun X _ => ?_) ?_
  · go_simp
    have hX := X.bel.size
    exact ⟨_, _, ⟨rfl, rfl⟩, by (repeat (first | exact Below.refl _ _ | apply BelowKit.bl_alloc | apply BelowKit.bl_drewN | apply BelowKit.bl_drew | (refine BelowKit.bl_set ?_ _ ?_; rotate_left; (first | omega | (simp; omega) | simp)) | (refine BelowKit.bl_trans ?_ (‹Hid (Below _ _ _)›).out))), ⟨_, hX, rfl⟩, hX, rfl, by simp, by simp [go_sem], by simp [go_sem], by simp [go_sem], by simp [go_sem], by simp [go_sem], by simp [go_sem]⟩
  rintro v ⟨g7, hg7, rfl⟩
  go_big_quiet_step (fail)
  refine wpQuiet_nil ?_
  refine Fresh.wpG_store rfl rfl (fun X hd => ?_) ?_
  · obtain ⟨_, _, w7, ⟨_, eg, hgs, hc0, hf0, hc1, hf1, hc2, hf2⟩, _, hb7⟩ := hd ⟨11, .data⟩ (by simp) rfl rfl
    have eg' : (Value.pointer (some ⟨g7, 0, none⟩)) = .pointer (some ⟨_, 0, none⟩) := eg
    cases eg'
    have q0 := ((BelowKit.bcell hb7).1 g7 0 (by omega)).trans hc0
    have r0 := ((BelowKit.bcell hb7).2 g7 0 (by omega)).trans hf0
    have q1 := ((BelowKit.bcell hb7).1 g7 1 (by omega)).trans hc1
    have r1 := ((BelowKit.bcell hb7).2 g7 1 (by omega)).trans hf1
    have q2 := ((BelowKit.bcell hb7).1 g7 2 (by omega)).trans hc2
    have r2 := ((BelowKit.bcell hb7).2 g7 2 (by omega)).trans hf2
    refine ⟨⟨((X.w.setCell ⟨g7, 0, none⟩ (.int .i64 (t0 % 100))).setCell ⟨g7, 1, none⟩ (.int .i64 130)).setCell ⟨g7, 2, none⟩ (.int .i64 (9000 + t1 % 4000)), BelowKit.bl_set (BelowKit.bl_set (BelowKit.bl_set (X.bel) (a := ⟨g7, 0, none⟩) _ hg7) (a := ⟨g7, 1, none⟩) _ hg7) (a := ⟨g7, 2, none⟩) _ hg7⟩, ?_⟩
    go_simp
    rfl
  refine Fresh.wpG_nil fun X1 X sN tN hk hrun => ?_
  obtain ⟨⟨w7, ⟨hlo7, eg, hgs, hc0, hf0, hc1, hf1, hc2, hf2⟩, ht7, hb7⟩, _, _⟩ := hk.1 11 (by decide) rfl
  have eg' : (Value.pointer (some ⟨g7, 0, none⟩)) = .pointer (some ⟨sN 11, 0, none⟩) := eg
  obtain rfl : g7 = sN 11 := by simpa using eg'
  obtain ⟨g7, hg7e⟩ : ∃ g, sN 11 = g := ⟨_, rfl⟩
  have q0 := ((BelowKit.bcell hb7).1 (sN 11) 0 (by omega)).trans hc0
  have r0 := ((BelowKit.bcell hb7).2 (sN 11) 0 (by omega)).trans hf0
  have q1 := ((BelowKit.bcell hb7).1 (sN 11) 1 (by omega)).trans hc1
  have r1 := ((BelowKit.bcell hb7).2 (sN 11) 1 (by omega)).trans hf1
  have q2 := ((BelowKit.bcell hb7).1 (sN 11) 2 (by omega)).trans hc2
  have r2 := ((BelowKit.bcell hb7).2 (sN 11) 2 (by omega)).trans hf2
  have hX : X.w = ((X1.w.setCell ⟨sN 11, 0, none⟩ (.int .i64 (t0 % 100))).setCell ⟨sN 11, 1, none⟩ (.int .i64 130)).setCell ⟨sN 11, 2, none⟩ (.int .i64 (9000 + t1 % 4000)) := by
    simp [go_sem, q0, q1, q2, r0, r1, r2] at hrun
    exact hrun.symm
  have zf : sN 11 < X.w.heap.size := by have := hb7.size; rw [hX]; simp; omega
  have d0 : X.w.cell? ⟨sN 11, 0, none⟩ = some (.int .i64 (t0 % 100)) := by rw [hX]; simp [go_sem, q0]
  have d1 : X.w.cell? ⟨sN 11, 1, none⟩ = some (.int .i64 130) := by rw [hX]; simp [go_sem, q1]
  have d2 : X.w.cell? ⟨sN 11, 2, none⟩ = some (.int .i64 (9000 + t1 % 4000)) := by rw [hX]; simp [go_sem, q2]
  have cSX := gS X
  have hbX := X.bel
  obtain ⟨W, hW⟩ : ∃ W : World, W = X.w := ⟨_, rfl⟩
  rw [← hW] at zf d0 d1 d2 cSX hbX ⊢
  rw [hg7e] at zf d0 d1 d2 ⊢
  clear hX hk hrun gS g0 g1 hc0 hc1 hc2 hf0 hf1 hf2 q0 q1 q2 r0 r1 r2 eg eg' ht7 hlo7 hb7 hgs c20 c21 hg7 hg2 hW hg7e
  have zS2 : w1.heap.size < W.heap.size := Nat.lt_of_lt_of_le zS hbX.size
  have HO3 := Lib.hid (HO2.out.on hbX)
  have HC3 := Lib.hid (BelowKit.bl_trans HC2.out hbX)
  clear HO2 HC2 hbX cS zS
  obtain ⟨M, hM⟩ : ∃ k, t0 % 100 = k := ⟨_, rfl⟩
  obtain ⟨V, hV⟩ : ∃ k, 9000 + t1 % 4000 = k := ⟨_, rfl⟩
  have k1 : 0 ≤ M := by omega
  have k2 : M ≤ 99 := by omega
  have k3 : 9000 ≤ V := by omega
  have k4 : V ≤ 12999 := by omega
  rw [hM] at d0
  rw [hV] at d2
  clear hM hV i00 i01 i10 i11
  have hok : PointMath.okS (l ++ [⟨M, 130, V⟩]) = true := PointMath.okS_yes ((HD.out.ok (by omega)).snoc (by rw [HM.out]; omega) (PointMath.okP_yes ⟨k1, by simp; omega, by simp, by simp; omega, by simp; omega⟩)
    (fun y hy => by obtain ⟨n, _, h2, h3⟩ := HD.out.each y hy; rw [h3.k]; show n ≤ 130; omega))
  have HOK := Lib.hid hok
  have HA := Lib.hid (PointMath.added_yes hok)
  have HL1 := Lib.hid (show (l ++ [(⟨M, 130, V⟩ : TPoint.El)]).length = m + 1 by simp [HM.out])
  clear hok HD
  go_wp2_with fail
  refine (PubI.pub_i _ p m c l ⟨M, 130, V⟩ HM.out (by omega) (RowN.reads_own TPoint.fw HO3.out)).mono ?_
  rintro e w3 ⟨p3, c3, rfl, ho3, hb⟩
  rw [HA.out] at ho3 ⊢
  simp only [HL1.out] at ho3 ⊢
  have e0 := ((BelowKit.bcell hb).1 _ 0 zf).trans d0
  have e2 := ((BelowKit.bcell hb).1 _ 2 zf).trans d2
  have eS := ((BelowKit.bcell hb).1 _ 0 zS2).trans cSX
  have zf3 : g7 < w3.heap.size := Nat.lt_of_lt_of_le zf hb.size
  have zS3 : w1.heap.size < w3.heap.size := Nat.lt_of_lt_of_le zS2 hb.size
  have HO4 := Lib.hid (HO3.out.on hb)
  have HP4 := Lib.hid ho3
  have HC4 := Lib.hid (BelowKit.bl_trans HC3.out hb)
  clear d0 d1 d2 cSX zf zS2 hb ho3 HO3 HC3 HA
  go_wp2_with fail
  obtain ⟨U, hU⟩ : ∃ U : World, U = w3.alloc (.cells #[.slice p3 (m + 1) c3] 26) := ⟨_, rfl⟩
  rw [← hU]
  have hbU : Below w3.heap.size w3 U := by rw [hU]; (repeat (first | exact Below.refl _ _ | apply BelowKit.bl_alloc | apply BelowKit.bl_drewN | apply BelowKit.bl_drew | (refine BelowKit.bl_set ?_ _ ?_; rotate_left; (first | omega | (simp; omega) | simp)) | (refine BelowKit.bl_trans ?_ (‹Hid (Below _ _ _)›).out)))
  have cN : U.cell? ⟨w3.heap.size, 0, none⟩ = some (.slice p3 (m + 1) c3) := by rw [hU]; simp [go_sem]
  have zN : w3.heap.size < U.heap.size := by rw [hU]; simp
  have cc0 := ((BelowKit.bcell hbU).1 _ 0 zf3).trans e0
  have cc2 := ((BelowKit.bcell hbU).1 _ 2 zf3).trans e2
  have ccS := ((BelowKit.bcell hbU).1 _ 0 zS3).trans eS
  have zfU : g7 < U.heap.size := by omega
  have zSU : w1.heap.size < U.heap.size := by omega
  have HOU := Lib.hid (HO4.out.on hbU)
  have HPU := Lib.hid (HP4.out.on hbU)
  have HCU := Lib.hid (BelowKit.bl_trans HC4.out hbU)
  clear hU hbU e0 e2 eS zf3 zS3 HO4 HP4 HC4
  go_loopw [9] (fun mo wr => ∃ j : Nat, j ≤ 37 ∧ mo = .int .i64 (3 * (j : Int)) ∧ Hid (Below U.heap.size U wr)) (fun mo _ => 111 - (intOf mo).toNat)
  case atStart => exact ⟨0, by omega, rfl, Lib.hid (Below.refl _ _)⟩
  case round =>
    obtain ⟨j, hj, rfl, HB⟩ := hrel
    have q0 := ((BelowKit.bcell HB.out).1 _ 0 zSU).trans ccS
    have q1 := ((BelowKit.bcell HB.out).1 _ 0 zN).trans cN
    have z1 := Nat.lt_of_lt_of_le zSU HB.out.size
    have z2 := Nat.lt_of_lt_of_le zN HB.out.size
    by_cases hlt : j < 37
    · have dK : decide (3 * (j : Int) < 110) = true := decide_eq_true (by omega)
      obtain ⟨⟨y, o⟩, hy⟩ : ∃ V, PointMath.idx (3 * (j : Int)) 129 l = V := ⟨_, rfl⟩
      have HY := Lib.hid hy
      have HV := Lib.hid ((PointLaws.idx_late (m := 3 * (j : Int)) (kn := 129) (l := l) (x := ⟨M, 130, V⟩) (by simp)).trans hy)
      clear hy
      go_wp2_with fail
      refine (IdxI.idx_i _ p3 (m + 1) c3 (l ++ [⟨M, 130, V⟩]) (3 * (j : Int)) 129 HL1.out (by omega) (RowN.reads_own TPoint.fw (HPU.out.on HB.out))).mono ?_
      rintro e w5 ⟨rfl, hb⟩
      rw [HV.out]
      have q2 := ((BelowKit.bcell hb).1 _ 0 z1).trans q0
      have HB3 := Lib.hid (BelowKit.bl_trans HB.out hb)
      have z3 := Nat.lt_of_lt_of_le z1 hb.size
      clear hb q0 q1 z1 z2 HB
      go_wp2_with fail
      refine (IdxS.idx_s _ p m c l (3 * (j : Int)) 129 HM.out (by omega) (RowN.reads_own TPoint.fw (HOU.out.on HB3.out))).mono ?_
      rintro e w6 ⟨rfl, hb⟩
      rw [HY.out]
      have HB4 := Lib.hid (BelowKit.bl_trans HB3.out hb)
      clear hb q2 z3 HB3
      cases o with
      | false =>
        go_wp2
        go_roundw
        case rel => exact ⟨j + 1, by omega, by go_num, HB4⟩
        case measure => simp [intOf]; omega
      | true =>
        go_wp2
        go_roundw
        case rel => exact ⟨j + 1, by omega, by go_num, HB4⟩
        case measure => simp [intOf]; omega
    · obtain rfl : j = 37 := by omega
      have s0 := ((BelowKit.bcell HB.out).1 _ 0 zfU).trans cc0
      have s2 := ((BelowKit.bcell HB.out).1 _ 2 zfU).trans cc2
      have z4 := Nat.lt_of_lt_of_le zfU HB.out.size
      clear q0 z1
      have HI := Lib.hid (PointLaws.idx_last (kn := 130) (l := l) (x := ⟨M, 130, V⟩) (Int.le_refl _))
      go_wp2_with fail
      refine (IdxI.idx_i _ p3 (m + 1) c3 (l ++ [⟨M, 130, V⟩]) M 130 HL1.out (by omega) (RowN.reads_own TPoint.fw (HPU.out.on HB.out))).mono ?_
      rintro e w5 ⟨rfl, hb⟩
      rw [show PointMath.idx M 130 (l ++ [⟨M, 130, V⟩]) = (V, true) from HI.out]
      have q2 := ((BelowKit.bcell hb).1 _ 0 z2).trans q1
      have s0' := ((BelowKit.bcell hb).1 _ 0 z4).trans s0
      have s2' := ((BelowKit.bcell hb).1 _ 2 z4).trans s2
      have z2' := Nat.lt_of_lt_of_le z2 hb.size
      have z4' := Nat.lt_of_lt_of_le z4 hb.size
      have HB3 := Lib.hid (BelowKit.bl_trans HB.out hb)
      clear hb q1 s0 s2 z2 z4 HB HI
      obtain ⟨r, hr⟩ : ∃ r, PointMath.revs M l = r := ⟨_, rfl⟩
      have HR := Lib.hid ((PointLaws.revs_last (l := l) (x := ⟨M, 130, V⟩)).trans (by rw [show (⟨M, 130, V⟩ : TPoint.El).Month = M from rfl, hr]))
      have hrl : r.length ≤ 9 := by rw [← hr]; exact Nat.le_trans (PointMath.revs_len _ _) (by rw [HM.out]; omega)
      clear hr
      go_wp2_with fail
      refine (RevI.rev_i _ p3 (m + 1) c3 (l ++ [⟨M, 130, V⟩]) M HL1.out (by omega) (RowN.reads_own TPoint.fw (HPU.out.on HB3.out))).mono ?_
      rintro e w6 ⟨p6, c6, rfl, ho6, hb⟩
      rw [show PointMath.revs M (l ++ [⟨M, 130, V⟩]) = r ++ [V] from HR.out] at ho6 ⊢
      have hn : (r ++ [V]).length = r.length + 1 := by simp
      rw [hn] at ho6 ⊢
      obtain ⟨gR, rfl, x1, hgR, x2, x3⟩ := (TInt.own_of ho6).at r.length (by omega)
      clear x1 x2 x3
      have t2 := ((TInt.own_of ho6).cell r.length (by omega)).1
      rw [show (r ++ [V])[r.length]'(by omega) = V by simp] at t2
      change _ = some (Value.int .i64 V) at t2
      have q3 := ((BelowKit.bcell hb).1 _ 0 z2').trans q2
      have s2 := ((BelowKit.bcell hb).1 _ 2 z4').trans s2'
      have z2 := Nat.lt_of_lt_of_le z2' hb.size
      have z4 := Nat.lt_of_lt_of_le z4' hb.size
      have HB4 := Lib.hid (BelowKit.bl_trans HB3.out hb)
      obtain ⟨n, hnn⟩ : ∃ n, r.length = n := ⟨_, rfl⟩
      obtain ⟨N, hN⟩ : ∃ N, r.length + 1 = N := ⟨_, rfl⟩
      rw [hN] at ⊢
      rw [hnn] at t2 hrl
      have hN2 : N = n + 1 := by omega
      clear hn hb q2 s0' s2' z2' z4' ho6 HB3 HR hnn hN
      have W1 : IntKind.i64.wrap ((N : Int) - 1) = (n : Int) := by rw [IntWalk.i64_in _ (by omega)]; omega
      have dN : decide ((1 : Int) ≤ (N : Int)) = true := decide_eq_true (by omega)
      have dN1 : decide (1 ≤ N) = true := decide_eq_true (by omega)
      have dN2 : decide (0 < N) = true := decide_eq_true (by omega)
      have b3 : (0 : Int) ≤ (n : Int) := by omega
      have b4 : (n : Int) < (N : Int) := by omega
      clear hN2
      have dV : (V == V) = true := beq_self_eq_true V
      have hmB : m + 1 ≤ 1099511627776 := by omega
      go_wp2_with fail
      have g0 := Grown.G.keep q3 z2
      have g2 := Grown.G.keep s2 z4
      have gT := Grown.G.keep t2 hgR
      refine Grown.wp_region_grown (by kernel_rfl) (by kernel_rfl) ?_
      repeat (go_big_quiet_step ((go_at_call 17; with_reducible exact SerI.ser_g HOK.out HL1.out hmB (HPU.out.on HB4.out))))
      refine wpQuiet_nil ?_
      rintro w8 ⟨X, rfl⟩
      have HB5 := Lib.hid (BelowKit.bl_trans HCU.out (BelowKit.bl_trans HB4.out X.bel))
      clear g0 g2 gT
      go_wp2
      go_ret
      exact ⟨rfl, HB5.out⟩

/-! ### THE ROW's STEP: WRITTEN OUT: LEAVE IT -/
set_option maxRecDepth 100000 in
theorem lifted (os : Os) (started : os.Started) (H : Type) (enc : TypeId × Value → H) :
    ReturnsInHanded {} Try.checked os 3 .any (Rows.fnIndexesSpec.pre6 enc Try.prog Try.f3 Rows.fnIndexesRow.domain false) (Rows.fnIndexesSpec.post enc Try.prog Try.f3 false true false false) := by
  refine returnsInHanded_of_change (C := Try.checked) own started (by kernel_rfl) Try.func3
    (ChangeSpec.witness6 (enc := enc) (C := Try.checked) false ⟨#[], #[.slice none 0 0], []⟩ 8 (by kernel_rfl) (by kernel_rfl) (by kernel_rfl) (by kernel_rfl)) ?_
  intro W base args ds gs before hval0 hW hcnd _
  have hval : ∀ (j : Nat) t v, Try.f3.params[j]? = some t → args[j]? = some v → Value.okWide Try.prog W .any base t v := hval0
  have hW' := hW
  obtain ⟨p, q, hA0, hV, rfl, hfz, hnd⟩ := hW
  have hA : DataW.TrodAll enc Try.prog W 0 (fun _ => true) true Try.f3.params.toList args.toList ds p := hA0
  rw [Try.params3] at hA hval
  obtain ⟨v0, vs0, d0, ds0, p0, q0, hargs, rfl, rfl, h0, r0⟩ := trodAll_cons hA
  obtain ⟨rfl, rfl, rfl⟩ := trodAll_nil r0
  obtain rfl : args = #[v0] := by cases args; simp_all
  obtain ⟨rfl, rfl⟩ := trodVars_none hV
  obtain ⟨a0, len0, cap0, rfl⟩ := okWide_slice Try.underlying22 (hval 0 22 v0 rfl rfl)
  have k0 := h0
  have lt0 : ∀ x ∈ p0, x.block < W.heap.size := by obtain ⟨m, hm⟩ := k0; exact DataW.trod_lt m _ _ _ hm
  obtain ⟨z0, w0⟩ : ∃ zs, IsRow .u8 W a0 len0 cap0 zs := by
    obtain ⟨fuel, hf⟩ := h0
    rcases open_ints Try.underlying22 Try.underlying5 (by kernel_rfl) hf with ⟨hcs, _⟩ | ⟨x, l, c, zs, hcs, _, hl, hm, hz, _, hcell, hwz⟩
    · simp [Value.cells] at hcs
      obtain ⟨rfl, rfl, rfl⟩ := hcs
      exact ⟨[], .inl ⟨rfl, rfl, rfl, rfl⟩⟩
    · simp [Value.cells] at hcs
      obtain ⟨rfl, rfl, rfl⟩ := hcs
      exact ⟨zs, .inr ⟨_, rfl, hl, hm, by simpa using hz, hcell, hwz⟩⟩
  clear hA0 hval0
  refine (walk a0 len0 cap0 z0 W w0).mono fun e W' ⟨he, bel⟩ => ?_
  subst he
  exact ⟨_, rfl, _, _, _, [], _, [], hW', trodAll_mk1 (shut_bool Try.underlying4 _), (trodAll_cons_mk (Below.trod laidOut (by kernel_rfl) (of_decide_eq_true (by kernel_rfl)) k0 bel lt0) trodAll_mk0), rfl, bel.frame _, fun h => by cases h⟩

theorem over : Rows.fnIndexesRow.holds Try.pinned (OpenSpec.ofChange Rows.fnIndexesSpec) :=
  OpenClaim.holds_of_wide 3 Try.f3 rfl rfl rfl rfl rfl rfl rfl ⟨rfl, rfl, rfl, rfl, rfl⟩ rfl rfl rfl rfl rfl (by kernel_rfl) Try.func3 (by kernel_rfl)
    (of_decide_eq_true (by kernel_rfl)) (by unfold Func.isWrapper; first | (rw [if_pos (by decide +kernel)]; kernel_rfl) | (rw [if_neg (by decide +kernel)]; exact ⟨rfl, rfl⟩))
    (fun os started H enc _ => lifted os started H enc)

theorem proved : Rows.FnIndexesSaid := over
#print axioms proved
end Go.Proofs.Ytpgcdelmfbegpaa.fnIndexes
