/- Proves the given statement of the law FnLastFact: for every input that the row lets in, the law's Go function returns true and every argument reads as before; no condition of mine. -/
import Derived.Test.YthilfkcebbnoiaaDrawStore
import Derived.Test.YthilfkcebbnoiaaDrawRow
import Derived.Test.YthilfkcebbnoiaaFactLaws
import Derived.Test.YthilfkcebbnoiaaAddFact
import Derived.Test.YthilfkcebbnoiaaValueAt
import Derived.Test.YthilfkcebbnoiaaBelowKit
import Derived.Test.YthilfkcebbnoiaaFresh
import Derived.Test.YthilfkcebbnoiaaGrown
import Derived.Test.YthilfkcebbnoiaaRows
import Derived.WalkKit
import Derived.ProofKit
import Derived.OpenShut
import Derived.ShutString
import Derived.ChangeOld
import Derived.Below
namespace Go.Proofs.Ythilfkcebbnoiaa.fnLastFact
open Go.ChangeShapes Go.WideShapes Go.ChangeAt Go.RowKit
open Go.ChangeMaps (open_string shut_string)
set_option linter.unusedVariables false

theorem own : ownKnob Try.prog.godebug = none := by kernel_rfl
theorem laidOut : laidOutB Try.prog = true := by kernel_rfl

/-- WHAT THE WALK IS TOLD OF A SLICE OF INTEGERS THAT CAME IN: it is nil; or it leads to a row of 'cap' cells, the numbers 'zs' (the first 'len' are its elements, the rest its spare room), each fitting its kind. -/
def IsRow (k : IntKind) (w : World) (a : Option Addr) (len cap : Nat) (zs : List Int) : Prop :=
  (a = none ∧ len = 0 ∧ cap = 0 ∧ zs = []) ∨
  ∃ x, a = some x ∧ len ≤ cap ∧ cap ≤ maxLen ∧ zs.length = cap ∧ (∀ i, i < zs.length → w.cell? (x.add i) = some (.int k (zs.getD i 0))) ∧ ∀ n ∈ zs, (Lit.int k n).wf = true

/-! ### STEP 1: THE WALK: the Go text returns true, AND WRITES NOTHING THAT WAS THERE: 'Below w.heap.size w w'' (Derived/Below.lean: '.refl', '.alloc', '.drew', '.setCell' at a new block, '.trans'). Open each 'IsRow' by 'rcases' AHEAD of 'go_enter'; part every test ahead of the walk. -/
set_option maxHeartbeats 4000000 in
set_option maxRecDepth 100000 in
theorem walk (a0 : Option Addr) (len0 cap0 : Nat) (z0 : List Int) (w : World) (w0 : IsRow .u8 w a0 len0 cap0 z0) :
    Calls Try.prog 4 #[.slice a0 len0 cap0] w fun e w' => e = .returned (.bool true) ∧ Below w.heap.size w w' := by
  obtain ⟨hcode, hs⟩ := CurKit.code_at w0
  clear w0
  have HK := Lib.hid hcode
  have HS := Lib.hid hs
  clear hcode
  unfold maxLen at hs
  by_cases hbig : 1048576 < len0
  · go_enter Try.func4, Try.ntmps4
    go_wp2
    go_ret
    exact ⟨rfl, Below.refl _ _⟩
  go_enter Try.func4, Try.ntmps4
  go_wp2_with (go_at_call 12; go_in)
  refine (DrawStore.draw_c _ a0 len0 cap0 HK.out HS.out).mono ?_
  rintro e w1 ⟨l, p, c, hd, rfl, ho, hb⟩
  obtain ⟨m, hm⟩ : ∃ m, l.length = m := ⟨_, rfl⟩
  rw [hm] at ho ⊢
  have hm9 : m ≤ 9 := by rw [← hm]; exact hd.len
  have HM := Lib.hid hm
  have HD := Lib.hid hd
  have HO1 := Lib.hid ho
  have HC1 := Lib.hid hb
  clear hm hd ho hb
  go_wp2_with fail
  have hb12 : Below w1.heap.size w1 (w1.alloc (.cells #[.slice p m c] 26)) := by (repeat (first | exact Below.refl _ _ | apply BelowKit.bl_alloc | apply BelowKit.bl_drewN | apply BelowKit.bl_drew | (refine BelowKit.bl_set ?_ _ ?_; rotate_left; (first | omega | (simp; omega) | simp)) | (refine BelowKit.bl_trans ?_ (‹Hid (Below _ _ _)›).out)))
  refine (DrawRow.places_c _ a0 len0 cap0 (fun j hj => by obtain ⟨blk, off, n, e, h1, h2, h3⟩ := HK.out j hj; exact ⟨blk, off, n, e, by have := HC1.out.size; simp; omega, ((BelowKit.bcell (BelowKit.bl_trans HC1.out hb12)).1 _ _ h1).trans h2, h3⟩) HS.out).mono ?_
  rintro e w2 ⟨l2, a2, cap2, hl2, hin, rfl, ho2, hb⟩
  obtain ⟨g2, rfl, _, hg2, c20, _⟩ := ho2.at 0 (by omega)
  have c21 := (ho2.cell 1 (by omega)).1
  have c22 := (ho2.cell 2 (by omega)).1
  have c23 := (ho2.cell 3 (by omega)).1
  have i0 := hin.get 0 (by omega)
  have i1 := hin.get 1 (by omega)
  have i2 := hin.get 2 (by omega)
  have i3 := hin.get 3 (by omega)
  obtain ⟨t0, ht0⟩ : ∃ t, l2[0] = t := ⟨_, rfl⟩
  obtain ⟨t1, ht1⟩ : ∃ t, l2[1] = t := ⟨_, rfl⟩
  obtain ⟨t2, ht2⟩ : ∃ t, l2[2] = t := ⟨_, rfl⟩
  obtain ⟨t3, ht3⟩ : ∃ t, l2[3] = t := ⟨_, rfl⟩
  rw [ht0] at c20 i0
  rw [ht1] at c21 i1
  rw [ht2] at c22 i2
  rw [ht3] at c23 i3
  change _ = some (Value.int .i64 t0) at c20
  change _ = some (Value.int .i64 t1) at c21
  change _ = some (Value.int .i64 t2) at c22
  change _ = some (Value.int .i64 t3) at c23
  obtain ⟨i00, i01⟩ := i0
  obtain ⟨i10, i11⟩ := i1
  obtain ⟨i20, i21⟩ := i2
  obtain ⟨i30, i31⟩ := i3
  have cS : w2.cell? ⟨w1.heap.size, 0, none⟩ = some (.slice p m c) := ((BelowKit.bcell hb).1 _ _ (by simp)).trans (by simp [go_sem])
  have zS : w1.heap.size < w2.heap.size := by have := hb.size; simp at this; omega
  have hb2 := BelowKit.bl_trans hb12 hb
  have HO2 := Lib.hid (HO1.out.on hb2)
  have HC2 := Lib.hid (BelowKit.bl_trans HC1.out hb2)
  clear ht0 ht1 ht2 ht3 hin hl2 ho2 hb hb12 hb2 HO1 HC1
  go_wp2_with fail
  have gS := Grown.G.keep cS zS
  have g0 := Grown.G.keep c20 hg2
  have g1 := Grown.G.keep c21 hg2
  have g2' := Grown.G.keep c22 hg2
  have g3 := Grown.G.keep c23 hg2
  refine Fresh.wp_region_store (fun k => match k with | 23 => .grow | 24 => .write | _ => .quiet)
    (fun k v => match k with
      | 23 => (∃ g : Nat, w2.heap.size ≤ g ∧ v = .pointer (some ⟨g, 0, none⟩))
      | _ => v = undef)
    (fun k v s w1 => match k with
      | 23 => (w2.heap.size ≤ s ∧ v = .pointer (some ⟨s, 0, none⟩) ∧ w1.heap.size = s + 1 ∧ w1.cell? ⟨s, 0, none⟩ = some (.int .i64 0) ∧ w1.frozen? ⟨s, 0, none⟩ = false ∧ w1.cell? ⟨s, 1, none⟩ = some (.int .i64 0) ∧ w1.frozen? ⟨s, 1, none⟩ = false ∧ w1.cell? ⟨s, 2, none⟩ = some (.int .i64 0) ∧ w1.frozen? ⟨s, 2, none⟩ = false ∧ w1.cell? ⟨s, 3, none⟩ = some (.int .i64 0) ∧ w1.frozen? ⟨s, 3, none⟩ = false ∧ w1.cell? ⟨s, 4, none⟩ = some (.int .i64 0) ∧ w1.frozen? ⟨s, 4, none⟩ = false)
      | _ => True)
    24 (by kernel_rfl) (by kernel_rfl) (by kernel_rfl) rfl (of_decide_eq_true (by kernel_rfl)) (by kernel_rfl) ?_
  repeat (refine Fresh.wpG_q rfl ?_; go_big_quiet_step (fail); refine wpQuiet_nil ?_)
  refine Fresh.wpG_own rfl ⟨_, w2.heap.size, Nat.le_refl _, rfl⟩ (fun X _ => ?_) ?_
  · go_simp
    have hX := X.bel.size
    exact ⟨_, _, ⟨rfl, rfl⟩, by (repeat (first | exact Below.refl _ _ | apply BelowKit.bl_alloc | apply BelowKit.bl_drewN | apply BelowKit.bl_drew | (refine BelowKit.bl_set ?_ _ ?_; rotate_left; (first | omega | (simp; omega) | simp)) | (refine BelowKit.bl_trans ?_ (‹Hid (Below _ _ _)›).out))), ⟨_, hX, rfl⟩, hX, rfl, by simp, by simp [go_sem], by simp [go_sem], by simp [go_sem], by simp [go_sem], by simp [go_sem], by simp [go_sem], by simp [go_sem], by simp [go_sem], by simp [go_sem], by simp [go_sem]⟩
  rintro v ⟨g7, hg7, rfl⟩
  go_big_quiet_step (fail)
  refine wpQuiet_nil ?_
  refine Fresh.wpG_store rfl rfl (fun X hd => ?_) ?_
  · obtain ⟨_, _, w7, ⟨_, eg, hgs, hc0, hf0, hc1, hf1, hc2, hf2, hc3, hf3, hc4, hf4⟩, _, hb7⟩ := hd ⟨23, .data⟩ (by simp) rfl rfl
    have eg' : (Value.pointer (some ⟨g7, 0, none⟩)) = .pointer (some ⟨_, 0, none⟩) := eg
    cases eg'
    have q0 := ((BelowKit.bcell hb7).1 g7 0 (by omega)).trans hc0
    have r0 := ((BelowKit.bcell hb7).2 g7 0 (by omega)).trans hf0
    have q1 := ((BelowKit.bcell hb7).1 g7 1 (by omega)).trans hc1
    have r1 := ((BelowKit.bcell hb7).2 g7 1 (by omega)).trans hf1
    have q2 := ((BelowKit.bcell hb7).1 g7 2 (by omega)).trans hc2
    have r2 := ((BelowKit.bcell hb7).2 g7 2 (by omega)).trans hf2
    have q3 := ((BelowKit.bcell hb7).1 g7 3 (by omega)).trans hc3
    have r3 := ((BelowKit.bcell hb7).2 g7 3 (by omega)).trans hf3
    have q4 := ((BelowKit.bcell hb7).1 g7 4 (by omega)).trans hc4
    have r4 := ((BelowKit.bcell hb7).2 g7 4 (by omega)).trans hf4
    refine ⟨⟨((((X.w.setCell ⟨g7, 0, none⟩ (.int .i64 (1 + t0 % 4))).setCell ⟨g7, 1, none⟩ (.int .i64 (t1 % 60))).setCell ⟨g7, 2, none⟩ (.int .i64 (t1 % 60 + 1 + t2 % 40))).setCell ⟨g7, 3, none⟩ (.int .i64 200)).setCell ⟨g7, 4, none⟩ (.int .i64 t3), BelowKit.bl_set (BelowKit.bl_set (BelowKit.bl_set (BelowKit.bl_set (BelowKit.bl_set (X.bel) (a := ⟨g7, 0, none⟩) _ hg7) (a := ⟨g7, 1, none⟩) _ hg7) (a := ⟨g7, 2, none⟩) _ hg7) (a := ⟨g7, 3, none⟩) _ hg7) (a := ⟨g7, 4, none⟩) _ hg7⟩, ?_⟩
    go_simp
    rfl
  refine Fresh.wpG_nil fun X1 X sN tN hk hrun => ?_
  obtain ⟨⟨w7, ⟨hlo7, eg, hgs, hc0, hf0, hc1, hf1, hc2, hf2, hc3, hf3, hc4, hf4⟩, ht7, hb7⟩, _, _⟩ := hk.1 23 (by decide) rfl
  have eg' : (Value.pointer (some ⟨g7, 0, none⟩)) = .pointer (some ⟨sN 23, 0, none⟩) := eg
  obtain rfl : g7 = sN 23 := by simpa using eg'
  obtain ⟨g7, hg7e⟩ : ∃ g, sN 23 = g := ⟨_, rfl⟩
  have q0 := ((BelowKit.bcell hb7).1 (sN 23) 0 (by omega)).trans hc0
  have r0 := ((BelowKit.bcell hb7).2 (sN 23) 0 (by omega)).trans hf0
  have q1 := ((BelowKit.bcell hb7).1 (sN 23) 1 (by omega)).trans hc1
  have r1 := ((BelowKit.bcell hb7).2 (sN 23) 1 (by omega)).trans hf1
  have q2 := ((BelowKit.bcell hb7).1 (sN 23) 2 (by omega)).trans hc2
  have r2 := ((BelowKit.bcell hb7).2 (sN 23) 2 (by omega)).trans hf2
  have q3 := ((BelowKit.bcell hb7).1 (sN 23) 3 (by omega)).trans hc3
  have r3 := ((BelowKit.bcell hb7).2 (sN 23) 3 (by omega)).trans hf3
  have q4 := ((BelowKit.bcell hb7).1 (sN 23) 4 (by omega)).trans hc4
  have r4 := ((BelowKit.bcell hb7).2 (sN 23) 4 (by omega)).trans hf4
  have hX : X.w = ((((X1.w.setCell ⟨sN 23, 0, none⟩ (.int .i64 (1 + t0 % 4))).setCell ⟨sN 23, 1, none⟩ (.int .i64 (t1 % 60))).setCell ⟨sN 23, 2, none⟩ (.int .i64 (t1 % 60 + 1 + t2 % 40))).setCell ⟨sN 23, 3, none⟩ (.int .i64 200)).setCell ⟨sN 23, 4, none⟩ (.int .i64 t3) := by
    simp [go_sem, q0, q1, q2, q3, q4, r0, r1, r2, r3, r4] at hrun
    exact hrun.symm
  have zf : sN 23 < X.w.heap.size := by have := hb7.size; rw [hX]; simp; omega
  have d0 : X.w.cell? ⟨sN 23, 0, none⟩ = some (.int .i64 (1 + t0 % 4)) := by rw [hX]; simp [go_sem, q0]
  have d1 : X.w.cell? ⟨sN 23, 1, none⟩ = some (.int .i64 (t1 % 60)) := by rw [hX]; simp [go_sem, q1]
  have d2 : X.w.cell? ⟨sN 23, 2, none⟩ = some (.int .i64 (t1 % 60 + 1 + t2 % 40)) := by rw [hX]; simp [go_sem, q2]
  have d3 : X.w.cell? ⟨sN 23, 3, none⟩ = some (.int .i64 200) := by rw [hX]; simp [go_sem, q3]
  have d4 : X.w.cell? ⟨sN 23, 4, none⟩ = some (.int .i64 t3) := by rw [hX]; simp [go_sem, q4]
  have cSX := gS X
  have hbX := X.bel
  obtain ⟨W, hW⟩ : ∃ W : World, W = X.w := ⟨_, rfl⟩
  rw [← hW] at zf d0 d1 d2 d3 d4 cSX hbX ⊢
  rw [hg7e] at zf d0 d1 d2 d3 d4 ⊢
  clear hX hk hrun gS g0 g1 g2' g3 hc0 hc1 hc2 hc3 hc4 hf0 hf1 hf2 hf3 hf4 q0 q1 q2 q3 q4 r0 r1 r2 r3 r4 eg eg' ht7 hlo7 hb7 hgs c20 c21 c22 c23 hg7 hg2 hW hg7e
  have zS2 : w1.heap.size < W.heap.size := Nat.lt_of_lt_of_le zS hbX.size
  have HO3 := Lib.hid (HO2.out.on hbX)
  have HC3 := Lib.hid (BelowKit.bl_trans HC2.out hbX)
  clear HO2 HC2 hbX cS zS
  obtain ⟨key, hkey⟩ : ∃ k, 1 + t0 % 4 = k := ⟨_, rfl⟩
  obtain ⟨fr, hfr⟩ : ∃ k, t1 % 60 = k := ⟨_, rfl⟩
  obtain ⟨tt, htt⟩ : ∃ k, t1 % 60 + 1 + t2 % 40 = k := ⟨_, rfl⟩
  have k1 : 1 ≤ key := by omega
  have k2 : key ≤ 4 := by omega
  have f1 : 0 ≤ fr := by omega
  have f2 : fr ≤ 59 := by omega
  have f3 : fr < tt := by omega
  have f4 : tt ≤ 99 := by omega
  rw [hkey] at d0
  rw [htt] at d2
  rw [hfr] at d1
  have HE1 := Lib.hid hkey
  have HE2 := Lib.hid hfr
  have HE3 := Lib.hid htt
  clear hkey hfr htt
  have HOK : FactMath.okS (l ++ [⟨key, fr, tt, 200, t3⟩]) = true := FactMath.okS_yes ((HD.out.ok (by omega)).snoc (by rw [HM.out]; omega) (Fact.okF_yes ⟨k1, by simp; omega, f1, f3, by simp; omega, by simp, by simp, by simp; omega, by simp; omega⟩)
    (fun y hy => by obtain ⟨n, _, h2, h3⟩ := HD.out.each y hy; rw [h3.n]; show n ≤ 200; omega))
  have HA1 := Lib.hid (show (FactMath.added l ⟨key, fr, tt, 200, t3⟩).1 = l ++ [⟨key, fr, tt, 200, t3⟩] by rw [FactMath.added_yes HOK])
  have HA2 := Lib.hid (show (FactMath.added l ⟨key, fr, tt, 200, t3⟩).2 = true by rw [FactMath.added_yes HOK])
  have HL1 := Lib.hid (show (l ++ [(⟨key, fr, tt, 200, t3⟩ : Fact.Fa)]).length = m + 1 by simp [HM.out])
  clear HOK HD
  go_wp2_with fail
  refine (AddFact.add_i _ p m c l ⟨key, fr, tt, 200, t3⟩ HM.out (by omega) (RowN.reads_own Fact.fw HO3.out)).mono ?_
  rintro e w3 ⟨p3, c3, rfl, ho3, hb⟩
  rw [HA1.out, HL1.out] at ho3
  rw [HA1.out, HA2.out, HL1.out]
  have e0 := ((BelowKit.bcell hb).1 _ 0 zf).trans d0
  have e1 := ((BelowKit.bcell hb).1 _ 1 zf).trans d1
  have e2 := ((BelowKit.bcell hb).1 _ 2 zf).trans d2
  have e4 := ((BelowKit.bcell hb).1 _ 4 zf).trans d4
  have eS := ((BelowKit.bcell hb).1 _ 0 zS2).trans cSX
  have zf3 : g7 < w3.heap.size := Nat.lt_of_lt_of_le zf hb.size
  have zS3 : w1.heap.size < w3.heap.size := Nat.lt_of_lt_of_le zS2 hb.size
  have HO4 := Lib.hid (HO3.out.on hb)
  have HP4 := Lib.hid ho3
  have HC4 := Lib.hid (BelowKit.bl_trans HC3.out hb)
  clear d0 d1 d2 d3 d4 cSX zf zS2 hb ho3 HO3 HC3
  go_wp2_with fail
  obtain ⟨U, hU⟩ : ∃ U : World, U = w3.alloc (.cells #[.slice p3 (m + 1) c3] 26) := ⟨_, rfl⟩
  rw [← hU]
  have hbU : Below w3.heap.size w3 U := by rw [hU]; (repeat (first | exact Below.refl _ _ | apply BelowKit.bl_alloc | apply BelowKit.bl_drewN | apply BelowKit.bl_drew | (refine BelowKit.bl_set ?_ _ ?_; rotate_left; (first | omega | (simp; omega) | simp)) | (refine BelowKit.bl_trans ?_ (‹Hid (Below _ _ _)›).out)))
  have cN : U.cell? ⟨w3.heap.size, 0, none⟩ = some (.slice p3 (m + 1) c3) := by rw [hU]; simp [go_sem]
  have zN : w3.heap.size < U.heap.size := by rw [hU]; simp
  have cc0 := ((BelowKit.bcell hbU).1 _ 0 zf3).trans e0
  have cc1 := ((BelowKit.bcell hbU).1 _ 1 zf3).trans e1
  have cc2 := ((BelowKit.bcell hbU).1 _ 2 zf3).trans e2
  have cc4 := ((BelowKit.bcell hbU).1 _ 4 zf3).trans e4
  have ccS := ((BelowKit.bcell hbU).1 _ 0 zS3).trans eS
  have zfU : g7 < U.heap.size := by omega
  have zSU : w1.heap.size < U.heap.size := by omega
  have HOU := Lib.hid (HO4.out.on hbU)
  have HPU := Lib.hid (HP4.out.on hbU)
  have HCU := Lib.hid (BelowKit.bl_trans HC4.out hbU)
  clear hU hbU e0 e1 e2 e4 eS zf3 zS3 HO4 HP4 HC4 HA1 HA2
  go_loopw [8] (fun mo wr => ∃ j : Nat, j ≤ 110 ∧ mo = .int .i64 (j : Int) ∧ Hid (Below U.heap.size U wr)) (fun mo _ => 110 - (intOf mo).toNat)
  case atStart => exact ⟨0, by omega, rfl, Lib.hid (Below.refl _ _)⟩
  case round =>
    obtain ⟨j, hj, rfl, HB⟩ := hrel
    by_cases hlt : j < 110
    · rename World => wA
      have dK : decide ((j : Int) < 110) = true := decide_eq_true (by omega)
      go_wp2
      go_loopw [9] (fun key wr => ∃ K : Nat, 1 ≤ K ∧ K ≤ 5 ∧ key = .int .i64 (K : Int) ∧ Hid (Below U.heap.size U wr)) (fun key _ => 5 - (intOf key).toNat)
      case atStart => exact ⟨1, by omega, by omega, rfl, HB⟩
      case round =>
        obtain ⟨K, hK1, hK5, rfl, HB2⟩ := hrel
        by_cases hK : K < 5
        · have q0 := ((BelowKit.bcell HB2.out).1 _ 0 zSU).trans ccS
          have q1 := ((BelowKit.bcell HB2.out).1 _ 0 zN).trans cN
          have z1 := Nat.lt_of_lt_of_le zSU HB2.out.size
          have z2 := Nat.lt_of_lt_of_le zN HB2.out.size
          obtain ⟨⟨y, o⟩, hy⟩ : ∃ V, FactMath.val (K : Int) (j : Int) 200 l = V := ⟨_, rfl⟩
          have HY := Lib.hid hy
          have HV := Lib.hid (FactMath.val_snoc (K : Int) (j : Int) 200 l ⟨key, fr, tt, 200, t3⟩)
          obtain ⟨V, hV⟩ : ∃ V, FactMath.val (K : Int) (j : Int) 200 (l ++ [⟨key, fr, tt, 200, t3⟩]) = V := ⟨_, rfl⟩
          have HVV := Lib.hid hV
          clear hy hV
          go_wp2_with fail
          refine (ValueAt.val_i _ p3 (m + 1) c3 (l ++ [⟨key, fr, tt, 200, t3⟩]) (K : Int) (j : Int) 200 HL1.out (by omega) (RowN.reads_own Fact.fw (HPU.out.on HB2.out))).mono ?_
          rintro e w5 ⟨rfl, hb⟩
          rw [HVV.out]
          have q2 := ((BelowKit.bcell hb).1 _ 0 z1).trans q0
          have HB3 := Lib.hid (BelowKit.bl_trans HB2.out hb)
          have z3 := Nat.lt_of_lt_of_le z1 hb.size
          clear hb q0 q1 z1 z2 HB2
          obtain ⟨x1, o1⟩ := V
          go_wp2_with fail
          refine (ValueAt.val_s _ p m c l (K : Int) (j : Int) 200 HM.out (by omega) (RowN.reads_own Fact.fw (HOU.out.on HB3.out))).mono ?_
          rintro e w6 ⟨rfl, hb⟩
          rw [HY.out]
          have HB4 := Lib.hid (BelowKit.bl_trans HB3.out hb)
          have r0 := ((BelowKit.bcell HB4.out).1 _ 0 zfU).trans cc0
          have r1 := ((BelowKit.bcell HB4.out).1 _ 1 zfU).trans cc1
          have r2 := ((BelowKit.bcell HB4.out).1 _ 2 zfU).trans cc2
          have r4 := ((BelowKit.bcell HB4.out).1 _ 4 zfU).trans cc4
          clear hb q2 z3 HB3
          by_cases h1 : (K : Int) = key
          · subst h1
            by_cases h2 : fr ≤ (j : Int)
            · by_cases h3 : (j : Int) < tt
              · have E := HVV.out
                have hh : FactMath.hit (K : Int) (j : Int) 200 ⟨(K : Int), fr, tt, 200, t3⟩ = true := FactMath.hit_yes ⟨rfl, h2, h3, Int.le_refl _⟩
                rw [HV.out, if_pos hh] at E
                simp only [Prod.mk.injEq] at E
                obtain ⟨rfl, rfl⟩ := E
                clear HV HVV
                go_wp2
                go_roundw
                case rel => exact ⟨K + 1, by omega, by omega, by go_num, HB4⟩
                case measure => simp [intOf]; omega
              · have E := HVV.out
                rw [HV.out, if_neg (by rw [FactMath.hit_no (fun h => h3 h.2.2.1)]; exact Bool.false_ne_true), HY.out] at E
                simp only [Prod.mk.injEq] at E
                obtain ⟨rfl, rfl⟩ := E
                clear HV HVV
                cases o with
                | false =>
                  go_wp2
                  go_roundw
                  case rel => exact ⟨K + 1, by omega, by omega, by go_num, HB4⟩
                  case measure => simp [intOf]; omega
                | true =>
                  go_wp2
                  go_roundw
                  case rel => exact ⟨K + 1, by omega, by omega, by go_num, HB4⟩
                  case measure => simp [intOf]; omega
            · have E := HVV.out
              rw [HV.out, if_neg (by rw [FactMath.hit_no (fun h => h2 h.2.1)]; exact Bool.false_ne_true), HY.out] at E
              simp only [Prod.mk.injEq] at E
              obtain ⟨rfl, rfl⟩ := E
              clear HV HVV
              cases o with
              | false =>
                go_wp2
                go_roundw
                case rel => exact ⟨K + 1, by omega, by omega, by go_num, HB4⟩
                case measure => simp [intOf]; omega
              | true =>
                go_wp2
                go_roundw
                case rel => exact ⟨K + 1, by omega, by omega, by go_num, HB4⟩
                case measure => simp [intOf]; omega
          · have E := HVV.out
            rw [HV.out, if_neg (by rw [FactMath.hit_no (fun h => h1 h.1.symm)]; exact Bool.false_ne_true), HY.out] at E
            simp only [Prod.mk.injEq] at E
            obtain ⟨rfl, rfl⟩ := E
            have h1b : ((K : Int) == key) = false := by simpa using h1
            clear HV HVV
            cases o with
            | false =>
              go_wp2
              go_roundw
              case rel => exact ⟨K + 1, by omega, by omega, by go_num, HB4⟩
              case measure => simp [intOf]; omega
            | true =>
              go_wp2
              go_roundw
              case rel => exact ⟨K + 1, by omega, by omega, by go_num, HB4⟩
              case measure => simp [intOf]; omega
        · go_wp2
          go_roundw
          case rel => exact ⟨j + 1, by omega, by go_num, HB2⟩
          case measure => simp [intOf]; omega
    · obtain rfl : j = 110 := by omega
      have q0 := ((BelowKit.bcell HB.out).1 _ 0 zSU).trans ccS
      have q1 := ((BelowKit.bcell HB.out).1 _ 0 zN).trans cN
      have HB4 := Lib.hid (BelowKit.bl_trans HCU.out HB.out)
      go_wp2
      go_ret
      exact ⟨rfl, HB4.out⟩

/-! ### THE ROW's STEP: WRITTEN OUT: LEAVE IT -/
set_option maxRecDepth 100000 in
theorem lifted (os : Os) (started : os.Started) (H : Type) (enc : TypeId × Value → H) :
    ReturnsInHanded {} Try.checked os 4 .any (Rows.fnLastFactSpec.pre6 enc Try.prog Try.f4 Rows.fnLastFactRow.domain false) (Rows.fnLastFactSpec.post enc Try.prog Try.f4 false true false false) := by
  refine returnsInHanded_of_change (C := Try.checked) own started (by kernel_rfl) Try.func4
    (ChangeSpec.witness6 (enc := enc) (C := Try.checked) false ⟨#[], #[.slice none 0 0], []⟩ 8 (by kernel_rfl) (by kernel_rfl) (by kernel_rfl) (by kernel_rfl)) ?_
  intro W base args ds gs before hval0 hW hcnd _
  have hval : ∀ (j : Nat) t v, Try.f4.params[j]? = some t → args[j]? = some v → Value.okWide Try.prog W .any base t v := hval0
  have hW' := hW
  obtain ⟨p, q, hA0, hV, rfl, hfz, hnd⟩ := hW
  have hA : DataW.TrodAll enc Try.prog W 0 (fun _ => true) true Try.f4.params.toList args.toList ds p := hA0
  rw [Try.params4] at hA hval
  obtain ⟨v0, vs0, d0, ds0, p0, q0, hargs, rfl, rfl, h0, r0⟩ := trodAll_cons hA
  obtain ⟨rfl, rfl, rfl⟩ := trodAll_nil r0
  obtain rfl : args = #[v0] := by cases args; simp_all
  obtain ⟨rfl, rfl⟩ := trodVars_none hV
  obtain ⟨a0, len0, cap0, rfl⟩ := okWide_slice Try.underlying22 (hval 0 22 v0 rfl rfl)
  have k0 := h0
  have lt0 : ∀ x ∈ p0, x.block < W.heap.size := by obtain ⟨m, hm⟩ := k0; exact DataW.trod_lt m _ _ _ hm
  obtain ⟨z0, w0⟩ : ∃ zs, IsRow .u8 W a0 len0 cap0 zs := by
    obtain ⟨fuel, hf⟩ := h0
    rcases open_ints Try.underlying22 Try.underlying5 (by kernel_rfl) hf with ⟨hcs, _⟩ | ⟨x, l, c, zs, hcs, _, hl, hm, hz, _, hcell, hwz⟩
    · simp [Value.cells] at hcs
      obtain ⟨rfl, rfl, rfl⟩ := hcs
      exact ⟨[], .inl ⟨rfl, rfl, rfl, rfl⟩⟩
    · simp [Value.cells] at hcs
      obtain ⟨rfl, rfl, rfl⟩ := hcs
      exact ⟨zs, .inr ⟨_, rfl, hl, hm, by simpa using hz, hcell, hwz⟩⟩
  clear hA0 hval0
  refine (walk a0 len0 cap0 z0 W w0).mono fun e W' ⟨he, bel⟩ => ?_
  subst he
  exact ⟨_, rfl, _, _, _, [], _, [], hW', trodAll_mk1 (shut_bool Try.underlying4 _), (trodAll_cons_mk (Below.trod laidOut (by kernel_rfl) (of_decide_eq_true (by kernel_rfl)) k0 bel lt0) trodAll_mk0), rfl, bel.frame _, fun h => by cases h⟩

theorem over : Rows.fnLastFactRow.holds Try.pinned (OpenSpec.ofChange Rows.fnLastFactSpec) :=
  OpenClaim.holds_of_wide 4 Try.f4 rfl rfl rfl rfl rfl rfl rfl ⟨rfl, rfl, rfl, rfl, rfl⟩ rfl rfl rfl rfl rfl (by kernel_rfl) Try.func4 (by kernel_rfl)
    (of_decide_eq_true (by kernel_rfl)) (by unfold Func.isWrapper; first | (rw [if_pos (by decide +kernel)]; kernel_rfl) | (rw [if_neg (by decide +kernel)]; exact ⟨rfl, rfl⟩))
    (fun os started H enc _ => lifted os started H enc)

theorem proved : Rows.FnLastFactSaid := over
#print axioms proved
end Go.Proofs.Ythilfkcebbnoiaa.fnLastFact
