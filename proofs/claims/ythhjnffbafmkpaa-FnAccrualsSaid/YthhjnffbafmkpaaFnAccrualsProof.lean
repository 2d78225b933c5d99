/- Proves the given statement of the law FnAccruals: for every input that the row lets in, the law's Go function returns true and every argument reads as before; no condition of mine. -/
import Derived.Test.YthhjnffbafmkpaaAccruLaws
import Derived.Test.YthhjnffbafmkpaaAccruI
import Derived.Test.YthhjnffbafmkpaaFracEq
import Derived.Test.YthhjnffbafmkpaaFracC
import Derived.Test.YthhjnffbafmkpaaPlaces
import Derived.Test.YthhjnffbafmkpaaDrawRow
import Derived.Test.YthhjnffbafmkpaaKit
import Derived.Test.YthhjnffbafmkpaaRows
import Derived.WalkKit
import Derived.ProofKit
import Derived.OpenShut
import Derived.ShutString
import Derived.ChangeOld
import Derived.Below
namespace Go.Proofs.Ythhjnffbafmkpaa.fnAccruals
open Go.ChangeShapes Go.WideShapes Go.ChangeAt Go.RowKit
open Go.ChangeMaps (open_string shut_string)
set_option linter.unusedVariables false

theorem own : ownKnob Try.prog.godebug = none := by kernel_rfl
theorem laidOut : laidOutB Try.prog = true := by kernel_rfl

/-- WHAT THE WALK IS TOLD OF A SLICE OF INTEGERS THAT CAME IN: it is nil; or it leads to a row of 'cap' cells, the numbers 'zs' (the first 'len' are its elements, the rest its spare room), each fitting its kind. -/
def IsRow (k : IntKind) (w : World) (a : Option Addr) (len cap : Nat) (zs : List Int) : Prop :=
  (a = none ∧ len = 0 ∧ cap = 0 ∧ zs = []) ∨
  ∃ x, a = some x ∧ len ≤ cap ∧ cap ≤ maxLen ∧ zs.length = cap ∧ (∀ i, i < zs.length → w.cell? (x.add i) = some (.int k (zs.getD i 0))) ∧ ∀ n ∈ zs, (Lit.int k n).wf = true

/-! ### STEP 1: THE WALK: the Go text returns true, AND WRITES NOTHING THAT WAS THERE: 'Below w.heap.size w w'' (Derived/Below.lean: '.refl', '.alloc', '.drew', '.setCell' at a new block, '.trans'). Open each 'IsRow' by 'rcases' AHEAD of 'go_enter'; part every test ahead of the walk. -/
set_option maxHeartbeats 8000000 in
set_option maxRecDepth 100000 in
theorem walk (a0 : Option Addr) (len0 cap0 : Nat) (z0 : List Int) (w : World) (w0 : IsRow .u8 w a0 len0 cap0 z0) :
    Calls Try.prog 3 #[.slice a0 len0 cap0] w fun e w' => e = .returned (.bool true) ∧ Below w.heap.size w w' := by
  obtain ⟨hcode, hs⟩ := CurKit.code_at w0
  clear w0
  have HK := Lib.hid hcode
  have HS := Lib.hid hs
  clear hcode
  unfold maxLen at hs
  by_cases hbig : 1048576 < len0
  · go_enter Try.func3, Try.ntmps3
    go_wp2
    go_ret
    exact ⟨rfl, Below.refl _ _⟩
  go_enter Try.func3, Try.ntmps3
  go_wp2_with (go_at_call 11; go_in)
  refine (Places.places_t _ a0 len0 cap0 HK.out HS.out).mono ?_
  rintro e w2 ⟨t, g, cap2, ht, rfl, hp, hb⟩
  have hp9 := hp.nine
  obtain ⟨i00, i01⟩ := ht 0
  obtain ⟨i10, i11⟩ := ht 1
  obtain ⟨i20, i21⟩ := ht 2
  obtain ⟨i30, i31⟩ := ht 3
  obtain ⟨i40, i41⟩ := ht 4
  obtain ⟨i50, i51⟩ := ht 5
  obtain ⟨i60, i61⟩ := ht 6
  obtain ⟨i70, i71⟩ := ht 7
  obtain ⟨i80, i81⟩ := ht 8
  generalize t 0 = t0 at hp9 i00 i01
  generalize t 1 = t1 at hp9 i10 i11
  generalize t 2 = t2 at hp9 i20 i21
  generalize t 3 = t3 at hp9 i30 i31
  generalize t 4 = t4 at hp9 i40 i41
  generalize t 5 = t5 at hp9 i50 i51
  generalize t 6 = t6 at hp9 i60 i61
  generalize t 7 = t7 at hp9 i70 i71
  generalize t 8 = t8 at hp9 i80 i81
  have HP2 := Lib.hid hp9
  have hg2 := hp9.lt
  have HC := Lib.hid hb
  obtain ⟨p0, p1, p2, p3, p4, p5, p6, p7, p8, _⟩ := hp9
  clear hp hb hs ht
  obtain ⟨K, hK⟩ : ∃ k, 1 + t0 % 2 = k := ⟨_, rfl⟩
  obtain ⟨R, hR⟩ : ∃ k, 1 + t1 % 200 = k := ⟨_, rfl⟩
  obtain ⟨C, hC⟩ : ∃ k, 10 + t2 % 30 = k := ⟨_, rfl⟩
  obtain ⟨N, hN⟩ : ∃ k, 1000 + t3 % 200 * 100 = k := ⟨_, rfl⟩
  obtain ⟨Z, hZ⟩ : ∃ k, t4 % 1000 = k := ⟨_, rfl⟩
  obtain ⟨G, hG⟩ : ∃ k, 1 + t5 % 300 = k := ⟨_, rfl⟩
  have K1 : 1 ≤ K ∧ K ≤ 2 := by omega
  have R1 : 1 ≤ R ∧ R ≤ 200 := by omega
  have C1 : 10 ≤ C ∧ C ≤ 39 := by omega
  have Z1 : 0 ≤ Z ∧ Z ≤ 999 := by omega
  have G1 : 1 ≤ G ∧ G ≤ 300 := by omega
  obtain ⟨k, hk, k1, k2⟩ : ∃ k, N = 100 * k ∧ 1 ≤ k ∧ k ≤ 209 := ⟨10 + t3 % 200, by omega, by omega, by omega⟩
  have N1 : 1000 ≤ N ∧ N ≤ 20900 := by omega
  have f1 := AccruLaws.accr_at (K := K) (R := R) (C := C) (k := k) (s := 1200) (y := 1) K1.1 K1.2 R1.1 R1.2 (by omega) (by omega) k1 k2 (by omega) (by omega) (by omega) (by omega) (by omega)
  have f2 := AccruLaws.accr_at (K := K) (R := R) (C := C) (k := k) (s := 2400) (y := 2) K1.1 K1.2 R1.1 R1.2 (by omega) (by omega) k1 k2 (by omega) (by omega) (by omega) (by omega) (by omega)
  have f3 := AccruLaws.accr_at (K := K) (R := R) (C := C) (k := k) (s := C * 1200 + Z) (y := C) K1.1 K1.2 R1.1 R1.2 (by omega) (by omega) k1 k2 (by omega) (by omega) (by omega) (by omega) (by omega)
  have f4 := AccruLaws.accr_at (K := K) (R := R) (C := C) (k := k) (s := C * 1200) (y := C) K1.1 K1.2 R1.1 R1.2 (by omega) (by omega) k1 k2 (by omega) (by omega) (by omega) (by omega) (by omega)
  have f5 := AccruLaws.twice (R := R) (k := k) R1.1 R1.2 k1 k2
  rw [← hk] at f1 f2 f3 f4
  obtain ⟨⟨x0, x1, xo⟩, hx⟩ : ∃ v, FracMath.red (R * k * 1) 100 = v := ⟨_, rfl⟩
  obtain ⟨⟨y0, y1, yo⟩, hy⟩ : ∃ v, FracMath.red (R * k * 2) 100 = v := ⟨_, rfl⟩
  obtain ⟨⟨z0, z1, zo⟩, hz⟩ : ∃ v, FracMath.red (R * k * C) 100 = v := ⟨_, rfl⟩
  rw [hx] at f1 f5
  rw [hy] at f2 f5
  rw [hz] at f3 f4
  obtain ⟨f1, e1⟩ := f1
  obtain ⟨f2, e2⟩ := f2
  obtain ⟨f3, e3⟩ := f3
  obtain ⟨f4, _⟩ := f4
  simp only [] at e1 e2 e3 f5
  subst e1 e2 e3
  have F1 := Lib.hid f1
  have F2 := Lib.hid f2
  have F3 := Lib.hid f3
  have F4 := Lib.hid f4
  have F5 := Lib.hid f5
  have F6 := Lib.hid (AccruLaws.low_is (R := G) (b := t6) (c := t7) (e := t8) G1.1 G1.2 i60 i61 i70 i71 i80 i81)
  have F7 := Lib.hid (AccruMath.okD_low (K := K) (R := R) (C := C) K1.1 K1.2 R1.1 (by omega) (by omega) (by omega))
  clear f1 f2 f3 f4 f5 hx hy hz hk k1 k2
  have m0 : t0.tmod 2 = t0 % 2 := Int.tmod_eq_emod_of_nonneg i00
  have m1 : t1.tmod 200 = t1 % 200 := Int.tmod_eq_emod_of_nonneg i10
  have m2 : t2.tmod 30 = t2 % 30 := Int.tmod_eq_emod_of_nonneg i20
  have WK : IntKind.i64.wrap K = K := IntWalk.i64_in _ (by omega)
  have WR : IntKind.i64.wrap R = R := IntWalk.i64_in _ (by omega)
  have WC : IntKind.i64.wrap C = C := IntWalk.i64_in _ (by omega)
  have WN : IntKind.i64.wrap N = N := IntWalk.i64_in _ (by omega)
  have WG : IntKind.i64.wrap G = G := IntWalk.i64_in _ (by omega)
  have WC2 : IntKind.i64.wrap (C * 1200) = C * 1200 := IntWalk.i64_in _ (by omega)
  have WCZ : IntKind.i64.wrap (C * 1200 + Z) = C * 1200 + Z := IntWalk.i64_in _ (by omega)
  have m4 : t4.tmod 1000 = Z := by rw [Int.tmod_eq_emod_of_nonneg i40]; exact hZ
  go_wp2_with fail
  go_region_held3 (fun V => V.cell? ⟨g, 0, none⟩ = some (.int .i64 t0) ∧ V.cell? ⟨g, 1, none⟩ = some (.int .i64 t1) ∧ V.cell? ⟨g, 2, none⟩ = some (.int .i64 t2)) (go_keep) (fail)
  generalize hW : (w2.alloc _).drew = w3
  have hb : Below w2.heap.size w2 w3 := by rw [← hW]; exact (BelowKit.bl_alloc (Below.refl _ _)).drew
  have HP3 := Lib.hid (HP2.out.on hb)
  have HD3 := Lib.hid (show AccruS.Dk w3 w2.heap.size K R C by rw [← hW]; exact (AccruS.Dk.new ..).on (Below.refl _ _).drew)
  have HC3 := Lib.hid (BelowKit.bl_trans HC.out hb)
  obtain ⟨d, hd⟩ : ∃ d, w2.heap.size = d := ⟨_, rfl⟩
  rw [hd] at HD3 ⊢
  clear hW hb hd HP2 HC p0 p1 p2 p3 p4 p5 p6 p7 p8 hg2
  obtain ⟨p0, p1, p2, p3, p4, p5, p6, p7, p8, pl⟩ := HP3.out
  obtain ⟨k0, k1, k2, kl⟩ := HD3.out
  go_wp2_with fail
  refine (AccruI.accr_i _ K R C 1200 N 1).mono ?_
  rintro e w4 ⟨rfl, hb⟩
  rw [F1.out]
  have hb' := AccruS.one_on _ hb
  have HP4 := Lib.hid (HP3.out.on hb')
  have HD4 := Lib.hid (HD3.out.on hb')
  have HY4 := Lib.hid ((AccruS.Fk.new w3 N 1 29).on hb)
  have HC4 := Lib.hid (BelowKit.bl_trans HC3.out hb')
  obtain ⟨bp, hbp⟩ : ∃ d, w3.heap.size = d := ⟨_, rfl⟩
  rw [hbp] at HY4 ⊢
  clear hb hb' hbp p0 p1 p2 p3 p4 p5 p6 p7 p8 pl k0 k1 k2 kl HP3 HD3 HC3
  obtain ⟨k0, k1, k2, kl⟩ := HD4.out
  obtain ⟨n0, n1, _, _, nl⟩ := HY4.out
  go_wp2_with fail
  refine (AccruI.accr_i _ K R C 2400 N 1).mono ?_
  rintro e w5 ⟨rfl, hb⟩
  rw [F2.out]
  have hb' := AccruS.one_on _ hb
  have HP5 := Lib.hid (HP4.out.on hb')
  have HD5 := Lib.hid (HD4.out.on hb')
  have HY5 := Lib.hid (HY4.out.on hb')
  have HX5 := Lib.hid ((AccruS.Fk.new w4 x0 x1 29).on hb)
  have HC5 := Lib.hid (BelowKit.bl_trans HC4.out hb')
  obtain ⟨bx, hbx⟩ : ∃ d, w4.heap.size = d := ⟨_, rfl⟩
  rw [hbx] at HX5 ⊢
  clear hb hb' hbx k0 k1 k2 kl n0 n1 nl HP4 HD4 HY4 HC4
  obtain ⟨q0, q1, _, _, ql⟩ := HX5.out
  go_wp2_with fail
  refine (FracS.add_s x0 x1 x0 x1 _).mono ?_
  rintro e w6 ⟨rfl, hb⟩
  rw [F5.out]
  have hb' := AccruS.one_on _ hb
  have HP6 := Lib.hid (HP5.out.on hb')
  have HD6 := Lib.hid (HD5.out.on hb')
  have HY6 := Lib.hid (HY5.out.on hb')
  have HU6 := Lib.hid ((AccruS.Fk.new w5 y0 y1 29).on hb)
  have HC6 := Lib.hid (BelowKit.bl_trans HC5.out hb')
  obtain ⟨bu, hbu⟩ : ∃ d, w5.heap.size = d := ⟨_, rfl⟩
  rw [hbu] at HU6 ⊢
  clear hb hb' hbu q0 q1 ql HP5 HD5 HY5 HX5 HC5
  go_wp2_with fail
  generalize hW : w6.alloc _ = w7
  have hb : Below w6.heap.size w6 w7 := by rw [← hW]; exact BelowKit.bl_alloc (Below.refl _ _)
  have HP7 := Lib.hid (HP6.out.on hb)
  have HD7 := Lib.hid (HD6.out.on hb)
  have HY7 := Lib.hid (HY6.out.on hb)
  have HU7 := Lib.hid (HU6.out.on hb)
  have HT7 := Lib.hid (show AccruS.Fk w7 w6.heap.size y0 y1 by rw [← hW]; exact AccruS.Fk.new ..)
  have HC7 := Lib.hid (BelowKit.bl_trans HC6.out hb)
  obtain ⟨bt, hbt⟩ : ∃ d, w6.heap.size = d := ⟨_, rfl⟩
  rw [hbt] at HT7 ⊢
  clear hW hb hbt HP6 HD6 HY6 HU6 HC6
  obtain ⟨p0, p1, p2, p3, p4, p5, p6, p7, p8, pl⟩ := HP7.out
  obtain ⟨k0, k1, k2, kl⟩ := HD7.out
  obtain ⟨n0, n1, _, _, nl⟩ := HY7.out
  have gk0 := Grown.G.keep k0 kl
  have gk1 := Grown.G.keep k1 kl
  have gk2 := Grown.G.keep k2 kl
  have gk3 := Grown.G.keep p4 pl
  have gk4 := Grown.G.keep n0 nl
  have gk5 := Grown.G.keep n1 nl
  refine Fresh.wp_region_store (fun k => match k with | 10 => .grow | 14 => .grow | 15 => .write | _ => .quiet)
    (fun k v => match k with
          | 10 => (v = .tuple #[.agg #[.int .i64 z0, .int .i64 z1], .bool true])
          | 14 => (∃ g : Nat, w7.heap.size ≤ g ∧ v = .pointer (some ⟨g, 0, none⟩))
          | _ => v = undef)
    (fun k v s w1 => match k with
          | 10 => (w7.heap.size ≤ s ∧ v = .tuple #[.agg #[.int .i64 z0, .int .i64 z1], .bool true])
          | 14 => (w7.heap.size ≤ s ∧ v = .pointer (some ⟨s, 0, none⟩) ∧ w1.heap.size = s + 1 ∧ w1.cell? ⟨s, 0, none⟩ = some (.int .i64 0) ∧ w1.frozen? ⟨s, 0, none⟩ = false ∧ w1.cell? ⟨s, 1, none⟩ = some (.int .i64 0) ∧ w1.frozen? ⟨s, 1, none⟩ = false)
          | _ => True)
    15 (by kernel_rfl) (by kernel_rfl) (by kernel_rfl) rfl (of_decide_eq_true (by kernel_rfl)) (by kernel_rfl) ?_
  refine Fresh.wpG_q rfl ?_
  go_big_quiet_step (fail)
  refine wpQuiet_nil ?_
  refine Fresh.wpG_q rfl ?_
  go_big_quiet_step (fail)
  refine wpQuiet_nil ?_
  refine Fresh.wpG_q rfl ?_
  go_big_quiet_step (fail)
  refine wpQuiet_nil ?_
  refine Fresh.wpG_q rfl ?_
  go_big_quiet_step (fail)
  refine wpQuiet_nil ?_
  refine Fresh.wpG_q rfl ?_
  go_big_quiet_step (fail)
  refine wpQuiet_nil ?_
  refine Fresh.wpG_q rfl ?_
  go_big_quiet_step (fail)
  refine wpQuiet_nil ?_
  refine Fresh.wpG_q rfl ?_
  go_big_quiet_step (fail)
  refine wpQuiet_nil ?_
  refine Fresh.wpG_q rfl ?_
  go_big_quiet_step (fail)
  refine wpQuiet_nil ?_
  refine Fresh.wpG_q rfl ?_
  go_big_quiet_step (fail)
  refine wpQuiet_nil ?_
  refine Fresh.wpG_q rfl ?_
  go_big_quiet_step (fail)
  refine wpQuiet_nil ?_
  refine Fresh.wpG_call #[.agg #[.int .i64 K, .int .i64 R, .int .i64 C], .int .i64 (C * 1200 + Z), .agg #[.int .i64 N, .int .i64 1]] rfl Try.func13 (by kernel_rfl) (by kernel_rfl) rfl ⟨_, rfl⟩ (fun X hd => ?_) ?_
  · have hX := X.bel.size
    refine (AccruI.accr_i X.w K R C (C * 1200 + Z) N 1).mono ?_
    rintro e w8 ⟨rfl, hb⟩
    rw [F3.out]
    exact ⟨_, rfl, hb, rfl, by omega, rfl⟩
  rintro v rfl
  go_big_quiet_step (fail)
  refine wpQuiet_nil ?_
  refine Fresh.wpG_q rfl ?_
  go_big_quiet_step (fail)
  refine wpQuiet_nil ?_
  refine Fresh.wpG_q rfl ?_
  go_big_quiet_step (fail)
  refine wpQuiet_nil ?_
  refine Fresh.wpG_q rfl ?_
  go_big_quiet_step (fail)
  refine wpQuiet_nil ?_
  refine Fresh.wpG_own rfl ⟨_, w7.heap.size, Nat.le_refl _, rfl⟩ (fun X _ => ?_) ?_
  · go_simp
    have hX := X.bel.size
    exact ⟨_, _, ⟨rfl, rfl⟩, by (repeat (first | exact Below.refl _ _ | apply BelowKit.bl_alloc | apply BelowKit.bl_drewN | apply BelowKit.bl_drew | (refine BelowKit.bl_set ?_ _ ?_; rotate_left; (first | omega | (simp; omega) | simp)) | (refine BelowKit.bl_trans ?_ (‹Hid (Below _ _ _)›).out))), ⟨_, hX, rfl⟩, hX, rfl, by simp, by simp [go_sem], by simp [go_sem], by simp [go_sem], by simp [go_sem]⟩
  rintro v ⟨g10, hg10, rfl⟩
  go_big_quiet_step (fail)
  refine wpQuiet_nil ?_
  refine Fresh.wpG_store rfl rfl (fun X hd => ?_) ?_
  · obtain ⟨_, _, w7', ⟨_, eg, hg, hc0, hf0, hc1, hf1⟩, _, hb7⟩ := hd ⟨14, .data⟩ (by simp) rfl rfl
    have eg' : (Value.pointer (some ⟨g10, 0, none⟩)) = .pointer (some ⟨_, 0, none⟩) := eg
    cases eg'
    have q0 := ((BelowKit.bcell hb7).1 g10 0 (by omega)).trans hc0
    have r0 := ((BelowKit.bcell hb7).2 g10 0 (by omega)).trans hf0
    have q1 := ((BelowKit.bcell hb7).1 g10 1 (by omega)).trans hc1
    have r1 := ((BelowKit.bcell hb7).2 g10 1 (by omega)).trans hf1
    refine ⟨⟨(X.w.setCell ⟨g10, 0, none⟩ (.int .i64 z0)).setCell ⟨g10, 1, none⟩ (.int .i64 z1), BelowKit.bl_set (BelowKit.bl_set (X.bel) (a := ⟨g10, 0, none⟩) _ hg10) (a := ⟨g10, 1, none⟩) _ hg10⟩, ?_⟩
    go_simp
    rfl
  refine Fresh.wpG_q rfl ?_
  go_big_quiet_step (fail)
  refine wpQuiet_nil ?_
  refine Fresh.wpG_nil fun X1 X sN1 tN1 hk hrun => ?_
  have hXs := X1.bel.size
  obtain ⟨⟨w7', ⟨hlo7, eg, hg7, hc0, hf0, hc1, hf1⟩, ht7, hb7⟩, st7, hl7⟩ := hk.1 14 (by decide) rfl
  have eg' : (Value.pointer (some ⟨g10, 0, none⟩)) = .pointer (some ⟨sN1 14, 0, none⟩) := eg
  obtain rfl : g10 = sN1 14 := by simpa using eg'
  clear eg eg'
  have q0 := ((BelowKit.bcell hb7).1 (sN1 14) 0 (by omega)).trans hc0
  have r0 := ((BelowKit.bcell hb7).2 (sN1 14) 0 (by omega)).trans hf0
  have q1 := ((BelowKit.bcell hb7).1 (sN1 14) 1 (by omega)).trans hc1
  have r1 := ((BelowKit.bcell hb7).2 (sN1 14) 1 (by omega)).trans hf1
  have hX : X.w = (X1.w.setCell ⟨sN1 14, 0, none⟩ (.int .i64 z0)).setCell ⟨sN1 14, 1, none⟩ (.int .i64 z1) := by
    simp [go_sem, q0, r0, q1, r1] at hrun
    exact hrun.symm
  have HZ9' := (AccruS.Fk.mk q0 q1 r0 r1 (by omega)).put z0 z1
  rw [← hX] at HZ9'
  have hbX := X.bel
  obtain ⟨w9, hU⟩ : ∃ U : World, U = X.w := ⟨_, rfl⟩
  obtain ⟨bz, hbz⟩ : ∃ d, sN1 14 = d := ⟨_, rfl⟩
  rw [← hU] at hbX HZ9' ⊢
  rw [hbz] at HZ9' ⊢
  have HZ9 := Lib.hid HZ9'
  have HP9 := Lib.hid (HP7.out.on hbX)
  have HD9 := Lib.hid (HD7.out.on hbX)
  have HY9 := Lib.hid (HY7.out.on hbX)
  have HU9 := Lib.hid (HU7.out.on hbX)
  have HT9 := Lib.hid (HT7.out.on hbX)
  have HC9 := Lib.hid (BelowKit.bl_trans HC7.out hbX)
  clear hk hU hXs gk0 gk1 gk2 gk3 gk4 gk5 hrun hX hb7 hl7 ht7 hg7 hlo7 hc0 hf0 hc1 hf1 q0 r0 q1 r1 hbX HZ9' hbz hg10 HP7 HD7 HY7 HU7 HT7 HC7 p0 p1 p2 p3 p4 p5 p6 p7 p8 pl k0 k1 k2 kl n0 n1 nl
  obtain ⟨p0, p1, p2, p3, p4, p5, p6, p7, p8, pl⟩ := HP9.out
  obtain ⟨k0, k1, k2, kl⟩ := HD9.out
  obtain ⟨n0, n1, _, _, nl⟩ := HY9.out
  go_wp2_with fail
  refine (AccruI.accr_i _ K R C (C * 1200) N 1).mono ?_
  rintro e w10 ⟨rfl, hb⟩
  rw [F4.out]
  have HP10 := Lib.hid (HP9.out.on hb)
  have HD10 := Lib.hid (HD9.out.on hb)
  have HU10 := Lib.hid (HU9.out.on hb)
  have HT10 := Lib.hid (HT9.out.on hb)
  have HZ10 := Lib.hid (HZ9.out.on hb)
  have HC10 := Lib.hid (BelowKit.bl_trans HC9.out hb)
  clear hb HP9 HD9 HY9 HU9 HT9 HZ9 HC9 p0 p1 p2 p3 p4 p5 p6 p7 p8 pl k0 k1 k2 kl n0 n1 nl
  obtain ⟨p0, p1, p2, p3, p4, p5, p6, p7, p8, pl⟩ := HP10.out
  go_wp2_with fail
  generalize hW : (w10.alloc _).alloc _ = w11
  have hb : Below w10.heap.size w10 w11 := by rw [← hW]; exact BelowKit.bl_alloc (BelowKit.bl_alloc (Below.refl _ _))
  have HP11 := Lib.hid (HP10.out.on hb)
  have HD11 := Lib.hid (HD10.out.on hb)
  have HU11 := Lib.hid (HU10.out.on hb)
  have HT11 := Lib.hid (HT10.out.on hb)
  have HZ11 := Lib.hid (HZ10.out.on hb)
  have HV11 := Lib.hid (show AccruS.Fk w11 w10.heap.size z0 z1 by rw [← hW]; exact (AccruS.Fk.new ..).on (BelowKit.bl_alloc (Below.refl _ _)))
  have HA11 := Lib.hid (show AccruS.Dk w11 (w10.heap.size + 1) 4 G 0 by rw [← hW]; simpa using AccruS.Dk.new (w10.alloc _) 4 G 0 _)
  have HC11 := Lib.hid (BelowKit.bl_trans HC10.out hb)
  obtain ⟨bv, hbv⟩ : ∃ d, w10.heap.size = d := ⟨_, rfl⟩
  rw [hbv] at HV11 HA11 ⊢
  obtain ⟨ba, hba⟩ : ∃ d, bv + 1 = d := ⟨_, rfl⟩
  rw [hba] at HA11 ⊢
  clear hW hb hbv hba HP10 HD10 HU10 HT10 HZ10 HC10 p0 p1 p2 p3 p4 p5 p6 p7 p8 pl
  obtain ⟨p0, p1, p2, p3, p4, p5, p6, p7, p8, pl⟩ := HP11.out
  obtain ⟨k0, k1, k2, kl⟩ := HA11.out
  have WN : IntKind.i64.wrap (-t8) = -t8 := IntWalk.i64_in _ (by omega)
  have m8 : (-t8).tmod 10000 = -t8 := by rw [Int.neg_tmod, Int.tmod_eq_emod_of_nonneg i80]; omega
  have W6 : IntKind.i64.wrap (t6 * 100) = t6 * 100 := IntWalk.i64_in _ (by omega)
  have x0' : 0 ≤ t6 * G := Int.mul_nonneg i60 (by omega)
  have x1' : t6 * G ≤ 9999 * 300 := Int.mul_le_mul i61 G1.2 (by omega) (by omega)
  obtain ⟨X, hX⟩ : ∃ X, t6 * G = X := ⟨_, rfl⟩
  have F6' := F6.out
  rw [hX] at F6' x0' x1'
  have F8 := Lib.hid F6'
  have WX : IntKind.i64.wrap (t6 * G) = X := by rw [hX]; exact IntWalk.i64_in _ (by omega)
  clear F6' F6 hX
  have HKP : Hid (∀ W', Below w11.heap.size w11 W' → W'.cell? ⟨ba, 0, none⟩ = some (.int .i64 4) ∧ W'.cell? ⟨ba, 1, none⟩ = some (.int .i64 G) ∧ W'.cell? ⟨ba, 2, none⟩ = some (.int .i64 0) ∧ W'.cell? ⟨g, 6, none⟩ = some (.int .i64 t6) ∧ W'.cell? ⟨g, 7, none⟩ = some (.int .i64 t7) ∧ W'.cell? ⟨g, 8, none⟩ = some (.int .i64 t8)) := Lib.hid fun W' hb => by
    have h1 := HA11.out.on hb
    have h2 := HP11.out.on hb
    exact ⟨h1.c0, h1.c1, h1.c2, h2.c6, h2.c7, h2.c8⟩
  go_region_held3 (fun V => V.cell? ⟨ba, 0, none⟩ = some (.int .i64 4) ∧ V.cell? ⟨ba, 1, none⟩ = some (.int .i64 G) ∧ V.cell? ⟨ba, 2, none⟩ = some (.int .i64 0) ∧ V.cell? ⟨g, 6, none⟩ = some (.int .i64 t6) ∧ V.cell? ⟨g, 7, none⟩ = some (.int .i64 t7) ∧ V.cell? ⟨g, 8, none⟩ = some (.int .i64 t8))
    (first | exact HKP.out _ HG12.out | exact HKP.out _ (below_drewN (Below.refl _ _) _) | go_keep)
    (first
      | ((go_at_call 15; (with_reducible refine (AccruI.grow_i _ 4 G 0 (t6 * 100) t7 (-t8)).mono ?_); rintro e w12 ⟨rfl, hb12⟩; rw [F8.out]; have HG12 := Lib.hid (show Below w11.heap.size w11 w12 from BelowKit.bl_trans (by first | exact (Below.refl _ _).drew | exact below_drewN (Below.refl _ _) _ | exact Below.refl _ _) hb12); clear hb12)))
  have HP12 := Lib.hid (HP11.out.on HG12.out)
  have HD12 := Lib.hid (HD11.out.on HG12.out)
  have HU12 := Lib.hid (HU11.out.on HG12.out)
  have HT12 := Lib.hid (HT11.out.on HG12.out)
  have HZ12 := Lib.hid (HZ11.out.on HG12.out)
  have HV12 := Lib.hid (HV11.out.on HG12.out)
  have HA12 := Lib.hid (HA11.out.on HG12.out)
  have HC12 := Lib.hid (BelowKit.bl_trans HC11.out HG12.out)
  clear HKP HG12 HP11 HD11 HU11 HT11 HZ11 HV11 HA11 HC11 p0 p1 p2 p3 p4 p5 p6 p7 p8 pl k0 k1 k2 kl
  have hdd : X.tdiv 100 = X / 100 := Int.tdiv_eq_ediv_of_nonneg x0'
  obtain ⟨Q, hQ⟩ : ∃ Q, X / 100 = Q := ⟨_, rfl⟩
  have WQ : IntKind.i64.wrap (X.tdiv 100) = Q := by rw [hdd, hQ]; exact IntWalk.i64_in _ (by omega)
  rw [hQ]
  have W7 : IntKind.i64.wrap (t6 * 100 + Q) = t6 * 100 + Q := IntWalk.i64_in _ (by omega)
  have W8 : IntKind.i64.wrap (t6 * 100 + Q + t7) = t6 * 100 + Q + t7 := IntWalk.i64_in _ (by omega)
  clear hdd hQ
  have heq1 := fun W => FracEq.eql y0 y1 y0 y1 W
  have heq2 := fun W => FracEq.eql z0 z1 z0 z1 W
  have hgrd := fun W x y a b c e => FracEq.guard .eql x y #[.int .i64 a, .int .i64 b] #[.int .i64 c, .int .i64 e] W
  obtain ⟨u0, u1, _, _, ul⟩ := HU12.out
  obtain ⟨s0, s1, _, _, sl⟩ := HT12.out
  obtain ⟨c0, c1, _, _, cl⟩ := HZ12.out
  obtain ⟨v0, v1, _, _, vl⟩ := HV12.out
  obtain ⟨k0, k1, k2, kl⟩ := HD12.out
  obtain ⟨_, l1, _, ll⟩ := HA12.out
  obtain ⟨_, _, _, _, _, _, p6, p7, _, pl⟩ := HP12.out
  have HKP : Hid (∀ W', Below w12.heap.size w12 W' → W'.cell? ⟨bu, 0, none⟩ = some (.int .i64 y0) ∧ W'.cell? ⟨bu, 1, none⟩ = some (.int .i64 y1) ∧ W'.cell? ⟨bt, 0, none⟩ = some (.int .i64 y0) ∧ W'.cell? ⟨bt, 1, none⟩ = some (.int .i64 y1) ∧ W'.cell? ⟨bz, 0, none⟩ = some (.int .i64 z0) ∧ W'.cell? ⟨bz, 1, none⟩ = some (.int .i64 z1) ∧ W'.cell? ⟨bv, 0, none⟩ = some (.int .i64 z0) ∧ W'.cell? ⟨bv, 1, none⟩ = some (.int .i64 z1) ∧ W'.cell? ⟨d, 0, none⟩ = some (.int .i64 K) ∧ W'.cell? ⟨d, 1, none⟩ = some (.int .i64 R) ∧ W'.cell? ⟨d, 2, none⟩ = some (.int .i64 C) ∧ W'.cell? ⟨ba, 1, none⟩ = some (.int .i64 G) ∧ W'.cell? ⟨g, 6, none⟩ = some (.int .i64 t6) ∧ W'.cell? ⟨g, 7, none⟩ = some (.int .i64 t7)) := Lib.hid fun W' hb => by
    have h1 := HU12.out.on hb
    have h2 := HT12.out.on hb
    have h3 := HZ12.out.on hb
    have h4 := HV12.out.on hb
    have h5 := HD12.out.on hb
    have h6 := HA12.out.on hb
    have h7 := HP12.out.on hb
    exact ⟨h1.c0, h1.c1, h2.c0, h2.c1, h3.c0, h3.c1, h4.c0, h4.c1, h5.c0, h5.c1, h5.c2, h6.c1, h7.c6, h7.c7⟩
  go_wp2_with fail
  go_region_held3 (fun V => V.cell? ⟨bu, 0, none⟩ = some (.int .i64 y0) ∧ V.cell? ⟨bu, 1, none⟩ = some (.int .i64 y1) ∧ V.cell? ⟨bt, 0, none⟩ = some (.int .i64 y0) ∧ V.cell? ⟨bt, 1, none⟩ = some (.int .i64 y1) ∧ V.cell? ⟨bz, 0, none⟩ = some (.int .i64 z0) ∧ V.cell? ⟨bz, 1, none⟩ = some (.int .i64 z1) ∧ V.cell? ⟨bv, 0, none⟩ = some (.int .i64 z0) ∧ V.cell? ⟨bv, 1, none⟩ = some (.int .i64 z1) ∧ V.cell? ⟨d, 0, none⟩ = some (.int .i64 K) ∧ V.cell? ⟨d, 1, none⟩ = some (.int .i64 R) ∧ V.cell? ⟨d, 2, none⟩ = some (.int .i64 C) ∧ V.cell? ⟨ba, 1, none⟩ = some (.int .i64 G) ∧ V.cell? ⟨g, 6, none⟩ = some (.int .i64 t6) ∧ V.cell? ⟨g, 7, none⟩ = some (.int .i64 t7))
    (first | exact HKP.out _ HG13.out | exact HKP.out _ (below_drewN (Below.refl _ _) _) | go_keep)
    (first
      | ((go_at_call 16; (with_reducible refine (AccruI.design_i _ K R C).mono ?_); rintro e w13 ⟨rfl, hb13⟩; rw [F7.out]; have HG13 := Lib.hid (show Below w12.heap.size w12 w13 from BelowKit.bl_trans (by first | exact (Below.refl _ _).drew | exact below_drewN (Below.refl _ _) _ | exact Below.refl _ _) hb13); clear hb13)))
  go_wp2
  go_ret
  exact ⟨rfl, by first | exact BelowKit.bl_trans HC12.out HG13.out | exact (BelowKit.bl_trans HC12.out HG13.out).drew | exact below_drewN (BelowKit.bl_trans HC12.out HG13.out) _⟩

/-! ### THE ROW's STEP: WRITTEN OUT: LEAVE IT -/
set_option maxRecDepth 100000 in
theorem lifted (os : Os) (started : os.Started) (H : Type) (enc : TypeId × Value → H) :
    ReturnsInHanded {} Try.checked os 3 .any (Rows.fnAccrualsSpec.pre6 enc Try.prog Try.f3 Rows.fnAccrualsRow.domain false) (Rows.fnAccrualsSpec.post enc Try.prog Try.f3 false true false false) := by
  refine returnsInHanded_of_change (C := Try.checked) own started (by kernel_rfl) Try.func3
    (ChangeSpec.witness6 (enc := enc) (C := Try.checked) false ⟨#[], #[.slice none 0 0], []⟩ 8 (by kernel_rfl) (by kernel_rfl) (by kernel_rfl) (by kernel_rfl)) ?_
  intro W base args ds gs before hval0 hW hcnd _
  have hval : ∀ (j : Nat) t v, Try.f3.params[j]? = some t → args[j]? = some v → Value.okWide Try.prog W .any base t v := hval0
  have hW' := hW
  obtain ⟨p, q, hA0, hV, rfl, hfz, hnd⟩ := hW
  have hA : DataW.TrodAll enc Try.prog W 0 (fun _ => true) true Try.f3.params.toList args.toList ds p := hA0
  rw [Try.params3] at hA hval
  obtain ⟨v0, vs0, d0, ds0, p0, q0, hargs, rfl, rfl, h0, r0⟩ := trodAll_cons hA
  obtain ⟨rfl, rfl, rfl⟩ := trodAll_nil r0
  obtain rfl : args = #[v0] := by cases args; simp_all
  obtain ⟨rfl, rfl⟩ := trodVars_none hV
  obtain ⟨a0, len0, cap0, rfl⟩ := okWide_slice Try.underlying22 (hval 0 22 v0 rfl rfl)
  have k0 := h0
  have lt0 : ∀ x ∈ p0, x.block < W.heap.size := by obtain ⟨m, hm⟩ := k0; exact DataW.trod_lt m _ _ _ hm
  obtain ⟨z0, w0⟩ : ∃ zs, IsRow .u8 W a0 len0 cap0 zs := by
    obtain ⟨fuel, hf⟩ := h0
    rcases open_ints Try.underlying22 Try.underlying5 (by kernel_rfl) hf with ⟨hcs, _⟩ | ⟨x, l, c, zs, hcs, _, hl, hm, hz, _, hcell, hwz⟩
    · simp [Value.cells] at hcs
      obtain ⟨rfl, rfl, rfl⟩ := hcs
      exact ⟨[], .inl ⟨rfl, rfl, rfl, rfl⟩⟩
    · simp [Value.cells] at hcs
      obtain ⟨rfl, rfl, rfl⟩ := hcs
      exact ⟨zs, .inr ⟨_, rfl, hl, hm, by simpa using hz, hcell, hwz⟩⟩
  clear hA0 hval0
  refine (walk a0 len0 cap0 z0 W w0).mono fun e W' ⟨he, bel⟩ => ?_
  subst he
  exact ⟨_, rfl, _, _, _, [], _, [], hW', trodAll_mk1 (shut_bool Try.underlying4 _), (trodAll_cons_mk (Below.trod laidOut (by kernel_rfl) (of_decide_eq_true (by kernel_rfl)) k0 bel lt0) trodAll_mk0), rfl, bel.frame _, fun h => by cases h⟩

theorem over : Rows.fnAccrualsRow.holds Try.pinned (OpenSpec.ofChange Rows.fnAccrualsSpec) :=
  OpenClaim.holds_of_wide 3 Try.f3 rfl rfl rfl rfl rfl rfl rfl ⟨rfl, rfl, rfl, rfl, rfl⟩ rfl rfl rfl rfl rfl (by kernel_rfl) Try.func3 (by kernel_rfl)
    (of_decide_eq_true (by kernel_rfl)) (by unfold Func.isWrapper; first | (rw [if_pos (by decide +kernel)]; kernel_rfl) | (rw [if_neg (by decide +kernel)]; exact ⟨rfl, rfl⟩))
    (fun os started H enc _ => lifted os started H enc)

theorem proved : Rows.FnAccrualsSaid := over
#print axioms proved
end Go.Proofs.Ythhjnffbafmkpaa.fnAccruals
