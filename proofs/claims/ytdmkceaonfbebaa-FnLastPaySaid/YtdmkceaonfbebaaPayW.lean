/- The check that all ways share, and the table of ways. -/
import Derived.Test.YtdmkceaonfbebaaPayM
import Derived.Test.YtdmkceaonfbebaaPayB
import Derived.Test.YtdmkceaonfbebaaPayR
namespace Go.Proofs.Ytdmkceaonfbebaa.PayW
open Go.RowKit RowN PayMath PayLine Mon Box PayS PayT PayM FactMath
open FracMath (red)
open Fact (Fa)
open FactRow (ReadsF)
/-- Store, series and months are valid. -/
noncomputable def allB (l : List Fa) (x : List TPoint.El) (f t : Int) : Bool := okS l && (PointMath.okS x && (inB f 0 3600 && inB t 0 3600))
def byT (b : Bool) (T : Tt) : Tt := if b = true then T else ⟨0, 0, 0⟩
theorem all_of {l : List Fa} {x : List TPoint.El} {f t : Int} (h : allB l x f t = true) : OkS l ∧ PointMath.okS x = true ∧ (0 ≤ f ∧ f ≤ 3600) ∧ 0 ≤ t ∧ t ≤ 3600 := by
  simp only [allB, Bool.and_eq_true] at h
  exact ⟨okS_of h.1, h.2.1, inB_of h.2.2.1, inB_of h.2.2.2⟩
set_option maxHeartbeats 2000000 in
theorem by_final (w : World) (p : Option Addr) (m cap : Nat) (l : List Fa) (kn f t len : Int) (q : Option Addr) (n cap' : Nat) (x : List TPoint.El) (hm : l.length = m) (hs : m ≤ 1099511627776) (h : ReadsF w p l) (hn : x.length = n) (hs' : n ≤ 1099511627776) (hx : Reads TPoint.fc 3 w q x)
    (T : Tt) (hT : allB l x f t = true → ∀ W, Below w.heap.size w W → Calls Try.prog 71 #[.agg #[.slice p m cap, .int .i64 kn, .int .i64 f, .int .i64 t, .int .i64 len, .slice q n cap']] W (IsTt T W)) :
    Calls Try.prog 36 #[.agg #[.slice p m cap, .int .i64 kn, .int .i64 f, .int .i64 t, .int .i64 len, .slice q n cap'], (.int .i64 0)] w (IsTt (byT (allB l x f t) T) w) := by
  have KK := Lib.hid h
  have HM := Lib.hid hm
  have KX := Lib.hid hx
  have HN := Lib.hid hn
  have HT := Lib.hid hT
  obtain ⟨R, hR⟩ : ∃ R, byT (allB l x f t) T = R := ⟨_, rfl⟩
  have HNO : Hid (allB l x f t = false → R = ⟨0, 0, 0⟩) := Lib.hid fun e => by rw [← hR, e]; rfl
  have HYES : Hid (allB l x f t = true → R = T) := Lib.hid fun e => by rw [← hR, e]; rfl
  rw [hR]
  clear h hm hx hn hT hR
  go_enter Try.func36, Try.ntmps36
  go_upto_region 1 with fail
  generalize hW : (w.alloc _).alloc _ = W
  have HB := Lib.hid (show Below w.heap.size w W by rw [← hW]; (repeat (first | exact Below.refl _ _ | apply BelowKit.bl_alloc | apply BelowKit.bl_drewN | apply BelowKit.bl_drew | (refine BelowKit.bl_set ?_ _ ?_; rotate_left; (first | omega | (simp; omega) | simp)) | (refine BelowKit.bl_trans ?_ (‹Hid (Below _ _ _)›).out))))
  have hk : Kb W w.heap.size (.slice p m cap) (.slice q n cap') kn f t len := by rw [← hW]; exact (Kb.new w _ _ _ _ _ _ _).on (BelowKit.bl_alloc (Below.refl _ _))
  have hb : Bt W (w.heap.size + 1) 0 0 0 := by rw [← hW]; simpa using Bt.new (w.alloc _) 0 0 0
  have HKB := Lib.hid hk
  have HBT := Lib.hid hb
  obtain ⟨k0, k1, k2, k3, k4', k5⟩ := hk.six
  have z0 := hk.lt
  obtain ⟨r0, r1, r2, g0, g1, g2, z1⟩ := hb
  clear hW hk
  go_wp2_with fail
  refine (StoreOk.ok_i _ p m cap l HM.out hs (KK.out.on HB.out)).mono ?_
  rintro e w1 ⟨rfl, hb1⟩
  have HB1 := Lib.hid (BelowKit.bl_trans HB.out hb1)
  have HK1 := Lib.hid (HKB.out.on hb1)
  have HT1 := Lib.hid (HBT.out.on hb1)
  clear hb1 k0 k1 k2 k3 k4' k5 z0 z1 r0 r1 r2 g0 g1 g2 HKB HBT HB
  obtain ⟨k0, k1, k2, k3, k4', k5⟩ := HK1.out.six
  have z0 := HK1.out.lt
  obtain ⟨r0, r1, r2, g0, g1, g2, z1⟩ := HT1.out
  obtain ⟨b0, hb0⟩ : ∃ b, okS l = b := ⟨_, rfl⟩
  have H0 := Lib.hid hb0
  rw [hb0]
  clear hb0
  cases b0 with
  | false =>
    have E := Lib.hid (HNO.out (by rw [allB, H0.out]; rfl))
    go_wp2
    refine bodyPost_ret (v := .agg #[.int .i64 0, .int .i64 0, .int .i64 0]) (by simp [results, Try.results36, r0, r1, r2, go_sem]) rfl ⟨by rw [E.out], ?_⟩
    exact BelowKit.bl_set (two_set HB1.out (by omega)) (a := ⟨w.heap.size + 1, 2, none⟩) _ (by simp)
  | true =>
  go_wp2_with fail
  refine (SerI.ok_i _ q n cap' x HN.out hs' (KX.out.on HB1.out)).mono ?_
  rintro e w2 ⟨rfl, hb1⟩
  have HB2 := Lib.hid (BelowKit.bl_trans HB1.out hb1)
  have HK2 := Lib.hid (HK1.out.on hb1)
  have HT2 := Lib.hid (HT1.out.on hb1)
  clear hb1 k0 k1 k2 k3 k4' k5 z0 z1 r0 r1 r2 g0 g1 g2 HK1 HT1 HB1
  obtain ⟨k0, k1, k2, k3, k4', k5⟩ := HK2.out.six
  have z0 := HK2.out.lt
  obtain ⟨r0, r1, r2, g0, g1, g2, z1⟩ := HT2.out
  obtain ⟨b0, hb0⟩ : ∃ b, PointMath.okS x = b := ⟨_, rfl⟩
  have H1 := Lib.hid hb0
  rw [hb0]
  clear hb0
  cases b0 with
  | false =>
    have E := Lib.hid (HNO.out (by rw [allB, H0.out, H1.out]; rfl))
    go_wp2
    refine bodyPost_ret (v := .agg #[.int .i64 0, .int .i64 0, .int .i64 0]) (by simp [results, Try.results36, r0, r1, r2, go_sem]) rfl ⟨by rw [E.out], ?_⟩
    exact BelowKit.bl_set (two_set HB2.out (by omega)) (a := ⟨w.heap.size + 1, 2, none⟩) _ (by simp)
  | true =>
  go_wp2_with fail
  refine (end_i f w2).mono ?_
  rintro e w3 ⟨rfl, hw⟩
  subst hw
  obtain ⟨b0, hb0⟩ : ∃ b, inB f 0 3600 = b := ⟨_, rfl⟩
  have H2 := Lib.hid hb0
  rw [hb0]
  clear hb0
  cases b0 with
  | false =>
    have E := Lib.hid (HNO.out (by rw [allB, H0.out, H1.out, H2.out]; rfl))
    go_wp2
    refine bodyPost_ret (v := .agg #[.int .i64 0, .int .i64 0, .int .i64 0]) (by simp [results, Try.results36, r0, r1, r2, go_sem]) rfl ⟨by rw [E.out], ?_⟩
    exact BelowKit.bl_set (two_set HB2.out (by omega)) (a := ⟨w.heap.size + 1, 2, none⟩) _ (by simp)
  | true =>
  go_wp2_with fail
  refine (end_i t w2).mono ?_
  rintro e w3 ⟨rfl, hw⟩
  subst hw
  obtain ⟨b0, hb0⟩ : ∃ b, inB t 0 3600 = b := ⟨_, rfl⟩
  have H3 := Lib.hid hb0
  rw [hb0]
  clear hb0
  cases b0 with
  | false =>
    have E := Lib.hid (HNO.out (by rw [allB, H0.out, H1.out, H2.out, H3.out]; rfl))
    go_wp2
    refine bodyPost_ret (v := .agg #[.int .i64 0, .int .i64 0, .int .i64 0]) (by simp [results, Try.results36, r0, r1, r2, go_sem]) rfl ⟨by rw [E.out], ?_⟩
    exact BelowKit.bl_set (two_set HB2.out (by omega)) (a := ⟨w.heap.size + 1, 2, none⟩) _ (by simp)
  | true =>
  have HA := Lib.hid (show allB l x f t = true by rw [allB, H0.out, H1.out, H2.out, H3.out]; rfl)
  have E := Lib.hid (HYES.out HA.out)
  have HKP : Hid (∀ W', Below w2.heap.size w2 W' → _) := Lib.hid fun W' hb => (HK2.out.on hb).six
  have HF2 := Lib.hid (HT.out HA.out)
  clear HT
  go_wp2_with fail
  go_region_law (first
      | (go_simp; go_at_call 58; (with_reducible refine (ways_i _).mono ?_); rintro e w3 hw3; obtain ⟨rfl, hw0, hw1, hw2, hw3, hlt3, hb3⟩ := hw3; have hww : w3.cell? ⟨w2.heap.size, 0, none⟩ = some (.func (.func 71) #[] #[]) := hw0; clear hw0 hw1 hw2 hw3; change w2.heap.size < w3.heap.size at hlt3; have HB3 := Lib.hid (show Below w2.heap.size w2 w3 from BelowKit.bl_trans (by first | exact (Below.refl _ _).drew | exact below_drewN (Below.refl _ _) _ | exact Below.refl _ _) hb3); clear hb3; obtain ⟨j0, j1, j2, j3, j4, j5⟩ := HKP.out _ HB3.out)
      | (go_simp; go_at_call 71; (with_reducible refine (HF2.out _ (BelowKit.bl_trans HB2.out (by first | exact HB3.out | exact HB3.out.drew | exact below_drewN HB3.out _))).mono ?_); rintro e w4 ⟨rfl, hb4⟩; have HB4 := Lib.hid (show Below w2.heap.size w2 w4 from BelowKit.bl_trans HB3.out (BelowKit.bl_trans (by first | exact (Below.refl _ _).drew | exact below_drewN (Below.refl _ _) _ | exact Below.refl _ _) hb4)); have HQ4 := HT2.out.on HB4.out; clear r0 r1 r2 g0 g1 g2; have r0 := HQ4.c0; have r1 := HQ4.c1; have r2 := HQ4.c2; have g0 := HQ4.f0; have g1 := HQ4.f1; have g2 := HQ4.f2; clear hb4 HQ4))
  all_goals
    go_wp2
    refine bodyPost_ret (v := .agg #[.int .i64 T.s, .int .i64 T.m, .int .i64 T.p]) (by simp [results, Try.results36, r0, r1, r2, go_sem]) rfl ⟨by rw [E.out], ?_⟩
    exact BelowKit.bl_set (two_set (BelowKit.bl_trans HB2.out HB4.out) (by omega)) (a := ⟨w.heap.size + 1, 2, none⟩) _ (by simp)
set_option maxHeartbeats 2000000 in
theorem by_average (w : World) (p : Option Addr) (m cap : Nat) (l : List Fa) (kn f t len : Int) (q : Option Addr) (n cap' : Nat) (x : List TPoint.El) (hm : l.length = m) (hs : m ≤ 1099511627776) (h : ReadsF w p l) (hn : x.length = n) (hs' : n ≤ 1099511627776) (hx : Reads TPoint.fc 3 w q x)
    (T : Tt) (hT : allB l x f t = true → ∀ W, Below w.heap.size w W → Calls Try.prog 72 #[.agg #[.slice p m cap, .int .i64 kn, .int .i64 f, .int .i64 t, .int .i64 len, .slice q n cap']] W (IsTt T W)) :
    Calls Try.prog 36 #[.agg #[.slice p m cap, .int .i64 kn, .int .i64 f, .int .i64 t, .int .i64 len, .slice q n cap'], (.int .i64 1)] w (IsTt (byT (allB l x f t) T) w) := by
  have KK := Lib.hid h
  have HM := Lib.hid hm
  have KX := Lib.hid hx
  have HN := Lib.hid hn
  have HT := Lib.hid hT
  obtain ⟨R, hR⟩ : ∃ R, byT (allB l x f t) T = R := ⟨_, rfl⟩
  have HNO : Hid (allB l x f t = false → R = ⟨0, 0, 0⟩) := Lib.hid fun e => by rw [← hR, e]; rfl
  have HYES : Hid (allB l x f t = true → R = T) := Lib.hid fun e => by rw [← hR, e]; rfl
  rw [hR]
  clear h hm hx hn hT hR
  go_enter Try.func36, Try.ntmps36
  go_upto_region 1 with fail
  generalize hW : (w.alloc _).alloc _ = W
  have HB := Lib.hid (show Below w.heap.size w W by rw [← hW]; (repeat (first | exact Below.refl _ _ | apply BelowKit.bl_alloc | apply BelowKit.bl_drewN | apply BelowKit.bl_drew | (refine BelowKit.bl_set ?_ _ ?_; rotate_left; (first | omega | (simp; omega) | simp)) | (refine BelowKit.bl_trans ?_ (‹Hid (Below _ _ _)›).out))))
  have hk : Kb W w.heap.size (.slice p m cap) (.slice q n cap') kn f t len := by rw [← hW]; exact (Kb.new w _ _ _ _ _ _ _).on (BelowKit.bl_alloc (Below.refl _ _))
  have hb : Bt W (w.heap.size + 1) 0 0 0 := by rw [← hW]; simpa using Bt.new (w.alloc _) 0 0 0
  have HKB := Lib.hid hk
  have HBT := Lib.hid hb
  obtain ⟨k0, k1, k2, k3, k4', k5⟩ := hk.six
  have z0 := hk.lt
  obtain ⟨r0, r1, r2, g0, g1, g2, z1⟩ := hb
  clear hW hk
  go_wp2_with fail
  refine (StoreOk.ok_i _ p m cap l HM.out hs (KK.out.on HB.out)).mono ?_
  rintro e w1 ⟨rfl, hb1⟩
  have HB1 := Lib.hid (BelowKit.bl_trans HB.out hb1)
  have HK1 := Lib.hid (HKB.out.on hb1)
  have HT1 := Lib.hid (HBT.out.on hb1)
  clear hb1 k0 k1 k2 k3 k4' k5 z0 z1 r0 r1 r2 g0 g1 g2 HKB HBT HB
  obtain ⟨k0, k1, k2, k3, k4', k5⟩ := HK1.out.six
  have z0 := HK1.out.lt
  obtain ⟨r0, r1, r2, g0, g1, g2, z1⟩ := HT1.out
  obtain ⟨b0, hb0⟩ : ∃ b, okS l = b := ⟨_, rfl⟩
  have H0 := Lib.hid hb0
  rw [hb0]
  clear hb0
  cases b0 with
  | false =>
    have E := Lib.hid (HNO.out (by rw [allB, H0.out]; rfl))
    go_wp2
    refine bodyPost_ret (v := .agg #[.int .i64 0, .int .i64 0, .int .i64 0]) (by simp [results, Try.results36, r0, r1, r2, go_sem]) rfl ⟨by rw [E.out], ?_⟩
    exact BelowKit.bl_set (two_set HB1.out (by omega)) (a := ⟨w.heap.size + 1, 2, none⟩) _ (by simp)
  | true =>
  go_wp2_with fail
  refine (SerI.ok_i _ q n cap' x HN.out hs' (KX.out.on HB1.out)).mono ?_
  rintro e w2 ⟨rfl, hb1⟩
  have HB2 := Lib.hid (BelowKit.bl_trans HB1.out hb1)
  have HK2 := Lib.hid (HK1.out.on hb1)
  have HT2 := Lib.hid (HT1.out.on hb1)
  clear hb1 k0 k1 k2 k3 k4' k5 z0 z1 r0 r1 r2 g0 g1 g2 HK1 HT1 HB1
  obtain ⟨k0, k1, k2, k3, k4', k5⟩ := HK2.out.six
  have z0 := HK2.out.lt
  obtain ⟨r0, r1, r2, g0, g1, g2, z1⟩ := HT2.out
  obtain ⟨b0, hb0⟩ : ∃ b, PointMath.okS x = b := ⟨_, rfl⟩
  have H1 := Lib.hid hb0
  rw [hb0]
  clear hb0
  cases b0 with
  | false =>
    have E := Lib.hid (HNO.out (by rw [allB, H0.out, H1.out]; rfl))
    go_wp2
    refine bodyPost_ret (v := .agg #[.int .i64 0, .int .i64 0, .int .i64 0]) (by simp [results, Try.results36, r0, r1, r2, go_sem]) rfl ⟨by rw [E.out], ?_⟩
    exact BelowKit.bl_set (two_set HB2.out (by omega)) (a := ⟨w.heap.size + 1, 2, none⟩) _ (by simp)
  | true =>
  go_wp2_with fail
  refine (end_i f w2).mono ?_
  rintro e w3 ⟨rfl, hw⟩
  subst hw
  obtain ⟨b0, hb0⟩ : ∃ b, inB f 0 3600 = b := ⟨_, rfl⟩
  have H2 := Lib.hid hb0
  rw [hb0]
  clear hb0
  cases b0 with
  | false =>
    have E := Lib.hid (HNO.out (by rw [allB, H0.out, H1.out, H2.out]; rfl))
    go_wp2
    refine bodyPost_ret (v := .agg #[.int .i64 0, .int .i64 0, .int .i64 0]) (by simp [results, Try.results36, r0, r1, r2, go_sem]) rfl ⟨by rw [E.out], ?_⟩
    exact BelowKit.bl_set (two_set HB2.out (by omega)) (a := ⟨w.heap.size + 1, 2, none⟩) _ (by simp)
  | true =>
  go_wp2_with fail
  refine (end_i t w2).mono ?_
  rintro e w3 ⟨rfl, hw⟩
  subst hw
  obtain ⟨b0, hb0⟩ : ∃ b, inB t 0 3600 = b := ⟨_, rfl⟩
  have H3 := Lib.hid hb0
  rw [hb0]
  clear hb0
  cases b0 with
  | false =>
    have E := Lib.hid (HNO.out (by rw [allB, H0.out, H1.out, H2.out, H3.out]; rfl))
    go_wp2
    refine bodyPost_ret (v := .agg #[.int .i64 0, .int .i64 0, .int .i64 0]) (by simp [results, Try.results36, r0, r1, r2, go_sem]) rfl ⟨by rw [E.out], ?_⟩
    exact BelowKit.bl_set (two_set HB2.out (by omega)) (a := ⟨w.heap.size + 1, 2, none⟩) _ (by simp)
  | true =>
  have HA := Lib.hid (show allB l x f t = true by rw [allB, H0.out, H1.out, H2.out, H3.out]; rfl)
  have E := Lib.hid (HYES.out HA.out)
  have HKP : Hid (∀ W', Below w2.heap.size w2 W' → _) := Lib.hid fun W' hb => (HK2.out.on hb).six
  have HF2 := Lib.hid (HT.out HA.out)
  clear HT
  go_wp2_with fail
  go_region_law (first
      | (go_simp; go_at_call 58; (with_reducible refine (ways_i _).mono ?_); rintro e w3 hw3; obtain ⟨rfl, hw0, hw1, hw2, hw3, hlt3, hb3⟩ := hw3; have hww : w3.cell? ⟨w2.heap.size, 1, none⟩ = some (.func (.func 72) #[] #[]) := hw1; clear hw0 hw1 hw2 hw3; change w2.heap.size < w3.heap.size at hlt3; have HB3 := Lib.hid (show Below w2.heap.size w2 w3 from BelowKit.bl_trans (by first | exact (Below.refl _ _).drew | exact below_drewN (Below.refl _ _) _ | exact Below.refl _ _) hb3); clear hb3; obtain ⟨j0, j1, j2, j3, j4, j5⟩ := HKP.out _ HB3.out)
      | (go_simp; go_at_call 72; (with_reducible refine (HF2.out _ (BelowKit.bl_trans HB2.out (by first | exact HB3.out | exact HB3.out.drew | exact below_drewN HB3.out _))).mono ?_); rintro e w4 ⟨rfl, hb4⟩; have HB4 := Lib.hid (show Below w2.heap.size w2 w4 from BelowKit.bl_trans HB3.out (BelowKit.bl_trans (by first | exact (Below.refl _ _).drew | exact below_drewN (Below.refl _ _) _ | exact Below.refl _ _) hb4)); have HQ4 := HT2.out.on HB4.out; clear r0 r1 r2 g0 g1 g2; have r0 := HQ4.c0; have r1 := HQ4.c1; have r2 := HQ4.c2; have g0 := HQ4.f0; have g1 := HQ4.f1; have g2 := HQ4.f2; clear hb4 HQ4))
  all_goals
    go_wp2
    refine bodyPost_ret (v := .agg #[.int .i64 T.s, .int .i64 T.m, .int .i64 T.p]) (by simp [results, Try.results36, r0, r1, r2, go_sem]) rfl ⟨by rw [E.out], ?_⟩
    exact BelowKit.bl_set (two_set (BelowKit.bl_trans HB2.out HB4.out) (by omega)) (a := ⟨w.heap.size + 1, 2, none⟩) _ (by simp)
set_option maxHeartbeats 2000000 in
theorem by_best (w : World) (p : Option Addr) (m cap : Nat) (l : List Fa) (kn f t len : Int) (q : Option Addr) (n cap' : Nat) (x : List TPoint.El) (hm : l.length = m) (hs : m ≤ 1099511627776) (h : ReadsF w p l) (hn : x.length = n) (hs' : n ≤ 1099511627776) (hx : Reads TPoint.fc 3 w q x)
    (T : Tt) (hT : allB l x f t = true → ∀ W, Below w.heap.size w W → Calls Try.prog 73 #[.agg #[.slice p m cap, .int .i64 kn, .int .i64 f, .int .i64 t, .int .i64 len, .slice q n cap']] W (IsTt T W)) :
    Calls Try.prog 36 #[.agg #[.slice p m cap, .int .i64 kn, .int .i64 f, .int .i64 t, .int .i64 len, .slice q n cap'], (.int .i64 2)] w (IsTt (byT (allB l x f t) T) w) := by
  have KK := Lib.hid h
  have HM := Lib.hid hm
  have KX := Lib.hid hx
  have HN := Lib.hid hn
  have HT := Lib.hid hT
  obtain ⟨R, hR⟩ : ∃ R, byT (allB l x f t) T = R := ⟨_, rfl⟩
  have HNO : Hid (allB l x f t = false → R = ⟨0, 0, 0⟩) := Lib.hid fun e => by rw [← hR, e]; rfl
  have HYES : Hid (allB l x f t = true → R = T) := Lib.hid fun e => by rw [← hR, e]; rfl
  rw [hR]
  clear h hm hx hn hT hR
  go_enter Try.func36, Try.ntmps36
  go_upto_region 1 with fail
  generalize hW : (w.alloc _).alloc _ = W
  have HB := Lib.hid (show Below w.heap.size w W by rw [← hW]; (repeat (first | exact Below.refl _ _ | apply BelowKit.bl_alloc | apply BelowKit.bl_drewN | apply BelowKit.bl_drew | (refine BelowKit.bl_set ?_ _ ?_; rotate_left; (first | omega | (simp; omega) | simp)) | (refine BelowKit.bl_trans ?_ (‹Hid (Below _ _ _)›).out))))
  have hk : Kb W w.heap.size (.slice p m cap) (.slice q n cap') kn f t len := by rw [← hW]; exact (Kb.new w _ _ _ _ _ _ _).on (BelowKit.bl_alloc (Below.refl _ _))
  have hb : Bt W (w.heap.size + 1) 0 0 0 := by rw [← hW]; simpa using Bt.new (w.alloc _) 0 0 0
  have HKB := Lib.hid hk
  have HBT := Lib.hid hb
  obtain ⟨k0, k1, k2, k3, k4', k5⟩ := hk.six
  have z0 := hk.lt
  obtain ⟨r0, r1, r2, g0, g1, g2, z1⟩ := hb
  clear hW hk
  go_wp2_with fail
  refine (StoreOk.ok_i _ p m cap l HM.out hs (KK.out.on HB.out)).mono ?_
  rintro e w1 ⟨rfl, hb1⟩
  have HB1 := Lib.hid (BelowKit.bl_trans HB.out hb1)
  have HK1 := Lib.hid (HKB.out.on hb1)
  have HT1 := Lib.hid (HBT.out.on hb1)
  clear hb1 k0 k1 k2 k3 k4' k5 z0 z1 r0 r1 r2 g0 g1 g2 HKB HBT HB
  obtain ⟨k0, k1, k2, k3, k4', k5⟩ := HK1.out.six
  have z0 := HK1.out.lt
  obtain ⟨r0, r1, r2, g0, g1, g2, z1⟩ := HT1.out
  obtain ⟨b0, hb0⟩ : ∃ b, okS l = b := ⟨_, rfl⟩
  have H0 := Lib.hid hb0
  rw [hb0]
  clear hb0
  cases b0 with
  | false =>
    have E := Lib.hid (HNO.out (by rw [allB, H0.out]; rfl))
    go_wp2
    refine bodyPost_ret (v := .agg #[.int .i64 0, .int .i64 0, .int .i64 0]) (by simp [results, Try.results36, r0, r1, r2, go_sem]) rfl ⟨by rw [E.out], ?_⟩
    exact BelowKit.bl_set (two_set HB1.out (by omega)) (a := ⟨w.heap.size + 1, 2, none⟩) _ (by simp)
  | true =>
  go_wp2_with fail
  refine (SerI.ok_i _ q n cap' x HN.out hs' (KX.out.on HB1.out)).mono ?_
  rintro e w2 ⟨rfl, hb1⟩
  have HB2 := Lib.hid (BelowKit.bl_trans HB1.out hb1)
  have HK2 := Lib.hid (HK1.out.on hb1)
  have HT2 := Lib.hid (HT1.out.on hb1)
  clear hb1 k0 k1 k2 k3 k4' k5 z0 z1 r0 r1 r2 g0 g1 g2 HK1 HT1 HB1
  obtain ⟨k0, k1, k2, k3, k4', k5⟩ := HK2.out.six
  have z0 := HK2.out.lt
  obtain ⟨r0, r1, r2, g0, g1, g2, z1⟩ := HT2.out
  obtain ⟨b0, hb0⟩ : ∃ b, PointMath.okS x = b := ⟨_, rfl⟩
  have H1 := Lib.hid hb0
  rw [hb0]
  clear hb0
  cases b0 with
  | false =>
    have E := Lib.hid (HNO.out (by rw [allB, H0.out, H1.out]; rfl))
    go_wp2
    refine bodyPost_ret (v := .agg #[.int .i64 0, .int .i64 0, .int .i64 0]) (by simp [results, Try.results36, r0, r1, r2, go_sem]) rfl ⟨by rw [E.out], ?_⟩
    exact BelowKit.bl_set (two_set HB2.out (by omega)) (a := ⟨w.heap.size + 1, 2, none⟩) _ (by simp)
  | true =>
  go_wp2_with fail
  refine (end_i f w2).mono ?_
  rintro e w3 ⟨rfl, hw⟩
  subst hw
  obtain ⟨b0, hb0⟩ : ∃ b, inB f 0 3600 = b := ⟨_, rfl⟩
  have H2 := Lib.hid hb0
  rw [hb0]
  clear hb0
  cases b0 with
  | false =>
    have E := Lib.hid (HNO.out (by rw [allB, H0.out, H1.out, H2.out]; rfl))
    go_wp2
    refine bodyPost_ret (v := .agg #[.int .i64 0, .int .i64 0, .int .i64 0]) (by simp [results, Try.results36, r0, r1, r2, go_sem]) rfl ⟨by rw [E.out], ?_⟩
    exact BelowKit.bl_set (two_set HB2.out (by omega)) (a := ⟨w.heap.size + 1, 2, none⟩) _ (by simp)
  | true =>
  go_wp2_with fail
  refine (end_i t w2).mono ?_
  rintro e w3 ⟨rfl, hw⟩
  subst hw
  obtain ⟨b0, hb0⟩ : ∃ b, inB t 0 3600 = b := ⟨_, rfl⟩
  have H3 := Lib.hid hb0
  rw [hb0]
  clear hb0
  cases b0 with
  | false =>
    have E := Lib.hid (HNO.out (by rw [allB, H0.out, H1.out, H2.out, H3.out]; rfl))
    go_wp2
    refine bodyPost_ret (v := .agg #[.int .i64 0, .int .i64 0, .int .i64 0]) (by simp [results, Try.results36, r0, r1, r2, go_sem]) rfl ⟨by rw [E.out], ?_⟩
    exact BelowKit.bl_set (two_set HB2.out (by omega)) (a := ⟨w.heap.size + 1, 2, none⟩) _ (by simp)
  | true =>
  have HA := Lib.hid (show allB l x f t = true by rw [allB, H0.out, H1.out, H2.out, H3.out]; rfl)
  have E := Lib.hid (HYES.out HA.out)
  have HKP : Hid (∀ W', Below w2.heap.size w2 W' → _) := Lib.hid fun W' hb => (HK2.out.on hb).six
  have HF2 := Lib.hid (HT.out HA.out)
  clear HT
  go_wp2_with fail
  go_region_law (first
      | (go_simp; go_at_call 58; (with_reducible refine (ways_i _).mono ?_); rintro e w3 hw3; obtain ⟨rfl, hw0, hw1, hw2, hw3, hlt3, hb3⟩ := hw3; have hww : w3.cell? ⟨w2.heap.size, 2, none⟩ = some (.func (.func 73) #[] #[]) := hw2; clear hw0 hw1 hw2 hw3; change w2.heap.size < w3.heap.size at hlt3; have HB3 := Lib.hid (show Below w2.heap.size w2 w3 from BelowKit.bl_trans (by first | exact (Below.refl _ _).drew | exact below_drewN (Below.refl _ _) _ | exact Below.refl _ _) hb3); clear hb3; obtain ⟨j0, j1, j2, j3, j4, j5⟩ := HKP.out _ HB3.out)
      | (go_simp; go_at_call 73; (with_reducible refine (HF2.out _ (BelowKit.bl_trans HB2.out (by first | exact HB3.out | exact HB3.out.drew | exact below_drewN HB3.out _))).mono ?_); rintro e w4 ⟨rfl, hb4⟩; have HB4 := Lib.hid (show Below w2.heap.size w2 w4 from BelowKit.bl_trans HB3.out (BelowKit.bl_trans (by first | exact (Below.refl _ _).drew | exact below_drewN (Below.refl _ _) _ | exact Below.refl _ _) hb4)); have HQ4 := HT2.out.on HB4.out; clear r0 r1 r2 g0 g1 g2; have r0 := HQ4.c0; have r1 := HQ4.c1; have r2 := HQ4.c2; have g0 := HQ4.f0; have g1 := HQ4.f1; have g2 := HQ4.f2; clear hb4 HQ4))
  all_goals
    go_wp2
    refine bodyPost_ret (v := .agg #[.int .i64 T.s, .int .i64 T.m, .int .i64 T.p]) (by simp [results, Try.results36, r0, r1, r2, go_sem]) rfl ⟨by rw [E.out], ?_⟩
    exact BelowKit.bl_set (two_set (BelowKit.bl_trans HB2.out HB4.out) (by omega)) (a := ⟨w.heap.size + 1, 2, none⟩) _ (by simp)
set_option maxHeartbeats 2000000 in
theorem by_revalued (w : World) (p : Option Addr) (m cap : Nat) (l : List Fa) (kn f t len : Int) (q : Option Addr) (n cap' : Nat) (x : List TPoint.El) (hm : l.length = m) (hs : m ≤ 1099511627776) (h : ReadsF w p l) (hn : x.length = n) (hs' : n ≤ 1099511627776) (hx : Reads TPoint.fc 3 w q x)
    (T : Tt) (hT : allB l x f t = true → ∀ W, Below w.heap.size w W → Calls Try.prog 74 #[.agg #[.slice p m cap, .int .i64 kn, .int .i64 f, .int .i64 t, .int .i64 len, .slice q n cap']] W (IsTt T W)) :
    Calls Try.prog 36 #[.agg #[.slice p m cap, .int .i64 kn, .int .i64 f, .int .i64 t, .int .i64 len, .slice q n cap'], (.int .i64 3)] w (IsTt (byT (allB l x f t) T) w) := by
  have KK := Lib.hid h
  have HM := Lib.hid hm
  have KX := Lib.hid hx
  have HN := Lib.hid hn
  have HT := Lib.hid hT
  obtain ⟨R, hR⟩ : ∃ R, byT (allB l x f t) T = R := ⟨_, rfl⟩
  have HNO : Hid (allB l x f t = false → R = ⟨0, 0, 0⟩) := Lib.hid fun e => by rw [← hR, e]; rfl
  have HYES : Hid (allB l x f t = true → R = T) := Lib.hid fun e => by rw [← hR, e]; rfl
  rw [hR]
  clear h hm hx hn hT hR
  go_enter Try.func36, Try.ntmps36
  go_upto_region 1 with fail
  generalize hW : (w.alloc _).alloc _ = W
  have HB := Lib.hid (show Below w.heap.size w W by rw [← hW]; (repeat (first | exact Below.refl _ _ | apply BelowKit.bl_alloc | apply BelowKit.bl_drewN | apply BelowKit.bl_drew | (refine BelowKit.bl_set ?_ _ ?_; rotate_left; (first | omega | (simp; omega) | simp)) | (refine BelowKit.bl_trans ?_ (‹Hid (Below _ _ _)›).out))))
  have hk : Kb W w.heap.size (.slice p m cap) (.slice q n cap') kn f t len := by rw [← hW]; exact (Kb.new w _ _ _ _ _ _ _).on (BelowKit.bl_alloc (Below.refl _ _))
  have hb : Bt W (w.heap.size + 1) 0 0 0 := by rw [← hW]; simpa using Bt.new (w.alloc _) 0 0 0
  have HKB := Lib.hid hk
  have HBT := Lib.hid hb
  obtain ⟨k0, k1, k2, k3, k4', k5⟩ := hk.six
  have z0 := hk.lt
  obtain ⟨r0, r1, r2, g0, g1, g2, z1⟩ := hb
  clear hW hk
  go_wp2_with fail
  refine (StoreOk.ok_i _ p m cap l HM.out hs (KK.out.on HB.out)).mono ?_
  rintro e w1 ⟨rfl, hb1⟩
  have HB1 := Lib.hid (BelowKit.bl_trans HB.out hb1)
  have HK1 := Lib.hid (HKB.out.on hb1)
  have HT1 := Lib.hid (HBT.out.on hb1)
  clear hb1 k0 k1 k2 k3 k4' k5 z0 z1 r0 r1 r2 g0 g1 g2 HKB HBT HB
  obtain ⟨k0, k1, k2, k3, k4', k5⟩ := HK1.out.six
  have z0 := HK1.out.lt
  obtain ⟨r0, r1, r2, g0, g1, g2, z1⟩ := HT1.out
  obtain ⟨b0, hb0⟩ : ∃ b, okS l = b := ⟨_, rfl⟩
  have H0 := Lib.hid hb0
  rw [hb0]
  clear hb0
  cases b0 with
  | false =>
    have E := Lib.hid (HNO.out (by rw [allB, H0.out]; rfl))
    go_wp2
    refine bodyPost_ret (v := .agg #[.int .i64 0, .int .i64 0, .int .i64 0]) (by simp [results, Try.results36, r0, r1, r2, go_sem]) rfl ⟨by rw [E.out], ?_⟩
    exact BelowKit.bl_set (two_set HB1.out (by omega)) (a := ⟨w.heap.size + 1, 2, none⟩) _ (by simp)
  | true =>
  go_wp2_with fail
  refine (SerI.ok_i _ q n cap' x HN.out hs' (KX.out.on HB1.out)).mono ?_
  rintro e w2 ⟨rfl, hb1⟩
  have HB2 := Lib.hid (BelowKit.bl_trans HB1.out hb1)
  have HK2 := Lib.hid (HK1.out.on hb1)
  have HT2 := Lib.hid (HT1.out.on hb1)
  clear hb1 k0 k1 k2 k3 k4' k5 z0 z1 r0 r1 r2 g0 g1 g2 HK1 HT1 HB1
  obtain ⟨k0, k1, k2, k3, k4', k5⟩ := HK2.out.six
  have z0 := HK2.out.lt
  obtain ⟨r0, r1, r2, g0, g1, g2, z1⟩ := HT2.out
  obtain ⟨b0, hb0⟩ : ∃ b, PointMath.okS x = b := ⟨_, rfl⟩
  have H1 := Lib.hid hb0
  rw [hb0]
  clear hb0
  cases b0 with
  | false =>
    have E := Lib.hid (HNO.out (by rw [allB, H0.out, H1.out]; rfl))
    go_wp2
    refine bodyPost_ret (v := .agg #[.int .i64 0, .int .i64 0, .int .i64 0]) (by simp [results, Try.results36, r0, r1, r2, go_sem]) rfl ⟨by rw [E.out], ?_⟩
    exact BelowKit.bl_set (two_set HB2.out (by omega)) (a := ⟨w.heap.size + 1, 2, none⟩) _ (by simp)
  | true =>
  go_wp2_with fail
  refine (end_i f w2).mono ?_
  rintro e w3 ⟨rfl, hw⟩
  subst hw
  obtain ⟨b0, hb0⟩ : ∃ b, inB f 0 3600 = b := ⟨_, rfl⟩
  have H2 := Lib.hid hb0
  rw [hb0]
  clear hb0
  cases b0 with
  | false =>
    have E := Lib.hid (HNO.out (by rw [allB, H0.out, H1.out, H2.out]; rfl))
    go_wp2
    refine bodyPost_ret (v := .agg #[.int .i64 0, .int .i64 0, .int .i64 0]) (by simp [results, Try.results36, r0, r1, r2, go_sem]) rfl ⟨by rw [E.out], ?_⟩
    exact BelowKit.bl_set (two_set HB2.out (by omega)) (a := ⟨w.heap.size + 1, 2, none⟩) _ (by simp)
  | true =>
  go_wp2_with fail
  refine (end_i t w2).mono ?_
  rintro e w3 ⟨rfl, hw⟩
  subst hw
  obtain ⟨b0, hb0⟩ : ∃ b, inB t 0 3600 = b := ⟨_, rfl⟩
  have H3 := Lib.hid hb0
  rw [hb0]
  clear hb0
  cases b0 with
  | false =>
    have E := Lib.hid (HNO.out (by rw [allB, H0.out, H1.out, H2.out, H3.out]; rfl))
    go_wp2
    refine bodyPost_ret (v := .agg #[.int .i64 0, .int .i64 0, .int .i64 0]) (by simp [results, Try.results36, r0, r1, r2, go_sem]) rfl ⟨by rw [E.out], ?_⟩
    exact BelowKit.bl_set (two_set HB2.out (by omega)) (a := ⟨w.heap.size + 1, 2, none⟩) _ (by simp)
  | true =>
  have HA := Lib.hid (show allB l x f t = true by rw [allB, H0.out, H1.out, H2.out, H3.out]; rfl)
  have E := Lib.hid (HYES.out HA.out)
  have HKP : Hid (∀ W', Below w2.heap.size w2 W' → _) := Lib.hid fun W' hb => (HK2.out.on hb).six
  have HF2 := Lib.hid (HT.out HA.out)
  clear HT
  go_wp2_with fail
  go_region_law (first
      | (go_simp; go_at_call 58; (with_reducible refine (ways_i _).mono ?_); rintro e w3 hw3; obtain ⟨rfl, hw0, hw1, hw2, hw3, hlt3, hb3⟩ := hw3; have hww : w3.cell? ⟨w2.heap.size, 3, none⟩ = some (.func (.func 74) #[] #[]) := hw3; clear hw0 hw1 hw2 hw3; change w2.heap.size < w3.heap.size at hlt3; have HB3 := Lib.hid (show Below w2.heap.size w2 w3 from BelowKit.bl_trans (by first | exact (Below.refl _ _).drew | exact below_drewN (Below.refl _ _) _ | exact Below.refl _ _) hb3); clear hb3; obtain ⟨j0, j1, j2, j3, j4, j5⟩ := HKP.out _ HB3.out)
      | (go_simp; go_at_call 74; (with_reducible refine (HF2.out _ (BelowKit.bl_trans HB2.out (by first | exact HB3.out | exact HB3.out.drew | exact below_drewN HB3.out _))).mono ?_); rintro e w4 ⟨rfl, hb4⟩; have HB4 := Lib.hid (show Below w2.heap.size w2 w4 from BelowKit.bl_trans HB3.out (BelowKit.bl_trans (by first | exact (Below.refl _ _).drew | exact below_drewN (Below.refl _ _) _ | exact Below.refl _ _) hb4)); have HQ4 := HT2.out.on HB4.out; clear r0 r1 r2 g0 g1 g2; have r0 := HQ4.c0; have r1 := HQ4.c1; have r2 := HQ4.c2; have g0 := HQ4.f0; have g1 := HQ4.f1; have g2 := HQ4.f2; clear hb4 HQ4))
  all_goals
    go_wp2
    refine bodyPost_ret (v := .agg #[.int .i64 T.s, .int .i64 T.m, .int .i64 T.p]) (by simp [results, Try.results36, r0, r1, r2, go_sem]) rfl ⟨by rw [E.out], ?_⟩
    exact BelowKit.bl_set (two_set (BelowKit.bl_trans HB2.out HB4.out) (by omega)) (a := ⟨w.heap.size + 1, 2, none⟩) _ (by simp)
end Go.Proofs.Ytdmkceaonfbebaa.PayW
