/- Contracts of the ways to compute pay: final and average. -/
import Derived.Test.YtdmkceaonfbebaaPayT
import Derived.Deep.RegionHeld3
import Derived.Deep.DeepCutAuto
import Derived.BigQuiet
namespace Go.Proofs.Ytdmkceaonfbebaa.PayM
open Go.RowKit RowN PayMath PayLine Mon Box PayS PayT FactMath
open FracMath (red)
open Fact (Fa)
open FactRow (ReadsF)
/-- The box of a case. -/
structure Kb (W : World) (A : Nat) (v0 v5 : Value) (kn f t len : Int) : Prop where
  c0 : W.cell? ⟨A, 0, none⟩ = some v0
  c1 : W.cell? ⟨A, 1, none⟩ = some (.int .i64 kn)
  c2 : W.cell? ⟨A, 2, none⟩ = some (.int .i64 f)
  c3 : W.cell? ⟨A, 3, none⟩ = some (.int .i64 t)
  c4 : W.cell? ⟨A, 4, none⟩ = some (.int .i64 len)
  c5 : W.cell? ⟨A, 5, none⟩ = some v5
  lt : A < W.heap.size
theorem Kb.on {W w' : World} {A : Nat} {v0 v5 : Value} {kn f t len : Int} (h : Kb W A v0 v5 kn f t len) (hb : Below W.heap.size W w') : Kb w' A v0 v5 kn f t len := by
  have h1 := h.lt
  obtain ⟨kc, kf⟩ := BelowKit.bcell hb
  exact ⟨(kc _ 0 h1).trans h.c0, (kc _ 1 h1).trans h.c1, (kc _ 2 h1).trans h.c2, (kc _ 3 h1).trans h.c3, (kc _ 4 h1).trans h.c4, (kc _ 5 h1).trans h.c5, Nat.lt_of_lt_of_le h1 hb.size⟩
theorem Kb.six {W : World} {A : Nat} {v0 v5 : Value} {kn f t len : Int} (h : Kb W A v0 v5 kn f t len) : W.cell? ⟨A, 0, none⟩ = some v0 ∧ W.cell? ⟨A, 1, none⟩ = some (.int .i64 kn) ∧ W.cell? ⟨A, 2, none⟩ = some (.int .i64 f) ∧ W.cell? ⟨A, 3, none⟩ = some (.int .i64 t) ∧ W.cell? ⟨A, 4, none⟩ = some (.int .i64 len) ∧ W.cell? ⟨A, 5, none⟩ = some v5 := ⟨h.c0, h.c1, h.c2, h.c3, h.c4, h.c5⟩
theorem Kb.new (w : World) (v0 v5 : Value) (kn f t len : Int) (T : TypeId) : Kb (w.alloc (.cells #[v0, .int .i64 kn, .int .i64 f, .int .i64 t, .int .i64 len, v5] T)) w.heap.size v0 v5 kn f t len :=
  ⟨by simp [go_sem], by simp [go_sem], by simp [go_sem], by simp [go_sem], by simp [go_sem], by simp [go_sem], by simp⟩
set_option maxHeartbeats 2000000 in
theorem avg_m (w : World) (p : Option Addr) (m cap : Nat) (l : List Fa) (kn f t len : Int) (q : Option Addr) (n cap' : Nat) (hm : l.length = m) (hs : m ≤ 1048576) (h : ReadsF w p l) (hok : OkS l) (f0 : 0 ≤ f) (f1 : f ≤ 3600) (t0 : 0 ≤ t) (t1 : t ≤ 3600) :
    Calls Try.prog 72 #[.agg #[.slice p m cap, .int .i64 kn, .int .i64 f, .int .i64 t, .int .i64 len, .slice q n cap']] w (IsTt ⟨sumTo l kn f (t - f).toNat, cntTo l kn f (t - f).toNat, f⟩ w) := by
  have KK := Lib.hid h
  have HM := Lib.hid hm
  have HK := Lib.hid hok
  have HS := Lib.hid (hist_sum hok (kn := kn) (a := f) (b := t) f0 f1 t0 t1 (Int.le_refl _) (Int.le_refl _))
  have HC := Lib.hid (hist_cnt hok (kn := kn) (a := f) (b := t) f0 f1 t0 t1 (Int.le_refl _) (Int.le_refl _))
  clear h hm hok
  go_enter Try.func72, Try.ntmps72
  go_upto_region 1 with fail
  generalize hW : (w.alloc _).alloc _ = W
  have HB := Lib.hid (show Below w.heap.size w W by rw [← hW]; (repeat (first | exact Below.refl _ _ | apply BelowKit.bl_alloc | apply BelowKit.bl_drewN | apply BelowKit.bl_drew | (refine BelowKit.bl_set ?_ _ ?_; rotate_left; (first | omega | (simp; omega) | simp)) | (refine BelowKit.bl_trans ?_ (‹Hid (Below _ _ _)›).out))))
  have hk : Kb W w.heap.size (.slice p m cap) (.slice q n cap') kn f t len := by rw [← hW]; exact (Kb.new w _ _ _ _ _ _ _).on (BelowKit.bl_alloc (Below.refl _ _))
  have hb : Bt W (w.heap.size + 1) 0 0 0 := by rw [← hW]; simpa using Bt.new (w.alloc _) 0 0 0
  have HKB := Lib.hid hk
  have HBT := Lib.hid hb
  have HKP : Hid (∀ W', Below W.heap.size W W' → _) := Lib.hid fun W' hb => (hk.on hb).six
  obtain ⟨k0, k1, k2, k3, k4, k5⟩ := hk.six
  have KW := Lib.hid (KK.out.on HB.out)
  clear hW hk hb KK
  go_region_held3 (fun W => W.cell? ⟨w.heap.size, 0, none⟩ = some (.slice p m cap) ∧ W.cell? ⟨w.heap.size, 1, none⟩ = some (.int .i64 kn) ∧ W.cell? ⟨w.heap.size, 2, none⟩ = some (.int .i64 f) ∧ W.cell? ⟨w.heap.size, 3, none⟩ = some (.int .i64 t) ∧ W.cell? ⟨w.heap.size, 4, none⟩ = some (.int .i64 len) ∧ W.cell? ⟨w.heap.size, 5, none⟩ = some (.slice q n cap'))
    (first | exact HKP.out _ HB2.out | exact HKP.out _ HB1.out | exact HKP.out _ (below_drewN (Below.refl _ _) _) | go_keep)
    (first
      | ((go_at_call 82; (with_reducible refine (hist_i _ p m cap l kn f t len q n cap' HM.out hs (KW.out.on (by first | exact (Below.refl _ _).drew | exact below_drewN (Below.refl _ _) _ | exact Below.refl _ _))).mono ?_); rintro e w1 ⟨a1, c1, rfl, ho, hb1⟩; have HB1 := Lib.hid (show Below W.heap.size W w1 from BelowKit.bl_trans (by first | exact (Below.refl _ _).drew | exact below_drewN (Below.refl _ _) _ | exact Below.refl _ _) hb1); have HR1 := Lib.hid (reads_own TSegment.fw ho); clear ho hb1))
      | ((go_at_call 81; (with_reducible refine (total_i _ a1 _ c1 (hist l kn f t) f t f t rfl (hist_len ..) (HR1.out.on (by first | exact (Below.refl _ _).drew | exact below_drewN (Below.refl _ _) _ | exact Below.refl _ _)) (fun x hx => hist_lies HK.out f0 f1 t0 t1 hx) f0 t1 f0 f1 t0 t1).mono ?_); rintro e w2 ⟨rfl, hb2⟩; have HB2 := Lib.hid (show Below W.heap.size W w2 from BelowKit.bl_trans HB1.out (BelowKit.bl_trans (by first | exact (Below.refl _ _).drew | exact below_drewN (Below.refl _ _) _ | exact Below.refl _ _) hb2)); have HQ2 := HBT.out.on HB2.out; have r0 := HQ2.c0; have r1 := HQ2.c1; have r2 := HQ2.c2; have g0 := HQ2.f0; have g1 := HQ2.f1; have g2 := HQ2.f2; clear hb2 HQ2)))
  rw [HS.out, HC.out]
  go_wp2
  refine bodyPost_ret (v := .agg #[.int .i64 (sumTo l kn f (t - f).toNat), .int .i64 (cntTo l kn f (t - f).toNat), .int .i64 f]) (by simp [results, Try.results72, r0, r1, r2, go_sem]) rfl ⟨rfl, ?_⟩
  exact BelowKit.bl_set (two_set (BelowKit.bl_trans HB.out HB2.out) (by omega)) (a := ⟨w.heap.size + 1, 2, none⟩) _ (by simp)
/-- What the final pay comes to, as a total. -/
def finT (l : List Fa) (kn : Int) (k : Nat) : Tt := ⟨(finTo l kn k).1, if (finTo l kn k).2 = true then 1 else 0, 0⟩
theorem finT_yes {l : List Fa} {kn v : Int} {k : Nat} (h : (v, true) = finTo l kn k) : finT l kn k = ⟨v, 1, 0⟩ := by unfold finT; rw [← h]; rfl
theorem finT_no {l : List Fa} {kn v : Int} {k : Nat} (h : (v, false) = finTo l kn k) (hv : v = 0) : finT l kn k = ⟨0, 0, 0⟩ := by unfold finT; rw [← h, hv]; rfl
set_option maxHeartbeats 4000000 in
theorem fin_m (w : World) (p : Option Addr) (m cap : Nat) (l : List Fa) (kn t len : Int) (q : Option Addr) (n cap' : Nat) (hm : l.length = m) (hs : m ≤ 1048576) (h : ReadsF w p l) (hok : OkS l) (t0 : 0 ≤ t) (t1 : t ≤ 3600) :
    Calls Try.prog 71 #[.agg #[.slice p m cap, .int .i64 kn, .int .i64 0, .int .i64 t, .int .i64 len, .slice q n cap']] w (IsTt (finT l kn t.toNat) w) := by
  have KK := Lib.hid h
  have HM := Lib.hid hm
  have HK := Lib.hid hok
  have HF := Lib.hid (fin_last hok (kn := kn) t0 t1)
  have HNO := Lib.hid (fun e : (finTo l kn t.toNat).2 = false => show (finTo l kn t.toNat).1 = 0 by
    rw [← fin_last hok (kn := kn) t0 t1] at e ⊢
    exact LineLaws.val_none _ _ _ _ e)
  obtain ⟨R, hR⟩ : ∃ R, lastF kn t l (-1) = R := ⟨_, rfl⟩
  rw [hR] at HF
  have HR := Lib.hid hR
  clear h hm hok hR
  go_enter Try.func71, Try.ntmps71
  go_wp2
  go_loopw [3, 12] (fun v i wr => ∃ (j : Nat) (r : Int), j ≤ m ∧ i = .int .i64 (j : Int) ∧ v = .int .i64 r ∧ -1 ≤ r ∧ r ≤ 3599 ∧ Hid (lastF kn t (l.drop j) r = R) ∧ Hid (Kb wr w.heap.size (.slice p m cap) (.slice q n cap') kn 0 t len) ∧ Hid (Bt wr (w.heap.size + 1) 0 0 0) ∧ Hid (Below w.heap.size w wr)) (fun _ i _ => m - (intOf i).toNat)
  case atStart =>
    refine ⟨0, -1, Nat.zero_le _, rfl, rfl, by omega, by omega, HR, Lib.hid ((Kb.new w _ _ _ _ _ _ _).on (BelowKit.bl_alloc (Below.refl _ _))), Lib.hid ?_, Lib.hid (by (repeat (first | exact Below.refl _ _ | apply BelowKit.bl_alloc | apply BelowKit.bl_drewN | apply BelowKit.bl_drew | (refine BelowKit.bl_set ?_ _ ?_; rotate_left; (first | omega | (simp; omega) | simp)) | (refine BelowKit.bl_trans ?_ (‹Hid (Below _ _ _)›).out))))⟩
    simpa using Bt.new (w.alloc _) 0 0 0
  case round =>
    obtain ⟨j, r, hj, rfl, rfl, r0, r1, HJ, HX, HA, HB⟩ := hrel
    obtain ⟨k0, k1, k2, k3, k4, k5⟩ := HX.out.six
    have hl := HA.out.lt
    have hl' := HX.out.lt
    by_cases hlt : j < m
    · have hjl : j < l.length := by rw [HM.out]; exact hlt
      obtain ⟨g, o, rfl, hgl, q0, q1, q2, q3, q4⟩ := FactRow.read5 (KK.out.on HB.out) j hjl
      have HY := Lib.hid (fun e : reach kn t l[j] = true => (last_yes hjl e (r := r)).symm.trans HJ.out)
      have HN := Lib.hid (fun e : reach kn t l[j] = false => (last_no hjl e (r := r)).symm.trans HJ.out)
      have hx := (reach_of HK.out (kn := kn) t0 t1 (List.getElem_mem hjl)).2
      generalize l[j] = x at q0 q1 q2 q3 q4 HY HN hx
      obtain ⟨xk, xf, xt, xn, xv⟩ := x
      simp only [reach] at q0 q1 q2 q3 q4 HY HN hx
      have b1 : (0 : Int) ≤ (j : Int) := by omega
      have b2 : (j : Int) < (m : Int) := by omega
      clear HJ
      have HXA := Lib.hid (HX.out.on (BelowKit.bl_alloc (o := .cells #[.int .i64 xk, .int .i64 xf, .int .i64 xt, .int .i64 xn, .int .i64 xv] 71) (Below.refl _ _)))
      have HAA := Lib.hid (HA.out.on (BelowKit.bl_alloc (o := .cells #[.int .i64 xk, .int .i64 xf, .int .i64 xt, .int .i64 xn, .int .i64 xv] 71) (Below.refl _ _)))
      have HBA := Lib.hid (BelowKit.bl_alloc (o := .cells #[.int .i64 xk, .int .i64 xf, .int .i64 xt, .int .i64 xn, .int .i64 xv] 71) HB.out)
      by_cases e1 : xk = 1
      · subst e1
        by_cases e2 : xn ≤ kn
        · go_wp2_with fail
          refine (common_i _ _ _ _ _).mono ?_
          rintro e w' ⟨rfl, rfl⟩
          obtain ⟨c, hc⟩ : ∃ c, common xf xt 0 t = c := ⟨_, rfl⟩
          rw [hc] at HY HN ⊢
          clear hc
          by_cases e3 : 0 < c
          · have E := HY.out (decide_eq_true ⟨trivial, e2, e3⟩)
            by_cases h3 : xt ≤ t
            · rw [Int.min_eq_left h3] at E
              by_cases h4 : r ≤ xt - 1
              · rw [Int.max_eq_right h4] at E
                have HE := Lib.hid E
                clear E HY HN
                go_wp2
                go_roundw
                case rel => exact ⟨j + 1, xt - 1, by omega, by go_num, by congr 1; split <;> omega, by omega, by omega, HE, HXA, HAA, HBA⟩
                case measure => simp [intOf]; omega
              · rw [Int.max_eq_left (by omega)] at E
                have HE := Lib.hid E
                clear E HY HN
                go_wp2
                go_roundw
                case rel => exact ⟨j + 1, r, by omega, by go_num, by congr 1; split <;> omega, by omega, by omega, HE, HXA, HAA, HBA⟩
                case measure => simp [intOf]; omega
            · rw [Int.min_eq_right (by omega)] at E
              by_cases h4 : r ≤ t - 1
              · rw [Int.max_eq_right h4] at E
                have HE := Lib.hid E
                clear E HY HN
                go_wp2
                go_roundw
                case rel => exact ⟨j + 1, t - 1, by omega, by go_num, by congr 1; split <;> omega, by omega, by omega, HE, HXA, HAA, HBA⟩
                case measure => simp [intOf]; omega
              · rw [Int.max_eq_left (by omega)] at E
                have HE := Lib.hid E
                clear E HY HN
                go_wp2
                go_roundw
                case rel => exact ⟨j + 1, r, by omega, by go_num, by congr 1; split <;> omega, by omega, by omega, HE, HXA, HAA, HBA⟩
                case measure => simp [intOf]; omega
          · have E := HN.out (decide_eq_false fun e => e3 e.2.2)
            have HE := Lib.hid E
            clear E HY HN
            go_wp2
            go_roundw
            case rel => exact ⟨j + 1, r, by omega, by go_num, rfl, by omega, by omega, HE, HXA, HAA, HBA⟩
            case measure => simp [intOf]; omega
        · have E := Lib.hid (HN.out (decide_eq_false fun e => e2 e.2.1))
          clear HY HN
          go_wp2
          go_roundw
          case rel => exact ⟨j + 1, r, by omega, by go_num, rfl, r0, r1, E, HXA, HAA, HBA⟩
          case measure => simp [intOf]; omega
      · have E := Lib.hid (HN.out (decide_eq_false fun e => e1 e.1))
        clear HY HN
        go_wp2
        go_roundw
        case rel => exact ⟨j + 1, r, by omega, by go_num, rfl, r0, r1, E, HXA, HAA, HBA⟩
        case measure => simp [intOf]; omega
    · obtain rfl : j = m := by omega
      have E : r = R := (last_end (l := l) (j := j) r (by rw [HM.out]; exact Nat.le_refl _)).symm.trans HJ.out
      subst E
      have y0 := HA.out.c0
      have y1 := HA.out.c1
      have y2 := HA.out.c2
      have g0 := HA.out.f0
      have g1 := HA.out.f1
      have g2 := HA.out.f2
      go_wp2_with fail
      refine (ValueAt.val_i _ p j cap l 1 r kn HM.out (by omega) (KK.out.on HB.out)).mono ?_
      rintro e w1 ⟨rfl, hb⟩
      have HA1 := Lib.hid (HA.out.on hb)
      have HB1 := Lib.hid (show Below w.heap.size w w1 from BelowKit.bl_trans HB.out hb)
      obtain ⟨⟨v, b⟩, hv⟩ : ∃ v, val 1 r kn l = v := ⟨_, rfl⟩
      rw [hv] at HF ⊢
      clear hv hb y0 y1 y2 g0 g1 g2 k0 k1 k2 k3 k4 k5 hl hl'
      have y0 := HA1.out.c0
      have y1 := HA1.out.c1
      have y2 := HA1.out.c2
      have g0 := HA1.out.f0
      have g1 := HA1.out.f1
      have g2 := HA1.out.f2
      have hl := HA1.out.lt
      cases b with
      | false =>
        have E := Lib.hid (finT_no HF.out (by have := HNO.out (by rw [← HF.out]); rw [← HF.out] at this; exact this))
        go_wp2
        refine bodyPost_ret (v := .agg #[.int .i64 0, .int .i64 0, .int .i64 0]) (by simp [results, Try.results71, y0, y1, y2, go_sem]) rfl ⟨by rw [E.out], ?_⟩
        exact BelowKit.bl_set (two_set HB1.out (by omega)) (a := ⟨w.heap.size + 1, 2, none⟩) _ (by simp)
      | true =>
        have E := Lib.hid (finT_yes HF.out)
        go_wp2
        refine bodyPost_ret (v := .agg #[.int .i64 v, .int .i64 1, .int .i64 0]) (by simp [results, Try.results71, y0, y1, y2, go_sem]) rfl ⟨by rw [E.out], ?_⟩
        exact BelowKit.bl_set (two_set HB1.out (by omega)) (a := ⟨w.heap.size + 1, 2, none⟩) _ (by simp)
end Go.Proofs.Ytdmkceaonfbebaa.PayM
