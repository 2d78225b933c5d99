/- Contract of the way to the best pay. -/
import Derived.Test.YtdmkceaonfbebaaPayM
namespace Go.Proofs.Ytdmkceaonfbebaa.PayB
open Go.RowKit RowN PayMath PayLine Mon Box PayS PayT PayM FactMath
open Fact (Fa)
open FactRow (ReadsF)
set_option maxHeartbeats 4000000 in
theorem best_m (w : World) (p : Option Addr) (m cap : Nat) (l : List Fa) (kn f t len : Int) (q : Option Addr) (n cap' : Nat) (hm : l.length = m) (hs : m ≤ 1048576) (h : ReadsF w p l) (hok : OkS l) (f0 : 0 ≤ f) (f1 : f ≤ 3600) (t0 : 0 ≤ t) (t1 : t ≤ 3600) (l0 : 1 ≤ len) (l1 : len ≤ 60) :
    Calls Try.prog 73 #[.agg #[.slice p m cap, .int .i64 kn, .int .i64 f, .int .i64 t, .int .i64 len, .slice q n cap']] w (IsTt (bt l kn f len (t - len - f + 1).toNat) w) := by
  have KK := Lib.hid h
  have HM := Lib.hid hm
  have HK := Lib.hid hok
  clear h hm hok
  go_enter Try.func73, Try.ntmps73
  go_upto_region 1 with fail
  generalize hW : (w.alloc _).alloc _ = W
  have HB := Lib.hid (show Below w.heap.size w W by rw [← hW]; (repeat (first | exact Below.refl _ _ | apply BelowKit.bl_alloc | apply BelowKit.bl_drewN | apply BelowKit.bl_drew | (refine BelowKit.bl_set ?_ _ ?_; rotate_left; (first | omega | (simp; omega) | simp)) | (refine BelowKit.bl_trans ?_ (‹Hid (Below _ _ _)›).out))))
  have hk : Kb W w.heap.size (.slice p m cap) (.slice q n cap') kn f t len := by rw [← hW]; exact (Kb.new w _ _ _ _ _ _ _).on (BelowKit.bl_alloc (Below.refl _ _))
  have hb : Bt W (w.heap.size + 1) 0 0 0 := by rw [← hW]; simpa using Bt.new (w.alloc _) 0 0 0
  have HKB := Lib.hid hk
  have HBT := Lib.hid hb
  have KW := Lib.hid (KK.out.on HB.out)
  obtain ⟨k0, k1, k2, k3, k4, k5⟩ := hk.six
  clear hW hk hb KK
  go_wp2_with fail
  refine (hist_i _ p m cap l kn f t len q n cap' HM.out hs KW.out).mono ?_
  rintro e w1 ⟨a1, c1, rfl, ho, hb1⟩
  have HR1 := Lib.hid (reads_own TSegment.fw ho)
  have HB1 := Lib.hid (BelowKit.bl_trans HB.out hb1)
  have HK1 := Lib.hid (HKB.out.on hb1)
  have HT1 := Lib.hid (HBT.out.on hb1)
  clear ho hb1 k0 k1 k2 k3 k4 k5 KW HKB HBT HB
  obtain ⟨k0, k1, k2, k3, k4, k5⟩ := HK1.out.six
  have hl := HT1.out.lt
  have hl' := HK1.out.lt
  go_wp2
  go_loopw [5] (fun i wr => ∃ (k : Nat), i = .int .i64 (f + (k : Int)) ∧ (k = 0 ∨ f + (k : Int) + len ≤ t + 1) ∧ Hid (Bt wr w1.heap.size (bt l kn f len k).s (bt l kn f len k).m (bt l kn f len k).p) ∧ Hid (Below w1.heap.size w1 wr)) (fun i _ => (t + 1 - intOf i).toNat)
  case atStart =>
    exact ⟨0, by congr 1; omega, .inl rfl, Lib.hid (Bt.new w1 0 0 0), Lib.hid (by (repeat (first | exact Below.refl _ _ | apply BelowKit.bl_alloc | apply BelowKit.bl_drewN | apply BelowKit.bl_drew | (refine BelowKit.bl_set ?_ _ ?_; rotate_left; (first | omega | (simp; omega) | simp)) | (refine BelowKit.bl_trans ?_ (‹Hid (Below _ _ _)›).out))))⟩
  case round =>
    obtain ⟨k, rfl, hk, HX, HW⟩ := hrel
    have HKr := Lib.hid (HK1.out.on HW.out)
    have HTr := Lib.hid (HT1.out.on HW.out)
    clear k0 k1 k2 k3 k4 k5 hl hl'
    obtain ⟨k0, k1, k2, k3, k4, k5⟩ := HKr.out.six
    have hl := HTr.out.lt
    have hl' := HKr.out.lt
    have hz := HX.out.lt
    obtain ⟨mo, hmo⟩ : ∃ mo, f + (k : Int) = mo := ⟨_, rfl⟩
    have HMO := Lib.hid hmo
    have m0 : 0 ≤ mo := by omega
    have m1 : mo ≤ 3661 := by omega
    rw [hmo] at hk ⊢
    by_cases hlt : mo + len ≤ t
    · have HS := Lib.hid (hist_sum HK.out (kn := kn) (a := mo) (b := mo + len) f0 f1 t0 t1 (by omega) hlt)
      have HC := Lib.hid (hist_cnt HK.out (kn := kn) (a := mo) (b := mo + len) f0 f1 t0 t1 (by omega) hlt)
      have HT := Lib.hid (show tot l kn f len k = ⟨sumTo l kn mo len.toNat, cntTo l kn mo len.toNat, mo⟩ by unfold tot; rw [hmo])
      have hst := tot_sm HK.out (kn := kn) (f := f) (len := len) (by omega) l1 k
      have hsb := bt_sm HK.out (kn := kn) (f := f) (len := len) (by omega) l1 k
      have HY := Lib.hid (fun e => bt_yes (l := l) (kn := kn) (f := f) (len := len) (k := k) e)
      have HN := Lib.hid (fun e => bt_no (l := l) (kn := kn) (f := f) (len := len) (k := k) e)
      have e1 := HS.out
      have e2 := HC.out
      rw [show mo + len - mo = len by omega] at e1 e2
      have e3 : tot l kn f len k = ⟨spans (sumF mo (mo + len)) (hist l kn f t), spans (cntF mo (mo + len)) (hist l kn f t), mo⟩ := by rw [e1, e2]; exact HT.out
      rw [e3] at HY HN hst
      obtain ⟨s1, h1⟩ : ∃ s, spans (sumF mo (mo + len)) (hist l kn f t) = s := ⟨_, rfl⟩
      obtain ⟨n1, h2⟩ : ∃ s, spans (cntF mo (mo + len)) (hist l kn f t) = s := ⟨_, rfl⟩
      obtain ⟨⟨s2, n2, p2⟩, h3⟩ : ∃ b, bt l kn f len k = b := ⟨_, rfl⟩
      rw [h1, h2] at HY HN hst
      rw [h3] at HX HY HN hsb
      have H1 := Lib.hid h1
      have H2 := Lib.hid h2
      have HST := Lib.hid hst
      have HSB := Lib.hid hsb
      clear hmo e1 e2 e3 h1 h2 h3 hst hsb HS HC HT
      simp only [] at HX
      go_wp2_with fail
      refine (total_i _ a1 _ c1 (hist l kn f t) f t mo (mo + len) rfl (hist_len ..) (HR1.out.on HW.out) (fun x hx => hist_lies HK.out f0 f1 t0 t1 hx) f0 t1 m0 (by omega) (by omega) (by omega)).mono ?_
      rintro e w2 ⟨rfl, hb2⟩
      rw [H1.out, H2.out]
      have HX2 := Lib.hid (HX.out.on hb2)
      have HW2 := Lib.hid (BelowKit.bl_trans HW.out hb2)
      clear hb2 k0 k1 k2 k3 k4 k5 hl hl' hz
      obtain ⟨z0, z1, z2, y0, y1, y2, hz⟩ := HX2.out
      go_wp2_with fail
      refine (exceeds_i _ ⟨s1, n1, mo⟩ ⟨s2, n2, p2⟩ HST.out HSB.out).mono ?_
      rintro e w3 ⟨rfl, hb3⟩
      have HX3 := Lib.hid ((HX2.out.on (BelowKit.bl_alloc (Below.refl _ _))).on hb3)
      have HQ3 := Lib.hid ((Bt.new w2 s1 n1 mo).on hb3)
      have HW3 := Lib.hid (BelowKit.bl_trans HW2.out (BelowKit.bl_trans (BelowKit.bl_alloc (Below.refl _ _)) hb3))
      have hz3 := hb3.size
      simp at hz3
      have hz4 : w2.heap.size < w3.heap.size := by omega
      clear hb3 z0 z1 z2 y0 y1 y2 hz3
      obtain ⟨z0, z1, z2, y0, y1, y2, hz⟩ := HX3.out
      obtain ⟨t0, t1, t2, _, _, _, _⟩ := HQ3.out
      cases hx : exc ⟨s1, n1, mo⟩ ⟨s2, n2, p2⟩ with
      | false =>
        have E := Lib.hid (HN.out hx)
        clear hx HY HN
        go_wp2
        go_roundw
        case rel => exact ⟨k + 1, by have := HMO.out; congr 1; omega, .inr (by have := HMO.out; omega), by rw [E.out]; exact HX3, HW3⟩
        case measure => simp [intOf]; omega
      | true =>
        have E := Lib.hid (HY.out hx)
        clear hx HY HN
        go_wp2
        go_roundw
        case rel => exact ⟨k + 1, by have := HMO.out; congr 1; omega, .inr (by have := HMO.out; omega), by rw [E.out]; exact Lib.hid (HX3.out.put3 _ _ _), Lib.hid (BelowKit.bl_set (two_set HW3.out (Nat.le_refl _)) (a := ⟨w1.heap.size, 2, none⟩) _ (Nat.le_refl _))⟩
        case measure => simp [intOf]; omega
    · have E := Lib.hid (show (t - len - f + 1).toNat = k by omega)
      obtain ⟨⟨s2, n2, p2⟩, h3⟩ : ∃ b, bt l kn f len k = b := ⟨_, rfl⟩
      rw [h3] at HX
      have H3 := Lib.hid h3
      simp only [] at HX
      obtain ⟨z0, z1, z2, _, _, _, _⟩ := HX.out
      obtain ⟨y0, y1, y2, g0, g1, g2, _⟩ := HTr.out
      clear hmo h3
      go_wp2
      refine bodyPost_ret (v := .agg #[.int .i64 s2, .int .i64 n2, .int .i64 p2]) (by simp [results, Try.results73, y0, y1, y2, go_sem]) rfl ⟨by rw [E.out, H3.out], ?_⟩
      exact BelowKit.bl_set (two_set (BelowKit.bl_trans HB1.out HW.out) (by omega)) (a := ⟨w.heap.size + 1, 2, none⟩) _ (by simp)
end Go.Proofs.Ytdmkceaonfbebaa.PayB
