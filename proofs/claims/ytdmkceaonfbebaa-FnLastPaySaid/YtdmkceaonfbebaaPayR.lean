/- Contract of the way to the revalued pay. -/
import Derived.Test.YtdmkceaonfbebaaPayM
namespace Go.Proofs.Ytdmkceaonfbebaa.PayR
open Go.RowKit RowN PayMath PayLine Mon Box PayS PayT PayM FactMath
open Fact (Fa)
open FactRow (ReadsF)
theorem bt_any (w : World) (x y z : Int) (T : TypeId) : Bt (w.alloc (.cells #[.int .i64 x, .int .i64 y, .int .i64 z] T)) w.heap.size x y z :=
  ⟨by simp [go_sem], by simp [go_sem], by simp [go_sem], by simp [go_sem], by simp [go_sem], by simp [go_sem], by simp⟩
set_option maxHeartbeats 4000000 in
theorem rev_m (w : World) (p : Option Addr) (m cap : Nat) (l : List Fa) (kn f t len : Int) (q : Option Addr) (n cap' : Nat) (x : List TPoint.El) (hm : l.length = m) (hs : m ≤ 1048576) (h : ReadsF w p l) (hok : OkS l) (hn : x.length = n) (hs' : n ≤ 1048576) (hx : Reads TPoint.fc 3 w q x) (hxo : PointMath.okS x = true) (f0 : 0 ≤ f) (f1 : f ≤ 3600) (t0 : 0 ≤ t) (t1 : t ≤ 3600) :
    Calls Try.prog 74 #[.agg #[.slice p m cap, .int .i64 kn, .int .i64 f, .int .i64 t, .int .i64 len, .slice q n cap']] w (IsTt ⟨rev l x f t kn, 0, 0⟩ w) := by
  have KK := Lib.hid h
  have HM := Lib.hid hm
  have HK := Lib.hid hok
  have KX := Lib.hid hx
  have HN := Lib.hid hn
  have HXO := Lib.hid hxo
  have HREV := Lib.hid (hist_rev hok hxo (kn := kn) f0 f1 t0 t1)
  have HP := Lib.hid (last_pos hxo kn (t - 1))
  clear h hm hok hx hn hxo
  go_enter Try.func74, Try.ntmps74
  go_upto_region 2 with fail
  generalize hW : (w.alloc _).alloc _ = W
  have HB := Lib.hid (show Below w.heap.size w W by rw [← hW]; (repeat (first | exact Below.refl _ _ | apply BelowKit.bl_alloc | apply BelowKit.bl_drewN | apply BelowKit.bl_drew | (refine BelowKit.bl_set ?_ _ ?_; rotate_left; (first | omega | (simp; omega) | simp)) | (refine BelowKit.bl_trans ?_ (‹Hid (Below _ _ _)›).out))))
  have hk : Kb W w.heap.size (.slice p m cap) (.slice q n cap') kn f t len := by rw [← hW]; exact (Kb.new w _ _ _ _ _ _ _).on (BelowKit.bl_alloc (Below.refl _ _))
  have hb : Bt W (w.heap.size + 1) 0 0 0 := by rw [← hW]; simpa using Bt.new (w.alloc _) 0 0 0
  have HKB := Lib.hid hk
  have HBT := Lib.hid hb
  have KW := Lib.hid (KK.out.on HB.out)
  have KV := Lib.hid (KX.out.on HB.out)
  obtain ⟨k0, k1, k2, k3, k4, k5⟩ := hk.six
  clear hW hk hb KK KX
  go_wp2_with fail
  refine (IdxI.idx_i _ q n cap' x (t - 1) kn HN.out (by omega) KV.out).mono ?_
  rintro e w1 ⟨rfl, hb1⟩
  have HB1 := Lib.hid (BelowKit.bl_trans HB.out hb1)
  have HK1 := Lib.hid (HKB.out.on hb1)
  have HT1 := Lib.hid (HBT.out.on hb1)
  have KW1 := Lib.hid (KW.out.on hb1)
  have KV1 := Lib.hid (KV.out.on hb1)
  obtain ⟨⟨last, lok⟩, hl⟩ : ∃ r, PointMath.idx (t - 1) kn x = r := ⟨_, rfl⟩
  rw [hl] at HREV HP ⊢
  simp only [] at HREV HP
  clear hb1 hl k0 k1 k2 k3 k4 k5 KW KV HKB HBT HB
  have la0 := HP.out.1
  have la1 := HP.out.2
  obtain ⟨k0, k1, k2, k3, k4, k5⟩ := HK1.out.six
  have z0 := HK1.out.lt
  go_wp2_with fail
  refine (hist_i _ p m cap l kn f t len q n cap' HM.out hs KW1.out).mono ?_
  rintro e w2 ⟨a1, c1, rfl, ho, hb2⟩
  have HR2 := Lib.hid (reads_own TSegment.fw ho)
  have HB2 := Lib.hid (BelowKit.bl_trans HB1.out hb2)
  have HK2 := Lib.hid (HK1.out.on hb2)
  have HT2 := Lib.hid (HT1.out.on hb2)
  have KV2 := Lib.hid (KV1.out.on hb2)
  obtain ⟨H, hH⟩ : ∃ H, hist l kn f t = H := ⟨_, rfl⟩
  have hlen := hist_len l kn f t
  have HLI : Hid (∀ y ∈ H, Lies f t y) := Lib.hid (by subst hH; exact fun y hy => hist_lies HK.out f0 f1 t0 t1 hy)
  have HPA : Hid (∀ (j : Nat) (hj : j < H.length) (i : Nat), (i : Int) ≤ H[j].To - H[j].From → 0 ≤ spans (revF x kn last) (H.take j) + upTo (revF x kn last) H[j].Value H[j].From i ∧ spans (revF x kn last) (H.take j) + upTo (revF x kn last) H[j].Value H[j].From i ≤ 3600000000000000000) := Lib.hid (by subst hH; exact fun j hj i hi => rev_part HK.out HXO.out la0 la1 f0 f1 t0 t1 hj i hi)
  rw [hH] at HR2 hlen HREV ⊢
  clear ho hb2 hH k0 k1 k2 k3 k4 k5 z0 KW1 KV1 HK1 HT1 HB1
  obtain ⟨k0, k1, k2, k3, k4, k5⟩ := HK2.out.six
  have z0 := HK2.out.lt
  go_wp2
  go_loopw [3, 25] (fun s i wr => ∃ (j : Nat), j ≤ H.length ∧ i = .int .i64 (j : Int) ∧ s = .int .i64 (spans (revF x kn last) (H.take j)) ∧ Hid (Below w2.heap.size w2 wr)) (fun _ i _ => H.length - (intOf i).toNat)
  case atStart => exact ⟨0, Nat.zero_le _, rfl, by rw [List.take_zero]; rfl, Lib.hid (Below.refl _ _)⟩
  case round =>
    obtain ⟨j, hj, rfl, rfl, HW⟩ := hrel
    by_cases hlt : j < H.length
    · obtain ⟨g, o, rfl, hgl, q0, q1, q2⟩ := TSegment.read (HR2.out.on HW.out) j hlt
      have hy := HLI.out H[j] (List.getElem_mem hlt)
      have HSU := Lib.hid (spans_take (F := revF x kn last) hlt)
      have HPJ := Lib.hid (HPA.out j hlt)
      have HJL := Lib.hid hlt
      obtain ⟨A0, hA⟩ : ∃ A, spans (revF x kn last) (H.take j) = A := ⟨_, rfl⟩
      rw [hA] at HSU HPJ ⊢
      generalize H[j] = y at q0 q1 q2 hy HSU HPJ
      obtain ⟨F, T, V⟩ := y
      obtain ⟨y0, y1, y2, y3, y4⟩ := hy
      simp only [segF] at q0 q1 q2 y0 y1 y2 y3 y4 HSU HPJ
      obtain ⟨L, hL⟩ : ∃ L, H.length = L := ⟨_, rfl⟩
      have HL := Lib.hid hL
      rw [hL] at hlt hlen ⊢
      have dJ : decide ((j : Int) < (L : Int)) = true := decide_eq_true (by omega)
      have b1 : (0 : Int) ≤ (j : Int) := by omega
      have HKr := Lib.hid (HK2.out.on HW.out)
      clear hA hL hj k0 k1 k2 k3 k4 k5 z0
      obtain ⟨k0, k1, k2, k3, k4, k5⟩ := HKr.out.six
      have z0 := HKr.out.lt
      go_wp2
      have HS0 := Lib.hid (bt_any wr F T V 122)
      have HWA := Lib.hid (BelowKit.bl_alloc (o := .cells #[.int .i64 F, .int .i64 T, .int .i64 V] 122) HW.out)
      go_loopw [3, 8] (fun s i wr2 => ∃ k : Nat, (k : Int) ≤ T - F ∧ i = .int .i64 (F + (k : Int)) ∧ s = .int .i64 (A0 + upTo (revF x kn last) V F k) ∧ Hid (Bt wr2 wr.heap.size F T V) ∧ Hid (Below w2.heap.size w2 wr2)) (fun _ i _ => (T - intOf i).toNat)
      case atStart => exact ⟨0, by omega, by simp, by simp [upTo], HS0, HWA⟩
      case round =>
        obtain ⟨k, hk, rfl, rfl, HSB, HWB⟩ := hrel
        have HKB := Lib.hid (HK2.out.on HWB.out)
        clear k0 k1 k2 k3 k4 k5 z0 q0 q1 q2 HS0 HWA
        obtain ⟨k0, k1, k2, k3, k4, k5⟩ := HKB.out.six
        have z0 := HKB.out.lt
        obtain ⟨x0, x1, x2, _, _, _, hzz⟩ := HSB.out
        obtain ⟨mo, hmo⟩ : ∃ mo, F + (k : Int) = mo := ⟨_, rfl⟩
        have HU := Lib.hid (up_succ (revF x kn last) V F k)
        have HP0 := HPJ.out k hk
        rw [hmo] at HU ⊢
        have HMO := Lib.hid hmo
        obtain ⟨U, hU⟩ : ∃ U, upTo (revF x kn last) V F k = U := ⟨_, rfl⟩
        rw [hU] at HU HP0 ⊢
        have HUU := Lib.hid hU
        obtain ⟨s, hs0⟩ : ∃ s, A0 + U = s := ⟨_, rfl⟩
        have HSS := Lib.hid hs0
        rw [hs0] at HP0 ⊢
        by_cases hmt : mo < T
        · have dK : decide (mo < T) = true := decide_eq_true hmt
          have m0 : 0 ≤ mo := by omega
          have W2 : IntKind.i64.wrap (mo + 1) = mo + 1 := IntWalk.i64_in _ (by omega)
          have hib := idx_bd (x := x) HXO.out (M := mo) (kn := kn)
          have hfb := revF_bd (x := x) HXO.out (kn := kn) (m := mo) (v := V) la0 la1 y4
          have HE := Lib.hid (show A0 + upTo (revF x kn last) V F (k + 1) = s + revF x kn last mo V by rw [HU.out, ← HSS.out]; omega)
          have hp1 := HPJ.out (k + 1) (by omega)
          rw [HE.out] at hp1
          clear hmo hU hs0 HU
          go_wp2_with fail
          refine (IdxI.idx_i _ q n cap' x mo kn HN.out (by omega) (KV2.out.on HWB.out)).mono ?_
          rintro e w5 ⟨rfl, hb⟩
          have HSB5 := Lib.hid (HSB.out.on hb)
          have HWB5 := Lib.hid (BelowKit.bl_trans HWB.out hb)
          clear hb k0 k1 k2 k3 k4 k5 z0 x0 x1 x2 hzz
          obtain ⟨x0, x1, x2, _, _, _, hzz⟩ := HSB5.out
          have HRF := Lib.hid (show revF x kn last mo V = if (PointMath.idx mo kn x).2 = true ∧ 0 < V then (V * last).tdiv (PointMath.idx mo kn x).1 else 0 from rfl)
          obtain ⟨⟨ba, b2⟩, hv⟩ : ∃ v, PointMath.idx mo kn x = v := ⟨_, rfl⟩
          rw [hv] at HRF hib ⊢
          simp only [] at hib HRF ⊢
          clear hv
          by_cases hcase : b2 = true ∧ 0 < V
          · obtain ⟨rfl, hv0⟩ := hcase
            have dV : decide (0 < V) = true := decide_eq_true hv0
            have hba := hib rfl
            have e1 : 0 ≤ V * last := Int.mul_nonneg (by omega) (by omega)
            have e2 : V * last ≤ 1000000000 * 1000000 := Int.mul_le_mul y4 la1 (by omega) (by omega)
            obtain ⟨P, hP⟩ : ∃ P, V * last = P := ⟨_, rfl⟩
            have hQ0 := HRF.out.trans (if_pos ⟨rfl, hv0⟩)
            rw [hP] at e1 e2 hQ0
            obtain ⟨Q, hQ⟩ : ∃ Q, P.tdiv ba = Q := ⟨_, rfl⟩
            rw [hQ] at hQ0
            rw [hQ0] at hfb hp1
            have HE2 := Lib.hid (show A0 + upTo (revF x kn last) V F (k + 1) = s + Q by rw [HE.out, hQ0])
            have W3 : IntKind.i64.wrap (V * last) = P := by rw [hP]; exact IntWalk.i64_in _ (by omega)
            have W4 : IntKind.i64.wrap (P.tdiv ba) = Q := by rw [hQ]; exact IntWalk.i64_in _ (by omega)
            have W5 : IntKind.i64.wrap (s + Q) = s + Q := IntWalk.i64_in _ (by omega)
            have dz : (ba == 0) = false := beq_eq_false_iff_ne.2 (by omega)
            have dz2 : decide (ba = 0) = false := decide_eq_false (by omega)
            have dz3 : ¬ ba = 0 := by omega
            clear HRF HE hP hQ hQ0 e1 e2 hib hv0 hfb hp1 HP0
            go_wp2
            clear W2 W3 W4 W5
            go_roundw
            case rel => exact ⟨k + 1, by have := HMO.out; omega, congrArg (Value.int .i64) (by have := HMO.out; omega), congrArg (Value.int .i64) HE2.out.symm, HSB5, HWB5⟩
            case measure => simp [intOf]; omega
          · have hQ0 := HRF.out.trans (if_neg hcase)
            have HE2 := Lib.hid (show A0 + upTo (revF x kn last) V F (k + 1) = s by rw [HE.out, hQ0]; omega)
            have HCS := Lib.hid hcase
            clear HRF HE hib hfb hp1 HP0 hQ0 hcase
            cases b2 with
            | false =>
              go_wp2
              clear W2
              go_roundw
              case rel => exact ⟨k + 1, by have := HMO.out; omega, congrArg (Value.int .i64) (by have := HMO.out; omega), congrArg (Value.int .i64) HE2.out.symm, HSB5, HWB5⟩
              case measure => simp [intOf]; omega
            | true =>
              have dV : decide (0 < V) = false := decide_eq_false (fun e => HCS.out ⟨rfl, e⟩)
              go_wp2
              clear W2
              go_roundw
              case rel => exact ⟨k + 1, by have := HMO.out; omega, congrArg (Value.int .i64) (by have := HMO.out; omega), congrArg (Value.int .i64) HE2.out.symm, HSB5, HWB5⟩
              case measure => simp [intOf]; omega
        · have dK : decide (mo < T) = false := decide_eq_false hmt
          have HE := Lib.hid (show spans (revF x kn last) (H.take (j + 1)) = s by rw [HSU.out, show (T - F).toNat = k by omega, HUU.out, HSS.out])
          clear HU HP0 hmo hU hs0
          go_wp2
          go_roundw
          case rel => exact ⟨j + 1, by omega, by go_num, by rw [HE.out], HWB⟩
          case measure => simp [intOf]; omega
    · obtain rfl : j = H.length := by omega
      have E := Lib.hid (show spans (revF x kn last) (H.take H.length) = rev l x f t kn by rw [List.take_length]; exact HREV.out)
      obtain ⟨s, hs0⟩ : ∃ s, spans (revF x kn last) (H.take H.length) = s := ⟨_, rfl⟩
      rw [hs0] at E ⊢
      have HTr := Lib.hid (HT2.out.on HW.out)
      clear hs0 k0 k1 k2 k3 k4 k5
      obtain ⟨y0, y1, y2, g0, g1, g2, _⟩ := HTr.out
      go_wp2
      refine bodyPost_ret (v := .agg #[.int .i64 s, .int .i64 0, .int .i64 0]) (by simp [results, Try.results74, y0, y1, y2, go_sem]) rfl ⟨by rw [E.out], ?_⟩
      exact BelowKit.bl_set (two_set (BelowKit.bl_trans HB2.out HW.out) (by omega)) (a := ⟨w.heap.size + 1, 2, none⟩) _ (by simp)
end Go.Proofs.Ytdmkceaonfbebaa.PayR
