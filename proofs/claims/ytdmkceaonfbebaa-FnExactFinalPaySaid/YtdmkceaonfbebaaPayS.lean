/- Contracts of the model's functions on pay. -/
import Derived.Test.YtdmkceaonfbebaaRows
import Derived.Test.YtdmkceaonfbebaaPayMath
import Derived.Test.YtdmkceaonfbebaaStoreOk
import Derived.Test.YtdmkceaonfbebaaValueAt
import Derived.Test.YtdmkceaonfbebaaSerS
import Derived.Test.YtdmkceaonfbebaaIdxS
import Derived.Test.YtdmkceaonfbebaaFracC
import Derived.Test.YtdmkceaonfbebaaFracSCmp
import Derived.Test.YtdmkceaonfbebaaKit
namespace Go.Proofs.Ytdmkceaonfbebaa.PayS
open Go.RowKit RowN Fact FactRow FactMath PayMath Mon Box
open FracMath (red cmpI)
def IsVal (r : Int × Bool) (w : World) (e : Ending) (w' : World) : Prop := e = .returned (.tuple #[.int .i64 r.1, .bool r.2]) ∧ Below w.heap.size w w'
def IsFr (r : Int × Int × Bool) (w : World) (e : Ending) (w' : World) : Prop := e = .returned (.tuple #[.agg #[.int .i64 r.1, .int .i64 r.2.1], .bool r.2.2]) ∧ Below w.heap.size w w'
def IsBst (r : Bst) (w : World) (e : Ending) (w' : World) : Prop := e = .returned (.tuple #[.agg #[.int .i64 r.n, .int .i64 r.d], .int .i64 r.p, .bool r.ok]) ∧ Below w.heap.size w w'
def IsNo (b : Bool) (w : World) (e : Ending) (w' : World) : Prop := e = .returned (.bool b) ∧ Below w.heap.size w w'
def IsNum (n : Int) (w : World) (e : Ending) (w' : World) : Prop := e = .returned (.int .i64 n) ∧ Below w.heap.size w w'
set_option maxHeartbeats 1000000 in
theorem rng_s (w : World) (p : Option Addr) (m cap : Nat) (l : List Fa) (f t : Int) (hm : l.length = m) (hs : m ≤ 1099511627776) (h : ReadsF w p l) :
    Calls Try.prog 45 #[.agg #[.slice p m cap], .int .i64 f, .int .i64 t] w (IsNo (rangeB l f t) w) := by
  have KK := Lib.hid h
  have HM := Lib.hid hm
  obtain ⟨R, hR⟩ : ∃ R, rangeB l f t = R := ⟨_, rfl⟩
  have HR := Lib.hid hR
  rw [hR]
  clear h hm hR
  go_enter Try.func45, Try.ntmps45
  go_wp2_with fail
  refine (StoreOk.ok_s _ p m cap l HM.out hs (KK.out.on (by (repeat (first | exact Below.refl _ _ | apply BelowKit.bl_alloc | apply BelowKit.bl_drewN | apply BelowKit.bl_drew | (refine BelowKit.bl_set ?_ _ ?_; rotate_left; (first | omega | (simp; omega) | simp)) | (refine BelowKit.bl_trans ?_ (‹Hid (Below _ _ _)›).out)))))).mono ?_
  rintro e w1 ⟨rfl, hb⟩
  have HB := Lib.hid (show Below w.heap.size w w1 from BelowKit.bl_trans (by (repeat (first | exact Below.refl _ _ | apply BelowKit.bl_alloc | apply BelowKit.bl_drewN | apply BelowKit.bl_drew | (refine BelowKit.bl_set ?_ _ ?_; rotate_left; (first | omega | (simp; omega) | simp)) | (refine BelowKit.bl_trans ?_ (‹Hid (Below _ _ _)›).out)))) hb)
  clear hb
  obtain ⟨b, hb⟩ : ∃ b, okS l = b := ⟨_, rfl⟩
  have HO := Lib.hid hb
  rw [hb]
  clear hb
  cases b with
  | false =>
    have E := Lib.hid (show R = false by rw [← HR.out, rangeB, HO.out]; rfl)
    go_wp2
    go_ret
    rw [E.out]
    exact ⟨rfl, HB.out⟩
  | true =>
  go_wp2_with fail
  refine (end_s f w1).mono ?_
  rintro e w2 ⟨rfl, hw⟩
  subst hw
  obtain ⟨b, hb⟩ : ∃ b, inB f 0 3600 = b := ⟨_, rfl⟩
  have HF := Lib.hid hb
  rw [hb]
  clear hb
  cases b with
  | false =>
    have E := Lib.hid (show R = false by rw [← HR.out, rangeB, HO.out, HF.out]; rfl)
    go_wp2
    go_ret
    rw [E.out]
    exact ⟨rfl, HB.out⟩
  | true =>
  go_wp2_with fail
  refine (end_s t w1).mono ?_
  rintro e w2 ⟨rfl, hw⟩
  subst hw
  obtain ⟨b, hb⟩ : ∃ b, inB t 0 3600 = b := ⟨_, rfl⟩
  have E := Lib.hid (show R = b by rw [← HR.out, rangeB, HO.out, HF.out, hb]; rfl)
  rw [hb]
  clear hb
  go_wp2
  go_ret
  rw [E.out]
  exact ⟨rfl, HB.out⟩
/-- The box of the store, and behind it the box of a fraction that the call hands back. -/
structure Bx (w : World) (s : Value) (n d : Int) (wr : World) : Prop where
  c0 : wr.cell? ⟨w.heap.size, 0, none⟩ = some s
  r0 : wr.cell? ⟨w.heap.size + 1, 0, none⟩ = some (.int .i64 n)
  r1 : wr.cell? ⟨w.heap.size + 1, 1, none⟩ = some (.int .i64 d)
  f0 : wr.frozen? ⟨w.heap.size + 1, 0, none⟩ = false
  f1 : wr.frozen? ⟨w.heap.size + 1, 1, none⟩ = false
  lt : w.heap.size + 1 < wr.heap.size
  bel : Below w.heap.size w wr
theorem Bx.on {w wr w' : World} {s : Value} {n d : Int} (h : Bx w s n d wr) (hb : Below wr.heap.size wr w') : Bx w s n d w' := by
  have h1 := h.lt
  obtain ⟨kc, kf⟩ := BelowKit.bcell hb
  exact ⟨(kc _ 0 (by omega)).trans h.c0, (kc _ 0 (by omega)).trans h.r0, (kc _ 1 (by omega)).trans h.r1, (kf _ 0 (by omega)).trans h.f0, (kf _ 1 (by omega)).trans h.f1, Nat.lt_of_lt_of_le h1 hb.size, BelowKit.bl_trans h.bel hb⟩
theorem Bx.new (w : World) (s : Value) : Bx w s 0 0 ((w.alloc (.cells #[s] 26)).alloc (.cells #[.int .i64 0, .int .i64 0] 33)) :=
  ⟨by simp [go_sem], by simp [go_sem], by simp [go_sem], by simp [go_sem], by simp [go_sem], by simp, by (repeat (first | exact Below.refl _ _ | apply BelowKit.bl_alloc | apply BelowKit.bl_drewN | apply BelowKit.bl_drew | (refine BelowKit.bl_set ?_ _ ?_; rotate_left; (first | omega | (simp; omega) | simp)) | (refine BelowKit.bl_trans ?_ (‹Hid (Below _ _ _)›).out)))⟩
theorem two_set {w w' : World} {g : Nat} {u v : Value} (h : Below w.heap.size w w') (hg : w.heap.size ≤ g) : Below w.heap.size w ((w'.setCell ⟨g, 0, none⟩ u).setCell ⟨g, 1, none⟩ v) :=
  BelowKit.bl_set (BelowKit.bl_set h (a := ⟨g, 0, none⟩) _ hg) (a := ⟨g, 1, none⟩) _ hg
set_option maxHeartbeats 2000000 in
theorem avg_s (w : World) (p : Option Addr) (m cap : Nat) (l : List Fa) (f t kn : Int) (hm : l.length = m) (hs : m ≤ 1099511627776) (h : ReadsF w p l) (hok : OkS l) (hf0 : 0 ≤ f) (hf1 : f ≤ 3600) (ht0 : 0 ≤ t) (ht1 : t ≤ 3700) :
    Calls Try.prog 46 #[.agg #[.slice p m cap], .int .i64 f, .int .i64 t, .int .i64 kn] w (IsFr (avg l f t kn) w) := by
  have KK := Lib.hid h
  have HM := Lib.hid hm
  have HOK := Lib.hid hok
  obtain ⟨R, hR⟩ : ∃ R, avg l f t kn = R := ⟨_, rfl⟩
  have HR := Lib.hid hR
  rw [hR]
  clear h hm hR hok
  go_enter Try.func46, Try.ntmps46
  go_wp2
  go_loopw [10, 11, 12] (fun s n i wr => ∃ (j : Nat), (f + (j : Int) ≤ t ∨ j = 0) ∧ i = .int .i64 (f + (j : Int)) ∧ s = .int .i64 (sumTo l kn f j) ∧ n = .int .i64 (cntTo l kn f j) ∧ Hid (Bx w (.slice p m cap) 0 0 wr)) (fun _ _ i _ => (t - intOf i).toNat)
  case atStart => exact ⟨0, .inr rfl, by simp, rfl, rfl, Lib.hid (Bx.new w _)⟩
  case round =>
    obtain ⟨j, hj, rfl, rfl, rfl, HX⟩ := hrel
    obtain ⟨mo, hmo⟩ : ∃ mo, f + (j : Int) = mo := ⟨_, rfl⟩
    have HS := Lib.hid (sum_succ l kn f j)
    have HC := Lib.hid (cnt_succ l kn f j)
    have sb := sum_bd HOK.out kn f j
    have cb := cnt_bd l kn f j
    have hpv := pv_bd HOK.out kn mo
    rw [hmo] at HS HC hj ⊢
    have HMO := Lib.hid hmo
    obtain ⟨s, hs'⟩ : ∃ s, sumTo l kn f j = s := ⟨_, rfl⟩
    obtain ⟨n, hn'⟩ : ∃ n, cntTo l kn f j = n := ⟨_, rfl⟩
    have HSJ := Lib.hid hs'
    have HCJ := Lib.hid hn'
    rw [hs'] at HS sb ⊢
    rw [hn'] at HC cb ⊢
    clear hs' hn' hmo
    have c0 := HX.out.c0
    by_cases hlt : mo < t
    · have dK : decide (mo < t) = true := decide_eq_true hlt
      have m0 : 0 ≤ mo := by have := HMO.out; omega
      have hj37 : (j : Int) ≤ 3700 := by have := HMO.out; omega
      go_wp2_with fail
      refine (ValueAt.val_s _ p m cap l 1 mo kn HM.out hs (KK.out.on HX.out.bel)).mono ?_
      rintro e w1 ⟨rfl, hb⟩
      have HX1 := Lib.hid (HX.out.on hb)
      clear hb c0
      change Hid (sumTo l kn f (j + 1) = s + amt (val 1 mo kn l)) at HS
      change Hid (cntTo l kn f (j + 1) = n + one (val 1 mo kn l)) at HC
      change -1000000000 ≤ (val 1 mo kn l).1 ∧ (val 1 mo kn l).1 ≤ 1000000000 at hpv
      obtain ⟨⟨v, b⟩, hv⟩ : ∃ v, val 1 mo kn l = v := ⟨_, rfl⟩
      rw [hv] at HS HC hpv ⊢
      simp only [] at hpv ⊢
      clear hv
      cases b with
      | false =>
        have E1 := Lib.hid (show sumTo l kn f (j + 1) = s by rw [HS.out]; simp [amt])
        have E2 := Lib.hid (show cntTo l kn f (j + 1) = n by rw [HC.out]; simp [one])
        clear HS HC hpv
        go_wp2
        go_roundw
        case rel => exact ⟨j + 1, .inl (by have := HMO.out; omega), congrArg (Value.int .i64) (by have := HMO.out; omega), congrArg (Value.int .i64) E1.out.symm, congrArg (Value.int .i64) E2.out.symm, HX1⟩
        case measure => simp [intOf]; omega
      | true =>
        have E1 := Lib.hid (show sumTo l kn f (j + 1) = s + v by rw [HS.out]; simp [amt])
        have E2 := Lib.hid (show cntTo l kn f (j + 1) = n + 1 by rw [HC.out]; simp [one])
        have W1 : IntKind.i64.wrap (s + v) = s + v := IntWalk.i64_in _ (by omega)
        have W2 : IntKind.i64.wrap (n + 1) = n + 1 := IntWalk.i64_in _ (by omega)
        clear HS HC hpv
        go_wp2
        go_roundw
        case rel => exact ⟨j + 1, .inl (by have := HMO.out; omega), congrArg (Value.int .i64) (by have := HMO.out; omega), congrArg (Value.int .i64) E1.out.symm, congrArg (Value.int .i64) E2.out.symm, HX1⟩
        case measure => simp [intOf]; omega
    · have dK : decide (mo < t) = false := decide_eq_false hlt
      have HJ := Lib.hid (show (t - f).toNat = j by have := HMO.out; omega)
      have hj37 : (j : Int) ≤ 3700 := by
        rcases hj with e | e
        · have := HMO.out; omega
        · omega
      obtain ⟨c0, r0, r1, f0, f1, hlt2, _⟩ := HX.out
      by_cases hn0 : n = 0
      · have E := Lib.hid (show R = (0, 0, false) by rw [← HR.out]; exact avg_none (by rw [HJ.out, HCJ.out]; exact hn0))
        have d1 : (n == 0) = true := beq_iff_eq.2 hn0
        have d2 : decide (n = 0) = true := decide_eq_true hn0
        clear hn0 HS HC sb cb hpv
        go_wp2
        refine bodyPost_ret (v := .tuple #[.agg #[.int .i64 0, .int .i64 0], .bool false]) (by simp [results, Try.results46, go_sem, r0, r1]) rfl ?_
        rw [E.out]
        exact ⟨rfl, two_set HX.out.bel (Nat.le_succ _)⟩
      · have E := Lib.hid (show R = red s n by rw [← HR.out, avg_some (by rw [HJ.out, HCJ.out]; exact hn0), HJ.out, HSJ.out, HCJ.out])
        have d1 : (n == 0) = false := beq_eq_false_iff_ne.2 hn0
        have d2 : decide (n = 0) = false := decide_eq_false hn0
        clear HS HC hpv
        go_wp2_with fail
        refine (FracMakeS.make_s s n _ hn0 (by omega) (by omega) (by omega) (by omega)).mono ?_
        rintro e w1 ⟨rfl, hb⟩
        have HX1 := Lib.hid (HX.out.on hb)
        clear hb hn0 c0 r0 r1 f0 f1 hlt2 d1 d2 sb cb
        obtain ⟨c0, r0, r1, f0, f1, hlt2, _⟩ := HX1.out
        rw [← E.out]
        go_wp2
        refine bodyPost_ret (v := .tuple #[.agg #[.int .i64 R.1, .int .i64 R.2.1], .bool R.2.2]) (by simp [results, Try.results46, go_sem, r0, r1]) rfl ?_
        exact ⟨rfl, two_set HX1.out.bel (Nat.le_succ _)⟩
set_option maxHeartbeats 1000000 in
theorem aver_s (w : World) (p : Option Addr) (m cap : Nat) (l : List Fa) (f t kn : Int) (hm : l.length = m) (hs : m ≤ 1099511627776) (h : ReadsF w p l) :
    Calls Try.prog 25 #[.agg #[.slice p m cap], .int .i64 f, .int .i64 t, .int .i64 kn] w (IsFr (aver l f t kn) w) := by
  have KK := Lib.hid h
  have HM := Lib.hid hm
  obtain ⟨R, hR⟩ : ∃ R, aver l f t kn = R := ⟨_, rfl⟩
  have HR := Lib.hid hR
  rw [hR]
  clear h hm hR
  go_enter Try.func25, Try.ntmps25
  go_wp2_with fail
  have HX0 := Lib.hid (Bx.new w (.slice p m cap))
  refine (rng_s _ p m cap l f t HM.out hs (KK.out.on (by (repeat (first | exact Below.refl _ _ | apply BelowKit.bl_alloc | apply BelowKit.bl_drewN | apply BelowKit.bl_drew | (refine BelowKit.bl_set ?_ _ ?_; rotate_left; (first | omega | (simp; omega) | simp)) | (refine BelowKit.bl_trans ?_ (‹Hid (Below _ _ _)›).out)))))).mono ?_
  rintro e w1 ⟨rfl, hb⟩
  have HX := Lib.hid (HX0.out.on hb)
  clear hb HX0
  obtain ⟨b, hb⟩ : ∃ b, rangeB l f t = b := ⟨_, rfl⟩
  have HG := Lib.hid hb
  rw [hb]
  clear hb
  obtain ⟨c0, r0, r1, f0, f1, hlt2, _⟩ := HX.out
  cases b with
  | false =>
    have E := Lib.hid (show R = (0, 0, false) by rw [← HR.out]; exact aver_no HG.out)
    go_wp2
    refine bodyPost_ret (v := .tuple #[.agg #[.int .i64 0, .int .i64 0], .bool false]) (by simp [results, Try.results25, go_sem, r0, r1]) rfl ?_
    rw [E.out]
    exact ⟨rfl, two_set HX.out.bel (Nat.le_succ _)⟩
  | true =>
    have E := Lib.hid (show R = avg l f t kn by rw [← HR.out]; exact aver_yes HG.out)
    have hg := range_of HG.out
    go_wp2_with fail
    refine (avg_s _ p m cap l f t kn HM.out hs (KK.out.on HX.out.bel) hg.1 hg.2.1.1 hg.2.1.2 hg.2.2.1 (by omega)).mono ?_
    rintro e w2 ⟨rfl, hb⟩
    have HX1 := Lib.hid (HX.out.on hb)
    clear hb hg c0 r0 r1 f0 f1 hlt2
    obtain ⟨c0, r0, r1, f0, f1, hlt2, _⟩ := HX1.out
    rw [← E.out]
    go_wp2
    refine bodyPost_ret (v := .tuple #[.agg #[.int .i64 R.1, .int .i64 R.2.1], .bool R.2.2]) (by simp [results, Try.results25, go_sem, r0, r1]) rfl ?_
    exact ⟨rfl, two_set HX1.out.bel (Nat.le_succ _)⟩
set_option maxHeartbeats 2000000 in
theorem fin_s (w : World) (p : Option Addr) (m cap : Nat) (l : List Fa) (mo kn : Int) (hm : l.length = m) (hs : m ≤ 1099511627776) (h : ReadsF w p l) :
    Calls Try.prog 22 #[.agg #[.slice p m cap], .int .i64 mo, .int .i64 kn] w (IsVal (fin l mo kn) w) := by
  have KK := Lib.hid h
  have HM := Lib.hid hm
  obtain ⟨R, hR⟩ : ∃ R, fin l mo kn = R := ⟨_, rfl⟩
  have HR := Lib.hid hR
  rw [hR]
  clear h hm hR
  go_enter Try.func22, Try.ntmps22
  go_wp2_with fail
  refine (StoreOk.ok_s _ p m cap l HM.out hs (KK.out.on (by (repeat (first | exact Below.refl _ _ | apply BelowKit.bl_alloc | apply BelowKit.bl_drewN | apply BelowKit.bl_drew | (refine BelowKit.bl_set ?_ _ ?_; rotate_left; (first | omega | (simp; omega) | simp)) | (refine BelowKit.bl_trans ?_ (‹Hid (Below _ _ _)›).out)))))).mono ?_
  rintro e w1 ⟨rfl, hb⟩
  have HB := Lib.hid (show Below (boxed w (.slice p m cap) 26).heap.size (boxed w (.slice p m cap) 26) w1 from hb)
  clear hb
  obtain ⟨b, hb⟩ : ∃ b, okS l = b := ⟨_, rfl⟩
  have HO := Lib.hid hb
  rw [hb]
  clear hb
  cases b with
  | false =>
    have E := Lib.hid (show R = (0, false) by rw [← HR.out]; exact fin_no1 HO.out)
    go_wp2
    refine bodyPost_ret (v := .tuple #[.int .i64 0, .bool false]) (by simp [results, Try.results22, go_sem]) rfl ?_
    rw [E.out]
    exact ⟨rfl, box_below HB.out⟩
  | true =>
  go_wp2_with fail
  refine (end_s mo w1).mono ?_
  rintro e w2 ⟨rfl, hw⟩
  subst hw
  obtain ⟨b, hb⟩ : ∃ b, inB mo 0 3600 = b := ⟨_, rfl⟩
  have HF := Lib.hid hb
  rw [hb]
  clear hb
  cases b with
  | false =>
    have E := Lib.hid (show R = (0, false) by rw [← HR.out]; exact fin_no2 HF.out)
    go_wp2
    refine bodyPost_ret (v := .tuple #[.int .i64 0, .bool false]) (by simp [results, Try.results22, go_sem]) rfl ?_
    rw [E.out]
    exact ⟨rfl, box_below HB.out⟩
  | true =>
  have hin := inB_of HF.out
  have W0 : IntKind.i64.wrap (mo - 1) = mo - 1 := IntWalk.i64_in _ (by omega)
  have HR2 := Lib.hid (show finTo l kn mo.toNat = R by rw [← HR.out]; exact (fin_yes HO.out HF.out).symm)
  go_wp2
  go_loopw [8] (fun i wr => ∃ j : Nat, (j : Int) ≤ mo ∧ i = .int .i64 ((j : Int) - 1) ∧ Hid (finTo l kn j = R) ∧ Hid (Below (boxed w (.slice p m cap) 26).heap.size (boxed w (.slice p m cap) 26) wr)) (fun i _ => (intOf i + 1).toNat)
  case atStart => exact ⟨mo.toNat, by omega, congrArg (Value.int .i64) (by omega), HR2, HB⟩
  case round =>
    clear HR2 HB W0
    obtain ⟨j, hj, rfl, HJ, HB⟩ := hrel
    have c0 := box_cell HB.out
    have z0 := box_size HB.out
    cases j with
    | zero =>
      have E := Lib.hid (show R = (0, false) from HJ.out.symm)
      go_wp2
      refine bodyPost_ret (v := .tuple #[.int .i64 0, .bool false]) (by simp [results, Try.results22, go_sem]) rfl ?_
      rw [E.out]
      exact ⟨rfl, box_below HB.out⟩
    | succ j =>
      have e0 : ((j + 1 : Nat) : Int) - 1 = (j : Int) := by omega
      rw [e0]
      have hb0 : (0 : Int) ≤ (j : Int) := by omega
      have W1 : IntKind.i64.wrap ((j : Int) - 1) = (j : Int) - 1 := IntWalk.i64_in _ (by omega)
      have HT := Lib.hid (show (if (val 1 (j : Int) kn l).2 = true then val 1 (j : Int) kn l else finTo l kn j) = R from HJ.out)
      clear HJ e0
      go_wp2_with fail
      refine (ValueAt.val_s _ p m cap l 1 (j : Int) kn HM.out hs (KK.out.on (box_below HB.out))).mono ?_
      rintro e w2 ⟨rfl, hb⟩
      have HB1 := Lib.hid (BelowKit.bl_trans HB.out hb)
      clear hb c0 z0
      obtain ⟨⟨v, b⟩, hv⟩ : ∃ v, val 1 (j : Int) kn l = v := ⟨_, rfl⟩
      rw [hv] at HT ⊢
      clear hv
      cases b with
      | true =>
        have E := Lib.hid (show R = (v, true) by rw [← HT.out]; rfl)
        clear HT W1
        go_wp2
        refine bodyPost_ret (v := .tuple #[.int .i64 v, .bool true]) (by simp [results, Try.results22, go_sem]) rfl ?_
        rw [E.out]
        exact ⟨rfl, box_below HB1.out⟩
      | false =>
        have E := Lib.hid (show finTo l kn j = R by rw [← HT.out]; rfl)
        clear HT
        go_wp2
        clear W1
        go_roundw
        case rel => exact ⟨j, by omega, rfl, E, HB1⟩
        case measure => simp [intOf]
/-- Beside them the box of the best fraction so far. -/
structure Bs (w : World) (s : Value) (n d : Int) (wr : World) : Prop where
  bx : Bx w s 0 0 wr
  q0 : wr.cell? ⟨w.heap.size + 1 + 1, 0, none⟩ = some (.int .i64 n)
  q1 : wr.cell? ⟨w.heap.size + 1 + 1, 1, none⟩ = some (.int .i64 d)
  e0 : wr.frozen? ⟨w.heap.size + 1 + 1, 0, none⟩ = false
  e1 : wr.frozen? ⟨w.heap.size + 1 + 1, 1, none⟩ = false
  lt : w.heap.size + 1 + 1 < wr.heap.size
theorem Bs.on {w wr w' : World} {s : Value} {n d : Int} (h : Bs w s n d wr) (hb : Below wr.heap.size wr w') : Bs w s n d w' := by
  have h1 := h.lt
  obtain ⟨kc, kf⟩ := BelowKit.bcell hb
  exact ⟨h.bx.on hb, (kc _ 0 (by omega)).trans h.q0, (kc _ 1 (by omega)).trans h.q1, (kf _ 0 (by omega)).trans h.e0, (kf _ 1 (by omega)).trans h.e1, Nat.lt_of_lt_of_le h1 hb.size⟩
theorem Bs.put {w wr : World} {s : Value} {n d n' d' : Int} (h : Bs w s n d wr) : Bs w s n' d' ((wr.setCell ⟨w.heap.size + 1 + 1, 0, none⟩ (.int .i64 n')).setCell ⟨w.heap.size + 1 + 1, 1, none⟩ (.int .i64 d')) := by
  obtain ⟨⟨c0, r0, r1, f0, f1, hl, hb⟩, q0, q1, e0, e1, hl2⟩ := h
  exact ⟨⟨by simp [go_sem, c0], by simp [go_sem, r0], by simp [go_sem, r1], by simp [go_sem, f0], by simp [go_sem, f1], by simpa using hl, two_set hb (by omega)⟩, by simp [go_sem, q0], by simp [go_sem, q1], by simp [go_sem, e0], by simp [go_sem, e1], by simpa using hl2⟩
theorem Bs.new (w : World) (s : Value) : Bs w s 0 0 (((w.alloc (.cells #[s] 26)).alloc (.cells #[.int .i64 0, .int .i64 0] 33)).alloc (.cells #[.int .i64 0, .int .i64 0] 33)) :=
  ⟨(Bx.new w s).on (BelowKit.bl_alloc (Below.refl _ _)), by simp [go_sem], by simp [go_sem], by simp [go_sem], by simp [go_sem], by simp⟩
set_option maxHeartbeats 4000000 in
theorem best_s (w : World) (p : Option Addr) (m cap : Nat) (l : List Fa) (f t len kn : Int) (hm : l.length = m) (hs : m ≤ 1099511627776) (h : ReadsF w p l) :
    Calls Try.prog 27 #[.agg #[.slice p m cap], .int .i64 f, .int .i64 t, .int .i64 len, .int .i64 kn] w (IsBst (best l f t len kn) w) := by
  have KK := Lib.hid h
  have HM := Lib.hid hm
  obtain ⟨R, hR⟩ : ∃ R, best l f t len kn = R := ⟨_, rfl⟩
  have HR := Lib.hid hR
  rw [hR]
  clear h hm hR
  go_enter Try.func27, Try.ntmps27
  go_wp2_with fail
  have HX0 := Lib.hid (Bs.new w (.slice p m cap))
  refine (rng_s _ p m cap l f t HM.out hs (KK.out.on (by (repeat (first | exact Below.refl _ _ | apply BelowKit.bl_alloc | apply BelowKit.bl_drewN | apply BelowKit.bl_drew | (refine BelowKit.bl_set ?_ _ ?_; rotate_left; (first | omega | (simp; omega) | simp)) | (refine BelowKit.bl_trans ?_ (‹Hid (Below _ _ _)›).out)))))).mono ?_
  rintro e w1 ⟨rfl, hb⟩
  have HX := Lib.hid (HX0.out.on hb)
  clear hb HX0
  obtain ⟨b, hb⟩ : ∃ b, rangeB l f t = b := ⟨_, rfl⟩
  have HG := Lib.hid hb
  rw [hb]
  clear hb
  cases b with
  | false =>
    have E := Lib.hid (show R = bst0 by rw [← HR.out]; exact best_no1 HG.out)
    obtain ⟨⟨c0, r0, r1, f0, f1, hl, _⟩, q0, q1, e0, e1, hl2⟩ := HX.out
    go_wp2
    refine bodyPost_ret (v := .tuple #[.agg #[.int .i64 0, .int .i64 0], .int .i64 0, .bool false]) (by simp [results, Try.results27, go_sem, r0, r1]) rfl ?_
    rw [E.out]
    exact ⟨rfl, two_set HX.out.bx.bel (Nat.le_succ _)⟩
  | true =>
  go_wp2_with fail
  refine (in_c len 1 60 w1).mono ?_
  rintro e w2 ⟨rfl, hw⟩
  subst hw
  obtain ⟨b, hb⟩ : ∃ b, inB len 1 60 = b := ⟨_, rfl⟩
  have HL := Lib.hid hb
  rw [hb]
  clear hb
  cases b with
  | false =>
    have E := Lib.hid (show R = bst0 by rw [← HR.out]; exact best_no2 HL.out)
    obtain ⟨⟨c0, r0, r1, f0, f1, hl, _⟩, q0, q1, e0, e1, hl2⟩ := HX.out
    go_wp2
    refine bodyPost_ret (v := .tuple #[.agg #[.int .i64 0, .int .i64 0], .int .i64 0, .bool false]) (by simp [results, Try.results27, go_sem, r0, r1]) rfl ?_
    rw [E.out]
    exact ⟨rfl, two_set HX.out.bx.bel (Nat.le_succ _)⟩
  | true =>
  have hg := range_of HG.out
  have hl60 := inB_of HL.out
  have HR2 := Lib.hid (show R = bestTo l kn f len (t - len - f + 1).toNat by rw [← HR.out]; exact best_yes HG.out HL.out)
  have HOK := Lib.hid hg.1
  have hf0 := hg.2.1.1
  have hf1 := hg.2.1.2
  have ht1 := hg.2.2.2
  clear hg
  go_wp2
  go_loopw [14, 15, 16] (fun a o i wr => ∃ k : Nat, (f + (k : Int) ≤ t - len + 1 ∨ k = 0) ∧ i = .int .i64 (f + (k : Int)) ∧ a = .int .i64 (bestTo l kn f len k).p ∧ o = .bool (bestTo l kn f len k).ok ∧ Hid (Bs w (.slice p m cap) (bestTo l kn f len k).n (bestTo l kn f len k).d wr)) (fun _ _ i _ => (t - intOf i + 1).toNat)
  case atStart => exact ⟨0, .inr rfl, by simp, rfl, rfl, HX⟩
  case round =>
    clear HX
    obtain ⟨k, hk, rfl, rfl, rfl, HX⟩ := hrel
    obtain ⟨mo, hmo⟩ : ∃ mo, f + (k : Int) = mo := ⟨_, rfl⟩
    have HN := Lib.hid (best_succ l kn f len k)
    rw [hmo] at HN hk ⊢
    have HMO := Lib.hid hmo
    obtain ⟨B, hB⟩ : ∃ B, bestTo l kn f len k = B := ⟨_, rfl⟩
    have HBK := Lib.hid hB
    rw [hB] at HN HX ⊢
    clear hB hmo
    obtain ⟨bn, bd, bp, bo⟩ := B
    simp only [] at HX ⊢
    by_cases hlt : mo + len ≤ t
    · have m0 : 0 ≤ mo := by have := HMO.out; omega
      have W1 : IntKind.i64.wrap (mo + len) = mo + len := IntWalk.i64_in _ (by omega)
      have W2 : IntKind.i64.wrap (mo + 1) = mo + 1 := IntWalk.i64_in _ (by omega)
      have dK : decide (mo + len ≤ t) = true := decide_eq_true hlt
      obtain ⟨⟨c0, r0, r1, f0, f1, hl, _⟩, q0, q1, e0, e1, hl2⟩ := HX.out
      go_wp2_with fail
      refine (avg_s _ p m cap l mo (mo + len) kn HM.out hs (KK.out.on HX.out.bx.bel) HOK.out m0 (by omega) (by omega) (by omega)).mono ?_
      rintro e w2 ⟨rfl, hb⟩
      have HX1 := Lib.hid (HX.out.on hb)
      clear hb HX c0 r0 r1 f0 f1 hl q0 q1 e0 e1 hl2
      obtain ⟨⟨xn, xd, xo⟩, hx⟩ : ∃ x, avg l mo (mo + len) kn = x := ⟨_, rfl⟩
      rw [hx] at HN ⊢
      clear hx
      have HX2 := Lib.hid (HX1.out.on (BelowKit.bl_alloc (o := .cells #[.int .i64 xn, .int .i64 xd] 33) (Below.refl _ _)))
      obtain ⟨⟨c0, r0, r1, f0, f1, hl, _⟩, q0, q1, e0, e1, hl2⟩ := HX1.out
      cases xo with
      | false =>
        have E := Lib.hid (show bestTo l kn f len (k + 1) = ⟨bn, bd, bp, bo⟩ from HN.out.trans (better_no rfl))
        clear HN
        go_wp2
        clear W1 W2
        go_roundw
        case rel => exact ⟨k + 1, .inl (by have := HMO.out; omega), congrArg (Value.int .i64) (by have := HMO.out; omega), by rw [E.out], by rw [E.out], by rw [E.out]; exact HX2⟩
        case measure => simp [intOf]; omega
      | true =>
      cases bo with
      | false =>
        have E := Lib.hid (show bestTo l kn f len (k + 1) = ⟨xn, xd, mo, true⟩ from HN.out.trans (better_yes rfl))
        clear HN
        go_wp2
        clear W1 W2
        go_roundw
        case rel => exact ⟨k + 1, .inl (by have := HMO.out; omega), congrArg (Value.int .i64) (by have := HMO.out; omega), by rw [E.out], by rw [E.out], by rw [E.out]; exact Lib.hid (HX1.out.put.on (BelowKit.bl_alloc (Below.refl _ _)))⟩
        case measure => simp [intOf]; omega
      | true =>
        go_wp2_with fail
        refine (FracSCmp.cmp_s xn xd bn bd _).mono ?_
        rintro e w3 ⟨rfl, hb⟩
        have HX3 := Lib.hid (HX2.out.on hb)
        have n0 : w3.cell? ⟨w2.heap.size, 0, none⟩ = some (.int .i64 xn) := ((BelowKit.bcell hb).1 _ _ (by simp)).trans (by simp [go_sem])
        have n1 : w3.cell? ⟨w2.heap.size, 1, none⟩ = some (.int .i64 xd) := ((BelowKit.bcell hb).1 _ _ (by simp)).trans (by simp [go_sem])
        have nz : w2.heap.size < w3.heap.size := by have := hb.size; simp at this; omega
        have HNE := Lib.hid (show w.heap.size + 1 + 1 < w2.heap.size from hl2)
        clear hb HX2 HX1 c0 r0 r1 f0 f1 hl q0 q1 e0 e1 hl2
        obtain ⟨⟨c0, r0, r1, f0, f1, hl, _⟩, q0, q1, e0, e1, hl2⟩ := HX3.out
        obtain ⟨c, hc⟩ : ∃ c, cmpI xn xd bn bd = c := ⟨_, rfl⟩
        have HC := Lib.hid hc
        rw [hc]
        clear hc
        by_cases hpos : 0 < c
        · have E := Lib.hid (show bestTo l kn f len (k + 1) = ⟨xn, xd, mo, true⟩ from HN.out.trans (better_yes (by simp [taken, HC.out, hpos])))
          have dC : decide (0 < c) = true := decide_eq_true hpos
          clear HN hpos
          go_wp2
          clear W1 W2
          go_roundw
          case rel => exact ⟨k + 1, .inl (by have := HMO.out; omega), congrArg (Value.int .i64) (by have := HMO.out; omega), by rw [E.out], by rw [E.out], by rw [E.out]; exact Lib.hid HX3.out.put⟩
          case measure => simp [intOf]; omega
        · have E := Lib.hid (show bestTo l kn f len (k + 1) = ⟨bn, bd, bp, true⟩ from HN.out.trans (better_no (by simp [taken, HC.out, hpos])))
          have dC : decide (0 < c) = false := decide_eq_false hpos
          clear HN hpos
          go_wp2
          clear W1 W2
          go_roundw
          case rel => exact ⟨k + 1, .inl (by have := HMO.out; omega), congrArg (Value.int .i64) (by have := HMO.out; omega), by rw [E.out], by rw [E.out], by rw [E.out]; exact HX3⟩
          case measure => simp [intOf]; omega
    · have HJ := Lib.hid (show (t - len - f + 1).toNat = k by have := HMO.out; omega)
      have E := Lib.hid (show R = ⟨bn, bd, bp, bo⟩ by rw [HR2.out, HJ.out]; exact HBK.out)
      have dK : decide (mo + len ≤ t) = false := decide_eq_false hlt
      have hm37 : mo ≤ 3700 := by
        rcases hk with e | e
        · omega
        · have := HMO.out; omega
      have W1 : IntKind.i64.wrap (mo + len) = mo + len := IntWalk.i64_in _ (by have := HMO.out; omega)
      obtain ⟨⟨c0, r0, r1, f0, f1, hl, _⟩, q0, q1, e0, e1, hl2⟩ := HX.out
      go_wp2
      refine bodyPost_ret (v := .tuple #[.agg #[.int .i64 bn, .int .i64 bd], .int .i64 bp, .bool bo]) (by simp [results, Try.results27, go_sem, r0, r1]) rfl ?_
      rw [E.out]
      exact ⟨rfl, two_set HX.out.bx.bel (Nat.le_succ _)⟩
/-- The boxes of the store and of the series. -/
structure Bp (w : World) (s x : Value) (wr : World) : Prop where
  c0 : wr.cell? ⟨w.heap.size, 0, none⟩ = some s
  c1 : wr.cell? ⟨w.heap.size + 1, 0, none⟩ = some x
  lt : w.heap.size + 1 < wr.heap.size
  bel : Below w.heap.size w wr
theorem Bp.on {w wr w' : World} {s x : Value} (h : Bp w s x wr) (hb : Below wr.heap.size wr w') : Bp w s x w' := by
  have h1 := h.lt
  obtain ⟨kc, kf⟩ := BelowKit.bcell hb
  exact ⟨(kc _ 0 (by omega)).trans h.c0, (kc _ 0 (by omega)).trans h.c1, Nat.lt_of_lt_of_le h1 hb.size, BelowKit.bl_trans h.bel hb⟩
theorem Bp.new (w : World) (s x : Value) : Bp w s x ((w.alloc (.cells #[s] 26)).alloc (.cells #[x] 29)) :=
  ⟨by simp [go_sem], by simp [go_sem], by simp, by (repeat (first | exact Below.refl _ _ | apply BelowKit.bl_alloc | apply BelowKit.bl_drewN | apply BelowKit.bl_drew | (refine BelowKit.bl_set ?_ _ ?_; rotate_left; (first | omega | (simp; omega) | simp)) | (refine BelowKit.bl_trans ?_ (‹Hid (Below _ _ _)›).out)))⟩
set_option maxHeartbeats 4000000 in
theorem rev_s (w : World) (p : Option Addr) (m cap : Nat) (l : List Fa) (q : Option Addr) (n cap' : Nat) (x : List TPoint.El) (f t kn : Int) (hm : l.length = m) (hs : m ≤ 1099511627776) (h : ReadsF w p l) (hn : x.length = n) (hs' : n ≤ 1099511627776) (hx : Reads TPoint.fc 3 w q x) :
    Calls Try.prog 29 #[.agg #[.slice p m cap], .agg #[.slice q n cap'], .int .i64 f, .int .i64 t, .int .i64 kn] w (IsNum (rev l x f t kn) w) := by
  have KK := Lib.hid h
  have HM := Lib.hid hm
  have KX := Lib.hid hx
  have HN := Lib.hid hn
  obtain ⟨R, hR⟩ : ∃ R, rev l x f t kn = R := ⟨_, rfl⟩
  have HR := Lib.hid hR
  rw [hR]
  clear h hm hR hx hn
  go_enter Try.func29, Try.ntmps29
  go_wp2_with fail
  have HX0 := Lib.hid (Bp.new w (.slice p m cap) (.slice q n cap'))
  refine (rng_s _ p m cap l f t HM.out hs (KK.out.on (by (repeat (first | exact Below.refl _ _ | apply BelowKit.bl_alloc | apply BelowKit.bl_drewN | apply BelowKit.bl_drew | (refine BelowKit.bl_set ?_ _ ?_; rotate_left; (first | omega | (simp; omega) | simp)) | (refine BelowKit.bl_trans ?_ (‹Hid (Below _ _ _)›).out)))))).mono ?_
  rintro e w1 ⟨rfl, hb⟩
  have HX := Lib.hid (HX0.out.on hb)
  clear hb HX0
  obtain ⟨b, hb⟩ : ∃ b, rangeB l f t = b := ⟨_, rfl⟩
  have HG := Lib.hid hb
  rw [hb]
  clear hb
  obtain ⟨c0, c1, hl, _⟩ := HX.out
  cases b with
  | false =>
    have E := Lib.hid (show R = 0 by rw [← HR.out]; exact rev_no1 HG.out)
    go_wp2
    go_ret
    rw [E.out]
    exact ⟨rfl, HX.out.bel⟩
  | true =>
  go_wp2_with fail
  refine (SerS.ok_s _ q n cap' x HN.out hs' (KX.out.on HX.out.bel)).mono ?_
  rintro e w2 ⟨rfl, hb⟩
  have HX1 := Lib.hid (HX.out.on hb)
  clear hb HX c0 c1 hl
  obtain ⟨c0, c1, hl, _⟩ := HX1.out
  obtain ⟨b, hb⟩ : ∃ b, PointMath.okS x = b := ⟨_, rfl⟩
  have HO := Lib.hid hb
  rw [hb]
  clear hb
  cases b with
  | false =>
    have E := Lib.hid (show R = 0 by rw [← HR.out]; exact rev_no2 HO.out)
    go_wp2
    go_ret
    rw [E.out]
    exact ⟨rfl, HX1.out.bel⟩
  | true =>
  have hg := range_of HG.out
  have HOK := Lib.hid hg.1
  have hf0 := hg.2.1.1
  have hf1 := hg.2.1.2
  have ht0 := hg.2.2.1
  have ht1 := hg.2.2.2
  clear hg
  have W0 : IntKind.i64.wrap (t - 1) = t - 1 := IntWalk.i64_in _ (by omega)
  go_wp2_with fail
  refine (IdxS.idx_s _ q n cap' x (t - 1) kn HN.out hs' (KX.out.on HX1.out.bel)).mono ?_
  rintro e w3 ⟨rfl, hb⟩
  have HX2 := Lib.hid (HX1.out.on hb)
  clear hb HX1 c0 c1 hl W0
  have HV := Lib.hid (fun e3 => rev_yes (l := l) (x := x) (f := f) (t := t) (kn := kn) HG.out HO.out e3)
  have HV0 := Lib.hid (fun e3 => rev_no3 (l := l) (x := x) (f := f) (t := t) (kn := kn) e3)
  have HBD := Lib.hid (fun e3 => idx_bd (x := x) HO.out (M := t - 1) (kn := kn) e3)
  rw [HR.out] at HV HV0
  obtain ⟨⟨la, b⟩, hv⟩ : ∃ v, PointMath.idx (t - 1) kn x = v := ⟨_, rfl⟩
  rw [hv] at HV HV0 HBD ⊢
  simp only []
  clear hv
  cases b with
  | false =>
    have E := Lib.hid (show R = 0 from HV0.out rfl)
    clear HV HV0 HBD
    go_wp2
    go_loopw [11, 14] (fun s i wr => s = .int .i64 0 ∧ i = .int .i64 f ∧ Hid (Bp w (.slice p m cap) (.slice q n cap') wr)) (fun _ _ _ => 0)
    case atStart => exact ⟨rfl, rfl, HX2⟩
    case round =>
      obtain ⟨rfl, rfl, HX3⟩ := hrel
      obtain ⟨d, hd⟩ : ∃ d, decide (f < t) = d := ⟨_, rfl⟩
      cases d
      all_goals
        go_wp2
        go_ret
        rw [E.out]
        exact ⟨rfl, HX3.out.bel⟩
  | true =>
  have HVV := Lib.hid (show R = revTo l x kn f la (t - f).toNat from HV.out rfl)
  have hla : 1 ≤ la ∧ la ≤ 1000000 := HBD.out rfl
  clear HV HV0 HBD
  go_wp2
  go_loopw [11, 14] (fun s i wr => ∃ j : Nat, (f + (j : Int) ≤ t ∨ j = 0) ∧ i = .int .i64 (f + (j : Int)) ∧ s = .int .i64 (revTo l x kn f la j) ∧ Hid (Bp w (.slice p m cap) (.slice q n cap') wr)) (fun _ i _ => (t - intOf i).toNat)
  case atStart => exact ⟨0, .inr rfl, by simp, rfl, HX2⟩
  case round =>
    clear HX2
    obtain ⟨j, hj, rfl, rfl, HX⟩ := hrel
    obtain ⟨mo, hmo⟩ : ∃ mo, f + (j : Int) = mo := ⟨_, rfl⟩
    have HS := Lib.hid (rev_succ l x kn f la j)
    have sb := rev_bd HOK.out HO.out hla.1 hla.2 (kn := kn) (f := f) j
    rw [hmo] at HS hj ⊢
    have HMO := Lib.hid hmo
    obtain ⟨s, hs2⟩ : ∃ s, revTo l x kn f la j = s := ⟨_, rfl⟩
    have HSJ := Lib.hid hs2
    rw [hs2] at HS sb ⊢
    clear hs2 hmo
    obtain ⟨c0, c1, hl, _⟩ := HX.out
    by_cases hlt : mo < t
    · have dK : decide (mo < t) = true := decide_eq_true hlt
      have m0 : 0 ≤ mo := by have := HMO.out; omega
      have hj37 : (j : Int) ≤ 3600 := by have := HMO.out; omega
      have W2 : IntKind.i64.wrap (mo + 1) = mo + 1 := IntWalk.i64_in _ (by omega)
      have hpv := (pv_bd HOK.out kn mo).2
      have hib := idx_bd (x := x) HO.out (M := mo) (kn := kn)
      go_wp2_with fail
      refine (ValueAt.val_s _ p m cap l 1 mo kn HM.out hs (KK.out.on HX.out.bel)).mono ?_
      rintro e w4 ⟨rfl, hb⟩
      have HX1 := Lib.hid (HX.out.on hb)
      clear hb HX c0 c1 hl
      change Hid (revTo l x kn f la (j + 1) = s + rev1 (val 1 mo kn l) (PointMath.idx mo kn x) la) at HS
      change (val 1 mo kn l).1 ≤ 1000000000 at hpv
      obtain ⟨⟨v, b⟩, hv⟩ : ∃ v, val 1 mo kn l = v := ⟨_, rfl⟩
      rw [hv] at HS hpv ⊢
      simp only [] at hpv ⊢
      clear hv
      obtain ⟨c0, c1, hl, _⟩ := HX1.out
      go_wp2_with fail
      refine (IdxS.idx_s _ q n cap' x mo kn HN.out hs' (KX.out.on HX1.out.bel)).mono ?_
      rintro e w5 ⟨rfl, hb⟩
      have HX2 := Lib.hid (HX1.out.on hb)
      clear hb HX1 c0 c1 hl
      obtain ⟨⟨ba, b2⟩, hv⟩ : ∃ v, PointMath.idx mo kn x = v := ⟨_, rfl⟩
      rw [hv] at HS hib ⊢
      simp only [] at hib ⊢
      clear hv
      by_cases hcase : b = true ∧ b2 = true ∧ 0 < v
      · obtain ⟨rfl, rfl, hv0⟩ := hcase
        have dV : decide (0 < v) = true := decide_eq_true hv0
        have hba := hib rfl
        have e1 : 0 ≤ v * la := Int.mul_nonneg (by omega) (by omega)
        have e2 : v * la ≤ 1000000000 * 1000000 := Int.mul_le_mul hpv hla.2 (by omega) (by omega)
        obtain ⟨P, hP⟩ : ∃ P, v * la = P := ⟨_, rfl⟩
        rw [hP] at e1 e2
        have e3 : 0 ≤ P.tdiv ba ∧ P.tdiv ba ≤ P := by
          rw [Int.tdiv_eq_ediv_of_nonneg e1]
          exact ⟨Int.ediv_nonneg e1 (by omega), Int.ediv_le_self _ e1⟩
        obtain ⟨Q, hQ⟩ : ∃ Q, P.tdiv ba = Q := ⟨_, rfl⟩
        rw [hQ] at e3
        have HE := Lib.hid (show revTo l x kn f la (j + 1) = s + Q by rw [HS.out, rev1, if_pos ⟨rfl, rfl, hv0⟩]; show s + (v * la).tdiv ba = _; rw [hP, hQ])
        have W3 : IntKind.i64.wrap (v * la) = P := by rw [hP]; exact IntWalk.i64_in _ (by omega)
        have W4 : IntKind.i64.wrap (P.tdiv ba) = Q := by rw [hQ]; exact IntWalk.i64_in _ (by omega)
        have W5 : IntKind.i64.wrap (s + Q) = s + Q := IntWalk.i64_in _ (by omega)
        have dz : (ba == 0) = false := beq_eq_false_iff_ne.2 (by omega)
        have dz2 : decide (ba = 0) = false := decide_eq_false (by omega)
        have dz3 : ¬ ba = 0 := by omega
        clear HS hP hQ e1 e2 e3 hib hv0 hpv
        go_wp2
        clear W2 W3 W4 W5
        go_roundw
        case rel => exact ⟨j + 1, .inl (by have := HMO.out; omega), congrArg (Value.int .i64) (by have := HMO.out; omega), congrArg (Value.int .i64) HE.out.symm, HX2⟩
        case measure => simp [intOf]; omega
      · have HE := Lib.hid (show revTo l x kn f la (j + 1) = s by rw [HS.out, rev1, if_neg hcase, Int.add_zero])
        have HCS := Lib.hid hcase
        clear HS hib hpv hcase
        cases b with
        | false =>
          go_wp2
          clear W2
          go_roundw
          case rel => exact ⟨j + 1, .inl (by have := HMO.out; omega), congrArg (Value.int .i64) (by have := HMO.out; omega), congrArg (Value.int .i64) HE.out.symm, HX2⟩
          case measure => simp [intOf]; omega
        | true =>
        cases b2 with
        | false =>
          go_wp2
          clear W2
          go_roundw
          case rel => exact ⟨j + 1, .inl (by have := HMO.out; omega), congrArg (Value.int .i64) (by have := HMO.out; omega), congrArg (Value.int .i64) HE.out.symm, HX2⟩
          case measure => simp [intOf]; omega
        | true =>
          have dV : decide (0 < v) = false := decide_eq_false (fun e => HCS.out ⟨rfl, rfl, e⟩)
          go_wp2
          clear W2
          go_roundw
          case rel => exact ⟨j + 1, .inl (by have := HMO.out; omega), congrArg (Value.int .i64) (by have := HMO.out; omega), congrArg (Value.int .i64) HE.out.symm, HX2⟩
          case measure => simp [intOf]; omega
    · have HJ := Lib.hid (show (t - f).toNat = j by have := HMO.out; omega)
      have E := Lib.hid (show R = s by rw [HVV.out, HJ.out]; exact HSJ.out)
      have dK : decide (mo < t) = false := decide_eq_false hlt
      clear HS sb
      go_wp2
      go_ret
      rw [E.out]
      exact ⟨rfl, HX.out.bel⟩
end Go.Proofs.Ytdmkceaonfbebaa.PayS
