/- Contracts of the program's functions on pay. -/
import Derived.Test.YtdmkceaonfbebaaPayW
namespace Go.Proofs.Ytdmkceaonfbebaa.PayI
open Go.RowKit RowN PayMath PayLine Mon Box PayS PayT PayM PayB PayR PayW FactMath
open FracMath (red)
open Fact (Fa)
open FactRow (ReadsF)
theorem okP_nil : PointMath.okS ([] : List TPoint.El) = true := PointMath.okS_yes ⟨by simp, fun i hi => by simp at hi, fun i hi => by simp at hi⟩
theorem all_nil (l : List Fa) (f t : Int) : allB l [] f t = rangeB l f t := by
  rw [allB, okP_nil, rangeB, Bool.true_and, Bool.and_assoc]
theorem fin_by (l : List Fa) (mo kn : Int) : byT (allB l [] 0 mo) (finT l kn mo.toNat) = ⟨(fin l mo kn).1, if (fin l mo kn).2 = true then 1 else 0, 0⟩ := by
  rw [all_nil]
  cases h : rangeB l 0 mo with
  | true =>
    have h' := h
    simp only [rangeB, Bool.and_eq_true] at h'
    rw [fin_yes h'.1.1 h'.2]
    rfl
  | false =>
    have : fin l mo kn = (0, false) := by
      cases h1 : okS l with
      | false => exact fin_no1 h1
      | true =>
        cases h2 : inB mo 0 3600 with
        | false => exact fin_no2 h2
        | true => rw [rangeB, h1, h2, inB_yes (by omega) (by omega)] at h; cases h
    rw [this]
    rfl
def avgT (l : List Fa) (f t kn : Int) : Tt := ⟨sumTo l kn f (t - f).toNat, cntTo l kn f (t - f).toNat, f⟩
theorem aver_by (l : List Fa) (f t kn : Int) : red (byT (allB l [] f t) (avgT l f t kn)).s (byT (allB l [] f t) (avgT l f t kn)).m = aver l f t kn := by
  rw [all_nil]
  cases h : rangeB l f t with
  | true =>
    rw [aver_yes h]
    show red (sumTo l kn f (t - f).toNat) (cntTo l kn f (t - f).toNat) = _
    by_cases h0 : cntTo l kn f (t - f).toNat = 0
    · rw [avg_none h0, h0, FracMath.red_zero]
    · rw [avg_some h0]
  | false => rw [aver_no h]; exact FracMath.red_zero 0
theorem byT_bd {b : Bool} {T : Tt} (B : Int) (hB : 0 ≤ B) (h : b = true → -B ≤ T.s ∧ T.s ≤ B ∧ -B ≤ T.m ∧ T.m ≤ B) : -B ≤ (byT b T).s ∧ (byT b T).s ≤ B ∧ -B ≤ (byT b T).m ∧ (byT b T).m ≤ B := by
  cases b with
  | true => exact h rfl
  | false => show -B ≤ 0 ∧ 0 ≤ B ∧ -B ≤ 0 ∧ 0 ≤ B; omega
theorem best_by {l : List Fa} {f t len kn : Int} (h : inB len 1 60 = true) : best l f t len kn = ⟨(red (byT (allB l [] f t) (bt l kn f len (t - len - f + 1).toNat)).s (byT (allB l [] f t) (bt l kn f len (t - len - f + 1).toNat)).m).1, (red (byT (allB l [] f t) (bt l kn f len (t - len - f + 1).toNat)).s (byT (allB l [] f t) (bt l kn f len (t - len - f + 1).toNat)).m).2.1, (byT (allB l [] f t) (bt l kn f len (t - len - f + 1).toNat)).p, (red (byT (allB l [] f t) (bt l kn f len (t - len - f + 1).toNat)).s (byT (allB l [] f t) (bt l kn f len (t - len - f + 1).toNat)).m).2.2⟩ := by
  have hl := inB_of h
  rw [all_nil]
  cases hr : rangeB l f t with
  | true =>
    rw [best_yes hr h]
    exact best_mean (range_of hr).1 (by omega) hl.2 _
  | false =>
    rw [best_no1 hr]
    show bst0 = ⟨(red 0 0).1, (red 0 0).2.1, 0, (red 0 0).2.2⟩
    rw [FracMath.red_zero]
    rfl
theorem rev_by (l : List Fa) (x : List TPoint.El) (f t kn : Int) : (byT (allB l x f t) ⟨rev l x f t kn, 0, 0⟩).s = rev l x f t kn := by
  cases h : allB l x f t with
  | true => rfl
  | false =>
    show 0 = rev l x f t kn
    cases h1 : rangeB l f t with
    | false => rw [rev_no1 h1]
    | true =>
      cases h2 : PointMath.okS x with
      | false => rw [rev_no2 h2]
      | true =>
        simp only [rangeB, Bool.and_eq_true] at h1
        rw [allB, h1.1.1, h1.1.2, h1.2, h2] at h
        cases h
theorem len_okS {l : List Fa} {m : Nat} (h : OkS l) (hm : l.length = m) : m ≤ 1048576 := by have := h.1; omega
theorem keep_c {W : World} {b g i : Nat} {v : Value} (h : W.cell? ⟨b, i, none⟩ = some v) (hne : b ≠ g) (u u' : Value) : ((W.setCell ⟨g, 0, none⟩ u).setCell ⟨g, 1, none⟩ u').cell? ⟨b, i, none⟩ = some v := by simp [go_sem, h]
set_option maxHeartbeats 1000000 in
theorem fin_i (w : World) (p : Option Addr) (m cap : Nat) (l : List Fa) (mo kn : Int) (hm : l.length = m) (hs : m ≤ 1099511627776) (h : ReadsF w p l) :
    Calls Try.prog 15 #[.agg #[.slice p m cap], .int .i64 mo, .int .i64 kn] w (IsVal (fin l mo kn) w) := by
  have KK := Lib.hid h
  have HM := Lib.hid hm
  have HE := Lib.hid (fin_by l mo kn)
  clear h hm
  go_enter Try.func15, Try.ntmps15
  go_wp2_with fail
  refine (by_final _ p m cap l kn 0 mo 0 none 0 0 [] HM.out hs (KK.out.on (by (repeat (first | exact Below.refl _ _ | apply BelowKit.bl_alloc | apply BelowKit.bl_drewN | apply BelowKit.bl_drew | (refine BelowKit.bl_set ?_ _ ?_; rotate_left; (first | omega | (simp; omega) | simp)) | (refine BelowKit.bl_trans ?_ (‹Hid (Below _ _ _)›).out))))) rfl (by omega) (Reads.nil _ _) (finT l kn mo.toNat) (fun ha W hW => fin_m W p m cap l kn mo 0 none 0 0 HM.out (len_okS (all_of ha).1 HM.out) ((KK.out.on (by (repeat (first | exact Below.refl _ _ | apply BelowKit.bl_alloc | apply BelowKit.bl_drewN | apply BelowKit.bl_drew | (refine BelowKit.bl_set ?_ _ ?_; rotate_left; (first | omega | (simp; omega) | simp)) | (refine BelowKit.bl_trans ?_ (‹Hid (Below _ _ _)›).out))))).on hW) (all_of ha).1 (all_of ha).2.2.2.1 (all_of ha).2.2.2.2)).mono ?_
  rintro e w1 ⟨rfl, hb⟩
  rw [HE.out]
  have HB := Lib.hid (show Below w.heap.size w w1 from BelowKit.bl_trans (by (repeat (first | exact Below.refl _ _ | apply BelowKit.bl_alloc | apply BelowKit.bl_drewN | apply BelowKit.bl_drew | (refine BelowKit.bl_set ?_ _ ?_; rotate_left; (first | omega | (simp; omega) | simp)) | (refine BelowKit.bl_trans ?_ (‹Hid (Below _ _ _)›).out)))) hb)
  obtain ⟨⟨v, b⟩, hv⟩ : ∃ v, fin l mo kn = v := ⟨_, rfl⟩
  have HV := Lib.hid hv
  rw [hv]
  clear hb hv
  cases b with
  | false =>
    simp only [Bool.false_eq_true, if_false]
    go_wp2_with fail
    go_quiet (fail)
    go_wp2
    refine bodyPost_ret (v := .tuple #[.int .i64 v, .bool false]) (by simp [results, Try.results15]) rfl ⟨by rw [HV.out], ?_⟩
    exact below_drewN (BelowKit.bl_alloc HB.out) _
  | true =>
    simp only [if_true]
    go_wp2_with fail
    go_quiet (fail)
    go_wp2
    refine bodyPost_ret (v := .tuple #[.int .i64 v, .bool true]) (by simp [results, Try.results15]) rfl ⟨by rw [HV.out], ?_⟩
    exact below_drewN (BelowKit.bl_alloc HB.out) _
set_option maxHeartbeats 1000000 in
theorem aver_i (w : World) (p : Option Addr) (m cap : Nat) (l : List Fa) (f t kn : Int) (hm : l.length = m) (hs : m ≤ 1099511627776) (h : ReadsF w p l) :
    Calls Try.prog 13 #[.agg #[.slice p m cap], .int .i64 f, .int .i64 t, .int .i64 kn] w (IsFr (aver l f t kn) w) := by
  have KK := Lib.hid h
  have HM := Lib.hid hm
  have HE := Lib.hid (aver_by l f t kn)
  have HBD := Lib.hid (byT_bd (b := allB l [] f t) (T := avgT l f t kn) 4000000000000000000 (by omega) (fun ha => by
    obtain ⟨ho, _, hf, ht⟩ := all_of ha
    have h1 := sum_bd ho kn f (t - f).toNat
    have h2 := cnt_bd l kn f (t - f).toNat
    show _ ≤ sumTo l kn f (t - f).toNat ∧ sumTo l kn f (t - f).toNat ≤ _ ∧ _ ≤ cntTo l kn f (t - f).toNat ∧ cntTo l kn f (t - f).toNat ≤ _
    omega))
  clear h hm
  go_enter Try.func13, Try.ntmps13
  go_wp2_with fail
  refine (by_average _ p m cap l kn f t 0 none 0 0 [] HM.out hs (KK.out.on (by (repeat (first | exact Below.refl _ _ | apply BelowKit.bl_alloc | apply BelowKit.bl_drewN | apply BelowKit.bl_drew | (refine BelowKit.bl_set ?_ _ ?_; rotate_left; (first | omega | (simp; omega) | simp)) | (refine BelowKit.bl_trans ?_ (‹Hid (Below _ _ _)›).out))))) rfl (by omega) (Reads.nil _ _) (avgT l f t kn) (fun ha W hW => avg_m W p m cap l kn f t 0 none 0 0 HM.out (len_okS (all_of ha).1 HM.out) ((KK.out.on (by (repeat (first | exact Below.refl _ _ | apply BelowKit.bl_alloc | apply BelowKit.bl_drewN | apply BelowKit.bl_drew | (refine BelowKit.bl_set ?_ _ ?_; rotate_left; (first | omega | (simp; omega) | simp)) | (refine BelowKit.bl_trans ?_ (‹Hid (Below _ _ _)›).out))))).on hW) (all_of ha).1 (all_of ha).2.2.1.1 (all_of ha).2.2.1.2 (all_of ha).2.2.2.1 (all_of ha).2.2.2.2)).mono ?_
  rintro e w1 ⟨rfl, hb⟩
  obtain ⟨⟨s, n, q⟩, ht⟩ : ∃ T, byT (allB l [] f t) (avgT l f t kn) = T := ⟨_, rfl⟩
  rw [ht] at HE HBD ⊢
  simp only [] at HE HBD
  have HB := Lib.hid (show Below w.heap.size w w1 from BelowKit.bl_trans (by (repeat (first | exact Below.refl _ _ | apply BelowKit.bl_alloc | apply BelowKit.bl_drewN | apply BelowKit.bl_drew | (refine BelowKit.bl_set ?_ _ ?_; rotate_left; (first | omega | (simp; omega) | simp)) | (refine BelowKit.bl_trans ?_ (‹Hid (Below _ _ _)›).out)))) hb)
  obtain ⟨kc, kf⟩ := BelowKit.bcell hb
  have z := hb.size
  simp at z
  have hl : w.heap.size + 1 < w1.heap.size := by omega
  have HF := Lib.hid (show w1.cell? ⟨w.heap.size + 1, 0, none⟩ = some (.int .i64 0) ∧ w1.cell? ⟨w.heap.size + 1, 1, none⟩ = some (.int .i64 0) ∧ w1.frozen? ⟨w.heap.size + 1, 0, none⟩ = false ∧ w1.frozen? ⟨w.heap.size + 1, 1, none⟩ = false from ⟨(kc _ 0 (by first | omega | (simp; done) | (simp; omega))).trans (by simp [go_sem]), (kc _ 1 (by first | omega | (simp; done) | (simp; omega))).trans (by simp [go_sem]), (kf _ 0 (by first | omega | (simp; done) | (simp; omega))).trans (by simp [go_sem]), (kf _ 1 (by first | omega | (simp; done) | (simp; omega))).trans (by simp [go_sem])⟩)
  clear hb ht kc kf z
  go_wp2_with fail
  refine (mean_i _ s n q HBD.out.1 HBD.out.2.1 HBD.out.2.2.1 HBD.out.2.2.2).mono ?_
  rintro e w2 ⟨rfl, hb⟩
  rw [HE.out]
  obtain ⟨⟨x, d, o⟩, hv⟩ : ∃ v, aver l f t kn = v := ⟨_, rfl⟩
  have HV := Lib.hid hv
  rw [hv]
  obtain ⟨kc, kf⟩ := BelowKit.bcell hb
  obtain ⟨c0, c1, f0, f1⟩ := HF.out
  have d0 := (kc _ 0 hl).trans c0
  have d1 := (kc _ 1 hl).trans c1
  have e0 := (kf _ 0 hl).trans f0
  have e1 := (kf _ 1 hl).trans f1
  have z := hb.size
  have hl2 : w.heap.size + 1 < w2.heap.size := by omega
  have HB2 := Lib.hid (BelowKit.bl_trans HB.out hb)
  clear hb hv kc kf c0 c1 f0 f1 z hl
  go_wp2
  refine bodyPost_ret (v := .tuple #[.agg #[.int .i64 x, .int .i64 d], .bool o]) (by simp [results, Try.results13, d0, d1, go_sem]) rfl ⟨by rw [HV.out], ?_⟩
  exact two_set HB2.out (by omega)
set_option maxHeartbeats 1000000 in
theorem rev_i (w : World) (p : Option Addr) (m cap : Nat) (l : List Fa) (q : Option Addr) (n cap' : Nat) (x : List TPoint.El) (f t kn : Int) (hm : l.length = m) (hs : m ≤ 1099511627776) (h : ReadsF w p l) (hn : x.length = n) (hs' : n ≤ 1099511627776) (hx : Reads TPoint.fc 3 w q x) :
    Calls Try.prog 18 #[.agg #[.slice p m cap], .agg #[.slice q n cap'], .int .i64 f, .int .i64 t, .int .i64 kn] w (IsNum (rev l x f t kn) w) := by
  have KK := Lib.hid h
  have HM := Lib.hid hm
  have KX := Lib.hid hx
  have HN := Lib.hid hn
  have HE := Lib.hid (rev_by l x f t kn)
  have HLN := Lib.hid (fun (ha : PointMath.okS x = true) => show n ≤ 1048576 by have := (PointMath.okS_of ha).1; rw [hn] at this; omega)
  clear h hm hx hn
  go_enter Try.func18, Try.ntmps18
  go_wp2_with fail
  refine (by_revalued _ p m cap l kn f t 0 q n cap' x HM.out hs (KK.out.on (by (repeat (first | exact Below.refl _ _ | apply BelowKit.bl_alloc | apply BelowKit.bl_drewN | apply BelowKit.bl_drew | (refine BelowKit.bl_set ?_ _ ?_; rotate_left; (first | omega | (simp; omega) | simp)) | (refine BelowKit.bl_trans ?_ (‹Hid (Below _ _ _)›).out))))) HN.out hs' (KX.out.on (by (repeat (first | exact Below.refl _ _ | apply BelowKit.bl_alloc | apply BelowKit.bl_drewN | apply BelowKit.bl_drew | (refine BelowKit.bl_set ?_ _ ?_; rotate_left; (first | omega | (simp; omega) | simp)) | (refine BelowKit.bl_trans ?_ (‹Hid (Below _ _ _)›).out))))) ⟨rev l x f t kn, 0, 0⟩ (fun ha W hW => rev_m W p m cap l kn f t 0 q n cap' x HM.out (len_okS (all_of ha).1 HM.out) ((KK.out.on (by (repeat (first | exact Below.refl _ _ | apply BelowKit.bl_alloc | apply BelowKit.bl_drewN | apply BelowKit.bl_drew | (refine BelowKit.bl_set ?_ _ ?_; rotate_left; (first | omega | (simp; omega) | simp)) | (refine BelowKit.bl_trans ?_ (‹Hid (Below _ _ _)›).out))))).on hW) (all_of ha).1 HN.out (HLN.out (all_of ha).2.1) ((KX.out.on (by (repeat (first | exact Below.refl _ _ | apply BelowKit.bl_alloc | apply BelowKit.bl_drewN | apply BelowKit.bl_drew | (refine BelowKit.bl_set ?_ _ ?_; rotate_left; (first | omega | (simp; omega) | simp)) | (refine BelowKit.bl_trans ?_ (‹Hid (Below _ _ _)›).out))))).on hW) (all_of ha).2.1 (all_of ha).2.2.1.1 (all_of ha).2.2.1.2 (all_of ha).2.2.2.1 (all_of ha).2.2.2.2)).mono ?_
  rintro e w1 ⟨rfl, hb⟩
  have HB := Lib.hid (show Below w.heap.size w w1 from BelowKit.bl_trans (by (repeat (first | exact Below.refl _ _ | apply BelowKit.bl_alloc | apply BelowKit.bl_drewN | apply BelowKit.bl_drew | (refine BelowKit.bl_set ?_ _ ?_; rotate_left; (first | omega | (simp; omega) | simp)) | (refine BelowKit.bl_trans ?_ (‹Hid (Below _ _ _)›).out)))) hb)
  obtain ⟨⟨s, n1, q1⟩, ht⟩ : ∃ T, byT (allB l x f t) ⟨rev l x f t kn, 0, 0⟩ = T := ⟨_, rfl⟩
  rw [ht] at HE ⊢
  simp only [] at HE
  clear hb ht
  simp only []
  have hfd : ∀ w : World, (Instr.field 75 (.agg #[.int .i64 s, .int .i64 n1, .int .i64 q1]) 0).run Try.prog w = .ok (.int .i64 s) w := fun _ => by kernel_rfl
  go_wp2
  go_ret
  exact ⟨by rw [← HE.out]; rfl, HB.out⟩
set_option maxHeartbeats 1000000 in
theorem best_i (w : World) (p : Option Addr) (m cap : Nat) (l : List Fa) (f t len kn : Int) (hm : l.length = m) (hs : m ≤ 1099511627776) (h : ReadsF w p l) :
    Calls Try.prog 14 #[.agg #[.slice p m cap], .int .i64 f, .int .i64 t, .int .i64 len, .int .i64 kn] w (IsBst (best l f t len kn) w) := by
  have KK := Lib.hid h
  have HM := Lib.hid hm
  clear h hm
  go_enter Try.func14, Try.ntmps14
  by_cases h1 : 1 ≤ len
  · by_cases h2 : len ≤ 60
    · have hin : inB len 1 60 = true := inB_yes h1 h2
      have HE := Lib.hid (best_by (l := l) (f := f) (t := t) (kn := kn) hin)
      have HBD := Lib.hid (byT_bd (b := allB l [] f t) (T := bt l kn f len (t - len - f + 1).toNat) 4000000000000000000 (by omega) (fun ha => by
        have := bt_sm (all_of ha).1 (kn := kn) (f := f) (len := len) (by omega) h2 (t - len - f + 1).toNat
        have h3 := this.s0; have h4 := this.s1; have h5 := this.m0; have h6 := this.m1
        omega))
      go_wp2_with fail
      refine (by_best _ p m cap l kn f t len none 0 0 [] HM.out hs (KK.out.on (by (repeat (first | exact Below.refl _ _ | apply BelowKit.bl_alloc | apply BelowKit.bl_drewN | apply BelowKit.bl_drew | (refine BelowKit.bl_set ?_ _ ?_; rotate_left; (first | omega | (simp; omega) | simp)) | (refine BelowKit.bl_trans ?_ (‹Hid (Below _ _ _)›).out))))) rfl (by omega) (Reads.nil _ _) (bt l kn f len (t - len - f + 1).toNat) (fun ha W hW => best_m W p m cap l kn f t len none 0 0 HM.out (len_okS (all_of ha).1 HM.out) ((KK.out.on (by (repeat (first | exact Below.refl _ _ | apply BelowKit.bl_alloc | apply BelowKit.bl_drewN | apply BelowKit.bl_drew | (refine BelowKit.bl_set ?_ _ ?_; rotate_left; (first | omega | (simp; omega) | simp)) | (refine BelowKit.bl_trans ?_ (‹Hid (Below _ _ _)›).out))))).on hW) (all_of ha).1 (all_of ha).2.2.1.1 (all_of ha).2.2.1.2 (all_of ha).2.2.2.1 (all_of ha).2.2.2.2 h1 h2)).mono ?_
      rintro e w1 ⟨rfl, hb⟩
      obtain ⟨⟨s, n, q⟩, ht⟩ : ∃ T, byT (allB l [] f t) (bt l kn f len (t - len - f + 1).toNat) = T := ⟨_, rfl⟩
      rw [ht] at HE HBD ⊢
      simp only [] at HE HBD
      have HB := Lib.hid (show Below w.heap.size w w1 from BelowKit.bl_trans (by (repeat (first | exact Below.refl _ _ | apply BelowKit.bl_alloc | apply BelowKit.bl_drewN | apply BelowKit.bl_drew | (refine BelowKit.bl_set ?_ _ ?_; rotate_left; (first | omega | (simp; omega) | simp)) | (refine BelowKit.bl_trans ?_ (‹Hid (Below _ _ _)›).out)))) hb)
      obtain ⟨kc, kf⟩ := BelowKit.bcell hb
      have z := hb.size
      simp at z
      have hl : w.heap.size + 1 < w1.heap.size := by omega
      have HF := Lib.hid (show w1.cell? ⟨w.heap.size + 1, 0, none⟩ = some (.int .i64 0) ∧ w1.cell? ⟨w.heap.size + 1, 1, none⟩ = some (.int .i64 0) ∧ w1.frozen? ⟨w.heap.size + 1, 0, none⟩ = false ∧ w1.frozen? ⟨w.heap.size + 1, 1, none⟩ = false from ⟨(kc _ 0 (by first | omega | (simp; done) | (simp; omega))).trans (by simp [go_sem]), (kc _ 1 (by first | omega | (simp; done) | (simp; omega))).trans (by simp [go_sem]), (kf _ 0 (by first | omega | (simp; done) | (simp; omega))).trans (by simp [go_sem]), (kf _ 1 (by first | omega | (simp; done) | (simp; omega))).trans (by simp [go_sem])⟩)
      clear hb ht kc kf z
      go_wp2_with fail
      refine (mean_i _ s n q HBD.out.1 HBD.out.2.1 HBD.out.2.2.1 HBD.out.2.2.2).mono ?_
      rintro e w2 ⟨rfl, hb⟩
      obtain ⟨⟨x, d, o⟩, hv⟩ : ∃ v, red s n = v := ⟨_, rfl⟩
      rw [hv] at HE ⊢
      simp only [] at HE
      obtain ⟨kc, kf⟩ := BelowKit.bcell (BelowKit.bl_trans (BelowKit.bl_alloc (Below.refl _ _)) hb)
      obtain ⟨c0, c1, f0, f1⟩ := HF.out
      have d0 := (kc _ 0 hl).trans c0
      have d1 := (kc _ 1 hl).trans c1
      have e0 := (kf _ 0 hl).trans f0
      have e1 := (kf _ 1 hl).trans f1
      have hq := (Bt.new w1 s n q).on hb
      have u2 := hq.c2
      have hl1 := hq.lt
      have z := hb.size
      simp at z
      have hl2 : w.heap.size + 1 < w2.heap.size := by omega
      have hl3 : w.heap.size + 1 < w1.heap.size := hl
      have HB2 := Lib.hid (BelowKit.bl_trans HB.out (BelowKit.bl_trans (BelowKit.bl_alloc (Below.refl _ _)) hb))
      clear hb hv kc kf c0 c1 f0 f1 z hl hq HF HBD
      go_wp2_with fail
      generalize hW : w2.alloc _ = W3
      have k0 : W3.cell? ⟨w2.heap.size, 0, none⟩ = some (.int .i64 x) := by subst hW; simp [go_sem]
      have k1 : W3.cell? ⟨w2.heap.size, 1, none⟩ = some (.int .i64 d) := by subst hW; simp [go_sem]
      obtain ⟨kc, kf⟩ := BelowKit.bcell (show Below w2.heap.size w2 W3 by rw [← hW]; exact BelowKit.bl_alloc (Below.refl _ _))
      have k2 := (kc _ 2 hl1).trans u2
      have d0' := (kc _ 0 hl2).trans d0
      have d1' := (kc _ 1 hl2).trans d1
      have e0' := (kf _ 0 hl2).trans e0
      have e1' := (kf _ 1 hl2).trans e1
      have HB3 := Lib.hid (show Below w.heap.size w W3 by subst hW; exact BelowKit.bl_alloc HB2.out)
      have hne1 : ¬ w2.heap.size = w.heap.size + 1 := by omega
      have hne2 : ¬ w1.heap.size = w.heap.size + 1 := by omega
      clear hW kc kf d0 d1 e0 e1 u2
      go_region_held3 (fun W => W.cell? ⟨w2.heap.size, 0, none⟩ = some (.int .i64 x) ∧ W.cell? ⟨w2.heap.size, 1, none⟩ = some (.int .i64 d) ∧ W.cell? ⟨w1.heap.size, 2, none⟩ = some (.int .i64 q)) (first | exact ⟨keep_c k0 hne1 _ _, keep_c k1 hne1 _ _, keep_c k2 hne2 _ _⟩ | exact ⟨k0, k1, k2⟩ | go_keep) (fail)
      go_wp2
      refine bodyPost_ret (v := .tuple #[.agg #[.int .i64 x, .int .i64 d], .int .i64 q, .bool o]) (by simp [results, Try.results14, d0', d1', go_sem]) rfl ⟨by rw [HE.out], ?_⟩
      exact Below.drew (two_set HB3.out (by omega))
    · have E := Lib.hid (best_no2 (l := l) (f := f) (t := t) (kn := kn) (inB_hi (lo := 1) (x := len) (by omega)))
      go_wp2
      refine bodyPost_ret (v := .tuple #[.agg #[.int .i64 0, .int .i64 0], .int .i64 0, .bool false]) (by simp [results, Try.results14, go_sem]) rfl ⟨by rw [E.out]; rfl, by (repeat (first | exact Below.refl _ _ | apply BelowKit.bl_alloc | apply BelowKit.bl_drewN | apply BelowKit.bl_drew | (refine BelowKit.bl_set ?_ _ ?_; rotate_left; (first | omega | (simp; omega) | simp)) | (refine BelowKit.bl_trans ?_ (‹Hid (Below _ _ _)›).out)))⟩
  · have E := Lib.hid (best_no2 (l := l) (f := f) (t := t) (kn := kn) (inB_lo (hi := 60) (x := len) (by omega)))
    go_wp2
    refine bodyPost_ret (v := .tuple #[.agg #[.int .i64 0, .int .i64 0], .int .i64 0, .bool false]) (by simp [results, Try.results14, go_sem]) rfl ⟨by rw [E.out]; rfl, by (repeat (first | exact Below.refl _ _ | apply BelowKit.bl_alloc | apply BelowKit.bl_drewN | apply BelowKit.bl_drew | (refine BelowKit.bl_set ?_ _ ?_; rotate_left; (first | omega | (simp; omega) | simp)) | (refine BelowKit.bl_trans ?_ (‹Hid (Below _ _ _)›).out)))⟩
end Go.Proofs.Ytdmkceaonfbebaa.PayI
