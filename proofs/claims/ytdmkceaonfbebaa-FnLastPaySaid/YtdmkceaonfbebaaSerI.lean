/- Contracts of the program's Point.valid and SeriesOk. -/
import Derived.Test.YtdmkceaonfbebaaRows
import Derived.Test.YtdmkceaonfbebaaPointMath
import Derived.Test.YtdmkceaonfbebaaKit
namespace Go.Proofs.Ytdmkceaonfbebaa.SerI
open Go.RowKit RowN TPoint PointMath Mon Box
theorem not_in {m lo hi : Int} (h : inB m lo hi = false) : ¬ (lo ≤ m ∧ m ≤ hi) := fun e => by rw [inB_yes e.1 e.2] at h; cases h
set_option maxHeartbeats 2000000 in
theorem val_i (x : El) (w : World) : Calls Try.prog 70 #[.agg #[.int .i64 x.Month, .int .i64 x.Known, .int .i64 x.Value]] w (IsBo (okP x) w) := by
  obtain ⟨m, k, v⟩ := x
  simp only []
  obtain ⟨b, hb⟩ : ∃ b, inB m 0 3599 = b := ⟨_, rfl⟩
  have HI := Lib.hid hb
  obtain ⟨R, hR⟩ : ∃ R, okP ⟨m, k, v⟩ = R := ⟨_, rfl⟩
  rw [hR]
  have HY : Hid (m ≤ k → k ≤ 3599 → 1 ≤ v → v ≤ 1000000 → b = true → R = true) := Lib.hid (fun h1 h2 h3 h4 h5 => by
    rw [← hR]; subst h5; exact okP_yes (by have := inB_of hb; simp only []; omega))
  have HN : Hid (¬ (m ≤ k ∧ k ≤ 3599 ∧ 1 ≤ v ∧ v ≤ 1000000) → R = false) := Lib.hid (fun h => by
    rw [← hR]; exact okP_no (fun e => h ⟨e.2.1, e.2.2.1, e.2.2.2.1, e.2.2.2.2⟩))
  have HN0 : Hid (b = false → R = false) := Lib.hid (fun h => by
    rw [← hR]; subst h; exact okP_no (by have := not_in hb; simp only []; omega))
  clear hb hR
  go_enter Try.func70, Try.ntmps70
  go_wp2_with fail
  refine (Mon.ok_i _ _).mono ?_
  rintro e w' ⟨rfl, rfl⟩
  rw [HI.out]
  cases b with
  | false =>
    have E := Lib.hid (HN0.out rfl)
    clear HY HN HN0 HI
    go_wp2
    go_ret
    rw [E.out]
    exact ⟨rfl, by (repeat (first | exact Below.refl _ _ | apply BelowKit.bl_alloc | apply BelowKit.bl_drewN | apply BelowKit.bl_drew | (refine BelowKit.bl_set ?_ _ ?_; rotate_left; (first | omega | (simp; omega) | simp)) | (refine BelowKit.bl_trans ?_ (‹Hid (Below _ _ _)›).out)))⟩
  | true =>
  by_cases h1 : m ≤ k
  case neg =>
    have E := Lib.hid (HN.out (by omega))
    have d1 : decide (m ≤ k) = false := decide_eq_false h1
    clear HY HN HN0 HI h1
    go_wp2
    go_ret
    rw [E.out]
    exact ⟨rfl, by (repeat (first | exact Below.refl _ _ | apply BelowKit.bl_alloc | apply BelowKit.bl_drewN | apply BelowKit.bl_drew | (refine BelowKit.bl_set ?_ _ ?_; rotate_left; (first | omega | (simp; omega) | simp)) | (refine BelowKit.bl_trans ?_ (‹Hid (Below _ _ _)›).out)))⟩
  case pos =>
  have d1 : decide (m ≤ k) = true := decide_eq_true h1
  by_cases h2 : k ≤ 3599
  case neg =>
    have E := Lib.hid (HN.out (by omega))
    have d2 : decide (k ≤ 3599) = false := decide_eq_false h2
    clear HY HN HN0 HI h1 h2
    go_wp2
    go_ret
    rw [E.out]
    exact ⟨rfl, by (repeat (first | exact Below.refl _ _ | apply BelowKit.bl_alloc | apply BelowKit.bl_drewN | apply BelowKit.bl_drew | (refine BelowKit.bl_set ?_ _ ?_; rotate_left; (first | omega | (simp; omega) | simp)) | (refine BelowKit.bl_trans ?_ (‹Hid (Below _ _ _)›).out)))⟩
  case pos =>
  have d2 : decide (k ≤ 3599) = true := decide_eq_true h2
  by_cases h3 : 1 ≤ v
  case neg =>
    have E := Lib.hid (HN.out (by omega))
    have d3 : decide (1 ≤ v) = false := decide_eq_false h3
    clear HY HN HN0 HI h1 h2 h3
    go_wp2
    go_ret
    rw [E.out]
    exact ⟨rfl, by (repeat (first | exact Below.refl _ _ | apply BelowKit.bl_alloc | apply BelowKit.bl_drewN | apply BelowKit.bl_drew | (refine BelowKit.bl_set ?_ _ ?_; rotate_left; (first | omega | (simp; omega) | simp)) | (refine BelowKit.bl_trans ?_ (‹Hid (Below _ _ _)›).out)))⟩
  case pos =>
  have d3 : decide (1 ≤ v) = true := decide_eq_true h3
  by_cases h4 : v ≤ 1000000
  case neg =>
    have E := Lib.hid (HN.out (by omega))
    have d4 : decide (v ≤ 1000000) = false := decide_eq_false h4
    clear HY HN HN0 HI h1 h2 h3 h4
    go_wp2
    go_ret
    rw [E.out]
    exact ⟨rfl, by (repeat (first | exact Below.refl _ _ | apply BelowKit.bl_alloc | apply BelowKit.bl_drewN | apply BelowKit.bl_drew | (refine BelowKit.bl_set ?_ _ ?_; rotate_left; (first | omega | (simp; omega) | simp)) | (refine BelowKit.bl_trans ?_ (‹Hid (Below _ _ _)›).out)))⟩
  case pos =>
    have d4 : decide (v ≤ 1000000) = true := decide_eq_true h4
    have E := Lib.hid (HY.out h1 h2 h3 h4 rfl)
    clear HY HN HN0 HI h1 h2 h3 h4
    go_wp2
    go_ret
    rw [E.out]
    exact ⟨rfl, by (repeat (first | exact Below.refl _ _ | apply BelowKit.bl_alloc | apply BelowKit.bl_drewN | apply BelowKit.bl_drew | (refine BelowKit.bl_set ?_ _ ?_; rotate_left; (first | omega | (simp; omega) | simp)) | (refine BelowKit.bl_trans ?_ (‹Hid (Below _ _ _)›).out)))⟩
theorem val_g (x : El) (b : Bool) {w0 : World} (X : Grown.G w0) (h : okP x = b) : Calls Try.prog 70 #[.agg #[.int .i64 x.Month, .int .i64 x.Known, .int .i64 x.Value]] X.w (fun e w'' => e = .returned (.bool b) ∧ ∃ Y : Grown.G w0, w'' = Y.w) :=
  Grown.grown_of (by rw [← h]; exact val_i x X.w)
set_option maxHeartbeats 8000000 in
theorem ok_i (w : World) (p : Option Addr) (m cap : Nat) (l : List El) (hm : l.length = m) (hs : m ≤ 1099511627776) (h : Reads fc 3 w p l) :
    Calls Try.prog 56 #[.agg #[.slice p m cap]] w (IsBo (okS l) w) := by
  have KK := Lib.hid h
  have HM := Lib.hid hm
  obtain ⟨R, hR⟩ : ∃ R, okS l = R := ⟨_, rfl⟩
  have HR := Lib.hid hR
  rw [hR]
  by_cases hbig : 200 < m
  · have E := Lib.hid (show R = false from hR.symm.trans (okS_no (not_len (by omega))))
    have d0 : decide ((200 : Int) < (m : Int)) = true := decide_eq_true (by omega)
    clear h hm hR HR
    go_enter Try.func56, Try.ntmps56
    go_wp2
    go_ret
    rw [E.out]
    exact ⟨rfl, by (repeat (first | exact Below.refl _ _ | apply BelowKit.bl_alloc | apply BelowKit.bl_drewN | apply BelowKit.bl_drew | (refine BelowKit.bl_set ?_ _ ?_; rotate_left; (first | omega | (simp; omega) | simp)) | (refine BelowKit.bl_trans ?_ (‹Hid (Below _ _ _)›).out)))⟩
  have d0 : decide ((200 : Int) < (m : Int)) = false := decide_eq_false (by omega)
  have HM2 := Lib.hid (show m ≤ 200 by omega)
  clear h hm hR hbig
  go_enter Try.func56, Try.ntmps56
  go_wp2
  go_loopw [12] (fun i wr => ∃ j : Nat, j ≤ m ∧ i = .int .i64 (j : Int) ∧ Hid (Pre l j) ∧ Hid (Below (boxed w (.slice p m cap) 29).heap.size (boxed w (.slice p m cap) 29) wr)) (fun i _ => m - (intOf i).toNat)
  case atStart => exact ⟨0, Nat.zero_le _, rfl, Lib.hid (Pre.zero l), Lib.hid (Below.refl _ _)⟩
  case round =>
    obtain ⟨j, hj, rfl, HP, HB⟩ := hrel
    have hc := box_cell HB.out
    have hz := box_size HB.out
    by_cases hlt : j < m
    · have HLT := Lib.hid (show j < l.length by rw [HM.out]; exact hlt)
      obtain ⟨g, o, rfl, hgl, q0, q1, q2⟩ := read (KK.out.on (box_below HB.out)) j HLT.out
      have HX : Hid (okP (l[j]'HLT.out) = false → R = false) := Lib.hid (fun e => HR.out.symm.trans (okS_no (not_ok HLT.out e)))
      have HY : Hid (okP (l[j]'HLT.out) = true → (l[j]'HLT.out).Known < since l j → R = false) := Lib.hid (fun e1 e2 => HR.out.symm.trans (okS_no (not_since HLT.out e1 e2)))
      have HZ : Hid (okP (l[j]'HLT.out) = true → since l j ≤ (l[j]'HLT.out).Known → Pre l (j + 1)) := Lib.hid (fun e1 e2 => HP.out.succ HLT.out e1 e2)
      have HPV : Hid (∀ i (hi : j = i + 1), since l j = (l[i]'(by have := HLT.out; omega)).Known) := Lib.hid (fun i hi => by subst hi; exact since_succ l i (by have := HLT.out; omega))
      have b1 : (0 : Int) ≤ (j : Int) := by omega
      have b2 : (j : Int) < (m : Int) := by omega
      generalize (l[j]'HLT.out) = x at q0 q1 q2 HX HY HZ
      obtain ⟨mo, k, v⟩ := x
      simp only [] at q0 q1 q2 HX HY HZ
      have HBA := Lib.hid (BelowKit.bl_alloc (o := .cells #[.int .i64 mo, .int .i64 k, .int .i64 v] 43) HB.out)
      have hbase := BelowKit.bcell (BelowKit.bl_alloc (o := .cells #[.int .i64 mo, .int .i64 k, .int .i64 v] 43) (Below.refl wr.heap.size wr))
      have HBS := Lib.hid hbase.1
      have n0 : (wr.alloc (.cells #[.int .i64 mo, .int .i64 k, .int .i64 v] 43)).cell? ⟨wr.heap.size, 0, none⟩ = some (.int .i64 mo) := by simp [go_sem]
      have n1 : (wr.alloc (.cells #[.int .i64 mo, .int .i64 k, .int .i64 v] 43)).cell? ⟨wr.heap.size, 1, none⟩ = some (.int .i64 k) := by simp [go_sem]
      have n2 : (wr.alloc (.cells #[.int .i64 mo, .int .i64 k, .int .i64 v] 43)).cell? ⟨wr.heap.size, 2, none⟩ = some (.int .i64 v) := by simp [go_sem]
      have n3 := (hbase.1 w.heap.size 0 hz).trans hc
      have N0 := Lib.hid n0
      have N1 := Lib.hid n1
      have N2 := Lib.hid n2
      have N3 := Lib.hid n3
      have hws : wr.heap.size < (wr.alloc (.cells #[.int .i64 mo, .int .i64 k, .int .i64 v] 43)).heap.size := by simp
      have HWS := Lib.hid hws
      have HWZ := Lib.hid (show w.heap.size < (wr.alloc (.cells #[.int .i64 mo, .int .i64 k, .int .i64 v] 43)).heap.size by omega)
      clear hbase n0 n1 n2 n3 hws HP
      obtain ⟨b, hb⟩ : ∃ b, okP ⟨mo, k, v⟩ = b := ⟨_, rfl⟩
      have HV := Lib.hid hb
      cases b with
      | false =>
        have E := Lib.hid (HX.out hb)
        clear HX HY HZ HPV hb
        go_wp2_with fail
        have g0 := Grown.G.keep N0.out HWS.out
        have g1 := Grown.G.keep N1.out HWS.out
        have g2 := Grown.G.keep N2.out HWS.out
        have g3 := Grown.G.keep N3.out HWZ.out
        refine Grown.wp_region_grown (by kernel_rfl) (by kernel_rfl) ?_
        repeat (go_big_quiet_step ((go_at_call 70; with_reducible exact val_g ⟨mo, k, v⟩ _ _ HV.out)))
        refine wpQuiet_nil ?_
        rintro w4 ⟨X, rfl⟩
        clear g0 g1 g2 g3
        go_wp2
        go_ret
        rw [E.out]
        exact ⟨rfl, box_below (BelowKit.bl_trans HBA.out X.bel)⟩
      | true =>
      have HY := Lib.hid (HY.out hb)
      have HZ := Lib.hid (HZ.out hb)
      have HK0 := Lib.hid (show 0 ≤ k by have := okP_of hb; simp only [] at this; omega)
      clear HX hb
      by_cases hz0 : j = 0
      case pos =>
        have E := Lib.hid (HZ.out (by rw [hz0, since_zero]; exact HK0.out))
        have d1 : decide ((0 : Int) < (j : Int)) = false := decide_eq_false (by omega)
        have d1' : decide (0 < j) = false := decide_eq_false (by omega)
        clear hz0 HY HZ HPV HK0
        go_wp2_with fail
        have g0 := Grown.G.keep N0.out HWS.out
        have g1 := Grown.G.keep N1.out HWS.out
        have g2 := Grown.G.keep N2.out HWS.out
        have g3 := Grown.G.keep N3.out HWZ.out
        refine Grown.wp_region_grown (by kernel_rfl) (by kernel_rfl) ?_
        repeat (go_big_quiet_step ((go_at_call 70; with_reducible exact val_g ⟨mo, k, v⟩ _ _ HV.out)))
        refine wpQuiet_nil ?_
        rintro w4 ⟨X, rfl⟩
        clear g0 g1 g2 g3
        go_wp2
        go_roundw
        case rel => exact ⟨j + 1, by omega, by go_num, E, Lib.hid (BelowKit.bl_trans HBA.out X.bel)⟩
        case measure => simp [intOf]; omega
      case neg =>
      obtain ⟨i, hi⟩ : ∃ i, j = i + 1 := ⟨j - 1, by omega⟩
      obtain ⟨g', o', e', y1, y2, r1, y3⟩ := read (KK.out.on (box_below HB.out)) i (by rw [HM.out]; omega)
      clear y1 y2 y3
      cases e'
      have HPV := HPV.out i hi
      rw [HPV] at HY HZ
      generalize (l[i]'(by rw [HM.out]; omega)).Known = s at r1 HY HZ
      have r1 := (HBS.out g _ hgl).trans r1
      have W1 : IntKind.i64.wrap ((j : Int) - 1) = (i : Int) := by rw [IntWalk.i64_in _ (by omega)]; omega
      have d1 : decide ((0 : Int) < (j : Int)) = true := decide_eq_true (by omega)
      have d1' : decide (0 < j) = true := decide_eq_true (by omega)
      have b3 : (0 : Int) ≤ (i : Int) := by omega
      have b4 : (i : Int) < (m : Int) := by omega
      have hgl' : g < (wr.alloc (.cells #[.int .i64 mo, .int .i64 k, .int .i64 v] 43)).heap.size := by simp; omega
      clear hz0 hi HPV HK0
      by_cases hks : k < s
      case pos =>
        have E := Lib.hid (HY.out hks)
        have d2 : decide (k < s) = true := decide_eq_true hks
        clear HY HZ hks
        go_wp2_with fail
        clear q0 q1 q2
        have g0 := Grown.G.keep N0.out HWS.out
        have g1 := Grown.G.keep N1.out HWS.out
        have g2 := Grown.G.keep N2.out HWS.out
        have g3 := Grown.G.keep N3.out HWZ.out
        have g4 := Grown.G.keep r1 hgl'
        refine Grown.wp_region_grown (by kernel_rfl) (by kernel_rfl) ?_
        repeat (go_big_quiet_step ((go_at_call 70; with_reducible exact val_g ⟨mo, k, v⟩ _ _ HV.out)))
        refine wpQuiet_nil ?_
        rintro w4 ⟨X, rfl⟩
        clear g0 g1 g2 g3 g4 r1 W1
        go_wp2
        go_ret
        rw [E.out]
        exact ⟨rfl, box_below (BelowKit.bl_trans HBA.out X.bel)⟩
      case neg =>
        have E := Lib.hid (HZ.out (by omega))
        have d2 : decide (k < s) = false := decide_eq_false hks
        clear HY HZ hks
        go_wp2_with fail
        clear q0 q1 q2
        have g0 := Grown.G.keep N0.out HWS.out
        have g1 := Grown.G.keep N1.out HWS.out
        have g2 := Grown.G.keep N2.out HWS.out
        have g3 := Grown.G.keep N3.out HWZ.out
        have g4 := Grown.G.keep r1 hgl'
        refine Grown.wp_region_grown (by kernel_rfl) (by kernel_rfl) ?_
        repeat (go_big_quiet_step ((go_at_call 70; with_reducible exact val_g ⟨mo, k, v⟩ _ _ HV.out)))
        refine wpQuiet_nil ?_
        rintro w4 ⟨X, rfl⟩
        clear g0 g1 g2 g3 g4 r1 W1
        go_wp2
        go_roundw
        case rel => exact ⟨j + 1, by omega, by go_num, E, Lib.hid (BelowKit.bl_trans HBA.out X.bel)⟩
        case measure => simp [intOf]; omega
    · obtain rfl : j = m := by omega
      have E := Lib.hid (show R = true by rw [← HR.out]; exact okS_yes (Pre.all (by rw [HM.out]; exact HP.out) (by rw [HM.out]; exact HM2.out)))
      clear HP HR
      go_wp2
      go_ret
      rw [E.out]
      exact ⟨rfl, box_below HB.out⟩
theorem ser_g {w0 : World} {X : Grown.G w0} {B n cap : Nat} {p : Option Addr} {l : List El} {b : Bool} (hb : okS l = b) (hm : l.length = n) (hs : n ≤ 1099511627776) (h : Owns fc 3 w0 B T (.slice p n cap) l) :
    Calls Try.prog 56 #[.agg #[.slice p n cap]] X.w (fun e w'' => e = .returned (.bool b) ∧ ∃ Y : Grown.G w0, w'' = Y.w) :=
  Grown.grown_of (by rw [← hb]; exact ok_i X.w p n cap l hm hs (reads_own fw (h.on X.bel)))
end Go.Proofs.Ytdmkceaonfbebaa.SerI
