/- Contracts of both sides' StoreOk. -/
import Derived.Test.YtdmkceaonfbebaaRows
import Derived.Test.YtdmkceaonfbebaaFactRow
import Derived.Test.YtdmkceaonfbebaaFactMath
import Derived.Test.YtdmkceaonfbebaaKit
namespace Go.Proofs.Ytdmkceaonfbebaa.StoreOk
open Go.RowKit RowN Fact FactRow FactMath Box

set_option maxHeartbeats 2000000 in
theorem ok_i (w : World) (p : Option Addr) (m cap : Nat) (l : List Fa) (hm : l.length = m) (hs : m ≤ 1099511627776) (h : ReadsF w p l) :
    Calls Try.prog 55 #[.agg #[.slice p m cap]] w (IsBo (okS l) w) := by
  have KK := Lib.hid h
  have HM := Lib.hid hm
  clear h hm
  by_cases hbig : 200 < m
  · rw [okS_no (not_len (by rw [HM.out]; exact hbig))]
    go_enter Try.func55, Try.ntmps55
    go_wp2
    go_ret
    exact ⟨rfl, by (repeat (first | exact Below.refl _ _ | apply BelowKit.bl_alloc | apply BelowKit.bl_drewN | apply BelowKit.bl_drew | (refine BelowKit.bl_set ?_ _ ?_; rotate_left; (first | omega | (simp; omega) | simp)) | (refine BelowKit.bl_trans ?_ (‹Hid (Below _ _ _)›).out)))⟩
  go_enter Try.func55, Try.ntmps55
  go_wp2
  go_loopw [3, 13] (fun kv i wr => ∃ j : Nat, j ≤ m ∧ i = .int .i64 (j : Int) ∧ kv = .int .i64 (since l j) ∧ Hid (Pre l j) ∧ Hid (Below (boxed w (.slice p m cap) 26).heap.size (boxed w (.slice p m cap) 26) wr)) (fun _ i _ => m - (intOf i).toNat)
  case atStart => exact ⟨0, Nat.zero_le _, rfl, by rw [since_zero], Lib.hid (Pre.zero l), Lib.hid (Below.refl _ _)⟩
  case round =>
    obtain ⟨j, hj, rfl, rfl, HP, HB⟩ := hrel
    have hc := box_cell HB.out
    have hz := box_size HB.out
    by_cases hlt : j < m
    · have HLT := Lib.hid (show j < l.length by rw [HM.out]; exact hlt)
      obtain ⟨g, o, rfl, hgl, q0, q1, q2, q3, q4⟩ := read5 ((KK.out.on (box_below HB.out))) j HLT.out
      have HX : Hid (∀ b, okF (l[j]'HLT.out) = b → b = false → okS l = false) := Lib.hid (fun b e1 e2 => okS_no (not_ok HLT.out (e1.trans e2)))
      have HY : Hid (okF (l[j]'HLT.out) = true → (l[j]'HLT.out).n < since l j → okS l = false) := Lib.hid (fun e1 e2 => okS_no (not_since HLT.out e1 e2))
      have HZ : Hid (okF (l[j]'HLT.out) = true → since l j ≤ (l[j]'HLT.out).n → Pre l (j + 1) ∧ since l (j + 1) = (l[j]'HLT.out).n) := Lib.hid (fun e1 e2 => ⟨HP.out.succ HLT.out e1 e2, since_succ l j HLT.out⟩)
      generalize (l[j]'HLT.out) = x at q0 q1 q2 q3 q4 HX HY HZ
      obtain ⟨s, hs'⟩ : ∃ s, since l j = s := ⟨_, rfl⟩
      rw [hs'] at HY HZ ⊢
      have b1 : (0 : Int) ≤ (j : Int) := by omega
      have b2 : (j : Int) < (m : Int) := by omega
      have HBA := Lib.hid (BelowKit.bl_alloc (o := .cells #[.int .i64 x.k, .int .i64 x.f, .int .i64 x.t, .int .i64 x.n, .int .i64 x.v] 71) HB.out)
      clear hs' HP
      go_wp2_with fail
      refine (fact_i x _).mono ?_
      rintro e w1 ⟨rfl, hb1⟩
      obtain ⟨hc1, hf1⟩ := BelowKit.bcell hb1
      have c3 : w1.cell? ⟨wr.heap.size, 3, none⟩ = some (.int .i64 x.n) := (hc1 wr.heap.size 3 (by simp)).trans (by simp [go_sem])
      have HB1 := Lib.hid (BelowKit.bl_trans HBA.out hb1)
      have hz1 : wr.heap.size < w1.heap.size := by have := hb1.size; simp at this; omega
      cases hb : okF x with
      | false =>
        have E := HX.out false hb rfl
        clear hc1 hf1 hb1 HX HY HZ
        go_wp2
        go_ret
        rw [E]
        exact ⟨rfl, box_below HB1.out⟩
      | true =>
        by_cases hk : x.n < s
        · have E := HY.out hb hk
          clear hc1 hf1 hb1 HX HY HZ
          go_wp2
          go_ret
          rw [E]
          exact ⟨rfl, box_below HB1.out⟩
        · obtain ⟨E1, E2⟩ := HZ.out hb (by omega)
          have E1 := Lib.hid E1
          have E2 := Lib.hid E2
          clear hc1 hf1 hb1 HX HY HZ
          go_wp2
          go_roundw
          case rel => exact ⟨j + 1, by omega, by go_num, by rw [E2.out], E1, HB1⟩
          case measure => simp [intOf]; omega
    · obtain rfl : j = m := by omega
      have E : okS l = true := okS_yes (Pre.all (by rw [HM.out]; exact HP.out) (by rw [HM.out]; omega))
      go_wp2
      go_ret
      rw [E]
      exact ⟨rfl, box_below HB.out⟩

theorem fact_s' (x : Fa) (w : World) : Calls Try.prog 63 #[.agg #[.int .i64 x.k, .int .i64 x.f, .int .i64 x.t, .int .i64 x.n, .int .i64 x.v]] w (IsBo (okF x) w) := fact_s x w
theorem fact_g (x : Fa) (b : Bool) {w0 : World} (X : Grown.G w0) (h : okF x = b) : Calls Try.prog 63 #[.agg #[.int .i64 x.k, .int .i64 x.f, .int .i64 x.t, .int .i64 x.n, .int .i64 x.v]] X.w (fun e w'' => e = .returned (.bool b) ∧ ∃ Y : Grown.G w0, w'' = Y.w) :=
  Grown.grown_of (by rw [← h]; exact fact_s x X.w)
set_option maxHeartbeats 2000000 in
theorem ok_s (w : World) (p : Option Addr) (m cap : Nat) (l : List Fa) (hm : l.length = m) (hs : m ≤ 1099511627776) (h : ReadsF w p l) :
    Calls Try.prog 41 #[.agg #[.slice p m cap]] w (IsBo (okS l) w) := by
  have KK := Lib.hid h
  have HM := Lib.hid hm
  clear h hm
  go_enter Try.func41, Try.ntmps41
  go_wp2
  go_loopw [3] (fun i wr => ∃ j : Nat, j ≤ m ∧ i = .int .i64 (j : Int) ∧ Hid (Pre l j) ∧ Hid (Below (boxed w (.slice p m cap) 26).heap.size (boxed w (.slice p m cap) 26) wr)) (fun i _ => m - (intOf i).toNat)
  case atStart => exact ⟨0, Nat.zero_le _, rfl, Lib.hid (Pre.zero l), Lib.hid (Below.refl _ _)⟩
  case round =>
    obtain ⟨j, hj, rfl, HP, HB⟩ := hrel
    have hc := box_cell HB.out
    have hz := box_size HB.out
    by_cases hlt : j < m
    · have HLT := Lib.hid (show j < l.length by rw [HM.out]; exact hlt)
      obtain ⟨g, o, rfl, hgl, q0, q1, q2, q3, q4⟩ := read5 ((KK.out.on (box_below HB.out))) j HLT.out
      have HX : Hid (∀ b, okF (l[j]'HLT.out) = b → b = false → okS l = false) := Lib.hid (fun b e1 e2 => okS_no (not_ok HLT.out (e1.trans e2)))
      have HY : Hid (okF (l[j]'HLT.out) = true → (l[j]'HLT.out).n < since l j → okS l = false) := Lib.hid (fun e1 e2 => okS_no (not_since HLT.out e1 e2))
      have HZ : Hid (okF (l[j]'HLT.out) = true → since l j ≤ (l[j]'HLT.out).n → Pre l (j + 1) ∧ since l (j + 1) = (l[j]'HLT.out).n) := Lib.hid (fun e1 e2 => ⟨HP.out.succ HLT.out e1 e2, since_succ l j HLT.out⟩)
      have b1 : (0 : Int) ≤ (j : Int) := by omega
      have b2 : (j : Int) < (m : Int) := by omega
      cases hb : okF (l[j]'HLT.out) with
      | false =>
        have E := HX.out false hb rfl
        have H1 := Lib.hid hb
        generalize (l[j]'HLT.out) = x at q0 q1 q2 q3 q4 H1
        clear HX HY HZ hb HP
        go_wp2_with fail
        have g0 := Grown.G.keep hc hz
        have g1 := Grown.G.keep q0 hgl
        have g2 := Grown.G.keep q1 hgl
        have g3 := Grown.G.keep q2 hgl
        have g4 := Grown.G.keep q3 hgl
        have g5 := Grown.G.keep q4 hgl
        refine Grown.wp_region_grown (by kernel_rfl) (by kernel_rfl) ?_
        repeat (go_big_quiet_step ((go_at_call 63; with_reducible exact fact_g x _ _ H1.out)))
        refine wpQuiet_nil ?_
        rintro w4 ⟨X, rfl⟩
        go_wp2
        go_ret
        rw [E]
        exact ⟨rfl, BelowKit.bl_trans (box_below HB.out) X.bel⟩
      | true =>
        have H1 := Lib.hid hb
        have HZ := Lib.hid (HZ.out hb)
        have HY := Lib.hid (HY.out hb)
        clear HX
        by_cases hj0 : j = 0
        · subst hj0
          have HP1 := Lib.hid ((HZ.out (by rw [since_zero]; have := okF_of hb; omega)).1)
          generalize (l[0]'HLT.out) = x at q0 q1 q2 q3 q4 H1
          simp only [Nat.zero_mul, Nat.add_zero] at q0 q1 q2 q3 q4
          clear HY HZ hb HP
          go_wp2_with fail
          have g0 := Grown.G.keep hc hz
          have g1 := Grown.G.keep q0 hgl
          have g2 := Grown.G.keep q1 hgl
          have g3 := Grown.G.keep q2 hgl
          have g4 := Grown.G.keep q3 hgl
          have g5 := Grown.G.keep q4 hgl
          refine Grown.wp_region_grown (by kernel_rfl) (by kernel_rfl) ?_
          repeat (go_big_quiet_step ((go_at_call 63; with_reducible exact fact_g x _ _ H1.out)))
          refine wpQuiet_nil ?_
          rintro w4 ⟨X, rfl⟩
          go_wp2
          go_roundw
          case rel => exact ⟨1, by omega, rfl, HP1, Lib.hid (BelowKit.bl_trans HB.out X.bel)⟩
          case measure => simp [intOf]; omega
        · have hp : (0 : Int) < (j : Int) := by omega
          obtain ⟨g', o', e', _, _, _, _, p3, _⟩ := read5 ((KK.out.on (box_below HB.out))) (j - 1) (by have := HLT.out; omega)
          cases e'
          have hsi : since l j = (l[j - 1]'(by have := HLT.out; omega)).n := by
            unfold since
            rw [dif_pos ⟨by omega, by have := HLT.out; omega⟩]
          rw [← hsi] at p3
          clear hsi
          obtain ⟨s, hs'⟩ : ∃ s, since l j = s := ⟨_, rfl⟩
          rw [hs'] at p3 HY HZ
          generalize (l[j]'HLT.out) = x at q0 q1 q2 q3 q4 H1 HY HZ
          clear hb HP hs'
          by_cases hk : x.n < s
          · have E := HY.out hk
            clear HY HZ
            go_wp2_with fail
            have g0 := Grown.G.keep hc hz
            have g1 := Grown.G.keep q0 hgl
            have g2 := Grown.G.keep q1 hgl
            have g3 := Grown.G.keep q2 hgl
            have g4 := Grown.G.keep q3 hgl
            have g5 := Grown.G.keep q4 hgl
            have g6 := Grown.G.keep p3 hgl
            have hd : decide (0 < j) = true := decide_eq_true (by omega)
            refine Grown.wp_region_grown (by kernel_rfl) (by kernel_rfl) ?_
            repeat (go_big_quiet_step ((go_at_call 63; with_reducible exact fact_g x _ _ H1.out)))
            refine wpQuiet_nil ?_
            rintro w4 ⟨X, rfl⟩
            go_wp2
            go_ret
            rw [E]
            exact ⟨rfl, BelowKit.bl_trans (box_below HB.out) X.bel⟩
          · have HP1 := Lib.hid (HZ.out (by omega)).1
            clear HY HZ
            go_wp2_with fail
            have g0 := Grown.G.keep hc hz
            have g1 := Grown.G.keep q0 hgl
            have g2 := Grown.G.keep q1 hgl
            have g3 := Grown.G.keep q2 hgl
            have g4 := Grown.G.keep q3 hgl
            have g5 := Grown.G.keep q4 hgl
            have g6 := Grown.G.keep p3 hgl
            have hd : decide (0 < j) = true := decide_eq_true (by omega)
            refine Grown.wp_region_grown (by kernel_rfl) (by kernel_rfl) ?_
            repeat (go_big_quiet_step ((go_at_call 63; with_reducible exact fact_g x _ _ H1.out)))
            refine wpQuiet_nil ?_
            rintro w4 ⟨X, rfl⟩
            go_wp2
            go_roundw
            case rel => exact ⟨j + 1, by omega, by go_num, HP1, Lib.hid (BelowKit.bl_trans HB.out X.bel)⟩
            case measure => simp [intOf]; omega
    · obtain rfl : j = m := by omega
      have HPA := Lib.hid (show Pre l l.length by rw [HM.out]; exact HP.out)
      by_cases h2 : j ≤ 200
      · have E : okS l = true := okS_yes (HPA.out.all (by rw [HM.out]; exact h2))
        go_wp2
        go_ret
        rw [E]
        exact ⟨bo_eq (by simp; omega), box_below HB.out⟩
      · have E : okS l = false := okS_no (not_len (by rw [HM.out]; omega))
        go_wp2
        go_ret
        rw [E]
        exact ⟨bo_eq (by simp; omega), box_below HB.out⟩
end Go.Proofs.Ytdmkceaonfbebaa.StoreOk
