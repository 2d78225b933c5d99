/- Contracts of the program's operations on fractions: each answers the same numbers as the plain functions of FracMath, in new memory. -/
import Derived.Test.YthhjnffbafmkpaaRows
import Derived.Test.YthhjnffbafmkpaaKit
import Derived.Test.YthhjnffbafmkpaaFracC
import Derived.WalkKit
import Derived.Below
import Derived.WalkSmall
import Derived.Lib.Hide
import Derived.Deep.RegionHeld3
import Derived.Deep.RegionWith
namespace Go.Proofs.Ythhjnffbafmkpaa.FracI
open Go.RowKit FracMath FracGcd FracValid FracMake FracOps

theorem wr {x : Int} (h1 : -4000000000000000000 ≤ x) (h2 : x ≤ 4000000000000000000) : IntKind.i64.wrap x = x := IntWalk.i64_in _ (by omega)

set_option maxHeartbeats 1000000 in
theorem new_i (n d : Int) (w : World) :
    Calls Try.prog 36 #[.int .i64 n, .int .i64 d] w (IsFrac (newR n d) w) := by
  by_cases h1 : -1000000000000 ≤ n ∧ n ≤ 1000000000000
  · have EN := Lib.hid (inB_yes h1.1 h1.2)
    by_cases h2 : -1000000000000 ≤ d ∧ d ≤ 1000000000000
    · have ED := Lib.hid (inB_yes h2.1 h2.2)
      rw [show newR n d = red n d by simp [newR, h1, h2]]
      obtain ⟨h1, h3⟩ := h1
      obtain ⟨h2, h4⟩ := h2
      obtain ⟨⟨x, y, z⟩, hr⟩ : ∃ r, red n d = r := ⟨_, rfl⟩
      rw [hr]
      have HR := Lib.hid hr
      clear hr
      go_enter Try.func36, Try.ntmps36
      go_wp2_with fail
      refine (within_i _ _ _ (by omega) (by omega)).mono ?_
      rintro e w' ⟨rfl, rfl⟩
      rw [EN.out]
      go_wp2_with fail
      refine (within_i _ _ _ (by omega) (by omega)).mono ?_
      rintro e w' ⟨rfl, rfl⟩
      rw [ED.out]
      go_wp2_with fail
      refine (reduced_i n d _ (by omega) (by omega) (by omega) (by omega)).mono ?_
      rintro e w1 ⟨rfl, hb1⟩
      rw [HR.out]
      obtain ⟨hc1, hf1⟩ := BelowKit.bcell hb1
      have hz1 := hb1.size
      try simp at hz1
      have HB1 := Lib.hid hb1
      clear hb1
      have q0 : w1.cell? ⟨w.heap.size, 0, none⟩ = some (.int .i64 0) := by rw [hc1 _ _ (by first | omega | (simp; done) | (simp; omega))]; simp [go_sem]
      have q1 : w1.cell? ⟨w.heap.size, 1, none⟩ = some (.int .i64 0) := by rw [hc1 _ _ (by first | omega | (simp; done) | (simp; omega))]; simp [go_sem]
      go_wp2
      refine bodyPost_ret (v := .tuple #[.agg #[.int .i64 x, .int .i64 y], .bool z]) (by simp [results, Try.results36, q0, q1, go_sem]) rfl ⟨rfl, ?_⟩
      (repeat (first | exact Below.refl _ _ | apply BelowKit.bl_alloc | apply BelowKit.bl_drewN | apply BelowKit.bl_drew | (refine BelowKit.bl_set ?_ _ ?_; rotate_left; (first | omega | (simp; omega) | simp)) | (refine BelowKit.bl_trans ?_ (‹Hid (Below _ _ _)›).out)))
    · have ED := Lib.hid (show inB d (-1000000000000) 1000000000000 = false by simp only [inB, decide_eq_false_iff_not]; exact h2)
      rw [show newR n d = (0, 0, false) by simp only [newR, h2, and_false, if_false]]
      clear h2
      go_enter Try.func36, Try.ntmps36
      go_wp2_with fail
      refine (within_i _ _ _ (by omega) (by omega)).mono ?_
      rintro e w' ⟨rfl, rfl⟩
      rw [EN.out]
      go_wp2_with fail
      refine (within_i _ _ _ (by omega) (by omega)).mono ?_
      rintro e w' ⟨rfl, rfl⟩
      rw [ED.out]
      go_wp2
      refine bodyPost_ret (v := .tuple #[.agg #[.int .i64 0, .int .i64 0], .bool false]) (by simp [results, Try.results36, go_sem]) rfl ⟨rfl, ?_⟩
      (repeat (first | exact Below.refl _ _ | apply BelowKit.bl_alloc | apply BelowKit.bl_drewN | apply BelowKit.bl_drew | (refine BelowKit.bl_set ?_ _ ?_; rotate_left; (first | omega | (simp; omega) | simp)) | (refine BelowKit.bl_trans ?_ (‹Hid (Below _ _ _)›).out)))
  · have EN := Lib.hid (show inB n (-1000000000000) 1000000000000 = false by simp only [inB, decide_eq_false_iff_not]; exact h1)
    rw [show newR n d = (0, 0, false) by simp only [newR, h1, false_and, if_false]]
    clear h1
    go_enter Try.func36, Try.ntmps36
    go_wp2_with fail
    refine (within_i _ _ _ (by omega) (by omega)).mono ?_
    rintro e w' ⟨rfl, rfl⟩
    rw [EN.out]
    go_wp2
    refine bodyPost_ret (v := .tuple #[.agg #[.int .i64 0, .int .i64 0], .bool false]) (by simp [results, Try.results36, go_sem]) rfl ⟨rfl, ?_⟩
    (repeat (first | exact Below.refl _ _ | apply BelowKit.bl_alloc | apply BelowKit.bl_drewN | apply BelowKit.bl_drew | (refine BelowKit.bl_set ?_ _ ?_; rotate_left; (first | omega | (simp; omega) | simp)) | (refine BelowKit.bl_trans ?_ (‹Hid (Below _ _ _)›).out)))


set_option maxHeartbeats 2000000 in
theorem mul_i (a b c d : Int) (w : World) :
    Calls Try.prog 45 #[.agg #[.int .i64 a, .int .i64 b], .agg #[.int .i64 c, .int .i64 d]] w (IsFrac (mulR a b c d) w) := by
  cases h1 : facB a b with
  | false =>
    rw [show mulR a b c d = (0, 0, false) by simp [mulR, h1]]
    have H1 := Lib.hid h1
    clear h1
    go_enter Try.func45, Try.ntmps45
    go_wp2_with fail
    refine (fac_i a b _).mono ?_
    rintro e w1 ⟨rfl, hb1⟩
    rw [H1.out]
    obtain ⟨hc1, hf1⟩ := BelowKit.bcell hb1
    have hz1 := hb1.size
    try simp at hz1
    have HB1 := Lib.hid hb1
    clear hb1
    have q0 : w1.cell? ⟨w.heap.size + 1 + 1, 0, none⟩ = some (.int .i64 0) := by rw [hc1 _ _ (by first | omega | (simp; done) | (simp; omega))]; simp [go_sem]
    have q1 : w1.cell? ⟨w.heap.size + 1 + 1, 1, none⟩ = some (.int .i64 0) := by rw [hc1 _ _ (by first | omega | (simp; done) | (simp; omega))]; simp [go_sem]
    go_wp2
    refine bodyPost_ret (v := .tuple #[.agg #[.int .i64 0, .int .i64 0], .bool false]) (by simp [results, Try.results45, q0, q1, go_sem]) rfl ⟨rfl, ?_⟩
    (repeat (first | exact Below.refl _ _ | apply BelowKit.bl_alloc | apply BelowKit.bl_drewN | apply BelowKit.bl_drew | (refine BelowKit.bl_set ?_ _ ?_; rotate_left; (first | omega | (simp; omega) | simp)) | (refine BelowKit.bl_trans ?_ (‹Hid (Below _ _ _)›).out)))
  | true =>
    cases h2 : facB c d with
    | false =>
      rw [show mulR a b c d = (0, 0, false) by simp [mulR, h2]]
      have H1 := Lib.hid h1
      have H2 := Lib.hid h2
      clear h1 h2
      go_enter Try.func45, Try.ntmps45
      go_wp2_with fail
      refine (fac_i a b _).mono ?_
      rintro e w1 ⟨rfl, hb1⟩
      rw [H1.out]
      obtain ⟨hc1, hf1⟩ := BelowKit.bcell hb1
      have hz1 := hb1.size
      try simp at hz1
      have HB1 := Lib.hid hb1
      clear hb1
      go_wp2_with fail
      refine (fac_i c d _).mono ?_
      rintro e w2 ⟨rfl, hb2⟩
      rw [H2.out]
      replace hb2 := BelowKit.bl_trans HB1.out hb2
      clear hc1 hf1 hz1 HB1
      obtain ⟨hc2, hf2⟩ := BelowKit.bcell hb2
      have hz2 := hb2.size
      try simp at hz2
      have HB2 := Lib.hid hb2
      clear hb2
      have q0 : w2.cell? ⟨w.heap.size + 1 + 1, 0, none⟩ = some (.int .i64 0) := by rw [hc2 _ _ (by first | omega | (simp; done) | (simp; omega))]; simp [go_sem]
      have q1 : w2.cell? ⟨w.heap.size + 1 + 1, 1, none⟩ = some (.int .i64 0) := by rw [hc2 _ _ (by first | omega | (simp; done) | (simp; omega))]; simp [go_sem]
      go_wp2
      refine bodyPost_ret (v := .tuple #[.agg #[.int .i64 0, .int .i64 0], .bool false]) (by simp [results, Try.results45, q0, q1, go_sem]) rfl ⟨rfl, ?_⟩
      (repeat (first | exact Below.refl _ _ | apply BelowKit.bl_alloc | apply BelowKit.bl_drewN | apply BelowKit.bl_drew | (refine BelowKit.bl_set ?_ _ ?_; rotate_left; (first | omega | (simp; omega) | simp)) | (refine BelowKit.bl_trans ?_ (‹Hid (Below _ _ _)›).out)))
    | true =>
      obtain ⟨s1, s2, s3, s4⟩ := fac_bd h1
      obtain ⟨k1, k2, k3, k4⟩ := fac_bd h2
      have m1 := mul_bd' s3 s4 k3 k4 (by omega)
      have m2 := mul_bd (x := b) (y := d) (A := 1000000) (by omega) s2 (by omega) k2 (by omega)
      obtain ⟨m3, m4⟩ := m1
      obtain ⟨m5, m6⟩ := m2
      have W1 := Lib.hid (wr (x := a * c) (by omega) (by omega))
      have W4 := Lib.hid (wr (x := b * d) (by omega) (by omega))
      obtain ⟨⟨x, y, z⟩, hr⟩ : ∃ r, red (a * c) (b * d) = r := ⟨_, rfl⟩
      rw [show mulR a b c d = (x, y, z) by rw [← hr]; simp [mulR, h1, h2]]
      have HR := Lib.hid hr
      have H1 := Lib.hid h1
      have H2 := Lib.hid h2
      clear h1 h2 hr
      go_enter Try.func45, Try.ntmps45
      go_wp2_with fail
      refine (fac_i a b _).mono ?_
      rintro e w1 ⟨rfl, hb1⟩
      rw [H1.out]
      obtain ⟨hc1, hf1⟩ := BelowKit.bcell hb1
      have hz1 := hb1.size
      try simp at hz1
      have HB1 := Lib.hid hb1
      clear hb1
      go_wp2_with fail
      refine (fac_i c d _).mono ?_
      rintro e w2 ⟨rfl, hb2⟩
      rw [H2.out]
      replace hb2 := BelowKit.bl_trans HB1.out hb2
      clear hc1 hf1 hz1 HB1
      obtain ⟨hc2, hf2⟩ := BelowKit.bcell hb2
      have hz2 := hb2.size
      try simp at hz2
      have HB2 := Lib.hid hb2
      clear hb2
      go_wp2_with fail
      refine (times_i a b c d _ _ _ W1.out W4.out).mono ?_
      rintro e w3 ⟨rfl, hb3⟩
      replace hb3 := BelowKit.bl_trans HB2.out hb3
      clear hc2 hf2 hz2 HB2
      obtain ⟨hc3, hf3⟩ := BelowKit.bcell hb3
      have hz3 := hb3.size
      try simp at hz3
      have HB3 := Lib.hid hb3
      clear hb3
      go_wp2_with fail
      refine (reduced_i _ _ _ (by omega) (by omega) (by omega) (by omega)).mono ?_
      rintro e w4 ⟨rfl, hb4⟩
      rw [HR.out]
      replace hb4 := BelowKit.bl_trans HB3.out hb4
      clear hc3 hf3 hz3 HB3
      obtain ⟨hc4, hf4⟩ := BelowKit.bcell hb4
      have hz4 := hb4.size
      try simp at hz4
      have HB4 := Lib.hid hb4
      clear hb4
      have q0 : w4.cell? ⟨w.heap.size + 1 + 1, 0, none⟩ = some (.int .i64 0) := by rw [hc4 _ _ (by first | omega | (simp; done) | (simp; omega))]; simp [go_sem]
      have q1 : w4.cell? ⟨w.heap.size + 1 + 1, 1, none⟩ = some (.int .i64 0) := by rw [hc4 _ _ (by first | omega | (simp; done) | (simp; omega))]; simp [go_sem]
      go_wp2
      refine bodyPost_ret (v := .tuple #[.agg #[.int .i64 x, .int .i64 y], .bool z]) (by simp [results, Try.results45, q0, q1, go_sem]) rfl ⟨rfl, ?_⟩
      (repeat (first | exact Below.refl _ _ | apply BelowKit.bl_alloc | apply BelowKit.bl_drewN | apply BelowKit.bl_drew | (refine BelowKit.bl_set ?_ _ ?_; rotate_left; (first | omega | (simp; omega) | simp)) | (refine BelowKit.bl_trans ?_ (‹Hid (Below _ _ _)›).out)))
end Go.Proofs.Ythhjnffbafmkpaa.FracI
