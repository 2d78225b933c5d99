/- Contracts of the program's operations on fractions: each answers the same numbers as the plain functions of FracMath, in new memory. -/
import Derived.Test.YtkfgflmhefbinaaRows
import Derived.Test.YtkfgflmhefbinaaKit
import Derived.Test.YtkfgflmhefbinaaFracC
import Derived.WalkKit
import Derived.Below
import Derived.WalkSmall
import Derived.Lib.Hide
import Derived.Deep.RegionHeld3
import Derived.Deep.RegionWith
namespace Go.Proofs.Ytkfgflmhefbinaa.FracIDiv
open Go.RowKit FracMath FracGcd FracValid FracMake FracOps

theorem wr {x : Int} (h1 : -4000000000000000000 ≤ x) (h2 : x ≤ 4000000000000000000) : IntKind.i64.wrap x = x := IntWalk.i64_in _ (by omega)

set_option maxHeartbeats 2000000 in
theorem div_i (a b c d : Int) (w : World) :
    Calls Try.prog 141 #[.agg #[.int .i64 a, .int .i64 b], .agg #[.int .i64 c, .int .i64 d]] w (IsFrac (divR a b c d) w) := by
  cases h1 : facB a b with
  | false =>
    rw [show divR a b c d = (0, 0, false) by simp [divR, h1]]
    have H1 := Lib.hid h1
    clear h1
    go_enter Try.func141, Try.ntmps141
    go_wp2_with fail
    refine (fac_i a b _).mono ?_
    rintro e w1 ⟨rfl, hb1⟩
    rw [H1.out]
    obtain ⟨hc1, hf1⟩ := BelowKit.bcell hb1
    have hz1 := hb1.size
    try simp at hz1
    have HB1 := Lib.hid hb1
    clear hb1
    have q0 : w1.cell? ⟨w.heap.size + 1 + 1, 0, none⟩ = some (.int .i64 0) := by rw [hc1 _ _ (by first | omega | (simp; done) | (simp; omega))]; simp [go_sem]
    have q1 : w1.cell? ⟨w.heap.size + 1 + 1, 1, none⟩ = some (.int .i64 0) := by rw [hc1 _ _ (by first | omega | (simp; done) | (simp; omega))]; simp [go_sem]
    go_wp2
    refine bodyPost_ret (v := .tuple #[.agg #[.int .i64 0, .int .i64 0], .bool false]) (by simp [results, Try.results141, q0, q1, go_sem]) rfl ⟨rfl, ?_⟩
    (repeat (first | exact Below.refl _ _ | apply BelowKit.bl_alloc | apply BelowKit.bl_drewN | apply BelowKit.bl_drew | (refine BelowKit.bl_set ?_ _ ?_; rotate_left; (first | omega | (simp; omega) | simp)) | (refine BelowKit.bl_trans ?_ (‹Hid (Below _ _ _)›).out)))
  | true =>
    cases h2 : facB c d with
    | false =>
      rw [show divR a b c d = (0, 0, false) by simp [divR, h2]]
      have H1 := Lib.hid h1
      have H2 := Lib.hid h2
      clear h1 h2
      go_enter Try.func141, Try.ntmps141
      go_wp2_with fail
      refine (fac_i a b _).mono ?_
      rintro e w1 ⟨rfl, hb1⟩
      rw [H1.out]
      obtain ⟨hc1, hf1⟩ := BelowKit.bcell hb1
      have hz1 := hb1.size
      try simp at hz1
      have HB1 := Lib.hid hb1
      clear hb1
      go_wp2_with fail
      refine (fac_i c d _).mono ?_
      rintro e w2 ⟨rfl, hb2⟩
      rw [H2.out]
      replace hb2 := BelowKit.bl_trans HB1.out hb2
      clear hc1 hf1 hz1 HB1
      obtain ⟨hc2, hf2⟩ := BelowKit.bcell hb2
      have hz2 := hb2.size
      try simp at hz2
      have HB2 := Lib.hid hb2
      clear hb2
      have q0 : w2.cell? ⟨w.heap.size + 1 + 1, 0, none⟩ = some (.int .i64 0) := by rw [hc2 _ _ (by first | omega | (simp; done) | (simp; omega))]; simp [go_sem]
      have q1 : w2.cell? ⟨w.heap.size + 1 + 1, 1, none⟩ = some (.int .i64 0) := by rw [hc2 _ _ (by first | omega | (simp; done) | (simp; omega))]; simp [go_sem]
      go_wp2
      refine bodyPost_ret (v := .tuple #[.agg #[.int .i64 0, .int .i64 0], .bool false]) (by simp [results, Try.results141, q0, q1, go_sem]) rfl ⟨rfl, ?_⟩
      (repeat (first | exact Below.refl _ _ | apply BelowKit.bl_alloc | apply BelowKit.bl_drewN | apply BelowKit.bl_drew | (refine BelowKit.bl_set ?_ _ ?_; rotate_left; (first | omega | (simp; omega) | simp)) | (refine BelowKit.bl_trans ?_ (‹Hid (Below _ _ _)›).out)))
    | true =>
      obtain ⟨s1, s2, s3, s4⟩ := fac_bd h1
      obtain ⟨k1, k2, k3, k4⟩ := fac_bd h2
      have m1 := mul_bd s3 s4 (by omega : 0 ≤ d) k2 (by omega)
      have m2 := mul_bd' (x := b) (y := c) (A := 1000000) (by omega) s2 k3 k4 (by omega)
      obtain ⟨m3, m4⟩ := m1
      obtain ⟨m5, m6⟩ := m2
      have W1 := Lib.hid (wr (x := a * d) (by omega) (by omega))
      have W4 := Lib.hid (wr (x := b * c) (by omega) (by omega))
      obtain ⟨⟨x, y, z⟩, hr⟩ : ∃ r, red (a * d) (b * c) = r := ⟨_, rfl⟩
      rw [show divR a b c d = (x, y, z) by rw [← hr]; simp [divR, h1, h2]]
      have HR := Lib.hid hr
      have H1 := Lib.hid h1
      have H2 := Lib.hid h2
      clear h1 h2 hr
      go_enter Try.func141, Try.ntmps141
      go_wp2_with fail
      refine (fac_i a b _).mono ?_
      rintro e w1 ⟨rfl, hb1⟩
      rw [H1.out]
      obtain ⟨hc1, hf1⟩ := BelowKit.bcell hb1
      have hz1 := hb1.size
      try simp at hz1
      have HB1 := Lib.hid hb1
      clear hb1
      go_wp2_with fail
      refine (fac_i c d _).mono ?_
      rintro e w2 ⟨rfl, hb2⟩
      rw [H2.out]
      replace hb2 := BelowKit.bl_trans HB1.out hb2
      clear hc1 hf1 hz1 HB1
      obtain ⟨hc2, hf2⟩ := BelowKit.bcell hb2
      have hz2 := hb2.size
      try simp at hz2
      have HB2 := Lib.hid hb2
      clear hb2
      go_wp2_with fail
      go_region_with (first
        | (go_at_call 147; (with_reducible refine (inv_i c d _).mono ?_); rintro e w3 ⟨rfl, hb3⟩; replace hb3 := BelowKit.bl_trans (BelowKit.bl_drew HB2.out) hb3; clear hc2 hf2 hz2 HB2; obtain ⟨hc3, hf3⟩ := BelowKit.bcell hb3; have hz3 := hb3.size; simp at hz3; have HB3 := Lib.hid hb3; clear hb3)
        | (go_at_call 146; (with_reducible refine (times_i a b d c _ _ _ W1.out W4.out).mono ?_); rintro e w4 ⟨rfl, hb4⟩; replace hb4 := BelowKit.bl_trans HB3.out hb4; clear hc3 hf3 hz3 HB3; obtain ⟨hc4, hf4⟩ := BelowKit.bcell hb4; have hz4 := hb4.size; simp at hz4; have HB4 := Lib.hid hb4; clear hb4)
        | (go_at_call 144; (with_reducible refine (reduced_i _ _ _ (by omega) (by omega) (by omega) (by omega)).mono ?_); rintro e w5 ⟨rfl, hb5⟩; rw [HR.out]; replace hb5 := BelowKit.bl_trans HB4.out hb5; clear hc4 hf4 hz4 HB4; obtain ⟨hc5, hf5⟩ := BelowKit.bcell hb5; have hz5 := hb5.size; simp at hz5; have HB5 := Lib.hid hb5; clear hb5))
      all_goals
        have q0 : w5.cell? ⟨w.heap.size + 1 + 1, 0, none⟩ = some (.int .i64 0) := by rw [hc5 _ _ (by first | omega | (simp; done) | (simp; omega))]; simp [go_sem]
        have q1 : w5.cell? ⟨w.heap.size + 1 + 1, 1, none⟩ = some (.int .i64 0) := by rw [hc5 _ _ (by first | omega | (simp; done) | (simp; omega))]; simp [go_sem]
        go_wp2
        refine bodyPost_ret (v := .tuple #[.agg #[.int .i64 x, .int .i64 y], .bool z]) (by simp [results, Try.results141, q0, q1, go_sem]) rfl ⟨rfl, ?_⟩
        (repeat (first | exact Below.refl _ _ | apply BelowKit.bl_alloc | apply BelowKit.bl_drewN | apply BelowKit.bl_drew | (refine BelowKit.bl_set ?_ _ ?_; rotate_left; (first | omega | (simp; omega) | simp)) | (refine BelowKit.bl_trans ?_ (‹Hid (Below _ _ _)›).out)))
end Go.Proofs.Ytkfgflmhefbinaa.FracIDiv
