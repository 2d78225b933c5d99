/- Contracts of the model's product and quotient on fractions: the same numbers as the plain functions of FracMath, in new memory. -/
import Derived.Test.YthhjnffbafmkpaaRows
import Derived.Test.YthhjnffbafmkpaaKit
import Derived.Test.YthhjnffbafmkpaaFracC
import Derived.WalkKit
import Derived.Below
import Derived.WalkSmall
import Derived.Lib.Hide
import Derived.BigQuiet
import Derived.Deep.RegionHeld3
namespace Go.Proofs.Ythhjnffbafmkpaa.FracSMul
open Go.RowKit FracMath FracGcd FracValid FracMake FracMakeS FracOps FracS


set_option maxHeartbeats 2000000 in
theorem mul_s (a b c d : Int) (w : World) :
    Calls Try.prog 41 #[.agg #[.int .i64 a, .int .i64 b], .agg #[.int .i64 c, .int .i64 d]] w (IsFrac (mulR a b c d) w) := by
  cases h1 : facB a b with
  | false =>
      rw [show mulR a b c d = (0, 0, false) by simp [mulR, h1]]
      have H1 := Lib.hid h1
      clear h1
      go_enter Try.func41, Try.ntmps41
      go_wp2_with fail
      refine (small_s a b _).mono ?_
      rintro e w1 ⟨rfl, hb1⟩
      rw [H1.out]
      obtain ⟨hc1, hf1⟩ := BelowKit.bcell hb1
      have hz1 := hb1.size
      try simp at hz1
      have HB1 := Lib.hid hb1
      clear hb1
      have q0 : w1.cell? ⟨w.heap.size + 1 + 1, 0, none⟩ = some (.int .i64 0) := by rw [hc1 _ _ (by first | omega | (simp; done) | (simp; omega))]; simp [go_sem]
      have q1 : w1.cell? ⟨w.heap.size + 1 + 1, 1, none⟩ = some (.int .i64 0) := by rw [hc1 _ _ (by first | omega | (simp; done) | (simp; omega))]; simp [go_sem]
      go_wp2
      refine bodyPost_ret (v := .tuple #[.agg #[.int .i64 0, .int .i64 0], .bool false]) (by simp [results, Try.results41, q0, q1, go_sem]) rfl ⟨rfl, ?_⟩
      (repeat (first | exact Below.refl _ _ | apply BelowKit.bl_alloc | apply BelowKit.bl_drewN | apply BelowKit.bl_drew | (refine BelowKit.bl_set ?_ _ ?_; rotate_left; (first | omega | (simp; omega) | simp)) | (refine BelowKit.bl_trans ?_ (‹Hid (Below _ _ _)›).out)))

  | true =>
    cases h2 : facB c d with
    | false =>
      rw [show mulR a b c d = (0, 0, false) by simp [mulR, h2]]
      have H1 := Lib.hid h1
      have H2 := Lib.hid h2
      clear h1 h2
      go_enter Try.func41, Try.ntmps41
      go_wp2_with fail
      refine (small_s a b _).mono ?_
      rintro e w1 ⟨rfl, hb1⟩
      rw [H1.out]
      obtain ⟨hc1, hf1⟩ := BelowKit.bcell hb1
      have hz1 := hb1.size
      try simp at hz1
      have HB1 := Lib.hid hb1
      clear hb1
      go_wp2_with fail
      refine (small_s c d _).mono ?_
      rintro e w2 ⟨rfl, hb2⟩
      rw [H2.out]
      replace hb2 := BelowKit.bl_trans HB1.out hb2
      clear hc1 hf1 hz1 HB1
      obtain ⟨hc2, hf2⟩ := BelowKit.bcell hb2
      have hz2 := hb2.size
      try simp at hz2
      have HB2 := Lib.hid hb2
      clear hb2
      have q0 : w2.cell? ⟨w.heap.size + 1 + 1, 0, none⟩ = some (.int .i64 0) := by rw [hc2 _ _ (by first | omega | (simp; done) | (simp; omega))]; simp [go_sem]
      have q1 : w2.cell? ⟨w.heap.size + 1 + 1, 1, none⟩ = some (.int .i64 0) := by rw [hc2 _ _ (by first | omega | (simp; done) | (simp; omega))]; simp [go_sem]
      go_wp2
      refine bodyPost_ret (v := .tuple #[.agg #[.int .i64 0, .int .i64 0], .bool false]) (by simp [results, Try.results41, q0, q1, go_sem]) rfl ⟨rfl, ?_⟩
      (repeat (first | exact Below.refl _ _ | apply BelowKit.bl_alloc | apply BelowKit.bl_drewN | apply BelowKit.bl_drew | (refine BelowKit.bl_set ?_ _ ?_; rotate_left; (first | omega | (simp; omega) | simp)) | (refine BelowKit.bl_trans ?_ (‹Hid (Below _ _ _)›).out)))

    | true =>
      obtain ⟨s1, s2, s3, s4⟩ := fac_bd h1
      obtain ⟨k1, k2, k3, k4⟩ := fac_bd h2
      obtain ⟨m3, m4⟩ := mul_bd' s3 s4 k3 k4 (by omega)
      obtain ⟨m5, m6⟩ := mul_bd (x := b) (y := d) (A := 1000000) (by omega) s2 (by omega) k2 (by omega)
      have m7 : 0 < b * d := Int.mul_pos (by omega) (by omega)
      have W1 : IntKind.i64.wrap (a * c) = a * c := wr (by omega) (by omega)
      have W4 : IntKind.i64.wrap (b * d) = b * d := wr (by omega) (by omega)
      obtain ⟨⟨x, y, z⟩, hr⟩ : ∃ r, red (a * c) (b * d) = r := ⟨_, rfl⟩
      rw [show mulR a b c d = (x, y, z) by rw [← hr]; simp [mulR, h1, h2]]
      have HR := Lib.hid hr
      have H1 := Lib.hid h1
      have H2 := Lib.hid h2
      clear h1 h2 hr
      go_enter Try.func41, Try.ntmps41
      go_wp2_with fail
      refine (small_s a b _).mono ?_
      rintro e w1 ⟨rfl, hb1⟩
      rw [H1.out]
      obtain ⟨hc1, hf1⟩ := BelowKit.bcell hb1
      have hz1 := hb1.size
      try simp at hz1
      have HB1 := Lib.hid hb1
      clear hb1
      go_wp2_with fail
      refine (small_s c d _).mono ?_
      rintro e w2 ⟨rfl, hb2⟩
      rw [H2.out]
      replace hb2 := BelowKit.bl_trans HB1.out hb2
      clear hc1 hf1 hz1 HB1
      obtain ⟨hc2, hf2⟩ := BelowKit.bcell hb2
      have hz2 := hb2.size
      try simp at hz2
      have HB2 := Lib.hid hb2
      clear hb2
      go_wp2_with fail
      refine (make_s _ _ _ (by omega) (by omega) (by omega) (by omega) (by omega)).mono ?_
      rintro e w3 ⟨rfl, hb3⟩
      rw [HR.out]
      replace hb3 := BelowKit.bl_trans HB2.out hb3
      clear hc2 hf2 hz2 HB2
      obtain ⟨hc3, hf3⟩ := BelowKit.bcell hb3
      have hz3 := hb3.size
      try simp at hz3
      have HB3 := Lib.hid hb3
      clear hb3
      have q0 : w3.cell? ⟨w.heap.size + 1 + 1, 0, none⟩ = some (.int .i64 0) := by rw [hc3 _ _ (by first | omega | (simp; done) | (simp; omega))]; simp [go_sem]
      have q1 : w3.cell? ⟨w.heap.size + 1 + 1, 1, none⟩ = some (.int .i64 0) := by rw [hc3 _ _ (by first | omega | (simp; done) | (simp; omega))]; simp [go_sem]
      go_wp2
      refine bodyPost_ret (v := .tuple #[.agg #[.int .i64 x, .int .i64 y], .bool z]) (by simp [results, Try.results41, q0, q1, go_sem]) rfl ⟨rfl, ?_⟩
      (repeat (first | exact Below.refl _ _ | apply BelowKit.bl_alloc | apply BelowKit.bl_drewN | apply BelowKit.bl_drew | (refine BelowKit.bl_set ?_ _ ?_; rotate_left; (first | omega | (simp; omega) | simp)) | (refine BelowKit.bl_trans ?_ (‹Hid (Below _ _ _)›).out)))

end Go.Proofs.Ythhjnffbafmkpaa.FracSMul
